/-
  TEXTS CUT AT '/': plainly (cut47, splitB), and what Cut and the program's Split answer.
-/
import Derived.Test.YtcpigbojebjlaaaDoorKey
import Derived.Deep.QuietTactic
import Derived.BigQuiet
import Derived.Lib.Strings
namespace Go.Proofs.YtcpigbojebjlaaaDoor
open Go.RowKit Go.Shelf
set_option linter.unusedSimpArgs false

def cut47 : List UInt8 → List UInt8 × List UInt8 × Bool
  | [] => ([], [], false)
  | b :: t => if b = 47 then ([], t, true) else (b :: (cut47 t).1, (cut47 t).2.1, (cut47 t).2.2)
theorem cut47_index (l : List UInt8) : (Lib.indexByte l 47 = -1 ∧ cut47 l = (l, [], false)) ∨ ∃ n : Nat, Lib.indexByte l 47 = (n : Int) ∧ n < l.length ∧ cut47 l = (l.take n, l.drop (n + 1), true) := by
  induction l with
  | nil => exact .inl ⟨rfl, rfl⟩
  | cons b t ih =>
    rw [Lib.indexByte, cut47]
    by_cases hb : b = 47
    · subst hb
      exact .inr ⟨0, by simp, by simp, by simp⟩
    · rw [if_neg hb, if_neg (by simpa using hb)]
      rcases ih with ⟨h1, h2⟩ | ⟨n, h1, h2, h3⟩
      · refine .inl ⟨by rw [h1]; rfl, by rw [h2]⟩
      · refine .inr ⟨n + 1, ?_, by simpa using h2, by rw [h3]; simp⟩
        rw [h1, if_neg (by rw [beq_iff_eq]; omega)]
        rfl
theorem cut47_length (l : List UInt8) : (cut47 l).1.length ≤ l.length ∧ (cut47 l).2.1.length ≤ l.length := by
  rcases cut47_index l with ⟨_, h⟩ | ⟨n, _, _, h⟩ <;> rw [h] <;> simp <;> omega

/-- What Cut answers. -/
def cutE (l : List UInt8) : Value := .tuple #[.string ⟨(cut47 l).1.toArray⟩, .string ⟨(cut47 l).2.1.toArray⟩, .bool (cut47 l).2.2]
theorem ext_take (s : ByteArray) (n : Nat) : s.extract 0 n = ⟨(s.data.toList.take n).toArray⟩ := by
  apply ByteArray.ext
  apply Array.toList_inj.1
  simp [ByteArray.data_extract]
theorem ext_drop (s : ByteArray) (n : Nat) : s.extract n s.size = ⟨(s.data.toList.drop n).toArray⟩ := by
  apply ByteArray.ext
  apply Array.toList_inj.1
  rw [Lib.ext_list]

set_option maxHeartbeats 1000000 in
set_option maxRecDepth 100000 in
theorem liteCut_any (s : ByteArray) (w : World) (hs : s.size ≤ 1000000) : Calls Tryd.prog 57 #[.string s, .string { data := #[47] }] w fun e w' => e = .returned (cutE s.data.toList) ∧ ∃ n, w' = w.drewN n := by
  have hl : s.data.toList.length = s.size := (Lib.size_eq s).symm
  have hi := Tryd.stringslite_Index_one s 47 w
  unfold cutE
  rcases cut47_index s.data.toList with ⟨h1, h2⟩ | ⟨n, h1, h2, h3⟩
  · rw [h2]
    rw [h1] at hi
    have e0 : (⟨s.data.toList.toArray⟩ : ByteArray) = s := by apply ByteArray.ext; simp
    simp only [e0]
    go_enter Tryd.func57, Tryd.ntmps57
    go_wp2_with (go_at_call 64; refine hi.mono ?_; rintro e w' ⟨rfl, rfl⟩)
    go_ret3
    exact ⟨rfl, 0, rfl⟩
  · rw [h3]
    rw [h1] at hi
    simp only [← ext_take, ← ext_drop]
    have a1 : (0 : Int) ≤ (n : Int) := by omega
    have a2 : (n : Int) ≤ (s.size : Int) := by omega
    have a3 : (n : Int) + 1 ≤ (s.size : Int) := by omega
    have a4 : (0 : Int) ≤ (n : Int) + 1 := by omega
    clear h1 h3
    go_enter Tryd.func57, Tryd.ntmps57
    go_wp2_with (go_at_call 64; refine hi.mono ?_; rintro e w' ⟨rfl, rfl⟩)
    go_quiet (fail)
    go_wp2
    go_ret3
    exact ⟨rfl, _, rfl⟩
theorem cut_any (s : ByteArray) (w : World) (hs : s.size ≤ 1000000) : Calls Tryd.prog 38 #[.string s, .string { data := #[47] }] w fun e w' => e = .returned (cutE s.data.toList) ∧ ∃ n, w' = w.drewN n := by
  have h := liteCut_any s w hs
  unfold cutE at h ⊢
  generalize cut47 s.data.toList = C at h ⊢
  obtain ⟨k, r, m⟩ := C
  simp only at h ⊢
  go_enter Tryd.func38, Tryd.ntmps38
  go_wp2_with (go_at_call 57; refine h.mono ?_; rintro e w' ⟨rfl, n, rfl⟩)
  go_ret3
  exact ⟨rfl, n, rfl⟩

/-- The slice value v owns the texts L, in a block from B on. -/
def Os (w : World) (B : Nat) (v : Value) (L : List ByteArray) : Prop := w.ownsRow B 9 1 v L.length (L.map Value.string)
theorem Os.shape {w : World} {B : Nat} {v : Value} {L : List ByteArray} (h : Os w B v L) : ∃ ao c, v = .slice ao L.length c ∧ Rs w ao L ∧ (∀ a, ao = some a → B ≤ a.block ∧ a.block < w.heap.size) ∧ (ao = none → c = 0) ∧ L.length ≤ c := by
  have hlt := World.ownsRow.lt h
  have hcells := fun g => World.ownsRow.cells h (g := g)
  rcases h.2 with ⟨rfl, hn⟩ | ⟨g, cap, cur, rfl, hb, hg, hnc, rest⟩
  · exact ⟨none, 0, by rw [hn], ⟨fun _ => List.eq_nil_of_length_eq_zero hn, by simp⟩, by simp, fun _ => rfl, by omega⟩
  · refine ⟨some ⟨g, 0, none⟩, cap, rfl, ⟨by simp, ?_⟩, ?_, by simp, hnc⟩
    · intro a ha j s hj
      cases ha
      exact hcells g rfl j (.string s) (by rw [List.getElem?_map, hj]; rfl)
    · intro a ha
      cases ha
      exact hlt g rfl
theorem Os.only {w w' : World} {B : Nat} {v : Value} {L : List ByteArray} {D : Nat → Prop} (h : Os w B v L) (ho : Only D w w') (hv : ∀ k, v.ownBlock = some k → ¬ D k) : Os w' B v L := ho.row h hv
theorem Os.below {w w' : World} {B : Nat} {v : Value} {L : List ByteArray} (h : Os w B v L) (hb : Below w.heap.size w w') : Os w' B v L := h.only (Only.ofBelow hb) (fun _ _ d => d.elim)
theorem Os.nil (w : World) (B : Nat) : Os w B (.slice none 0 0) [] := World.ownsRow_nil _ _ _ _
theorem Tryd.info9 : (Tryd.prog.info? 9).map (fun i => (i.zero, i.size, i.bytes)) = some (some (.string ⟨#[]⟩), 1, 16) := by kernel_rfl

def keysOf (l : List (List UInt8)) : List ByteArray := l.map (fun k => ⟨k.toArray⟩)
def splitGo : Nat → List (List UInt8) → List UInt8 → Option (List (List UInt8))
  | 0, _, _ => none
  | n + 1, acc, rest => if acc.length = 6 ∨ keyB (cut47 rest).1 = false then none else if (cut47 rest).2.2 then splitGo n (acc ++ [(cut47 rest).1]) (cut47 rest).2.1 else some (acc ++ [(cut47 rest).1])
def splitB (l : List UInt8) : Option (List (List UInt8)) := if Lib.hasPrefix l [47] then (if l.drop 1 = [] then some [] else splitGo 8 [] (l.drop 1)) else none

/-- What Split answers. -/
def SplitE (w w' : World) (r : Option (List (List UInt8))) (e : Ending) : Prop :=
  (r = none ∧ e = .returned (.tuple #[.slice none 0 0, .int .i64 4])) ∨ ∃ L v, r = some L ∧ e = .returned (.tuple #[v, .int .i64 0]) ∧ Os w' w.heap.size v (keysOf L)
end Go.Proofs.YtcpigbojebjlaaaDoor
