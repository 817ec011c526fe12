/-
  TEXTS HELD AGAINST EACH OTHER: plainly (cmpB, cmpP), and what the program's and the document's functions answer.
-/
import Derived.Test.YtcpigbojebjlaaaDoorBytes
import Derived.Test.YtcpigbojebjlaaaDoorShelf
import Derived.Test.YtcpigbojebjlaaaDoorMoves
namespace Go.Proofs.YtcpigbojebjlaaaDoor
open Go.RowKit Go.Shelf
set_option linter.unusedSimpArgs false

/-- Behind this address lie the texts l. -/
def Rs (w : World) (ao : Option Addr) (l : List ByteArray) : Prop :=
  (ao = none → l = []) ∧ ∀ a, ao = some a → ∀ j s, l[j]? = some s → w.cell? (a.add j) = some (.string s)
theorem Rs.at {w : World} {ao : Option Addr} {l : List ByteArray} (h : Rs w ao l) {k : Nat} {s : ByteArray} (hs : l[k]? = some s) : ∃ ab off, ao = some ⟨ab, off, none⟩ ∧ w.cell? ⟨ab, off + k, none⟩ = some (.string s) := by
  cases ao with
  | none => have := h.1 rfl; subst this; simp at hs
  | some a =>
    obtain ⟨ab, off, sp⟩ := a
    have hl : 0 < l.length := by have := (List.getElem?_eq_some_iff.1 hs).1; omega
    have h0 := h.2 _ rfl 0 l[0] (List.getElem?_eq_getElem hl)
    simp only [Addr.add, if_true] at h0
    have e : sp = none := World.cell?_spot h0
    subst e
    have hk := h.2 _ rfl k s hs
    rw [add_lit] at hk
    exact ⟨ab, off, rfl, hk⟩
theorem Rs.only {C : Nat → Prop} {w w' : World} {ao : Option Addr} {l : List ByteArray} (hr : Rs w ao l) (h : Only C w w') (hC : ∀ a, ao = some a → ¬ C a.block) : Rs w' ao l :=
  ⟨hr.1, fun a ha j u hj => h.cell (hr.2 a ha j u hj) (by
    have : (a.add j).block = a.block := by unfold Addr.add; split <;> rfl
    rw [this]; exact hC a ha)⟩
theorem Rs.below {w w' : World} {ao : Option Addr} {l : List ByteArray} (h : Rs w ao l) (hb : Below w.heap.size w w') : Rs w' ao l := h.only (Only.ofBelow hb) (fun _ _ d => d.elim)
theorem Rs.drew {w : World} {ao : Option Addr} {l : List ByteArray} (h : Rs w ao l) : Rs w.drew ao l := h.below (Below.refl _ w).drew
theorem Rs.nil (w : World) (ao : Option Addr) : Rs w ao [] := ⟨fun _ => rfl, by simp⟩
theorem Rs.take {w : World} {ao : Option Addr} {l : List ByteArray} (h : Rs w ao l) (k : Nat) : Rs w ao (l.take k) :=
  ⟨fun ha => by rw [h.1 ha]; simp, fun a ha j u hj => h.2 a ha j u (by
    rw [List.getElem?_take] at hj
    split at hj
    · exact hj
    · cases hj)⟩

def cmpB (a b : ByteArray) : Int := Lib.compareBytes a.data.toList b.data.toList
def cmpP : List ByteArray → List ByteArray → Int
  | [], [] => 0
  | [], _ :: _ => -1
  | _ :: _, [] => 1
  | a :: p, b :: q => if cmpB a b = 0 then cmpP p q else cmpB a b
theorem cmpP_step {l m : List ByteArray} {k : Nat} {x y : ByteArray} (hx : l[k]? = some x) (hy : m[k]? = some y) : cmpP (l.drop k) (m.drop k) = if cmpB x y = 0 then cmpP (l.drop (k + 1)) (m.drop (k + 1)) else cmpB x y := by
  obtain ⟨h1, rfl⟩ := List.getElem?_eq_some_iff.1 hx
  obtain ⟨h2, rfl⟩ := List.getElem?_eq_some_iff.1 hy
  rw [List.drop_eq_getElem_cons h1, List.drop_eq_getElem_cons h2, cmpP]
theorem cmpP_end {l m : List ByteArray} : (l = [] → m = [] → cmpP l m = 0) ∧ (l = [] → m ≠ [] → cmpP l m = -1) ∧ (l ≠ [] → m = [] → cmpP l m = 1) := by
  refine ⟨?_, ?_, ?_⟩ <;> cases l <;> cases m <;> simp [cmpP]

theorem cmp_any (a b : ByteArray) (w : World) : Calls Tryd.prog 29 #[.string a, .string b] w fun e w' => e = .returned (.int .i64 (cmpB a b)) ∧ w' = w := by
  go_enter Tryd.func29, Tryd.ntmps29
  go_wp2_with (go_at_call 51; refine (Tryd.strings_Compare a b _).mono ?_; rintro e w' ⟨rfl, rfl⟩)
  go_ret
  exact ⟨rfl, rfl⟩

set_option maxHeartbeats 1000000 in
set_option maxRecDepth 100000 in
theorem compareFunc_any {w : World} {a b : Option Addr} {c d : Nat} {l m : List ByteArray} (hl : Rs w a l) (hm : Rs w b m) (hn : l.length ≤ 9223372036854775807) :
    Calls Tryd.prog 53 #[.slice a l.length c, .slice b m.length d, .func (.func 29) #[] #[]] w fun e w' => e = .returned (.int .i64 (cmpP l m)) ∧ w' = w := by
  obtain ⟨N, hN⟩ : ∃ N, N = l.length := ⟨_, rfl⟩
  obtain ⟨M, hM⟩ : ∃ M, M = m.length := ⟨_, rfl⟩
  obtain ⟨R, hR⟩ : ∃ R, R = cmpP l m := ⟨_, rfl⟩
  rw [← hN] at hn
  rw [← hN, ← hM, ← hR]
  have H := hide (And.intro hN (And.intro hM hR))
  clear hN hM hR
  go_enter Tryd.func53, Tryd.ntmps53
  go_wp2
  go_loopw [13] (fun iv wr => ∃ i : Nat, i ≤ N ∧ i ≤ M ∧ iv = .int .i64 i ∧ wr = w ∧ Hid (cmpP (l.drop i) (m.drop i) = R)) (fun iv _ => N - (intOf iv).toNat)
  case atStart => exact ⟨0, by omega, by omega, rfl, rfl, hide (by simpa using H.out.2.2.symm)⟩
  case round =>
    obtain ⟨i, hi, him, rfl, rfl, hrest⟩ := hrel
    by_cases h1 : i < N
    · have d1 : decide (i < N) = true := by simpa using h1
      have d1' : (i : Int) < (N : Int) := by omega
      obtain ⟨x, hx⟩ : ∃ x, l[i]? = some x := ⟨_, List.getElem?_eq_getElem (by rw [← H.out.1]; exact h1)⟩
      obtain ⟨ab, off, rfl, hcx⟩ := hl.at hx
      by_cases h2 : i < M
      · have d2 : decide (M ≤ i) = false := by simpa using h2
        have d2' : ¬ ((M : Int) ≤ (i : Int)) := by omega
        have d3' : (i : Int) < (M : Int) := by omega
        obtain ⟨y, hy⟩ : ∃ y, m[i]? = some y := ⟨_, List.getElem?_eq_getElem (by rw [← H.out.2.1]; exact h2)⟩
        obtain ⟨bb, ob, rfl, hcy⟩ := hm.at hy
        have hst := cmpP_step hx hy
        have hcv := cmp_any x y wr
        obtain ⟨cv, hcv'⟩ : ∃ cv, cv = cmpB x y := ⟨_, rfl⟩
        rw [← hcv'] at hst hcv
        have HS := hide hst
        clear hst hcv' hx hy
        by_cases hz : cv = 0
        · have hzb : (cv == 0) = true := by simp [hz]
          have HZ := hide hz
          clear hz
          go_wp2_with (go_at_call 29; refine hcv.mono ?_; rintro e w' ⟨rfl, rfl⟩)
          go_roundw
          case rel => exact ⟨i + 1, by omega, by omega, by go_num, by first | rfl | trivial, hide (by have := HS.out; rw [if_pos HZ.out] at this; rw [← this]; exact hrest.out)⟩
          case measure => simp [intOf]; omega
        · have hzb : (cv == 0) = false := by simpa using hz
          go_wp2_with (go_at_call 29; refine hcv.mono ?_; rintro e w' ⟨rfl, rfl⟩)
          go_ret
          refine ⟨?_, rfl⟩
          have := HS.out
          rw [if_neg hz, hrest.out] at this
          rw [this]; rfl
      · obtain rfl : i = M := by omega
        have d2 : decide (i ≤ i) = true := by simp
        have e1 : cmpP (l.drop i) (m.drop i) = 1 := by
          refine cmpP_end.2.2 ?_ ?_
          · intro e; have := congrArg List.length e; simp at this; have := H.out.1; omega
          · have := H.out.2.1; rw [List.drop_eq_nil_iff]; omega
        have E := hide (hrest.out.symm.trans e1)
        clear e1
        go_wp2
        go_ret
        exact ⟨by rw [E.out]; rfl, rfl⟩
    · obtain rfl : i = N := by omega
      have d1 : decide (i < i) = false := by simp
      by_cases h2 : i < M
      · have d2 : decide (i < M) = true := by simpa using h2
        have d2' : (i : Int) < (M : Int) := by omega
        have e1 : cmpP (l.drop i) (m.drop i) = -1 := by
          refine cmpP_end.2.1 ?_ ?_
          · have := H.out.1; rw [List.drop_eq_nil_iff]; omega
          · intro e; have := congrArg List.length e; simp at this; have := H.out.2.1; omega
        have E := hide (hrest.out.symm.trans e1)
        clear e1
        go_wp2
        go_ret
        exact ⟨by rw [E.out]; rfl, rfl⟩
      · obtain rfl : i = M := by omega
        have e1 : cmpP (l.drop i) (m.drop i) = 0 := by
          refine cmpP_end.1 ?_ ?_
          · have := H.out.1; rw [List.drop_eq_nil_iff]; omega
          · have := H.out.2.1; rw [List.drop_eq_nil_iff]; omega
        have E := hide (hrest.out.symm.trans e1)
        clear e1
        go_wp2
        go_ret
        exact ⟨by rw [E.out]; rfl, rfl⟩

theorem cmpPath_any {w : World} {a b : Option Addr} {c d : Nat} {l m : List ByteArray} (hl : Rs w a l) (hm : Rs w b m) (hn : l.length ≤ 9223372036854775807) :
    Calls Tryd.prog 31 #[.slice a l.length c, .slice b m.length d] w fun e w' => e = .returned (.int .i64 (cmpP l m)) ∧ w' = w := by
  have h := compareFunc_any (c := c) (d := d) hl hm hn
  go_enter Tryd.func31, Tryd.ntmps31
  go_wp2_with (go_at_call 53; refine h.mono ?_; rintro e w' ⟨rfl, rfl⟩)
  go_ret
  exact ⟨rfl, rfl⟩
end Go.Proofs.YtcpigbojebjlaaaDoor
