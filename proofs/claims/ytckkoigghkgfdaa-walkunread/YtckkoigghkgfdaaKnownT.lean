/-
  known 8: WHAT IT CALLS.
-/
import Derived.Test.YtckkoigghkgfdaaCountT
namespace Go.Proofs.Ytckkoigghkgfdaa
open Go.RowKit Go.Shelf
set_option linter.unusedSimpArgs false

def kA : ByteArray := ⟨#[97]⟩
def kB : ByteArray := ⟨#[98]⟩
def kC : ByteArray := ⟨#[99]⟩
def l2 : List (ByteArray × Int) := [(kA, 1), (kB, 1)]
def l3 : List (ByteArray × Int) := [(kA, 1), (kB, 1), (kC, 1)]
theorem srt2 : Srt l2 := by unfold Srt; decide
theorem srt3 : Srt l3 := by unfold Srt; decide
theorem srt1 : Srt [(kA, 1)] := by unfold Srt; decide
theorem srt_same {l m : List (ByteArray × Int)} (h1 : Srt l) (h2 : Srt m) (hp : l.Perm m) : l = m :=
  List.Perm.eq_of_pairwise (fun a b _ _ hab hba => by have := ord_B.anti a.1 b.1; omega) h1 h2 hp
/-- A map of known keys. -/
structure KM (W : World) (t : T) (x : Option Addr) (l : List (ByteArray × Int)) : Prop where
  ptr : t.ptr = .pointer x
  tree : In W t
  list : t.list = l
  bal : t.bal
theorem KM.below {W W' : World} {t : T} {x : Option Addr} {l : List (ByteArray × Int)} (h : KM W t x l) (hb : Below W.heap.size W W') : KM W' t x l := ⟨h.ptr, In.below hb h.tree, h.list, h.bal⟩
theorem KM.n {W : World} {t : T} {x : Option Addr} {l : List (ByteArray × Int)} (h : KM W t x l) : t.n = l.length := by rw [← h.list, T.n_eq]
theorem k_take {t : T} {x : Option Addr} {W : World} (h : KM W t x l2) : Calls Try.prog 24 #[.agg #[.pointer x], .string ⟨#[98]⟩] W fun e w' => ∃ x' t', e = .returned (.agg #[.pointer x']) ∧ KM w' t' x' [(kA, 1)] ∧ Below W.heap.size W w' := by
  have := mTake_any t kB W h.tree (by rw [h.n]; decide)
  rw [mv_ptr h.ptr] at this
  refine Calls.mono this ?_
  rintro e w' ⟨t', rfl, hi, ht, hb⟩
  obtain ⟨x', hx⟩ := t'.ptr_shape
  have hs : Srt t.list := by rw [h.list]; exact srt2
  refine ⟨x', t', by rw [mv_ptr hx], ⟨hx, hi, ?_, (ht.says hs h.bal (In.underP h.tree)).bal⟩, hb⟩
  rw [ht.list hs, h.list]
  decide
theorem k_put {t : T} {x : Option Addr} {W : World} (h : KM W t x l2) : Calls Try.prog 25 #[.agg #[.pointer x], .string ⟨#[99]⟩, .int .i64 1] W fun e w' => ∃ x' t', e = .returned (.agg #[.pointer x']) ∧ KM w' t' x' l3 ∧ Below W.heap.size W w' := by
  have := mPut_any t kC 1 W h.tree (by rw [h.n]; decide)
  rw [mv_ptr h.ptr] at this
  refine Calls.mono this ?_
  rintro e w' ⟨t', rfl, hi, ht, hb⟩
  obtain ⟨x', hx⟩ := t'.ptr_shape
  have hs : Srt t.list := by rw [h.list]; exact srt2
  refine ⟨x', t', by rw [mv_ptr hx], ⟨hx, hi, ?_, (ht.says hs h.bal (In.underP h.tree)).bal⟩, hb⟩
  rw [ht.list hs, h.list]
  decide
theorem told_of {l : List (ByteArray × Int)} (h : ∀ y ∈ l, y.2 = 1) (k : ByteArray) : Told (fun _ => 1) k (look k l) := by
  induction l with
  | nil => exact .inl rfl
  | cons y l ih =>
    rw [look]
    split
    · right; rw [h y (by simp)]
    · exact ih (fun z hz => h z (by simp [hz]))
theorem k_trio {W : World} {o a b : T} {x y z : Option Addr} {l m n : List (ByteArray × Int)} (h1 : KM W o x l) (h2 : KM W a y m) (h3 : KM W b z n) (s1 : Srt l) (s2 : Srt m) (s3 : Srt n) (c1 : ∀ y ∈ l, y.2 = 1) (c2 : ∀ y ∈ m, y.2 = 1) (c3 : ∀ y ∈ n, y.2 = 1) (hl : l.length ≤ 3) (hm : m.length ≤ 3) (hn : n.length ≤ 3) : Trio (Told fun _ => 1) W o a b :=
  ⟨h1.tree, h2.tree, h3.tree, by rw [h1.list]; exact s1, by rw [h2.list]; exact s2, by rw [h3.list]; exact s3, h1.bal, h2.bal, h3.bal, by rw [h1.list]; exact told_of c1, by rw [h2.list]; exact told_of c2, by rw [h3.list]; exact told_of c3, by rw [h1.n]; omega, by rw [h2.n, h3.n]; omega⟩
theorem one2 : ∀ y ∈ l2, y.2 = 1 := by decide
theorem one3 : ∀ y ∈ l3, y.2 = 1 := by decide
theorem one1 : ∀ y ∈ ([(kA, 1)] : List (ByteArray × Int)), y.2 = 1 := by decide
theorem runs_left {B : Nat} {R : ByteArray → Int × Bool → Int × Bool → Int × Bool → Int × Bool} {o a b t : T} {ks : List ByteArray} (h : Runs B R o a b t ks) (e : o = a) : t = b ∧ ks = [] := by
  cases h with
  | same => exact ⟨rfl, rfl⟩
  | left h => exact ⟨rfl, rfl⟩
  | right h => exact ⟨e.symm, rfl⟩
  | joins n1 n2 n3 => exact (n2 e).elim
  | closes n1 n2 n3 => exact (n2 e).elim
theorem k_el1 {o a b : T} {x y z : Option Addr} {W : World} (h1 : KM W o x l2) (h2 : KM W a y [(kA, 1)]) (h3 : KM W b z l3) : Calls Try.prog 10 #[.agg #[.pointer x], .agg #[.pointer y], .agg #[.pointer z]] W fun e w' => ∃ (xm : Option Addr) (m : T) (L MM : Int), e = .returned (.tuple #[.agg #[.pointer xm], .agg #[.int .i64 L, .int .i64 L, .int .i64 MM]]) ∧ (m.ptr = .pointer xm ∧ In w' m ∧ m.n = 2 ∧ (m.find kA).isSome = true ∧ (m.find kB).isSome = false ∧ (m.find kC).isSome = true) ∧ Below W.heap.size W w' := by
  have := elements_any (fun _ => 1) o a b W (k_trio h1 h2 h3 srt2 srt1 srt3 one2 one1 one3 (by decide) (by decide) (by decide))
  rw [mv_ptr h1.ptr, mv_ptr h2.ptr, mv_ptr h3.ptr] at this
  refine Calls.mono this ?_
  rintro e w' ⟨m, ks, he, _, im, sy, hb⟩
  obtain ⟨xm, hx⟩ := m.ptr_shape
  have hl : ∀ k, look k m.list = keeps (look k l2) (look k [(kA, 1)]) (look k l3) := fun k => by rw [sy.look k, h1.list, h2.list, h3.list]
  have lf : ∀ k, (m.find k).isSome = (look k m.list).2 := fun k => by rw [← find_look m k sy.srt]
  refine ⟨xm, m, _, _, by rw [he, mv_ptr hx], ⟨hx, im, ?_, by rw [lf, hl]; decide, by rw [lf, hl]; decide, by rw [lf, hl]; decide⟩, hb⟩
  have hD : ([kA, kC] : List ByteArray).Nodup := by decide
  have := n_of sy.srt hD (fun k => ?_)
  · exact this
  · rw [hl]
    by_cases ea : k = kA
    · subst ea; exact ⟨fun _ => by decide, fun _ => by simp⟩
    · by_cases eb : k = kB
      · subst eb; exact ⟨fun h => by simp only [List.mem_cons, List.not_mem_nil, or_false] at h; rcases h with h | h <;> exact absurd h (by decide), fun h => absurd h (by decide)⟩
      · by_cases ec : k = kC
        · subst ec; exact ⟨fun _ => by decide, fun _ => by simp⟩
        · have q2 : look k l2 = (0, false) := by simp [look, l2, Ne.symm ea, Ne.symm eb]
          have q1 : look k [(kA, 1)] = (0, false) := by simp [look, Ne.symm ea]
          have q3 : look k l3 = (0, false) := by simp [look, l3, Ne.symm ea, Ne.symm eb, Ne.symm ec]
          rw [q2, q1, q3]
          simp [keeps, ea, ec]
theorem k_el2 {o b : T} {x z : Option Addr} {W : World} (h1 : KM W o x l2) (h3 : KM W b z l3) : Calls Try.prog 10 #[.agg #[.pointer x], .agg #[.pointer x], .agg #[.pointer z]] W fun e w' => e = .returned (.tuple #[.agg #[.pointer z], .agg #[.int .i64 0, .int .i64 0, .int .i64 0]]) ∧ Below W.heap.size W w' := by
  have := elements_any (fun _ => 1) o o b W (k_trio h1 h1 h3 srt2 srt2 srt3 one2 one2 one3 (by decide) (by decide) (by decide))
  rw [mv_ptr h1.ptr, mv_ptr h3.ptr] at this
  refine Calls.mono this ?_
  rintro e w' ⟨m, ks, he, hr, im, sy, hb⟩
  obtain ⟨rfl, rfl⟩ := runs_left hr rfl
  refine ⟨?_, hb⟩
  rw [he, mv_ptr h3.ptr, madeIn_self (by simp) (by rw [h3.list]; exact srt3)]
  rfl
theorem k_nil {o a b : T} {x y z : Option Addr} {W : World} {l m n : List (ByteArray × Int)} (h1 : KM W o x l) (h2 : KM W a y m) (h3 : KM W b z n) : Calls Try.prog 18 #[.agg #[.pointer x], .agg #[.pointer y], .agg #[.pointer z], .nilFunc] W fun e w' => e = .returned (.tuple #[.agg #[.pointer none], .agg #[.int .i64 0, .int .i64 0, .int .i64 0], .int .i64 1]) ∧ Below W.heap.size W w' := by
  have := run_nil o a b W
  rw [mv_ptr h1.ptr, mv_ptr h2.ptr, mv_ptr h3.ptr] at this
  exact this
theorem k_get {m : T} {x : Option Addr} {W : World} {k : ByteArray} {b : Bool} (hx : m.ptr = .pointer x) (h : In W m) (hf : (m.find k).isSome = b) : Calls Try.prog 13 #[.agg #[.pointer x], .string k] W fun e w' => (∃ v, e = .returned (.tuple #[.int .i64 v, .bool b])) ∧ Below W.heap.size W w' := by
  have := get_any m k W h
  rw [hf, mv_ptr hx] at this
  refine Calls.mono this ?_
  rintro e w' ⟨rfl, hb⟩
  exact ⟨⟨_, rfl⟩, hb⟩
theorem k_len {m : T} {x : Option Addr} {W : World} (hx : m.ptr = .pointer x) (h : In W m) (hn : m.n = 2) : Calls Try.prog 16 #[.agg #[.pointer x]] W fun e w' => e = .returned (.int .i64 2) ∧ Below W.heap.size W w' := by
  have := mLen_any m W h
  rw [hn, mv_ptr hx] at this
  exact this
theorem k_same {m : T} {x : Option Addr} {W : World} (hx : m.ptr = .pointer x) (h : In W m) : Calls Try.prog 19 #[.agg #[.pointer x], .agg #[.pointer x]] W fun e w' => e = .returned (.bool true) ∧ Below W.heap.size W w' := by
  have := mSame_any m m W h h
  rw [decide_eq_true rfl, mv_ptr hx] at this
  exact this
end Go.Proofs.Ytckkoigghkgfdaa
