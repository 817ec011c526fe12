/-
  KindsTogether, plainly: what two make of one value, run together.
  KindsTogether, plainly: the numbers, and the three values.
  KindsTogether: what its calls of Three answer.
-/
import Derived.Test.YtkdgageljgfgoaaGreatDoorDoneW
namespace Go.Proofs.YtkdgageljgfgoaaGreatDoor
open Go.RowKit

theorem tog_says {base a b : List El} (ua : UpE a) (ub : UpE b) : UpE (togL base a b) ∧ ∀ z, z ∈ togL base a b ↔ Rise.Stays Prod.fst (fun s => standsB s b) (fun s => standsB s base) a b z :=
  Rise.run_says ordS_T _ _ _ a b (Nat.le_refl _) ua ub (fun _ _ => standsB_iff _ _)
/-- What two make of one base. -/
structure Two (base a b : List El) : Prop where
  uo : UpE base
  ua : UpE a
  ub : UpE b
  ab : ∀ x ∈ a, ∀ y ∈ b, x.1 = y.1 → x = y
  oa : ∀ x ∈ base, ∀ y ∈ a, x.1 = y.1 → x = y
  ob : ∀ x ∈ base, ∀ y ∈ b, x.1 = y.1 → x = y
theorem Two.swap {base a b : List El} (h : Two base a b) : togL base a b = togL base b a := Rise.run_swap ordS_T h.ua h.ub (fun s => standsB_iff s b) (fun s => standsB_iff s a) h.ab
theorem Two.left {base a b : List El} (h : Two base a b) : togL base a base = a := Rise.run_left ordS_T h.ua h.uo (fun s => standsB_iff s base)
theorem Two.right {base a b : List El} (h : Two base a b) : togL base base b = b := Rise.run_right ordS_T h.uo h.ub (fun s => standsB_iff s base) (fun s => standsB_iff s b) h.ob
theorem Two.gone {base a b : List El} (h : Two base a b) {y : El} (hy : y ∈ togL base a b) (ho : y ∈ base) : y ∈ a ∧ y ∈ b := by
  have hs : standsB y.1 base = true := (standsB_iff _ _).2 ⟨y, ho, rfl⟩
  rcases ((tog_says h.ua h.ub).2 y).1 hy with ⟨m, c⟩ | ⟨m, _, c⟩
  · simp only [hs, Bool.not_true, Bool.or_false] at c
    obtain ⟨z, hz, e⟩ := (standsB_iff _ _).1 c
    have := h.ab y m z hz e.symm
    subst this
    exact ⟨m, hz⟩
  · simp only [hs] at c
    cases c
theorem Two.new {base a b : List El} (h : Two base a b) {y : El} (hy : y ∈ a) (ho : y ∉ base) : y ∈ togL base a b := by
  refine ((tog_says h.ua h.ub).2 y).2 (.inl ⟨hy, ?_⟩)
  have hs : standsB y.1 base = false := by
    rw [Bool.eq_false_iff, Ne, standsB_iff]
    rintro ⟨z, hz, e⟩
    exact ho (h.oa z hz y hy e ▸ hz)
  simp [hs]
end Go.Proofs.YtkdgageljgfgoaaGreatDoor
namespace Go.Proofs.YtkdgageljgfgoaaGreatDoor
open Go.RowKit

def I64 (n : Int) : Prop := -9223372036854775808 ≤ n ∧ n < 9223372036854775808
theorem num_left {a o : Int} (h : I64 a) : wrap64 (wrap64 (a + o) - o) = a := by unfold I64 at h; unfold wrap64; omega
theorem num_right {b o : Int} (h : I64 b) : wrap64 (wrap64 (o + b) - o) = b := by unfold I64 at h; unfold wrap64; omega
/-- Three values of one kind that may be. -/
theorem three_good {k no na nb : Int} {base a b : List El} (ho : valB k no base = true) (ha : valB k na a = true) (hb : valB k nb b = true) : threeV k no base k na a k nb b = (k, wrap64 (wrap64 (na + nb) - no), togL base a b, 0) := by
  unfold threeV
  rw [if_neg (by simp [ho, ha, hb])]
theorem togL_len (base a b : List El) : (togL base a b).length ≤ a.length + b.length := by
  unfold togL
  have : ∀ (n : Nat) (x y : List El), x.length + y.length ≤ n → (Rise.run cmpT Prod.fst (fun s => standsB s b) (fun s => standsB s base) x y).length ≤ x.length + y.length := by
    intro n
    induction n with
    | zero =>
      intro x y hn
      obtain ⟨rfl, rfl⟩ : x = [] ∧ y = [] := by constructor <;> (apply List.eq_nil_of_length_eq_zero; omega)
      simp [Rise.run]
    | succ n ih =>
      intro x y hn
      match x, y with
      | [], [] => simp [Rise.run]
      | [], y :: ys =>
        rw [Rise.run]
        have := ih [] ys (by simp at hn ⊢; omega)
        simp at this ⊢
        split <;> simp <;> omega
      | x :: xs, [] =>
        rw [Rise.run]
        have := ih xs [] (by simp at hn ⊢; omega)
        simp at this ⊢
        split <;> simp <;> omega
      | x :: xs, y :: ys =>
        rw [Rise.run]
        have i1 := ih xs ys (by simp at hn ⊢; omega)
        have i2 := ih xs (y :: ys) (by simp at hn ⊢; omega)
        have i3 := ih (x :: xs) ys (by simp at hn ⊢; omega)
        simp at i1 i2 i3 ⊢
        split
        · split <;> split <;> simp <;> omega
        · split <;> simp <;> omega
  exact this _ a b (Nat.le_refl _)
end Go.Proofs.YtkdgageljgfgoaaGreatDoor
namespace Go.Proofs.YtkdgageljgfgoaaGreatDoor
open Go.RowKit Go.Shelf

/-- Three values of one kind that may be, over which two lists of steps went. -/
structure Trio (k : Int) (FO FA FB : Int × Int × List El) : Prop where
  kO : FO.1 = k
  kA : FA.1 = k
  kB : FB.1 = k
  vO : valB FO.1 FO.2.1 FO.2.2 = true
  vA : valB FA.1 FA.2.1 FA.2.2 = true
  vB : valB FB.1 FB.2.1 FB.2.2 = true
  iO : I64 FO.2.1
  iA : I64 FA.2.1
  iB : I64 FB.2.1
  lO : FO.2.2.length ≤ 40
  lA : FA.2.2.length ≤ 80
  lB : FB.2.2.length ≤ 80
  two : Two FO.2.2 FA.2.2 FB.2.2
/-- What they come to. -/
def togF (k : Int) (FO FA FB : Int × Int × List El) : Int × Int × List El := (k, wrap64 (wrap64 (FA.2.1 + FB.2.1) - FO.2.1), togL FO.2.2 FA.2.2 FB.2.2)
theorem three_of {W : World} {k : Int} {FO FA FB F : Int × Int × List El} {o1 o2 o3 : Option Addr} {c1 c2 c3 : Nat} (kO : FO.1 = k) (kA : FA.1 = k) (kB : FB.1 = k) (vO : valB FO.1 FO.2.1 FO.2.2 = true) (vA : valB FA.1 FA.2.1 FA.2.2 = true) (vB : valB FB.1 FB.2.1 FB.2.2 = true) (lO : FO.2.2.length ≤ 80) (lA : FA.2.2.length ≤ 80) (lB : FB.2.2.length ≤ 80) (e : F = togF k FO FA FB) (h1 : Rv W o1 c1 FO.2.2) (h2 : Rv W o2 c2 FA.2.2) (h3 : Rv W o3 c3 FB.2.2) :
    Calls Tryz.prog 33 #[vv FO.1 FO.2.1 o1 FO.2.2.length c1, vv FA.1 FA.2.1 o2 FA.2.2.length c2, vv FB.1 FB.2.1 o3 FB.2.2.length c3] W (ValE W (F.1, F.2.1, F.2.2, 0)) := by
  have := three_any FO.1 FO.2.1 FA.1 FA.2.1 FB.1 FB.2.1 h1 h2 h3 (by omega) (by omega) (by omega)
  have e2 : threeV FO.1 FO.2.1 FO.2.2 FA.1 FA.2.1 FA.2.2 FB.1 FB.2.1 FB.2.2 = (F.1, F.2.1, F.2.2, 0) := by
    rw [e, kO, kA, kB]
    exact three_good (by rw [← kO]; exact vO) (by rw [← kA]; exact vA) (by rw [← kB]; exact vB)
  rw [e2] at this
  exact this
theorem Trio.m {k : Int} {FO FA FB : Int × Int × List El} (h : Trio k FO FA FB) {W : World} {o1 o2 o3 : Option Addr} {c1 c2 c3 : Nat} (h1 : Rv W o1 c1 FO.2.2) (h2 : Rv W o2 c2 FA.2.2) (h3 : Rv W o3 c3 FB.2.2) :
    Calls Tryz.prog 33 #[vv FO.1 FO.2.1 o1 FO.2.2.length c1, vv FA.1 FA.2.1 o2 FA.2.2.length c2, vv FB.1 FB.2.1 o3 FB.2.2.length c3] W (ValE W ((togF k FO FA FB).1, (togF k FO FA FB).2.1, (togF k FO FA FB).2.2, 0)) :=
  three_of h.kO h.kA h.kB h.vO h.vA h.vB (by have := h.lO; omega) h.lA h.lB rfl h1 h2 h3
theorem Trio.n {k : Int} {FO FA FB : Int × Int × List El} (h : Trio k FO FA FB) {W : World} {o1 o2 o3 : Option Addr} {c1 c2 c3 : Nat} (h1 : Rv W o1 c1 FO.2.2) (h2 : Rv W o2 c2 FA.2.2) (h3 : Rv W o3 c3 FB.2.2) :
    Calls Tryz.prog 33 #[vv FO.1 FO.2.1 o1 FO.2.2.length c1, vv FB.1 FB.2.1 o3 FB.2.2.length c3, vv FA.1 FA.2.1 o2 FA.2.2.length c2] W (ValE W ((togF k FO FA FB).1, (togF k FO FA FB).2.1, (togF k FO FA FB).2.2, 0)) :=
  three_of h.kO h.kB h.kA h.vO h.vB h.vA (by have := h.lO; omega) h.lB h.lA (by unfold togF; rw [h.two.swap, Int.add_comm FA.2.1]) h1 h3 h2
theorem Trio.p {k : Int} {FO FA FB : Int × Int × List El} (h : Trio k FO FA FB) {W : World} {o1 o2 : Option Addr} {c1 c2 : Nat} (h1 : Rv W o1 c1 FO.2.2) (h2 : Rv W o2 c2 FA.2.2) :
    Calls Tryz.prog 33 #[vv FO.1 FO.2.1 o1 FO.2.2.length c1, vv FA.1 FA.2.1 o2 FA.2.2.length c2, vv FO.1 FO.2.1 o1 FO.2.2.length c1] W (ValE W (FA.1, FA.2.1, FA.2.2, 0)) :=
  three_of h.kO h.kA h.kO h.vO h.vA h.vO (by have := h.lO; omega) h.lA (by have := h.lO; omega) (by
    unfold togF
    rw [h.two.left, num_left h.iA, ← h.kA]) h1 h2 h1
theorem Trio.q {k : Int} {FO FA FB : Int × Int × List El} (h : Trio k FO FA FB) {W : World} {o1 o3 : Option Addr} {c1 c3 : Nat} (h1 : Rv W o1 c1 FO.2.2) (h3 : Rv W o3 c3 FB.2.2) :
    Calls Tryz.prog 33 #[vv FO.1 FO.2.1 o1 FO.2.2.length c1, vv FO.1 FO.2.1 o1 FO.2.2.length c1, vv FB.1 FB.2.1 o3 FB.2.2.length c3] W (ValE W (FB.1, FB.2.1, FB.2.2, 0)) :=
  three_of h.kO h.kO h.kB h.vO h.vO h.vB (by have := h.lO; omega) (by have := h.lO; omega) h.lB (by
    unfold togF
    rw [h.two.right, num_right h.iB, ← h.kB]) h1 h1 h3
theorem Trio.len {k : Int} {FO FA FB : Int × Int × List El} (h : Trio k FO FA FB) : (togF k FO FA FB).2.2.length ≤ 160 := by
  have := togL_len FO.2.2 FA.2.2 FB.2.2
  have := h.lA
  have := h.lB
  unfold togF
  dsimp only
  omega
end Go.Proofs.YtkdgageljgfgoaaGreatDoor
