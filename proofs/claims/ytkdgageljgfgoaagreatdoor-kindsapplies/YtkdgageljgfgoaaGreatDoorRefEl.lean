/-
  The document's Elements 67: its plain theory.
  The document's find 91; the laws' much 21.
  The document's Elements 67.
-/
import Derived.Test.YtkdgageljgfgoaaGreatDoorTogT
import Derived.Test.YtkdgageljgfgoaaGreatDoorKnownB
import Derived.Test.YtkdgageljgfgoaaGreatDoorTog10
import Derived.Test.YtkdgageljgfgoaaGreatDoorCmpD
namespace Go.Proofs.YtkdgageljgfgoaaGreatDoor
open Go.RowKit Go.Shelf

theorem drop_at {l : List El} {i : Nat} {x : El} (h : l[i]? = some x) : l.drop i = x :: l.drop (i + 1) := by
  obtain ⟨hi, e⟩ := List.getElem?_eq_some_iff.1 h
  rw [List.drop_eq_getElem_cons hi, e]
/-- All that was passed of b is ahead of what is left of a. -/
def Past (a b : List El) (i k : Nat) : Prop := ∀ j y, j < k → b[j]? = some y → ∀ x ∈ a.drop i, cmpT y.1 x.1 = -1
theorem Past.start (a b : List El) : Past a b 0 0 := fun j y hj => by omega
theorem Past.left {a b : List El} {i k : Nat} (h : Past a b i k) : Past a b (i + 1) k := fun j y hj hy x hx => h j y hj hy x (by
  rw [← List.drop_drop] at hx
  exact List.mem_of_mem_drop hx)
theorem up_next {a : List El} (u : UpE a) {i : Nat} {x z : El} (h : a[i]? = some x) (hz : z ∈ a.drop (i + 1)) : cmpT x.1 z.1 = -1 := by
  obtain ⟨j, hj, e⟩ := List.getElem_of_mem hz
  rw [List.getElem_drop] at e
  have hl : i + 1 + j < a.length := by rw [List.length_drop] at hj; omega
  exact u.rise i (i + 1 + j) x z (by omega) h (by rw [List.getElem?_eq_getElem hl, e])
theorem Past.right {a b : List El} {i k : Nat} (h : Past a b i k) (ua : UpE a) {x y : El} (hx : a[i]? = some x) (hy : b[k]? = some y) (hg : ¬ cmpT x.1 y.1 ≤ 0) : Past a b i (k + 1) := fun j z hj hz u hu => by
  by_cases hjk : j = k
  · subst hjk
    rw [hy] at hz
    cases hz
    have hyx : cmpT y.1 x.1 = -1 := by
      have h1 := ordS_T.anti y.1 x.1
      have h2 := ordS_T.range y.1 x.1
      omega
    rw [drop_at hx] at hu
    rcases List.mem_cons.1 hu with rfl | hu
    · exact hyx
    · exact ordS_T.trans _ _ _ hyx (up_next ua hx hu)
  · exact h j z (by omega) hz u hu
theorem Past.end {a b : List El} {k : Nat} : Past a b a.length k := fun j y _ _ x hx => by
  rw [List.drop_length] at hx; cases hx
theorem Past.gone {a b : List El} {i k : Nat} (h : Past a b i k) {x : El} (hx : a[i]? = some x) {j : Nat} {y : El} (hj : j < k) (hy : b[j]? = some y) : y.1 ≠ x.1 := fun e => by
  have := h j y hj hy x (by rw [drop_at hx]; exact List.mem_cons_self)
  rw [e, ordS_T.refl] at this
  omega
theorem Past.none {a b : List El} {i : Nat} (h : Past a b i b.length) {x : El} (hx : a[i]? = some x) : standsB x.1 b = false := by
  rw [Bool.eq_false_iff, Ne, standsB_iff]
  rintro ⟨y, hy, e⟩
  obtain ⟨j, hj, e2⟩ := List.getElem_of_mem hy
  exact h.gone hx hj (by rw [List.getElem?_eq_getElem hj, e2]) e
theorem Past.same {a b : List El} {i k : Nat} (h : Past a b i k) (ub : UpE b) {x y : El} (hx : a[i]? = some x) (hy : b[k]? = some y) (hl : cmpT x.1 y.1 ≤ 0) (hs : standsB x.1 b = true) : y.1 = x.1 := by
  obtain ⟨z, hz, e⟩ := (standsB_iff _ _).1 hs
  obtain ⟨j, hj, e2⟩ := List.getElem_of_mem hz
  have hzj : b[j]? = some z := by rw [List.getElem?_eq_getElem hj, e2]
  by_cases hjk : j < k
  · exact absurd e (h.gone hx hjk hzj)
  by_cases hkj : j = k
  · subst hkj
    rw [hy] at hzj
    cases hzj
    exact e
  have := ub.rise k j y z (by omega) hy hzj
  rw [e] at this
  have h1 := ordS_T.anti y.1 x.1
  omega
theorem Past.both {a b : List El} {i k : Nat} (h : Past a b i k) (ua : UpE a) {x y : El} (hx : a[i]? = some x) (hy : b[k]? = some y) (e : y.1 = x.1) : Past a b (i + 1) (k + 1) := fun j z hj hz u hu => by
  by_cases hjk : j = k
  · subst hjk
    rw [hy] at hz
    cases hz
    rw [e]
    exact up_next ua hx hu
  · exact h.left j z (by omega) hz u hu
end Go.Proofs.YtkdgageljgfgoaaGreatDoor
namespace Go.Proofs.YtkdgageljgfgoaaGreatDoor
open Go.RowKit Go.Shelf
set_option linter.unusedSimpArgs false
attribute [local go_sem] Oper.semAt_some

end Go.Proofs.YtkdgageljgfgoaaGreatDoor
namespace Go.Proofs.YtkdgageljgfgoaaGreatDoor
open Go.RowKit Go.Shelf
set_option linter.unusedSimpArgs false
attribute [local go_sem] Oper.semAt_some

end Go.Proofs.YtkdgageljgfgoaaGreatDoor
