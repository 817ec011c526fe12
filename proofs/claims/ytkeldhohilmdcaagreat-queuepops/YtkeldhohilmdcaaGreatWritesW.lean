/-
  register: the walk of RegisterWrites (6).
-/
import Derived.Test.YtkeldhohilmdcaaGreatBehind1
import Derived.Test.YtkeldhohilmdcaaGreatStands12
import Derived.Test.YtkeldhohilmdcaaGreatRegK
import Derived.Deep.DeepCutAuto
import Derived.Deep.CutBlock
namespace Go.Proofs.YtkeldhohilmdcaaGreat
open Go.RowKit Go.Shelf
set_option linter.unusedSimpArgs false
attribute [local go_sem] Oper.semAt_some

theorem encE_np (x : El) (j : Nat) (u : Value) (h : (encE x)[j]? = some u) : ∀ p, u ≠ .pointer p := fun p e => by
  have hm := List.mem_of_getElem? h
  rw [e] at hm
  simp [encE] at hm
theorem flatE_np (l : List El) (j : Nat) (u : Value) (h : (flatE l)[j]? = some u) : ∀ p, u ≠ .pointer p := fun p e => by
  have hm := List.mem_of_getElem? h
  unfold flatE at hm
  obtain ⟨x, -, hx⟩ := List.mem_flatMap.1 hm
  obtain ⟨k, hk⟩ := List.mem_iff_getElem?.1 hx
  exact encE_np x k u hk p e
/-- Rows of elements do not lie in a map's box. -/
theorem Re.aside {w w' : World} {B : Nat} {p : Option Addr} {ao : Option Addr} {l : List El} (h : Re w ao l) (hw : w.heap[B]? = some (.cells #[.pointer p] 27 (0, 0))) (ho : Only (fun j => j = B) w w') : Re w' ao l := ⟨h.1, fun a ha j u hj => by
  have hc := h.2 a ha j u hj
  generalize a.add j = A at hc ⊢
  by_cases hb : A.block = B
  · exfalso
    have hsp := World.cell?_spot hc
    obtain ⟨bb, oo, sp⟩ := A
    simp only at hb hsp
    subst hb hsp
    rw [cell_of_row _ _ oo _ 27 (0, 0) hw] at hc
    have hm : u = .pointer p := by
      have := Array.mem_of_getElem? hc
      simpa using this
    exact flatE_np l j u hj p hm
  · exact ho.cell hc hb⟩
theorem Boxd.aside {w w' : World} {B C : Nat} {pt p : Option Addr} {t : Pm.T} (h : Boxd w B pt t) (hw : w.heap[C]? = some (.cells #[.pointer p] 27 (0, 0))) (ho : Only (fun j => j = C) w w') (hne : B ≠ C) : Boxd w' B pt t := ⟨(ho.block _ (Array.getElem?_eq_some_iff.1 h.1).1 hne).trans h.1, h.2.1, h.2.2.aside hw ho⟩
theorem exec_bd53 {ev' : Operand → Value} {x y : Operand} {T : TypeId} {w : World} {s : St} {X : ByteArray} (hx : ev' x = svT s) (hy : ev' y = .string X) : (execOp ev' { dst := none, op := .build 53 #[(0, x), (1, y)], type := T, pos := "", after := #[], guard := none }).run Tryz.prog w = .ok (.value (ev (s, X))) w := by
  unfold execOp
  simp only [hx, hy, svT]
  go_simp
end Go.Proofs.YtkeldhohilmdcaaGreat
