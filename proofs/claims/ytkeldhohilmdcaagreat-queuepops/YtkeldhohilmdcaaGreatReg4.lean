/-
  register: what is gathered over All (86, 88).
-/
import Derived.Test.YtkeldhohilmdcaaGreatReg3
namespace Go.Proofs.YtkeldhohilmdcaaGreat
open Go.RowKit Go.Shelf
set_option linter.unusedSimpArgs false
attribute [local go_sem] Oper.semAt_some

/-- What stands between rounds. -/
structure GIE (wA : World) (Lb B : Nat) (p : List El) (W : World) : Prop where
  only : Only (fun j => j = Lb ∨ B ≤ j) wA W
  box : ∃ ao c, W.heap[Lb]? = some (.cells #[.slice ao p.length c] 22 (0, 0)) ∧ Oe W B (.slice ao p.length c) p
theorem GIE.own {wA : World} {Lb B : Nat} {p : List El} {W W' : World} (h : GIE wA Lb B p W) (hL : Lb < wA.heap.size) (_hB : wA.heap.size + 2 ≤ B) (ho : Only (fun j => wA.heap.size + 1 ≤ j ∧ j < B) W W') : GIE wA Lb B p W' := by
  obtain ⟨ao, c, hb, hO⟩ := h.box
  refine ⟨h.only.trans ho (fun j hj e => by have e' : wA.heap.size + 1 ≤ j ∧ j < B := e; omega), ao, c, (ho.block _ (Array.getElem?_eq_some_iff.1 hb).1 (fun e => by have e' : wA.heap.size + 1 ≤ Lb ∧ Lb < B := e; omega)).trans hb, hO.only ho (fun k hk e => by have := World.ownsRow.lt hO k hk; have e' : wA.heap.size + 1 ≤ k ∧ k < B := e; omega)⟩
theorem Ot.lift {w : World} {B B' : Nat} {v : Value} {L : List ByteArray} (h : Ot w B v L) (hB : B' ≤ B) : Ot w B' v L := by
  rcases h with ⟨h1, h2⟩
  refine ⟨h1, ?_⟩
  rcases h2 with h2 | ⟨g, cap, cur, e, hb, r⟩
  · exact .inl h2
  · exact .inr ⟨g, cap, cur, e, Nat.le_trans hB hb, r⟩
/-- What stands between rounds. -/
structure GIS (wA : World) (Lb B : Nat) (p : List ByteArray) (W : World) : Prop where
  only : Only (fun j => j = Lb ∨ B ≤ j) wA W
  box : ∃ ao c, W.heap[Lb]? = some (.cells #[.slice ao p.length c] 63 (0, 0)) ∧ Ot W B (.slice ao p.length c) p
theorem GIS.own {wA : World} {Lb B : Nat} {p : List ByteArray} {W W' : World} (h : GIS wA Lb B p W) (hL : Lb < wA.heap.size) (_hB : wA.heap.size + 2 ≤ B) (ho : Only (fun j => wA.heap.size + 1 ≤ j ∧ j < B) W W') : GIS wA Lb B p W' := by
  obtain ⟨ao, c, hb, hO⟩ := h.box
  refine ⟨h.only.trans ho (fun j hj e => by have e' : wA.heap.size + 1 ≤ j ∧ j < B := e; omega), ao, c, (ho.block _ (Array.getElem?_eq_some_iff.1 hb).1 (fun e => by have e' : wA.heap.size + 1 ≤ Lb ∧ Lb < B := e; omega)).trans hb, hO.only ho (fun k hk e => by have := World.ownsRow.lt hO k hk; have e' : wA.heap.size + 1 ≤ k ∧ k < B := e; omega)⟩
end Go.Proofs.YtkeldhohilmdcaaGreat
