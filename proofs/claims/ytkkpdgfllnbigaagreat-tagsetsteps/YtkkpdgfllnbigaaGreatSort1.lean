/-
  tagset, register and queue: the document's Sorted (11): elements put in one by one.
-/
import Derived.Test.YtkkpdgfllnbigaaGreatMg14
import Derived.Test.YtkkpdgfllnbigaaGreatMg8
import Derived.Test.YtkkpdgfllnbigaaGreatMg11
import Derived.Shelf.SlSortCmp.QuietGrown
namespace Go.Proofs.YtkkpdgfllnbigaaGreat
open Go.RowKit Go.Shelf Go.Sort
set_option linter.unusedSimpArgs false
attribute [local go_sem] Oper.semAt_some

theorem Oe.reo {w : World} {B n c : Nat} {ao : Option Addr} {L : List El} (h : Oe w B (.slice ao n c) L) : Re w ao L ∧ (∀ a, ao = some a → a.spot = none) ∧ (ao = none → c = 0) := by
  have hr := h.re
  obtain ⟨ao', c', e, h1, h2, h3, h4⟩ := h.form
  injection e with e1 e2 e3
  subst e1 e3
  exact ⟨hr, fun a ha => (h4 a ha).2.2, h2⟩
theorem one_re (W : World) (x : El) : Re (W.alloc (.cells (encE x).toArray 53)) (some ⟨W.heap.size, 0, none⟩) [x] := ⟨by simp, fun a ha j u hj => by
  cases ha
  rw [add_lit, cell_of_row _ _ (0 + j) (encE x).toArray 53 (0, 0) (heap_alloc_new W _), Nat.zero_add]
  simpa [flatE] using hj⟩
theorem exec_ld53 {ev' : Operand → Value} {p : Operand} {T : TypeId} {w : World} {b o : Nat} {g r : Int} {l : ByteArray} {n x : Int} {y : ByteArray} (hx : ev' p = .pointer (some ⟨b, o, none⟩)) (c0 : w.cell? ⟨b, o, none⟩ = some (.int .i64 g)) (c1 : w.cell? ⟨b, o + 1, none⟩ = some (.int .i64 r)) (c2 : w.cell? ⟨b, o + 2, none⟩ = some (.string l)) (c3 : w.cell? ⟨b, o + 3, none⟩ = some (.int .i64 n)) (c4 : w.cell? ⟨b, o + 4, none⟩ = some (.int .i64 x)) (c5 : w.cell? ⟨b, o + 5, none⟩ = some (.string y)) :
    (execOp ev' { dst := none, op := .load 53 p, type := T, pos := "", after := #[], guard := none }).run Tryz.prog w = .ok (.value (ev ((g, r, l, n, x), y))) w := by
  unfold execOp
  simp only [hx]
  go_simp
theorem cmpR_any (y x : St) (hy : y.2.2.1.size ≤ 9223372036854775807) (W : World) : Calls Tryz.prog 114 #[svT y, svT x] W fun e w' => e = .returned (.int .i64 (cmpT y x)) ∧ Below W.heap.size W w' :=
  (refCmpS_grow y.1 y.2.1 y.2.2.1 y.2.2.2.1 y.2.2.2.2 x.1 x.2.1 x.2.2.1 x.2.2.2.1 x.2.2.2.2 W hy).mono fun _ _ ⟨he, hw⟩ => ⟨by rw [he, ← cmp_lexS, cmpS_eq], hw.low⟩
theorem okEl_size {x : El} (h : okEl x = true) : x.1.2.2.1.size ≤ 9223372036854775807 := by
  simp only [okEl, Bool.and_eq_true] at h
  have := (S_bounds h.1)
  omega
end Go.Proofs.YtkkpdgfllnbigaaGreat
