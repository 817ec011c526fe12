/-
  Cells that stay.
-/
import Derived.Test.YtkdgageljgfgoaaDoorCmp9
namespace Go.Proofs.YtkdgageljgfgoaaDoor
open Go.RowKit Go.Shelf
theorem cell_stays {w w' : World} {a : Addr} {x : Value} (h : w.cell? a = some x) (hb : Below w.heap.size w w') : w'.cell? a = some x := by
  rw [hb.cell (World.block_lt_of_cell? w a h)]; exact h
theorem drew_below (W : World) : Below W.heap.size W W.drew := ⟨rfl, rfl, rfl, Nat.le_refl _, fun _ _ => rfl⟩
theorem below_drw {B : Nat} {w w' : World} (h : Below B w w') (n : Nat) : Below B w (w'.drewN n) := ⟨h.os, h.tape, h.output, h.size, h.block⟩
theorem set_one {w : World} {B i : Nat} {cs : Array Value} {ty : TypeId} (v : Value) (h : w.heap[B]? = some (.cells cs ty (0, 0))) : (w.setCell ⟨B, i, none⟩ v).heap[B]? = some (.cells (cs.setIfInBounds i v) ty (0, 0)) ∧ Only (fun j => j = B) w (w.setCell ⟨B, i, none⟩ v) := by
  refine ⟨?_, (Only.ofGrown (grown_setCell w ⟨B, i, none⟩ _)).mono (fun j _ e => by simpa using e.symm)⟩
  rw [heap_setCell_same _ _ _ _ ty _ h]
theorem Only.next {D : Nat → Prop} {a b c : World} (h : Only D a b) (k : Only D b c) : Only D a c := h.trans k (fun _ _ d => d)
theorem below_only {D : Nat → Prop} {W W' : World} (h : Below W.heap.size W W') : Only D W W' := (Only.ofBelow h).mono (fun _ _ d => d.elim)
theorem keepC6 {w w' : World} {a0 a1 a2 a3 a4 a5 : Addr} {v0 v1 v2 v3 v4 v5 : Value} (h : w.cell? a0 = some v0 ∧ w.cell? a1 = some v1 ∧ w.cell? a2 = some v2 ∧ w.cell? a3 = some v3 ∧ w.cell? a4 = some v4 ∧ w.cell? a5 = some v5) (hb : Below w.heap.size w w') : w'.cell? a0 = some v0 ∧ w'.cell? a1 = some v1 ∧ w'.cell? a2 = some v2 ∧ w'.cell? a3 = some v3 ∧ w'.cell? a4 = some v4 ∧ w'.cell? a5 = some v5 := ⟨cell_stays h.1 hb, cell_stays h.2.1 hb, cell_stays h.2.2.1 hb, cell_stays h.2.2.2.1 hb, cell_stays h.2.2.2.2.1 hb, cell_stays h.2.2.2.2.2 hb⟩
theorem keepC11 {w w' : World} {a0 a1 a2 a3 a4 a5 a6 a7 a8 a9 a10 : Addr} {v0 v1 v2 v3 v4 v5 v6 v7 v8 v9 v10 : Value} (h : w.cell? a0 = some v0 ∧ w.cell? a1 = some v1 ∧ w.cell? a2 = some v2 ∧ w.cell? a3 = some v3 ∧ w.cell? a4 = some v4 ∧ w.cell? a5 = some v5 ∧ w.cell? a6 = some v6 ∧ w.cell? a7 = some v7 ∧ w.cell? a8 = some v8 ∧ w.cell? a9 = some v9 ∧ w.cell? a10 = some v10) (hb : Below w.heap.size w w') : w'.cell? a0 = some v0 ∧ w'.cell? a1 = some v1 ∧ w'.cell? a2 = some v2 ∧ w'.cell? a3 = some v3 ∧ w'.cell? a4 = some v4 ∧ w'.cell? a5 = some v5 ∧ w'.cell? a6 = some v6 ∧ w'.cell? a7 = some v7 ∧ w'.cell? a8 = some v8 ∧ w'.cell? a9 = some v9 ∧ w'.cell? a10 = some v10 := ⟨cell_stays h.1 hb, cell_stays h.2.1 hb, cell_stays h.2.2.1 hb, cell_stays h.2.2.2.1 hb, cell_stays h.2.2.2.2.1 hb, cell_stays h.2.2.2.2.2.1 hb, cell_stays h.2.2.2.2.2.2.1 hb, cell_stays h.2.2.2.2.2.2.2.1 hb, cell_stays h.2.2.2.2.2.2.2.2.1 hb, cell_stays h.2.2.2.2.2.2.2.2.2.1 hb, cell_stays h.2.2.2.2.2.2.2.2.2.2 hb⟩
theorem keepB6 {w0 w w' : World} {a0 a1 a2 a3 a4 a5 : Addr} {v0 v1 v2 v3 v4 v5 : Value} (h : w.cell? a0 = some v0 ∧ w.cell? a1 = some v1 ∧ w.cell? a2 = some v2 ∧ w.cell? a3 = some v3 ∧ w.cell? a4 = some v4 ∧ w.cell? a5 = some v5 ∧ Below w0.heap.size w0 w) (hb : Below w.heap.size w w') : w'.cell? a0 = some v0 ∧ w'.cell? a1 = some v1 ∧ w'.cell? a2 = some v2 ∧ w'.cell? a3 = some v3 ∧ w'.cell? a4 = some v4 ∧ w'.cell? a5 = some v5 ∧ Below w0.heap.size w0 w' := ⟨cell_stays h.1 hb, cell_stays h.2.1 hb, cell_stays h.2.2.1 hb, cell_stays h.2.2.2.1 hb, cell_stays h.2.2.2.2.1 hb, cell_stays h.2.2.2.2.2.1 hb, h.2.2.2.2.2.2.trans (hb.mono h.2.2.2.2.2.2.size)⟩
end Go.Proofs.YtkdgageljgfgoaaDoor
