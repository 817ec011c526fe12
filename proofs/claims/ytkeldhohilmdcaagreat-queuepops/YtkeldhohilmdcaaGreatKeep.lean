/-
  Cells that stay.
-/
import Derived.Test.YtkeldhohilmdcaaGreatMoves
namespace Go.Proofs.YtkeldhohilmdcaaGreat
open Go.RowKit Go.Shelf
theorem cell_stays {w w' : World} {a : Addr} {x : Value} (h : w.cell? a = some x) (hb : Below w.heap.size w w') : w'.cell? a = some x := by
  rw [hb.cell (World.block_lt_of_cell? w a h)]; exact h
theorem drew_below (W : World) : Below W.heap.size W W.drew := ⟨rfl, rfl, rfl, Nat.le_refl _, fun _ _ => rfl⟩
theorem set_one {w : World} {B i : Nat} {cs : Array Value} {ty : TypeId} (v : Value) (h : w.heap[B]? = some (.cells cs ty (0, 0))) : (w.setCell ⟨B, i, none⟩ v).heap[B]? = some (.cells (cs.setIfInBounds i v) ty (0, 0)) ∧ Only (fun j => j = B) w (w.setCell ⟨B, i, none⟩ v) := by
  refine ⟨?_, (Only.ofGrown (grown_setCell w ⟨B, i, none⟩ _)).mono (fun j _ e => by simpa using e.symm)⟩
  rw [heap_setCell_same _ _ _ _ ty _ h]
theorem Only.next {D : Nat → Prop} {a b c : World} (h : Only D a b) (k : Only D b c) : Only D a c := h.trans k (fun _ _ d => d)
theorem below_only {D : Nat → Prop} {W W' : World} (h : Below W.heap.size W W') : Only D W W' := (Only.ofBelow h).mono (fun _ _ d => d.elim)
end Go.Proofs.YtkeldhohilmdcaaGreat
