/-
  slices.Equal 61 over elements; kinds: Same 50, Stamped 15.
-/
import Derived.Test.YtkdgageljgfgoaaDoorThree
namespace Go.Proofs.YtkdgageljgfgoaaDoor
open Go.RowKit Go.Shelf
set_option linter.unusedSimpArgs false
attribute [local go_sem] Oper.semAt_some

/-- Have two values the same fields? -/
def sameV (k n : Int) (l : List El) (k' n' : Int) (m : List El) : Bool := (k == k') && (n == n') && decide (l = m)
theorem new2b (w : World) (o1 o2 : Obj) : ((w.alloc o1).alloc o2).heap[w.heap.size]? = some o1 ∧ ((w.alloc o1).alloc o2).heap[w.heap.size + 1]? = some o2 ∧ Below w.heap.size w ((w.alloc o1).alloc o2) := by
  have h1 := heap_alloc_new w o1
  have h2 := heap_alloc_new (w.alloc o1) o2
  have hs : (w.alloc o1).heap.size = w.heap.size + 1 := by simp
  have b1 : Below w.heap.size w (w.alloc o1) := (Below.refl _ w).alloc (Nat.le_refl _) _
  have b2 : Below (w.alloc o1).heap.size (w.alloc o1) ((w.alloc o1).alloc o2) := (Below.refl _ _).alloc (Nat.le_refl _) _
  rw [hs] at h2
  exact ⟨(b2.block _ (by omega)).trans h1, h2, b1.trans (b2.mono b1.size)⟩
end Go.Proofs.YtkdgageljgfgoaaDoor
