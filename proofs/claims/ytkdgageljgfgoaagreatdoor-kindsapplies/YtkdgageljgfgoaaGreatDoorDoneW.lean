/-
  The laws' done 36: the walk.
-/
import Derived.Test.YtkdgageljgfgoaaGreatDoorDone9
namespace Go.Proofs.YtkdgageljgfgoaaGreatDoor
open Go.RowKit Go.Shelf
set_option linter.unusedSimpArgs false
attribute [local go_sem] Oper.semAt_some

/-- Between the rounds: the value's box X, the answer's box X + 1. -/
def DnI (w : World) (F : Int × Int × List El) (a' : Option Addr) (c' : Nat) (wr : World) : Prop := Below w.heap.size w wr ∧ w.heap.size + 2 ≤ wr.heap.size ∧ wr.heap[w.heap.size]? = some (.cells #[.int .i64 F.1, .int .i64 F.2.1, .slice a' F.2.2.length c'] 46 (0, 0)) ∧ wr.heap[w.heap.size + 1]? = some (.cells #[.int .i64 0, .int .i64 0, .slice none 0 0] 46 (0, 0)) ∧ Rv wr a' c' F.2.2 ∧ (F.2.2 ≠ [] → ∀ a, a' = some a → a.block ≠ w.heap.size ∧ a.block ≠ w.heap.size + 1)
theorem DnI.below {w : World} {F : Int × Int × List El} {a' : Option Addr} {c' : Nat} {wr W : World} (h : DnI w F a' c' wr) (hb : Below wr.heap.size wr W) : DnI w F a' c' W :=
  ⟨h.1.trans (hb.mono h.1.size), Nat.le_trans h.2.1 hb.size, (hb.block _ (Array.getElem?_eq_some_iff.1 h.2.2.1).1).trans h.2.2.1, (hb.block _ (Array.getElem?_eq_some_iff.1 h.2.2.2.1).1).trans h.2.2.2.1, h.2.2.2.2.1.below hb, h.2.2.2.2.2⟩

end Go.Proofs.YtkdgageljgfgoaaGreatDoor
