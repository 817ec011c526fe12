/-
  done 36: the region that draws its order.
  The laws' done 36.
-/
import Derived.Test.YtkdgageljgfgoaaGreatDoorValT
namespace Go.Proofs.YtkdgageljgfgoaaGreatDoor
open Go.RowKit Go.Shelf
set_option linter.unusedSimpArgs false

end Go.Proofs.YtkdgageljgfgoaaGreatDoor
namespace Go.Proofs.YtkdgageljgfgoaaGreatDoor
open Go.RowKit Go.Shelf
set_option linter.unusedSimpArgs false
attribute [local go_sem] Oper.semAt_some

/-- An operation, and where its path lies. -/
structure OpM where
  pa : Option Addr
  pc : Nat
  p : List ByteArray
  ok : Int
  os : ByteArray
  d : Int
  on : Int
  tx : ByteArray
/-- Operations in a row. -/
def Ro (w : World) (ao : Option Addr) (l : List OpM) : Prop := ∀ (i : Nat) (o : OpM), l[i]? = some o → Rp w o.pa o.pc o.p ∧ ∃ b off, ao = some ⟨b, off, none⟩ ∧ w.cell? ⟨b, off + i * 6, none⟩ = some (.slice o.pa o.p.length o.pc) ∧ w.cell? ⟨b, off + i * 6 + 1, none⟩ = some (.int .i64 o.ok) ∧ w.cell? ⟨b, off + i * 6 + 2, none⟩ = some (.string o.os) ∧ w.cell? ⟨b, off + i * 6 + 3, none⟩ = some (.int .i64 o.d) ∧ w.cell? ⟨b, off + i * 6 + 4, none⟩ = some (.int .i64 o.on) ∧ w.cell? ⟨b, off + i * 6 + 5, none⟩ = some (.string o.tx)
theorem Ro.below {w w' : World} {ao : Option Addr} {l : List OpM} (h : Ro w ao l) (hb : Below w.heap.size w w') : Ro w' ao l := fun i o ho => by
  obtain ⟨h1, b, off, e, c0, c1, c2, c3, c4, c5⟩ := h i o ho
  exact ⟨h1.below hb, b, off, e, cell_stays c0 hb, cell_stays c1 hb, cell_stays c2 hb, cell_stays c3 hb, cell_stays c4 hb, cell_stays c5 hb⟩
end Go.Proofs.YtkdgageljgfgoaaGreatDoor
