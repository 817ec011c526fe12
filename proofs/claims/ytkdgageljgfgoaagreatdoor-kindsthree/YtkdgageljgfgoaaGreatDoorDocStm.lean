/-
  The document's Check 14, Stamped 16, Words 8, DoWords 9.
  The document's Stamped 16.
-/
import Derived.Test.YtkdgageljgfgoaaGreatDoorKnownB
import Derived.Test.YtkdgageljgfgoaaGreatDoorRefPlace
namespace Go.Proofs.YtkdgageljgfgoaaGreatDoor
open Go.RowKit Go.Shelf
set_option linter.unusedSimpArgs false
attribute [local go_sem] Oper.semAt_some

end Go.Proofs.YtkdgageljgfgoaaGreatDoor
namespace Go.Proofs.YtkdgageljgfgoaaGreatDoor
open Go.RowKit Go.Shelf
set_option linter.unusedSimpArgs false
attribute [local go_sem] Oper.semAt_some

end Go.Proofs.YtkdgageljgfgoaaGreatDoor
