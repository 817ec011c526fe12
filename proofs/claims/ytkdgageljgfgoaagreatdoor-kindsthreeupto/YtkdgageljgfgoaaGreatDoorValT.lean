/-
  The laws' has 37.
  What is applied to a value that may be is a value that may be.
-/
import Derived.Test.YtkdgageljgfgoaaGreatDoorDocStm
namespace Go.Proofs.YtkdgageljgfgoaaGreatDoor
open Go.RowKit Go.Shelf
set_option linter.unusedSimpArgs false
attribute [local go_sem] Oper.semAt_some

end Go.Proofs.YtkdgageljgfgoaaGreatDoor
namespace Go.Proofs.YtkdgageljgfgoaaGreatDoor

end Go.Proofs.YtkdgageljgfgoaaGreatDoor
