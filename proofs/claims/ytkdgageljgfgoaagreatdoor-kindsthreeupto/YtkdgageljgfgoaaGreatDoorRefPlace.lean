/-
  THE DOCUMENT's Path, CmpPlace, Place, and the program's Place: what they answer.
-/
import Derived.Test.YtkdgageljgfgoaaGreatDoorRefKey
import Derived.Test.YtkdgageljgfgoaaGreatDoorPath
namespace Go.Proofs.YtkdgageljgfgoaaGreatDoor
open Go.RowKit Go.Shelf
set_option linter.unusedSimpArgs false

end Go.Proofs.YtkdgageljgfgoaaGreatDoor
