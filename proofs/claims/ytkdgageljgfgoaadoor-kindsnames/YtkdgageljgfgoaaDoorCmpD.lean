/-
  CMPD: branches, names, stamps held against each other by the document.
-/
import Derived.Test.YtkdgageljgfgoaaDoorCmp7
namespace Go.Proofs.YtkdgageljgfgoaaDoor
open Go.RowKit Go.Shelf
set_option linter.unusedSimpArgs false

end Go.Proofs.YtkdgageljgfgoaaDoor
