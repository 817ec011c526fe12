/-
  tagset, register and queue: the document's Sorted (11): elements put in one by one.
-/
import Derived.Test.YtkkpdgfllnbigaaGreatMg15
import Derived.Test.YtkkpdgfllnbigaaGreatMg8
import Derived.Test.YtkkpdgfllnbigaaGreatMg11
import Derived.Shelf.SlSortCmp.QuietGrown
namespace Go.Proofs.YtkkpdgfllnbigaaGreat
open Go.RowKit Go.Shelf Go.Sort
set_option linter.unusedSimpArgs false
attribute [local go_sem] Oper.semAt_some

end Go.Proofs.YtkkpdgfllnbigaaGreat
