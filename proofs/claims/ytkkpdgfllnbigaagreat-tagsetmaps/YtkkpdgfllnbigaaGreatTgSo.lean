/-
  tagset: the document's Sorted (22): by stamps, of one stamp by texts.
-/
import Derived.Test.YtkkpdgfllnbigaaGreatMg19
import Derived.Test.YtkkpdgfllnbigaaGreatSort1
namespace Go.Proofs.YtkkpdgfllnbigaaGreat.Tg
open Go.RowKit Go.Shelf Go.Sort
set_option linter.unusedSimpArgs false
set_option linter.unusedVariables false
attribute [local go_sem] Oper.semAt_some

end Go.Proofs.YtkkpdgfllnbigaaGreat.Tg
