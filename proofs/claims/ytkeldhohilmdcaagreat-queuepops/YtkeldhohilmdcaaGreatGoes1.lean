/-
  Going over a map tells its elements (goes 52).
-/
import Derived.Test.YtkeldhohilmdcaaGreatRegM
import Derived.Test.YtkeldhohilmdcaaGreatEqs9
namespace Go.Proofs.YtkeldhohilmdcaaGreat
open Go.RowKit Go.Shelf
set_option linter.unusedSimpArgs false
attribute [local go_sem] Oper.semAt_some

end Go.Proofs.YtkeldhohilmdcaaGreat
