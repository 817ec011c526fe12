/-
  register: a register tells just these elements (stands 41).
-/
import Derived.Test.YtkeldhohilmdcaaGreatGoes1
import Derived.Test.YtkeldhohilmdcaaGreatRegF
import Derived.Test.YtkeldhohilmdcaaGreatReg9
import Derived.Test.YtkeldhohilmdcaaGreatRegM
namespace Go.Proofs.YtkeldhohilmdcaaGreat
open Go.RowKit Go.Shelf
set_option linter.unusedSimpArgs false
attribute [local go_sem] Oper.semAt_some

end Go.Proofs.YtkeldhohilmdcaaGreat
