/-
  stamp: keys are ordered as stamps are.
-/
import Derived.Test.YtkeldhohilmdcaaGreatKeys
namespace Go.Proofs.YtkeldhohilmdcaaGreat
open Go.RowKit Go.Shelf
set_option linter.unusedSimpArgs false

end Go.Proofs.YtkeldhohilmdcaaGreat
