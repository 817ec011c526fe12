/-
  stamp: keys are ordered as stamps are.
-/
import Derived.Test.YtohebpmkbcodlaaGreatKeys
namespace Go.Proofs.YtohebpmkbcodlaaGreat
open Go.RowKit Go.Shelf
set_option linter.unusedSimpArgs false

end Go.Proofs.YtohebpmkbcodlaaGreat
