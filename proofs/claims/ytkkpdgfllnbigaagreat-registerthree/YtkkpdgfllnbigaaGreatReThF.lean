/-
  RegisterThree: the closed facts of its row.
-/
import Derived.Test.YtkkpdgfllnbigaaGreatMg24
namespace Go.Proofs.YtkkpdgfllnbigaaGreat.registerThree
open Go
set_option maxRecDepth 100000
theorem fA : jA Tryz.prog Tryz.f8 Rows.registerThreeSpec Rows.registerThreeRow = true := by kernel_rfl
theorem f1 : (Rows.registerThreeRow.inPlace == Tryz.prog.inPlace 8) = true := by kernel_rfl
theorem f2 : (Rows.registerThreeRow.unfollowed == Tryz.prog.unfollowed 8) = true := by kernel_rfl
theorem f3 : (Rows.registerThreeRow.recurses == Tryz.prog.recurses 8) = true := by kernel_rfl
theorem f4 : (Rows.registerThreeRow.named == Tryz.prog.varsNamed 8) = true := by kernel_rfl
theorem fB : jB Tryz.prog Tryz.f8 Rows.registerThreeSpec Rows.registerThreeRow = true := by kernel_rfl
theorem fC : jC Tryz.prog Rows.registerThreeRow = true := by kernel_rfl
theorem fD : jD Tryz.prog Tryz.f8 Rows.registerThreeSpec Rows.registerThreeRow = true := by kernel_rfl
theorem facts : joinedFacts Tryz.prog 8 Tryz.f8 Rows.registerThreeSpec Rows.registerThreeRow = true := joined_of fA f1 f2 f3 f4 fB fC fD
end Go.Proofs.YtkkpdgfllnbigaaGreat.registerThree
