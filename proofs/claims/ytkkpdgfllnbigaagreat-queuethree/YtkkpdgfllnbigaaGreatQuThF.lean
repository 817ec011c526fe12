/-
  QueueThree: the closed facts of its row.
-/
import Derived.Test.YtkkpdgfllnbigaaGreatMg24
namespace Go.Proofs.YtkkpdgfllnbigaaGreat.queueThree
open Go
set_option maxRecDepth 100000
theorem fA : jA Tryz.prog Tryz.f12 Rows.queueThreeSpec Rows.queueThreeRow = true := by kernel_rfl
theorem f1 : (Rows.queueThreeRow.inPlace == Tryz.prog.inPlace 12) = true := by kernel_rfl
theorem f2 : (Rows.queueThreeRow.unfollowed == Tryz.prog.unfollowed 12) = true := by kernel_rfl
theorem f3 : (Rows.queueThreeRow.recurses == Tryz.prog.recurses 12) = true := by kernel_rfl
theorem f4 : (Rows.queueThreeRow.named == Tryz.prog.varsNamed 12) = true := by kernel_rfl
theorem fB : jB Tryz.prog Tryz.f12 Rows.queueThreeSpec Rows.queueThreeRow = true := by kernel_rfl
theorem fC : jC Tryz.prog Rows.queueThreeRow = true := by kernel_rfl
theorem fD : jD Tryz.prog Tryz.f12 Rows.queueThreeSpec Rows.queueThreeRow = true := by kernel_rfl
theorem facts : joinedFacts Tryz.prog 12 Tryz.f12 Rows.queueThreeSpec Rows.queueThreeRow = true := joined_of fA f1 f2 f3 f4 fB fC fD
end Go.Proofs.YtkkpdgfllnbigaaGreat.queueThree
