/-
  QueueSteps: the closed facts of its row.
-/
import Derived.Test.YtkkpdgfllnbigaaGreatJFacts
namespace Go.Proofs.YtkkpdgfllnbigaaGreat.queueSteps
open Go
set_option maxRecDepth 100000
theorem fA : jA Tryz.prog Tryz.f9 Rows.queueStepsSpec Rows.queueStepsRow = true := by kernel_rfl
theorem f1 : (Rows.queueStepsRow.inPlace == Tryz.prog.inPlace 9) = true := by kernel_rfl
theorem f2 : (Rows.queueStepsRow.unfollowed == Tryz.prog.unfollowed 9) = true := by kernel_rfl
theorem f3 : (Rows.queueStepsRow.recurses == Tryz.prog.recurses 9) = true := by kernel_rfl
theorem f4 : (Rows.queueStepsRow.named == Tryz.prog.varsNamed 9) = true := by kernel_rfl
theorem fB : jB Tryz.prog Tryz.f9 Rows.queueStepsSpec Rows.queueStepsRow = true := by kernel_rfl
theorem fC : jC Tryz.prog Rows.queueStepsRow = true := by kernel_rfl
theorem fD : jD Tryz.prog Tryz.f9 Rows.queueStepsSpec Rows.queueStepsRow = true := by kernel_rfl
theorem facts : joinedFacts Tryz.prog 9 Tryz.f9 Rows.queueStepsSpec Rows.queueStepsRow = true := joined_of fA f1 f2 f3 f4 fB fC fD
end Go.Proofs.YtkkpdgfllnbigaaGreat.queueSteps
