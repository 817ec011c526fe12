/-
  TagsetSteps: the closed facts of its row.
-/
import Derived.Test.YtkkpdgfllnbigaaGreatJFacts
namespace Go.Proofs.YtkkpdgfllnbigaaGreat.tagsetSteps
open Go
set_option maxRecDepth 100000
theorem fA : jA Tryz.prog Tryz.f3 Rows.tagsetStepsSpec Rows.tagsetStepsRow = true := by kernel_rfl
theorem f1 : (Rows.tagsetStepsRow.inPlace == Tryz.prog.inPlace 3) = true := by kernel_rfl
theorem f2 : (Rows.tagsetStepsRow.unfollowed == Tryz.prog.unfollowed 3) = true := by kernel_rfl
theorem f3 : (Rows.tagsetStepsRow.recurses == Tryz.prog.recurses 3) = true := by kernel_rfl
theorem f4 : (Rows.tagsetStepsRow.named == Tryz.prog.varsNamed 3) = true := by kernel_rfl
theorem fB : jB Tryz.prog Tryz.f3 Rows.tagsetStepsSpec Rows.tagsetStepsRow = true := by kernel_rfl
theorem fC : jC Tryz.prog Rows.tagsetStepsRow = true := by kernel_rfl
theorem fD : jD Tryz.prog Tryz.f3 Rows.tagsetStepsSpec Rows.tagsetStepsRow = true := by kernel_rfl
theorem facts : joinedFacts Tryz.prog 3 Tryz.f3 Rows.tagsetStepsSpec Rows.tagsetStepsRow = true := joined_of fA f1 f2 f3 f4 fB fC fD
end Go.Proofs.YtkkpdgfllnbigaaGreat.tagsetSteps
