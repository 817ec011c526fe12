/-
  TagsetThree: the closed facts of its row.
-/
import Derived.Test.YtkkpdgfllnbigaaGreatMg28
namespace Go.Proofs.YtkkpdgfllnbigaaGreat.tagsetThree
open Go
set_option maxRecDepth 100000
theorem fA : jA Tryz.prog Tryz.f5 Rows.tagsetThreeSpec Rows.tagsetThreeRow = true := by kernel_rfl
theorem f1 : (Rows.tagsetThreeRow.inPlace == Tryz.prog.inPlace 5) = true := by kernel_rfl
theorem f2 : (Rows.tagsetThreeRow.unfollowed == Tryz.prog.unfollowed 5) = true := by kernel_rfl
theorem f3 : (Rows.tagsetThreeRow.recurses == Tryz.prog.recurses 5) = true := by kernel_rfl
theorem f4 : (Rows.tagsetThreeRow.named == Tryz.prog.varsNamed 5) = true := by kernel_rfl
theorem fB : jB Tryz.prog Tryz.f5 Rows.tagsetThreeSpec Rows.tagsetThreeRow = true := by kernel_rfl
theorem fC : jC Tryz.prog Rows.tagsetThreeRow = true := by kernel_rfl
theorem fD : jD Tryz.prog Tryz.f5 Rows.tagsetThreeSpec Rows.tagsetThreeRow = true := by kernel_rfl
theorem facts : joinedFacts Tryz.prog 5 Tryz.f5 Rows.tagsetThreeSpec Rows.tagsetThreeRow = true := joined_of fA f1 f2 f3 f4 fB fC fD
end Go.Proofs.YtkkpdgfllnbigaaGreat.tagsetThree
