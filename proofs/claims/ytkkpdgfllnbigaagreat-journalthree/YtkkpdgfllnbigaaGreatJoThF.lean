/-
  JournalThree: the closed facts of its row.
-/
import Derived.Test.YtkkpdgfllnbigaaGreatMg26
namespace Go.Proofs.YtkkpdgfllnbigaaGreat.journalThree
open Go
set_option maxRecDepth 100000
theorem fA : jA Tryz.prog Tryz.f16 Rows.journalThreeSpec Rows.journalThreeRow = true := by kernel_rfl
theorem f1 : (Rows.journalThreeRow.inPlace == Tryz.prog.inPlace 16) = true := by kernel_rfl
theorem f2 : (Rows.journalThreeRow.unfollowed == Tryz.prog.unfollowed 16) = true := by kernel_rfl
theorem f3 : (Rows.journalThreeRow.recurses == Tryz.prog.recurses 16) = true := by kernel_rfl
theorem f4 : (Rows.journalThreeRow.named == Tryz.prog.varsNamed 16) = true := by kernel_rfl
theorem fB : jB Tryz.prog Tryz.f16 Rows.journalThreeSpec Rows.journalThreeRow = true := by kernel_rfl
theorem fC : jC Tryz.prog Rows.journalThreeRow = true := by kernel_rfl
theorem fD : jD Tryz.prog Tryz.f16 Rows.journalThreeSpec Rows.journalThreeRow = true := by kernel_rfl
theorem facts : joinedFacts Tryz.prog 16 Tryz.f16 Rows.journalThreeSpec Rows.journalThreeRow = true := joined_of fA f1 f2 f3 f4 fB fC fD
end Go.Proofs.YtkkpdgfllnbigaaGreat.journalThree
