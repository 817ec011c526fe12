/-
  JournalMaps: the closed facts of its row.
-/
import Derived.Test.YtkkpdgfllnbigaaGreatMg21
namespace Go.Proofs.YtkkpdgfllnbigaaGreat.journalMaps
open Go
set_option maxRecDepth 100000
theorem fA : jA Tryz.prog Tryz.f15 Rows.journalMapsSpec Rows.journalMapsRow = true := by kernel_rfl
theorem f1 : (Rows.journalMapsRow.inPlace == Tryz.prog.inPlace 15) = true := by kernel_rfl
theorem f2 : (Rows.journalMapsRow.unfollowed == Tryz.prog.unfollowed 15) = true := by kernel_rfl
theorem f3 : (Rows.journalMapsRow.recurses == Tryz.prog.recurses 15) = true := by kernel_rfl
theorem f4 : (Rows.journalMapsRow.named == Tryz.prog.varsNamed 15) = true := by kernel_rfl
theorem fB : jB Tryz.prog Tryz.f15 Rows.journalMapsSpec Rows.journalMapsRow = true := by kernel_rfl
theorem fC : jC Tryz.prog Rows.journalMapsRow = true := by kernel_rfl
theorem fD : jD Tryz.prog Tryz.f15 Rows.journalMapsSpec Rows.journalMapsRow = true := by kernel_rfl
theorem facts : joinedFacts Tryz.prog 15 Tryz.f15 Rows.journalMapsSpec Rows.journalMapsRow = true := joined_of fA f1 f2 f3 f4 fB fC fD
end Go.Proofs.YtkkpdgfllnbigaaGreat.journalMaps
