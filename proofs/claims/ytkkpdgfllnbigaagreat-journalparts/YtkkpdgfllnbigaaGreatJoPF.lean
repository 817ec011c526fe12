/-
  JournalParts: the closed facts of its row.
-/
import Derived.Test.YtkkpdgfllnbigaaGreatMg24
namespace Go.Proofs.YtkkpdgfllnbigaaGreat.journalParts
open Go
set_option maxRecDepth 100000
theorem fA : jA Tryz.prog Tryz.f14 Rows.journalPartsSpec Rows.journalPartsRow = true := by kernel_rfl
theorem f1 : (Rows.journalPartsRow.inPlace == Tryz.prog.inPlace 14) = true := by kernel_rfl
theorem f2 : (Rows.journalPartsRow.unfollowed == Tryz.prog.unfollowed 14) = true := by kernel_rfl
theorem f3 : (Rows.journalPartsRow.recurses == Tryz.prog.recurses 14) = true := by kernel_rfl
theorem f4 : (Rows.journalPartsRow.named == Tryz.prog.varsNamed 14) = true := by kernel_rfl
theorem fB : jB Tryz.prog Tryz.f14 Rows.journalPartsSpec Rows.journalPartsRow = true := by kernel_rfl
theorem fC : jC Tryz.prog Rows.journalPartsRow = true := by kernel_rfl
theorem fD : jD Tryz.prog Tryz.f14 Rows.journalPartsSpec Rows.journalPartsRow = true := by kernel_rfl
theorem facts : joinedFacts Tryz.prog 14 Tryz.f14 Rows.journalPartsSpec Rows.journalPartsRow = true := joined_of fA f1 f2 f3 f4 fB fC fD
end Go.Proofs.YtkkpdgfllnbigaaGreat.journalParts
