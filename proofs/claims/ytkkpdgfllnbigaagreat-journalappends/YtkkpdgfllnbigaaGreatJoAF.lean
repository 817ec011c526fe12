/-
  JournalAppends: the closed facts of its row.
-/
import Derived.Test.YtkkpdgfllnbigaaGreatMg24
namespace Go.Proofs.YtkkpdgfllnbigaaGreat.journalAppends
open Go
set_option maxRecDepth 100000
theorem fA : jA Tryz.prog Tryz.f13 Rows.journalAppendsSpec Rows.journalAppendsRow = true := by kernel_rfl
theorem f1 : (Rows.journalAppendsRow.inPlace == Tryz.prog.inPlace 13) = true := by kernel_rfl
theorem f2 : (Rows.journalAppendsRow.unfollowed == Tryz.prog.unfollowed 13) = true := by kernel_rfl
theorem f3 : (Rows.journalAppendsRow.recurses == Tryz.prog.recurses 13) = true := by kernel_rfl
theorem f4 : (Rows.journalAppendsRow.named == Tryz.prog.varsNamed 13) = true := by kernel_rfl
theorem fB : jB Tryz.prog Tryz.f13 Rows.journalAppendsSpec Rows.journalAppendsRow = true := by kernel_rfl
theorem fC : jC Tryz.prog Rows.journalAppendsRow = true := by kernel_rfl
theorem fD : jD Tryz.prog Tryz.f13 Rows.journalAppendsSpec Rows.journalAppendsRow = true := by kernel_rfl
theorem facts : joinedFacts Tryz.prog 13 Tryz.f13 Rows.journalAppendsSpec Rows.journalAppendsRow = true := joined_of fA f1 f2 f3 f4 fB fC fD
end Go.Proofs.YtkkpdgfllnbigaaGreat.journalAppends
