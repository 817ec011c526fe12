/-
  TagsetMaps: the closed facts of its row.
-/
import Derived.Test.YtkkpdgfllnbigaaGreatMg27
namespace Go.Proofs.YtkkpdgfllnbigaaGreat.tagsetMaps
open Go
set_option maxRecDepth 100000
theorem fA : jA Tryz.prog Tryz.f4 Rows.tagsetMapsSpec Rows.tagsetMapsRow = true := by kernel_rfl
theorem f1 : (Rows.tagsetMapsRow.inPlace == Tryz.prog.inPlace 4) = true := by kernel_rfl
theorem f2 : (Rows.tagsetMapsRow.unfollowed == Tryz.prog.unfollowed 4) = true := by kernel_rfl
theorem f3 : (Rows.tagsetMapsRow.recurses == Tryz.prog.recurses 4) = true := by kernel_rfl
theorem f4 : (Rows.tagsetMapsRow.named == Tryz.prog.varsNamed 4) = true := by kernel_rfl
theorem fB : jB Tryz.prog Tryz.f4 Rows.tagsetMapsSpec Rows.tagsetMapsRow = true := by kernel_rfl
theorem fC : jC Tryz.prog Rows.tagsetMapsRow = true := by kernel_rfl
theorem fD : jD Tryz.prog Tryz.f4 Rows.tagsetMapsSpec Rows.tagsetMapsRow = true := by kernel_rfl
theorem facts : joinedFacts Tryz.prog 4 Tryz.f4 Rows.tagsetMapsSpec Rows.tagsetMapsRow = true := joined_of fA f1 f2 f3 f4 fB fC fD
end Go.Proofs.YtkkpdgfllnbigaaGreat.tagsetMaps
