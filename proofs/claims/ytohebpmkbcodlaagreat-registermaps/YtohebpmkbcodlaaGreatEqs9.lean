/-
  EQS6: branches, names, stamps compared.
-/
import Derived.Test.YtohebpmkbcodlaaGreatElR
import Derived.Laws.StructEq
namespace Go.Proofs.YtohebpmkbcodlaaGreat
open Go.RowKit Go.Shelf
set_option linter.unusedSimpArgs false

theorem bytes_same {a b : ByteArray} : (a.toList == b.toList) = true ↔ a = b := by
  rw [beq_iff_eq, ByteArray.toList_eq, ByteArray.toList_eq]
  exact ⟨fun h => ba_eq h, fun h => by rw [h]⟩
end Go.Proofs.YtohebpmkbcodlaaGreat
