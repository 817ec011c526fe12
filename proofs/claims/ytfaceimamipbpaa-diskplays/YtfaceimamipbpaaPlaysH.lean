/-
  PROVED: the statement DiskPlays of layer 3 (disk) returns true for every beginning, all steps and every number: a disk, from any beginning and under any steps (at most 60; where there are more it asks the chapter's own rows), is what the document says: its areas, its raw writes, its cuts; the arguments stay as they are. No condition beyond the statement's own.
-/
import Derived.Test.YtfaceimamipbpaaPlaysO
import Derived.Test.YtfaceimamipbpaaStandW
namespace Go.Proofs.Ytfaceimamipbpaa.diskPlays
open Go.ChangeShapes Go.WideShapes Go.ChangeAt Go.RowKit
theorem over : Rows.diskPlaysRow.holds Try.pinned (OpenSpec.ofChange Rows.diskPlaysSpec) :=
  OpenClaim.holds_of_wide 3 Try.f3 rfl rfl rfl rfl rfl rfl rfl ⟨rfl, rfl, rfl, rfl, rfl⟩ rfl rfl rfl rfl rfl (by kernel_rfl) Try.func3 (by kernel_rfl)
    (of_decide_eq_true (by kernel_rfl)) (by unfold Func.isWrapper; first | (rw [if_pos (by decide +kernel)]; kernel_rfl) | (rw [if_neg (by decide +kernel)]; exact ⟨rfl, rfl⟩))
    (fun os started H enc _ => lifted stands_yes os started H enc)
end Go.Proofs.Ytfaceimamipbpaa.diskPlays
namespace Go.Proofs.Ytfaceimamipbpaa
/-- The statement. -/
theorem diskPlays_holds : Rows.DiskPlaysSaid := diskPlays.over
#print axioms diskPlays_holds
end Go.Proofs.Ytfaceimamipbpaa
