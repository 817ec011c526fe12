/-
  No cell of these rows narrows 'for every input' (looked for: loops, veiled, ifaces, maps, wideKeys, modest, calm, conditions, laid).
  DERIVED. THE GIVEN ROWS OF THIS SEAT. 14 by the template 'for every input the law returns true; each argument reads behind the call as it read before'; 0 by the template 'total and deterministic' (their statements: YtkkpdgfllnbigaaGreatTotals.lean).
  GIVEN WITH THE SEED: the statements are not yours to turn. If you find one false, say at which input.
  Laid BY PROGRAM, IN A SANDBOX (cutbox-rows.mjs): the forced cells as the released guide's own fill.sh prints them over the translation b6eeb38348605b55… (all of the seat's roots in one cut). By AI agents, Wed Nov 11 2026. No macro, syntax, notation, axiom, sorry.
-/
import Derived.Test.YtkkpdgfllnbigaaGreatChecked
import GoSem.Claim
import GoSem.ClaimJoined
import GoSem.ClaimMapViews
import Derived.JoinedTies
import Derived.KernelRfl
namespace Go.Proofs.YtkkpdgfllnbigaaGreat
/- THE CELL 'sum', in the pinned program and in every row, IS THE sha256 OF THE DUMP (.gsa) THAT YtkkpdgfllnbigaaGreatProg.lean LOADS. Nothing in Lean hashes anything: it is a label: what it is worth is what the hold of that sum in a sandbox is worth. -/
noncomputable def Tryz.pinned : Pinned := { name := "ytkkpdgfllnbigaagreat", sum := "b6eeb38348605b55c4b6a7f3098cc850f9a6846eea86c0f01344154f787aea1c", checked := Tryz.checked }
namespace Rows
def none {H : Type} : Left H := { results := [], args := [] }

/-- 'estuarylaw11.TagsetSteps': WHATEVER THE INPUT: true; the input reads as it did. -/
def tagsetStepsSpec : ChangeSpec := { name := "tagsetSteps", fn := fun _ => fun
  | [d1, d2] => { results := [.lit (.bool true)], args := [d1, d2] }
  | _ => none }
def tagsetStepsRow : OpenClaim := { program := "ytkkpdgfllnbigaagreat", sum := "b6eeb38348605b55c4b6a7f3098cc850f9a6846eea86c0f01344154f787aea1c", func := "estuary/estuarylaw11.TagsetSteps", spec := "tagsetSteps", inPlace := ["internal/bytealg.abigen_runtime_cmpstring"], unfollowed := true, recurses := true, plainKeys := false, apart := false }
def TagsetStepsSaid : Prop := tagsetStepsRow.holds Tryz.pinned (OpenSpec.ofChange tagsetStepsSpec)

/-- ITS FALSE NEIGHBOUR: 'it returns false'. Refute it at one input. -/
def tagsetStepsWrong : ChangeSpec := { name := "tagsetSteps", fn := fun _ => fun
  | [d1, d2] => { results := [.lit (.bool false)], args := [d1, d2] }
  | _ => none }
def TagsetStepsWrongFalsely : Prop := tagsetStepsRow.holds Tryz.pinned (OpenSpec.ofChange tagsetStepsWrong)

/-- 'estuarylaw11.TagsetMaps': WHATEVER THE INPUT: true; the input reads as it did. -/
def tagsetMapsSpec : ChangeSpec := { name := "tagsetMaps", fn := fun _ => fun
  | [d1, d2] => { results := [.lit (.bool true)], args := [d1, d2] }
  | _ => none }
def tagsetMapsRow : OpenClaim := { program := "ytkkpdgfllnbigaagreat", sum := "b6eeb38348605b55c4b6a7f3098cc850f9a6846eea86c0f01344154f787aea1c", func := "estuary/estuarylaw11.TagsetMaps", spec := "tagsetMaps", inPlace := ["internal/bytealg.abigen_runtime_cmpstring"], unfollowed := true, recurses := true, plainKeys := false, apart := false }
def TagsetMapsSaid : Prop := tagsetMapsRow.holds Tryz.pinned (OpenSpec.ofChange tagsetMapsSpec)

/-- ITS FALSE NEIGHBOUR: 'it returns false'. Refute it at one input. -/
def tagsetMapsWrong : ChangeSpec := { name := "tagsetMaps", fn := fun _ => fun
  | [d1, d2] => { results := [.lit (.bool false)], args := [d1, d2] }
  | _ => none }
def TagsetMapsWrongFalsely : Prop := tagsetMapsRow.holds Tryz.pinned (OpenSpec.ofChange tagsetMapsWrong)

/-- 'estuarylaw11.TagsetThree': WHATEVER THE INPUT: true; the input reads as it did. -/
def tagsetThreeSpec : ChangeSpec := { name := "tagsetThree", fn := fun _ => fun
  | [d1, d2, d3] => { results := [.lit (.bool true)], args := [d1, d2, d3] }
  | _ => none }
def tagsetThreeRow : OpenClaim := { program := "ytkkpdgfllnbigaagreat", sum := "b6eeb38348605b55c4b6a7f3098cc850f9a6846eea86c0f01344154f787aea1c", func := "estuary/estuarylaw11.TagsetThree", spec := "tagsetThree", inPlace := ["internal/bytealg.abigen_runtime_cmpstring"], unfollowed := true, recurses := true, plainKeys := false, apart := false }
def TagsetThreeSaid : Prop := tagsetThreeRow.holds Tryz.pinned (OpenSpec.ofChange tagsetThreeSpec)

/-- ITS FALSE NEIGHBOUR: 'it returns false'. Refute it at one input. -/
def tagsetThreeWrong : ChangeSpec := { name := "tagsetThree", fn := fun _ => fun
  | [d1, d2, d3] => { results := [.lit (.bool false)], args := [d1, d2, d3] }
  | _ => none }
def TagsetThreeWrongFalsely : Prop := tagsetThreeRow.holds Tryz.pinned (OpenSpec.ofChange tagsetThreeWrong)

/-- 'estuarylaw12.RegisterWrites': WHATEVER THE INPUT: true; the input reads as it did. -/
def registerWritesSpec : ChangeSpec := { name := "registerWrites", fn := fun _ => fun
  | [d1, d2] => { results := [.lit (.bool true)], args := [d1, d2] }
  | _ => none }
def registerWritesRow : OpenClaim := { program := "ytkkpdgfllnbigaagreat", sum := "b6eeb38348605b55c4b6a7f3098cc850f9a6846eea86c0f01344154f787aea1c", func := "estuary/estuarylaw12.RegisterWrites", spec := "registerWrites", inPlace := ["internal/bytealg.abigen_runtime_cmpstring"], unfollowed := true, recurses := true, plainKeys := false, apart := false }
def RegisterWritesSaid : Prop := registerWritesRow.holds Tryz.pinned (OpenSpec.ofChange registerWritesSpec)

/-- ITS FALSE NEIGHBOUR: 'it returns false'. Refute it at one input. -/
def registerWritesWrong : ChangeSpec := { name := "registerWrites", fn := fun _ => fun
  | [d1, d2] => { results := [.lit (.bool false)], args := [d1, d2] }
  | _ => none }
def RegisterWritesWrongFalsely : Prop := registerWritesRow.holds Tryz.pinned (OpenSpec.ofChange registerWritesWrong)

/-- 'estuarylaw12.RegisterMaps': WHATEVER THE INPUT: true; the input reads as it did. -/
def registerMapsSpec : ChangeSpec := { name := "registerMaps", fn := fun _ => fun
  | [d] => { results := [.lit (.bool true)], args := [d] }
  | _ => none }
def registerMapsRow : OpenClaim := { program := "ytkkpdgfllnbigaagreat", sum := "b6eeb38348605b55c4b6a7f3098cc850f9a6846eea86c0f01344154f787aea1c", func := "estuary/estuarylaw12.RegisterMaps", spec := "registerMaps", inPlace := ["internal/bytealg.abigen_runtime_cmpstring"], unfollowed := true, recurses := true, plainKeys := false, apart := false }
def RegisterMapsSaid : Prop := registerMapsRow.holds Tryz.pinned (OpenSpec.ofChange registerMapsSpec)

/-- ITS FALSE NEIGHBOUR: 'it returns false'. Refute it at one input. -/
def registerMapsWrong : ChangeSpec := { name := "registerMaps", fn := fun _ => fun
  | [d] => { results := [.lit (.bool false)], args := [d] }
  | _ => none }
def RegisterMapsWrongFalsely : Prop := registerMapsRow.holds Tryz.pinned (OpenSpec.ofChange registerMapsWrong)

/-- 'estuarylaw12.RegisterThree': WHATEVER THE INPUT: true; the input reads as it did. -/
def registerThreeSpec : ChangeSpec := { name := "registerThree", fn := fun _ => fun
  | [d1, d2, d3] => { results := [.lit (.bool true)], args := [d1, d2, d3] }
  | _ => none }
def registerThreeRow : OpenClaim := { program := "ytkkpdgfllnbigaagreat", sum := "b6eeb38348605b55c4b6a7f3098cc850f9a6846eea86c0f01344154f787aea1c", func := "estuary/estuarylaw12.RegisterThree", spec := "registerThree", inPlace := ["internal/bytealg.abigen_runtime_cmpstring"], unfollowed := true, recurses := true, plainKeys := false, apart := false }
def RegisterThreeSaid : Prop := registerThreeRow.holds Tryz.pinned (OpenSpec.ofChange registerThreeSpec)

/-- ITS FALSE NEIGHBOUR: 'it returns false'. Refute it at one input. -/
def registerThreeWrong : ChangeSpec := { name := "registerThree", fn := fun _ => fun
  | [d1, d2, d3] => { results := [.lit (.bool false)], args := [d1, d2, d3] }
  | _ => none }
def RegisterThreeWrongFalsely : Prop := registerThreeRow.holds Tryz.pinned (OpenSpec.ofChange registerThreeWrong)

/-- 'estuarylaw13.QueueSteps': WHATEVER THE INPUT: true; the input reads as it did. -/
def queueStepsSpec : ChangeSpec := { name := "queueSteps", fn := fun _ => fun
  | [d1, d2] => { results := [.lit (.bool true)], args := [d1, d2] }
  | _ => none }
def queueStepsRow : OpenClaim := { program := "ytkkpdgfllnbigaagreat", sum := "b6eeb38348605b55c4b6a7f3098cc850f9a6846eea86c0f01344154f787aea1c", func := "estuary/estuarylaw13.QueueSteps", spec := "queueSteps", inPlace := ["internal/bytealg.abigen_runtime_cmpstring"], unfollowed := true, recurses := true, plainKeys := false, apart := false }
def QueueStepsSaid : Prop := queueStepsRow.holds Tryz.pinned (OpenSpec.ofChange queueStepsSpec)

/-- ITS FALSE NEIGHBOUR: 'it returns false'. Refute it at one input. -/
def queueStepsWrong : ChangeSpec := { name := "queueSteps", fn := fun _ => fun
  | [d1, d2] => { results := [.lit (.bool false)], args := [d1, d2] }
  | _ => none }
def QueueStepsWrongFalsely : Prop := queueStepsRow.holds Tryz.pinned (OpenSpec.ofChange queueStepsWrong)

/-- 'estuarylaw13.QueuePops': WHATEVER THE INPUT: true; the input reads as it did. -/
def queuePopsSpec : ChangeSpec := { name := "queuePops", fn := fun _ => fun
  | [d1, d2, d3] => { results := [.lit (.bool true)], args := [d1, d2, d3] }
  | _ => none }
def queuePopsRow : OpenClaim := { program := "ytkkpdgfllnbigaagreat", sum := "b6eeb38348605b55c4b6a7f3098cc850f9a6846eea86c0f01344154f787aea1c", func := "estuary/estuarylaw13.QueuePops", spec := "queuePops", inPlace := ["internal/bytealg.abigen_runtime_cmpstring"], unfollowed := true, recurses := true, plainKeys := false, apart := false }
def QueuePopsSaid : Prop := queuePopsRow.holds Tryz.pinned (OpenSpec.ofChange queuePopsSpec)

/-- ITS FALSE NEIGHBOUR: 'it returns false'. Refute it at one input. -/
def queuePopsWrong : ChangeSpec := { name := "queuePops", fn := fun _ => fun
  | [d1, d2, d3] => { results := [.lit (.bool false)], args := [d1, d2, d3] }
  | _ => none }
def QueuePopsWrongFalsely : Prop := queuePopsRow.holds Tryz.pinned (OpenSpec.ofChange queuePopsWrong)

/-- 'estuarylaw13.QueueMaps': WHATEVER THE INPUT: true; the input reads as it did. -/
def queueMapsSpec : ChangeSpec := { name := "queueMaps", fn := fun _ => fun
  | [d] => { results := [.lit (.bool true)], args := [d] }
  | _ => none }
def queueMapsRow : OpenClaim := { program := "ytkkpdgfllnbigaagreat", sum := "b6eeb38348605b55c4b6a7f3098cc850f9a6846eea86c0f01344154f787aea1c", func := "estuary/estuarylaw13.QueueMaps", spec := "queueMaps", inPlace := ["internal/bytealg.abigen_runtime_cmpstring"], unfollowed := true, recurses := true, plainKeys := false, apart := false }
def QueueMapsSaid : Prop := queueMapsRow.holds Tryz.pinned (OpenSpec.ofChange queueMapsSpec)

/-- ITS FALSE NEIGHBOUR: 'it returns false'. Refute it at one input. -/
def queueMapsWrong : ChangeSpec := { name := "queueMaps", fn := fun _ => fun
  | [d] => { results := [.lit (.bool false)], args := [d] }
  | _ => none }
def QueueMapsWrongFalsely : Prop := queueMapsRow.holds Tryz.pinned (OpenSpec.ofChange queueMapsWrong)

/-- 'estuarylaw13.QueueThree': WHATEVER THE INPUT: true; the input reads as it did. -/
def queueThreeSpec : ChangeSpec := { name := "queueThree", fn := fun _ => fun
  | [d1, d2, d3] => { results := [.lit (.bool true)], args := [d1, d2, d3] }
  | _ => none }
def queueThreeRow : OpenClaim := { program := "ytkkpdgfllnbigaagreat", sum := "b6eeb38348605b55c4b6a7f3098cc850f9a6846eea86c0f01344154f787aea1c", func := "estuary/estuarylaw13.QueueThree", spec := "queueThree", inPlace := ["internal/bytealg.abigen_runtime_cmpstring"], unfollowed := true, recurses := true, plainKeys := false, apart := false }
def QueueThreeSaid : Prop := queueThreeRow.holds Tryz.pinned (OpenSpec.ofChange queueThreeSpec)

/-- ITS FALSE NEIGHBOUR: 'it returns false'. Refute it at one input. -/
def queueThreeWrong : ChangeSpec := { name := "queueThree", fn := fun _ => fun
  | [d1, d2, d3] => { results := [.lit (.bool false)], args := [d1, d2, d3] }
  | _ => none }
def QueueThreeWrongFalsely : Prop := queueThreeRow.holds Tryz.pinned (OpenSpec.ofChange queueThreeWrong)

/-- 'estuarylaw14.JournalAppends': WHATEVER THE INPUT: true; the input reads as it did. -/
def journalAppendsSpec : ChangeSpec := { name := "journalAppends", fn := fun _ => fun
  | [d1, d2, d3] => { results := [.lit (.bool true)], args := [d1, d2, d3] }
  | _ => none }
def journalAppendsRow : OpenClaim := { program := "ytkkpdgfllnbigaagreat", sum := "b6eeb38348605b55c4b6a7f3098cc850f9a6846eea86c0f01344154f787aea1c", func := "estuary/estuarylaw14.JournalAppends", spec := "journalAppends", inPlace := ["internal/bytealg.abigen_runtime_cmpstring"], unfollowed := true, recurses := true, plainKeys := false, apart := false }
def JournalAppendsSaid : Prop := journalAppendsRow.holds Tryz.pinned (OpenSpec.ofChange journalAppendsSpec)

/-- ITS FALSE NEIGHBOUR: 'it returns false'. Refute it at one input. -/
def journalAppendsWrong : ChangeSpec := { name := "journalAppends", fn := fun _ => fun
  | [d1, d2, d3] => { results := [.lit (.bool false)], args := [d1, d2, d3] }
  | _ => none }
def JournalAppendsWrongFalsely : Prop := journalAppendsRow.holds Tryz.pinned (OpenSpec.ofChange journalAppendsWrong)

/-- 'estuarylaw14.JournalParts': WHATEVER THE INPUT: true; the input reads as it did. -/
def journalPartsSpec : ChangeSpec := { name := "journalParts", fn := fun _ => fun
  | [d1, d2, d3] => { results := [.lit (.bool true)], args := [d1, d2, d3] }
  | _ => none }
def journalPartsRow : OpenClaim := { program := "ytkkpdgfllnbigaagreat", sum := "b6eeb38348605b55c4b6a7f3098cc850f9a6846eea86c0f01344154f787aea1c", func := "estuary/estuarylaw14.JournalParts", spec := "journalParts", inPlace := ["internal/bytealg.abigen_runtime_cmpstring"], unfollowed := true, recurses := true, plainKeys := false, apart := false }
def JournalPartsSaid : Prop := journalPartsRow.holds Tryz.pinned (OpenSpec.ofChange journalPartsSpec)

/-- ITS FALSE NEIGHBOUR: 'it returns false'. Refute it at one input. -/
def journalPartsWrong : ChangeSpec := { name := "journalParts", fn := fun _ => fun
  | [d1, d2, d3] => { results := [.lit (.bool false)], args := [d1, d2, d3] }
  | _ => none }
def JournalPartsWrongFalsely : Prop := journalPartsRow.holds Tryz.pinned (OpenSpec.ofChange journalPartsWrong)

/-- 'estuarylaw14.JournalMaps': WHATEVER THE INPUT: true; the input reads as it did. -/
def journalMapsSpec : ChangeSpec := { name := "journalMaps", fn := fun _ => fun
  | [d] => { results := [.lit (.bool true)], args := [d] }
  | _ => none }
def journalMapsRow : OpenClaim := { program := "ytkkpdgfllnbigaagreat", sum := "b6eeb38348605b55c4b6a7f3098cc850f9a6846eea86c0f01344154f787aea1c", func := "estuary/estuarylaw14.JournalMaps", spec := "journalMaps", inPlace := ["internal/bytealg.abigen_runtime_cmpstring"], unfollowed := true, recurses := true, plainKeys := false, apart := false }
def JournalMapsSaid : Prop := journalMapsRow.holds Tryz.pinned (OpenSpec.ofChange journalMapsSpec)

/-- ITS FALSE NEIGHBOUR: 'it returns false'. Refute it at one input. -/
def journalMapsWrong : ChangeSpec := { name := "journalMaps", fn := fun _ => fun
  | [d] => { results := [.lit (.bool false)], args := [d] }
  | _ => none }
def JournalMapsWrongFalsely : Prop := journalMapsRow.holds Tryz.pinned (OpenSpec.ofChange journalMapsWrong)

/-- 'estuarylaw14.JournalThree': WHATEVER THE INPUT: true; the input reads as it did. -/
def journalThreeSpec : ChangeSpec := { name := "journalThree", fn := fun _ => fun
  | [d1, d2, d3] => { results := [.lit (.bool true)], args := [d1, d2, d3] }
  | _ => none }
def journalThreeRow : OpenClaim := { program := "ytkkpdgfllnbigaagreat", sum := "b6eeb38348605b55c4b6a7f3098cc850f9a6846eea86c0f01344154f787aea1c", func := "estuary/estuarylaw14.JournalThree", spec := "journalThree", inPlace := ["internal/bytealg.abigen_runtime_cmpstring"], unfollowed := true, recurses := true, plainKeys := false, apart := false }
def JournalThreeSaid : Prop := journalThreeRow.holds Tryz.pinned (OpenSpec.ofChange journalThreeSpec)

/-- ITS FALSE NEIGHBOUR: 'it returns false'. Refute it at one input. -/
def journalThreeWrong : ChangeSpec := { name := "journalThree", fn := fun _ => fun
  | [d1, d2, d3] => { results := [.lit (.bool false)], args := [d1, d2, d3] }
  | _ => none }
def JournalThreeWrongFalsely : Prop := journalThreeRow.holds Tryz.pinned (OpenSpec.ofChange journalThreeWrong)

/- THE SECOND FORM. 'bulk': how many values and letters a reading holds, each counted each time it is reached (what is shared counts as often as it is met; a slice's spare places count too). A statement '..UptoSaid' is the law's where the arguments, and the package variables that the reading takes, are together of bulk at most 1048576: NARROWER than '..Said'. Prove '..Said' where nothing that the law and all that it calls make is longer than what came in: it says more and counts as full. Else prove '..UptoSaid'. A law counts once. -/
mutual
def uptoBulk {H : Type} : DataW H → Nat
  | .lit (.string bytes) => bytes.length + 1
  | .lit _ => 1
  | .nil => 1
  | .ptr d => uptoBulk d + 1
  | .slice elems spare => uptoBulkAll elems + uptoBulkAll spare + 1
  | .agg parts => uptoBulkAll parts + 1
  | .iface _ d => uptoBulk d + 1
  | .map entries => uptoBulkEntries entries + 1
  | .held _ => 1
def uptoBulkAll {H : Type} : List (DataW H) → Nat
  | [] => 0
  | d :: r => uptoBulk d + uptoBulkAll r
def uptoBulkEntries {H : Type} : List (Lit × DataW H) → Nat
  | [] => 0
  | x :: r => uptoBulkEntry x + uptoBulkEntries r
def uptoBulkEntry {H : Type} : Lit × DataW H → Nat
  | (.string bytes, d) => bytes.length + uptoBulk d + 1
  | (_, d) => uptoBulk d + 1
 end
def uptoSmall : (H : Type) → List (DataW H) → Bool := fun _ ds => decide (uptoBulkAll ds ≤ 1048576)
def OpenSpec.upto (s : _root_.Go.ChangeSpec) : _root_.Go.OpenSpec := { _root_.Go.OpenSpec.ofChange s with cond := some uptoSmall }

/-- 'estuarylaw11.TagsetSteps', WHERE WHAT IT READS IS OF BULK AT MOST 1048576: true; the input reads as it did. -/
def tagsetStepsUptoRow : OpenClaim := { program := "ytkkpdgfllnbigaagreat", sum := "b6eeb38348605b55c4b6a7f3098cc850f9a6846eea86c0f01344154f787aea1c", func := "estuary/estuarylaw11.TagsetSteps", spec := "tagsetSteps", inPlace := ["internal/bytealg.abigen_runtime_cmpstring"], unfollowed := true, recurses := true, plainKeys := false, apart := false, narrowed := true }
def TagsetStepsUptoSaid : Prop := tagsetStepsUptoRow.holds Tryz.pinned (OpenSpec.upto tagsetStepsSpec)

/-- 'estuarylaw11.TagsetMaps', WHERE WHAT IT READS IS OF BULK AT MOST 1048576: true; the input reads as it did. -/
def tagsetMapsUptoRow : OpenClaim := { program := "ytkkpdgfllnbigaagreat", sum := "b6eeb38348605b55c4b6a7f3098cc850f9a6846eea86c0f01344154f787aea1c", func := "estuary/estuarylaw11.TagsetMaps", spec := "tagsetMaps", inPlace := ["internal/bytealg.abigen_runtime_cmpstring"], unfollowed := true, recurses := true, plainKeys := false, apart := false, narrowed := true }
def TagsetMapsUptoSaid : Prop := tagsetMapsUptoRow.holds Tryz.pinned (OpenSpec.upto tagsetMapsSpec)

/-- 'estuarylaw11.TagsetThree', WHERE WHAT IT READS IS OF BULK AT MOST 1048576: true; the input reads as it did. -/
def tagsetThreeUptoRow : OpenClaim := { program := "ytkkpdgfllnbigaagreat", sum := "b6eeb38348605b55c4b6a7f3098cc850f9a6846eea86c0f01344154f787aea1c", func := "estuary/estuarylaw11.TagsetThree", spec := "tagsetThree", inPlace := ["internal/bytealg.abigen_runtime_cmpstring"], unfollowed := true, recurses := true, plainKeys := false, apart := false, narrowed := true }
def TagsetThreeUptoSaid : Prop := tagsetThreeUptoRow.holds Tryz.pinned (OpenSpec.upto tagsetThreeSpec)

/-- 'estuarylaw12.RegisterWrites', WHERE WHAT IT READS IS OF BULK AT MOST 1048576: true; the input reads as it did. -/
def registerWritesUptoRow : OpenClaim := { program := "ytkkpdgfllnbigaagreat", sum := "b6eeb38348605b55c4b6a7f3098cc850f9a6846eea86c0f01344154f787aea1c", func := "estuary/estuarylaw12.RegisterWrites", spec := "registerWrites", inPlace := ["internal/bytealg.abigen_runtime_cmpstring"], unfollowed := true, recurses := true, plainKeys := false, apart := false, narrowed := true }
def RegisterWritesUptoSaid : Prop := registerWritesUptoRow.holds Tryz.pinned (OpenSpec.upto registerWritesSpec)

/-- 'estuarylaw12.RegisterMaps', WHERE WHAT IT READS IS OF BULK AT MOST 1048576: true; the input reads as it did. -/
def registerMapsUptoRow : OpenClaim := { program := "ytkkpdgfllnbigaagreat", sum := "b6eeb38348605b55c4b6a7f3098cc850f9a6846eea86c0f01344154f787aea1c", func := "estuary/estuarylaw12.RegisterMaps", spec := "registerMaps", inPlace := ["internal/bytealg.abigen_runtime_cmpstring"], unfollowed := true, recurses := true, plainKeys := false, apart := false, narrowed := true }
def RegisterMapsUptoSaid : Prop := registerMapsUptoRow.holds Tryz.pinned (OpenSpec.upto registerMapsSpec)

/-- 'estuarylaw12.RegisterThree', WHERE WHAT IT READS IS OF BULK AT MOST 1048576: true; the input reads as it did. -/
def registerThreeUptoRow : OpenClaim := { program := "ytkkpdgfllnbigaagreat", sum := "b6eeb38348605b55c4b6a7f3098cc850f9a6846eea86c0f01344154f787aea1c", func := "estuary/estuarylaw12.RegisterThree", spec := "registerThree", inPlace := ["internal/bytealg.abigen_runtime_cmpstring"], unfollowed := true, recurses := true, plainKeys := false, apart := false, narrowed := true }
def RegisterThreeUptoSaid : Prop := registerThreeUptoRow.holds Tryz.pinned (OpenSpec.upto registerThreeSpec)

/-- 'estuarylaw13.QueueSteps', WHERE WHAT IT READS IS OF BULK AT MOST 1048576: true; the input reads as it did. -/
def queueStepsUptoRow : OpenClaim := { program := "ytkkpdgfllnbigaagreat", sum := "b6eeb38348605b55c4b6a7f3098cc850f9a6846eea86c0f01344154f787aea1c", func := "estuary/estuarylaw13.QueueSteps", spec := "queueSteps", inPlace := ["internal/bytealg.abigen_runtime_cmpstring"], unfollowed := true, recurses := true, plainKeys := false, apart := false, narrowed := true }
def QueueStepsUptoSaid : Prop := queueStepsUptoRow.holds Tryz.pinned (OpenSpec.upto queueStepsSpec)

/-- 'estuarylaw13.QueuePops', WHERE WHAT IT READS IS OF BULK AT MOST 1048576: true; the input reads as it did. -/
def queuePopsUptoRow : OpenClaim := { program := "ytkkpdgfllnbigaagreat", sum := "b6eeb38348605b55c4b6a7f3098cc850f9a6846eea86c0f01344154f787aea1c", func := "estuary/estuarylaw13.QueuePops", spec := "queuePops", inPlace := ["internal/bytealg.abigen_runtime_cmpstring"], unfollowed := true, recurses := true, plainKeys := false, apart := false, narrowed := true }
def QueuePopsUptoSaid : Prop := queuePopsUptoRow.holds Tryz.pinned (OpenSpec.upto queuePopsSpec)

/-- 'estuarylaw13.QueueMaps', WHERE WHAT IT READS IS OF BULK AT MOST 1048576: true; the input reads as it did. -/
def queueMapsUptoRow : OpenClaim := { program := "ytkkpdgfllnbigaagreat", sum := "b6eeb38348605b55c4b6a7f3098cc850f9a6846eea86c0f01344154f787aea1c", func := "estuary/estuarylaw13.QueueMaps", spec := "queueMaps", inPlace := ["internal/bytealg.abigen_runtime_cmpstring"], unfollowed := true, recurses := true, plainKeys := false, apart := false, narrowed := true }
def QueueMapsUptoSaid : Prop := queueMapsUptoRow.holds Tryz.pinned (OpenSpec.upto queueMapsSpec)

/-- 'estuarylaw13.QueueThree', WHERE WHAT IT READS IS OF BULK AT MOST 1048576: true; the input reads as it did. -/
def queueThreeUptoRow : OpenClaim := { program := "ytkkpdgfllnbigaagreat", sum := "b6eeb38348605b55c4b6a7f3098cc850f9a6846eea86c0f01344154f787aea1c", func := "estuary/estuarylaw13.QueueThree", spec := "queueThree", inPlace := ["internal/bytealg.abigen_runtime_cmpstring"], unfollowed := true, recurses := true, plainKeys := false, apart := false, narrowed := true }
def QueueThreeUptoSaid : Prop := queueThreeUptoRow.holds Tryz.pinned (OpenSpec.upto queueThreeSpec)

/-- 'estuarylaw14.JournalAppends', WHERE WHAT IT READS IS OF BULK AT MOST 1048576: true; the input reads as it did. -/
def journalAppendsUptoRow : OpenClaim := { program := "ytkkpdgfllnbigaagreat", sum := "b6eeb38348605b55c4b6a7f3098cc850f9a6846eea86c0f01344154f787aea1c", func := "estuary/estuarylaw14.JournalAppends", spec := "journalAppends", inPlace := ["internal/bytealg.abigen_runtime_cmpstring"], unfollowed := true, recurses := true, plainKeys := false, apart := false, narrowed := true }
def JournalAppendsUptoSaid : Prop := journalAppendsUptoRow.holds Tryz.pinned (OpenSpec.upto journalAppendsSpec)

/-- 'estuarylaw14.JournalParts', WHERE WHAT IT READS IS OF BULK AT MOST 1048576: true; the input reads as it did. -/
def journalPartsUptoRow : OpenClaim := { program := "ytkkpdgfllnbigaagreat", sum := "b6eeb38348605b55c4b6a7f3098cc850f9a6846eea86c0f01344154f787aea1c", func := "estuary/estuarylaw14.JournalParts", spec := "journalParts", inPlace := ["internal/bytealg.abigen_runtime_cmpstring"], unfollowed := true, recurses := true, plainKeys := false, apart := false, narrowed := true }
def JournalPartsUptoSaid : Prop := journalPartsUptoRow.holds Tryz.pinned (OpenSpec.upto journalPartsSpec)

/-- 'estuarylaw14.JournalMaps', WHERE WHAT IT READS IS OF BULK AT MOST 1048576: true; the input reads as it did. -/
def journalMapsUptoRow : OpenClaim := { program := "ytkkpdgfllnbigaagreat", sum := "b6eeb38348605b55c4b6a7f3098cc850f9a6846eea86c0f01344154f787aea1c", func := "estuary/estuarylaw14.JournalMaps", spec := "journalMaps", inPlace := ["internal/bytealg.abigen_runtime_cmpstring"], unfollowed := true, recurses := true, plainKeys := false, apart := false, narrowed := true }
def JournalMapsUptoSaid : Prop := journalMapsUptoRow.holds Tryz.pinned (OpenSpec.upto journalMapsSpec)

/-- 'estuarylaw14.JournalThree', WHERE WHAT IT READS IS OF BULK AT MOST 1048576: true; the input reads as it did. -/
def journalThreeUptoRow : OpenClaim := { program := "ytkkpdgfllnbigaagreat", sum := "b6eeb38348605b55c4b6a7f3098cc850f9a6846eea86c0f01344154f787aea1c", func := "estuary/estuarylaw14.JournalThree", spec := "journalThree", inPlace := ["internal/bytealg.abigen_runtime_cmpstring"], unfollowed := true, recurses := true, plainKeys := false, apart := false, narrowed := true }
def JournalThreeUptoSaid : Prop := journalThreeUptoRow.holds Tryz.pinned (OpenSpec.upto journalThreeSpec)

end Rows
end Go.Proofs.YtkkpdgfllnbigaaGreat
