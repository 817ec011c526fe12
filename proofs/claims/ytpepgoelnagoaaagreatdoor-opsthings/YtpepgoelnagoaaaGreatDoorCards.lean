/-
  DERIVED. GIVEN WITH THE SEED: THE CARDS: each row of YtpepgoelnagoaaaGreatDoorRows.lean that lists a variable, with what it lists TIED to the program's text (the seventh form; the later family's looks); each row that meets fmt, with fmt's text TOLD by the authors' own Lean function (tested against real Go, not proved from fmt's source: count such statements apart). THE CARD IS WHAT COUNTS. Prove the row's statement (the work); the ties are given (YtpepgoelnagoaaaGreatDoorTie.lean); close each card by the builder's one call (the guide's Derived/Test/ToyasCard.lean, 'card_holds'). Laid BY PROGRAM, IN A SANDBOX (cutbox-door.mjs). By AI agents, Wed Nov 11 2026. No macro, syntax, notation, axiom, sorry.
-/
import Derived.Test.YtpepgoelnagoaaaGreatDoorRows
import GoSem.ClaimSeven
namespace Go.Proofs.YtpepgoelnagoaaaGreatDoor
namespace Rows

/-- THE TIED CARD OF 'estuarylaw16.OpsWrites'. -/
def opsWritesCard : Claim7 := { stood := { row := opsWritesRow, standIns := [], harness := (true, "088363702261389223ad2eb78ef9daa34bc2599fd125b9a322641c10ef3c92b3"), looks := true }, kinds := [], alts := [], laidByText := true, laidKinds := [.data, .data, .data, .data, .pinned], laidTests := true, laidLooks := .later }
def OpsWritesCardSaid : Prop := Claim7.holds Tryz.pinned (.plain (OpenSpec.ofChange opsWritesSpec)) opsWritesCard

/-- THE TIED CARD OF 'estuarylaw16.OpsReads'. -/
def opsReadsCard : Claim7 := { stood := { row := opsReadsRow, standIns := [], harness := (true, "088363702261389223ad2eb78ef9daa34bc2599fd125b9a322641c10ef3c92b3"), looks := true }, kinds := [], alts := [], laidByText := true, laidKinds := [.data, .data, .data, .data, .sentinel, .sentinel, .pinned], laidTests := true, laidLooks := .later }
def OpsReadsCardSaid : Prop := Claim7.holds Tryz.pinned (.plain (OpenSpec.ofChange opsReadsSpec)) opsReadsCard

/-- THE TIED CARD OF 'estuarylaw16.OpsThings'. -/
def opsThingsCard : Claim7 := { stood := { row := opsThingsRow, standIns := [], harness := (true, "088363702261389223ad2eb78ef9daa34bc2599fd125b9a322641c10ef3c92b3"), looks := true }, kinds := [], alts := [], laidByText := true, laidKinds := [.data, .data, .data, .data, .pinned], laidTests := true, laidLooks := .later }
def OpsThingsCardSaid : Prop := Claim7.holds Tryz.pinned (.plain (OpenSpec.ofChange opsThingsSpec)) opsThingsCard

/-- THE TIED CARD OF 'estuarylaw16.OpsBack'. -/
def opsBackCard : Claim7 := { stood := { row := opsBackRow, standIns := [], harness := (true, "088363702261389223ad2eb78ef9daa34bc2599fd125b9a322641c10ef3c92b3"), looks := true }, kinds := [], alts := [], laidByText := true, laidKinds := [.data, .data, .data, .data, .pinned], laidTests := true, laidLooks := .later }
def OpsBackCardSaid : Prop := Claim7.holds Tryz.pinned (.plain (OpenSpec.ofChange opsBackSpec)) opsBackCard

/-- THE TIED CARD OF 'estuarylaw16.OpsNil'. -/
def opsNilCard : Claim7 := { stood := { row := opsNilRow, standIns := [], harness := (true, "088363702261389223ad2eb78ef9daa34bc2599fd125b9a322641c10ef3c92b3"), looks := true }, kinds := [], alts := [], laidByText := true, laidKinds := [.data, .data, .data, .data, .pinned], laidTests := true, laidLooks := .later }
def OpsNilCardSaid : Prop := Claim7.holds Tryz.pinned (.plain (OpenSpec.ofChange opsNilSpec)) opsNilCard

/-- THE SECOND FORM's CARD OF 'estuarylaw16.OpsWrites'. -/
def opsWritesUptoCard : Claim7 := { stood := { row := opsWritesUptoRow, standIns := [], harness := (true, "088363702261389223ad2eb78ef9daa34bc2599fd125b9a322641c10ef3c92b3"), looks := true }, kinds := [], alts := [], laidByText := true, laidKinds := [.data, .data, .data, .data, .pinned], laidTests := true, laidLooks := .later }
def OpsWritesUptoCardSaid : Prop := Claim7.holds Tryz.pinned (.plain (OpenSpec.upto opsWritesSpec)) opsWritesUptoCard

/-- THE SECOND FORM's CARD OF 'estuarylaw16.OpsReads'. -/
def opsReadsUptoCard : Claim7 := { stood := { row := opsReadsUptoRow, standIns := [], harness := (true, "088363702261389223ad2eb78ef9daa34bc2599fd125b9a322641c10ef3c92b3"), looks := true }, kinds := [], alts := [], laidByText := true, laidKinds := [.data, .data, .data, .data, .sentinel, .sentinel, .pinned], laidTests := true, laidLooks := .later }
def OpsReadsUptoCardSaid : Prop := Claim7.holds Tryz.pinned (.plain (OpenSpec.upto opsReadsSpec)) opsReadsUptoCard

/-- THE SECOND FORM's CARD OF 'estuarylaw16.OpsThings'. -/
def opsThingsUptoCard : Claim7 := { stood := { row := opsThingsUptoRow, standIns := [], harness := (true, "088363702261389223ad2eb78ef9daa34bc2599fd125b9a322641c10ef3c92b3"), looks := true }, kinds := [], alts := [], laidByText := true, laidKinds := [.data, .data, .data, .data, .pinned], laidTests := true, laidLooks := .later }
def OpsThingsUptoCardSaid : Prop := Claim7.holds Tryz.pinned (.plain (OpenSpec.upto opsThingsSpec)) opsThingsUptoCard

/-- THE SECOND FORM's CARD OF 'estuarylaw16.OpsBack'. -/
def opsBackUptoCard : Claim7 := { stood := { row := opsBackUptoRow, standIns := [], harness := (true, "088363702261389223ad2eb78ef9daa34bc2599fd125b9a322641c10ef3c92b3"), looks := true }, kinds := [], alts := [], laidByText := true, laidKinds := [.data, .data, .data, .data, .pinned], laidTests := true, laidLooks := .later }
def OpsBackUptoCardSaid : Prop := Claim7.holds Tryz.pinned (.plain (OpenSpec.upto opsBackSpec)) opsBackUptoCard

/-- THE SECOND FORM's CARD OF 'estuarylaw16.OpsNil'. -/
def opsNilUptoCard : Claim7 := { stood := { row := opsNilUptoRow, standIns := [], harness := (true, "088363702261389223ad2eb78ef9daa34bc2599fd125b9a322641c10ef3c92b3"), looks := true }, kinds := [], alts := [], laidByText := true, laidKinds := [.data, .data, .data, .data, .pinned], laidTests := true, laidLooks := .later }
def OpsNilUptoCardSaid : Prop := Claim7.holds Tryz.pinned (.plain (OpenSpec.upto opsNilSpec)) opsNilUptoCard
end Rows
end Go.Proofs.YtpepgoelnagoaaaGreatDoor
