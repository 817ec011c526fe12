/-
  DERIVED. GIVEN WITH THE SEED: THE CARDS: each row of YtkdgageljgfgoaaGreatDoorRows.lean that lists a variable, with what it lists TIED to the program's text (the seventh form; the later family's looks); each row that meets fmt, with fmt's text TOLD by the authors' own Lean function (tested against real Go, not proved from fmt's source: count such statements apart). THE CARD IS WHAT COUNTS. Prove the row's statement (the work); the ties are given (YtkdgageljgfgoaaGreatDoorTie.lean); close each card by the builder's one call (the guide's Derived/Test/ToyasCard.lean, 'card_holds'). Laid BY PROGRAM, IN A SANDBOX (cutbox-door.mjs). By AI agents, Wed Nov 11 2026. No macro, syntax, notation, axiom, sorry.
-/
import Derived.Test.YtkdgageljgfgoaaGreatDoorRows
import GoSem.ClaimSeven
namespace Go.Proofs.YtkdgageljgfgoaaGreatDoor
namespace Rows

/-- THE TIED CARD OF 'estuarylaw09.KindsOps'. -/
def kindsOpsCard : Claim7 := { stood := { row := kindsOpsRow, standIns := [], harness := (true, "fb965b61278d08c7d71644f63635ac681d07c9f754f1bb227ef122d1ac0a04ee"), looks := false }, kinds := [], alts := [], laidByText := true, laidKinds := [.data, .pinned], laidTests := true, laidLooks := .later }
def KindsOpsCardSaid : Prop := Claim7.holds Tryz.pinned (.plain (OpenSpec.ofChange kindsOpsSpec)) kindsOpsCard

/-- THE TIED CARD OF 'estuarylaw09.KindsApplies'. -/
def kindsAppliesCard : Claim7 := { stood := { row := kindsAppliesRow, standIns := [], harness := (true, "fb965b61278d08c7d71644f63635ac681d07c9f754f1bb227ef122d1ac0a04ee"), looks := false }, kinds := [], alts := [], laidByText := true, laidKinds := [.data, .pinned], laidTests := true, laidLooks := .later }
def KindsAppliesCardSaid : Prop := Claim7.holds Tryz.pinned (.plain (OpenSpec.ofChange kindsAppliesSpec)) kindsAppliesCard

/-- THE TIED CARD OF 'estuarylaw09.KindsThree'. -/
def kindsThreeCard : Claim7 := { stood := { row := kindsThreeRow, standIns := [], harness := (true, "fb965b61278d08c7d71644f63635ac681d07c9f754f1bb227ef122d1ac0a04ee"), looks := false }, kinds := [], alts := [], laidByText := true, laidKinds := [.data, .pinned], laidTests := true, laidLooks := .later }
def KindsThreeCardSaid : Prop := Claim7.holds Tryz.pinned (.plain (OpenSpec.ofChange kindsThreeSpec)) kindsThreeCard

/-- THE TIED CARD OF 'estuarylaw09.KindsTogether'. -/
def kindsTogetherCard : Claim7 := { stood := { row := kindsTogetherRow, standIns := [], harness := (true, "fb965b61278d08c7d71644f63635ac681d07c9f754f1bb227ef122d1ac0a04ee"), looks := false }, kinds := [], alts := [], laidByText := true, laidKinds := [.data, .pinned], laidTests := true, laidLooks := .later }
def KindsTogetherCardSaid : Prop := Claim7.holds Tryz.pinned (.plain (OpenSpec.ofChange kindsTogetherSpec)) kindsTogetherCard

/-- THE SECOND FORM's CARD OF 'estuarylaw09.KindsOps'. -/
def kindsOpsUptoCard : Claim7 := { stood := { row := kindsOpsUptoRow, standIns := [], harness := (true, "fb965b61278d08c7d71644f63635ac681d07c9f754f1bb227ef122d1ac0a04ee"), looks := false }, kinds := [], alts := [], laidByText := true, laidKinds := [.data, .pinned], laidTests := true, laidLooks := .later }
def KindsOpsUptoCardSaid : Prop := Claim7.holds Tryz.pinned (.plain (OpenSpec.upto kindsOpsSpec)) kindsOpsUptoCard

/-- THE SECOND FORM's CARD OF 'estuarylaw09.KindsApplies'. -/
def kindsAppliesUptoCard : Claim7 := { stood := { row := kindsAppliesUptoRow, standIns := [], harness := (true, "fb965b61278d08c7d71644f63635ac681d07c9f754f1bb227ef122d1ac0a04ee"), looks := false }, kinds := [], alts := [], laidByText := true, laidKinds := [.data, .pinned], laidTests := true, laidLooks := .later }
def KindsAppliesUptoCardSaid : Prop := Claim7.holds Tryz.pinned (.plain (OpenSpec.upto kindsAppliesSpec)) kindsAppliesUptoCard

/-- THE SECOND FORM's CARD OF 'estuarylaw09.KindsThree'. -/
def kindsThreeUptoCard : Claim7 := { stood := { row := kindsThreeUptoRow, standIns := [], harness := (true, "fb965b61278d08c7d71644f63635ac681d07c9f754f1bb227ef122d1ac0a04ee"), looks := false }, kinds := [], alts := [], laidByText := true, laidKinds := [.data, .pinned], laidTests := true, laidLooks := .later }
def KindsThreeUptoCardSaid : Prop := Claim7.holds Tryz.pinned (.plain (OpenSpec.upto kindsThreeSpec)) kindsThreeUptoCard

/-- THE SECOND FORM's CARD OF 'estuarylaw09.KindsTogether'. -/
def kindsTogetherUptoCard : Claim7 := { stood := { row := kindsTogetherUptoRow, standIns := [], harness := (true, "fb965b61278d08c7d71644f63635ac681d07c9f754f1bb227ef122d1ac0a04ee"), looks := false }, kinds := [], alts := [], laidByText := true, laidKinds := [.data, .pinned], laidTests := true, laidLooks := .later }
def KindsTogetherUptoCardSaid : Prop := Claim7.holds Tryz.pinned (.plain (OpenSpec.upto kindsTogetherSpec)) kindsTogetherUptoCard
end Rows
end Go.Proofs.YtkdgageljgfgoaaGreatDoor
