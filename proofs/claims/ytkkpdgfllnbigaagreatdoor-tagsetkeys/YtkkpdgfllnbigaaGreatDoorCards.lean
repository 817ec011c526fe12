/-
  DERIVED. GIVEN WITH THE SEED: THE CARDS: each row of YtkkpdgfllnbigaaGreatDoorRows.lean that lists a variable, with what it lists TIED to the program's text (the seventh form; the later family's looks); each row that meets fmt, with fmt's text TOLD by the authors' own Lean function (tested against real Go, not proved from fmt's source: count such statements apart). THE CARD IS WHAT COUNTS. Prove the row's statement (the work); the ties are given (YtkkpdgfllnbigaaGreatDoorTie.lean); close each card by the builder's one call (the guide's Derived/Test/ToyasCard.lean, 'card_holds'). Laid BY PROGRAM, IN A SANDBOX (cutbox-door.mjs). By AI agents, Wed Nov 11 2026. No macro, syntax, notation, axiom, sorry.
-/
import Derived.Test.YtkkpdgfllnbigaaGreatDoorRows
import GoSem.ClaimSeven
namespace Go.Proofs.YtkkpdgfllnbigaaGreatDoor
namespace Rows

/-- THE TIED CARD OF 'estuarylaw11.TagsetKeys'. -/
def tagsetKeysCard : Claim7 := { stood := { row := tagsetKeysRow, standIns := [], harness := (true, "7c2bd7a8fc73c31d404544e05d1031ad3cc12e9ce3768c1286de57736d005701"), looks := false }, kinds := [], alts := [], laidByText := true, laidKinds := [.data, .pinned], laidTests := true, laidLooks := .later }
def TagsetKeysCardSaid : Prop := Claim7.holds Tryz.pinned (.plain (OpenSpec.ofChange tagsetKeysSpec)) tagsetKeysCard

/-- THE SECOND FORM's CARD OF 'estuarylaw11.TagsetKeys'. -/
def tagsetKeysUptoCard : Claim7 := { stood := { row := tagsetKeysUptoRow, standIns := [], harness := (true, "7c2bd7a8fc73c31d404544e05d1031ad3cc12e9ce3768c1286de57736d005701"), looks := false }, kinds := [], alts := [], laidByText := true, laidKinds := [.data, .pinned], laidTests := true, laidLooks := .later }
def TagsetKeysUptoCardSaid : Prop := Claim7.holds Tryz.pinned (.plain (OpenSpec.upto tagsetKeysSpec)) tagsetKeysUptoCard
end Rows
end Go.Proofs.YtkkpdgfllnbigaaGreatDoor
