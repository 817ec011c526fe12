/-
  DERIVED. GIVEN WITH THE SEED: THE CARDS: each row of YtcpigbojebjlaaaDoorRows.lean that lists a variable, with what it lists TIED to the program's text (the seventh form; the later family's looks); each row that meets fmt, with fmt's text TOLD by the authors' own Lean function (tested against real Go, not proved from fmt's source: count such statements apart). THE CARD IS WHAT COUNTS. Prove the row's statement (the work); the ties are given (YtcpigbojebjlaaaDoorTie.lean); close each card by the builder's one call (the guide's Derived/Test/ToyasCard.lean, 'card_holds'). Laid BY PROGRAM, IN A SANDBOX (cutbox-door.mjs). By AI agents, Wed Nov 11 2026. No macro, syntax, notation, axiom, sorry.
-/
import Derived.Test.YtcpigbojebjlaaaDoorRows
import GoSem.ClaimSeven
namespace Go.Proofs.YtcpigbojebjlaaaDoor
namespace Rows

/-- THE TIED CARD OF 'estuarylaw05.KeysKinds'. -/
def keysKindsCard : Claim7 := { stood := { row := keysKindsRow, standIns := [], harness := (true, "110da141574977ff2f85629269b0a7b2b29869c60f44174dc9fd444e8af806cf"), looks := false }, kinds := [], alts := [], laidByText := true, laidKinds := [.data, .pinned], laidTests := true, laidLooks := .later }
def KeysKindsCardSaid : Prop := Claim7.holds Tryd.pinned (.plain (OpenSpec.ofChange keysKindsSpec)) keysKindsCard

/-- THE TIED CARD OF 'estuarylaw05.KeysPaths'. -/
def keysPathsCard : Claim7 := { stood := { row := keysPathsRow, standIns := [], harness := (true, "110da141574977ff2f85629269b0a7b2b29869c60f44174dc9fd444e8af806cf"), looks := false }, kinds := [], alts := [], laidByText := true, laidKinds := [.data, .pinned], laidTests := true, laidLooks := .later }
def KeysPathsCardSaid : Prop := Claim7.holds Tryd.pinned (.plain (OpenSpec.ofChange keysPathsSpec)) keysPathsCard

/-- THE TIED CARD OF 'estuarylaw05.KeysOrders'. -/
def keysOrdersCard : Claim7 := { stood := { row := keysOrdersRow, standIns := [], harness := (true, "110da141574977ff2f85629269b0a7b2b29869c60f44174dc9fd444e8af806cf"), looks := false }, kinds := [], alts := [], laidByText := true, laidKinds := [.data, .pinned], laidTests := true, laidLooks := .later }
def KeysOrdersCardSaid : Prop := Claim7.holds Tryd.pinned (.plain (OpenSpec.ofChange keysOrdersSpec)) keysOrdersCard

/-- THE TIED CARD OF 'estuarylaw05.KeysOrder'. -/
def keysOrderCard : Claim7 := { stood := { row := keysOrderRow, standIns := [], harness := (true, "110da141574977ff2f85629269b0a7b2b29869c60f44174dc9fd444e8af806cf"), looks := false }, kinds := [], alts := [], laidByText := true, laidKinds := [.data, .pinned], laidTests := true, laidLooks := .later }
def KeysOrderCardSaid : Prop := Claim7.holds Tryd.pinned (.plain (OpenSpec.ofChange keysOrderSpec)) keysOrderCard

/-- THE SECOND FORM's CARD OF 'estuarylaw05.KeysKinds'. -/
def keysKindsUptoCard : Claim7 := { stood := { row := keysKindsUptoRow, standIns := [], harness := (true, "110da141574977ff2f85629269b0a7b2b29869c60f44174dc9fd444e8af806cf"), looks := false }, kinds := [], alts := [], laidByText := true, laidKinds := [.data, .pinned], laidTests := true, laidLooks := .later }
def KeysKindsUptoCardSaid : Prop := Claim7.holds Tryd.pinned (.plain (OpenSpec.upto keysKindsSpec)) keysKindsUptoCard

/-- THE SECOND FORM's CARD OF 'estuarylaw05.KeysPaths'. -/
def keysPathsUptoCard : Claim7 := { stood := { row := keysPathsUptoRow, standIns := [], harness := (true, "110da141574977ff2f85629269b0a7b2b29869c60f44174dc9fd444e8af806cf"), looks := false }, kinds := [], alts := [], laidByText := true, laidKinds := [.data, .pinned], laidTests := true, laidLooks := .later }
def KeysPathsUptoCardSaid : Prop := Claim7.holds Tryd.pinned (.plain (OpenSpec.upto keysPathsSpec)) keysPathsUptoCard

/-- THE SECOND FORM's CARD OF 'estuarylaw05.KeysOrders'. -/
def keysOrdersUptoCard : Claim7 := { stood := { row := keysOrdersUptoRow, standIns := [], harness := (true, "110da141574977ff2f85629269b0a7b2b29869c60f44174dc9fd444e8af806cf"), looks := false }, kinds := [], alts := [], laidByText := true, laidKinds := [.data, .pinned], laidTests := true, laidLooks := .later }
def KeysOrdersUptoCardSaid : Prop := Claim7.holds Tryd.pinned (.plain (OpenSpec.upto keysOrdersSpec)) keysOrdersUptoCard

/-- THE SECOND FORM's CARD OF 'estuarylaw05.KeysOrder'. -/
def keysOrderUptoCard : Claim7 := { stood := { row := keysOrderUptoRow, standIns := [], harness := (true, "110da141574977ff2f85629269b0a7b2b29869c60f44174dc9fd444e8af806cf"), looks := false }, kinds := [], alts := [], laidByText := true, laidKinds := [.data, .pinned], laidTests := true, laidLooks := .later }
def KeysOrderUptoCardSaid : Prop := Claim7.holds Tryd.pinned (.plain (OpenSpec.upto keysOrderSpec)) keysOrderUptoCard
end Rows
end Go.Proofs.YtcpigbojebjlaaaDoor
