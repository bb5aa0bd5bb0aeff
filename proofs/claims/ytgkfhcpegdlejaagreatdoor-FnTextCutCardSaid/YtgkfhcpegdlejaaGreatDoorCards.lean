/-
  DERIVED. GIVEN WITH THE SEED: THE CARDS: each row of YtgkfhcpegdlejaaGreatDoorRows.lean that lists a variable, with what it lists TIED to the program's text (the seventh form; the later family's looks); each row that meets fmt, with fmt's text TOLD by the authors' own Lean function (tested against real Go, not proved from fmt's source: count such statements apart). THE CARD IS WHAT COUNTS. Prove the row's statement (the work); the ties are given (YtgkfhcpegdlejaaGreatDoorTie.lean); close each card by the builder's one call (the guide's Derived/Test/ToyasCard.lean, 'card_holds'). Laid BY PROGRAM, IN A SANDBOX (cutbox-door.mjs). By AI agents, Wed Nov 11 2026. No macro, syntax, notation, axiom, sorry.
-/
import Derived.Test.YtgkfhcpegdlejaaGreatDoorRows
import GoSem.ClaimSeven
namespace Go.Proofs.YtgkfhcpegdlejaaGreatDoor
namespace Rows

/-- THE TIED CARD OF 'laws.FnTextCut'. -/
def fnTextCutCard : Claim7 := { stood := { row := fnTextCutRow, standIns := [], harness := (true, "746f304be6d7dd424fa475076bfb9560a50c5c9e8f23568e89e76ca5e05b4fd3"), looks := true }, kinds := [], alts := [], laidByText := true, laidKinds := [.sentinel, .sentinel, .data], laidTests := true, laidLooks := .later }
def FnTextCutCardSaid : Prop := Claim7.holds Tryz.pinned (.plain (OpenSpec.ofChange fnTextCutSpec)) fnTextCutCard

/-- THE TIED CARD OF 'laws.FnTextDo'. -/
def fnTextDoCard : Claim7 := { stood := { row := fnTextDoRow, standIns := [], harness := (true, "746f304be6d7dd424fa475076bfb9560a50c5c9e8f23568e89e76ca5e05b4fd3"), looks := true }, kinds := [], alts := [], laidByText := true, laidKinds := [.sentinel, .sentinel, .sentinel, .sentinel, .sentinel, .sentinel, .sentinel, .sentinel, .data, .data], laidTests := true, laidLooks := .later }
def FnTextDoCardSaid : Prop := Claim7.holds Tryz.pinned (.plain (OpenSpec.ofChange fnTextDoSpec)) fnTextDoCard

/-- THE SECOND FORM's CARD OF 'laws.FnTextCut'. -/
def fnTextCutUptoCard : Claim7 := { stood := { row := fnTextCutUptoRow, standIns := [], harness := (true, "746f304be6d7dd424fa475076bfb9560a50c5c9e8f23568e89e76ca5e05b4fd3"), looks := true }, kinds := [], alts := [], laidByText := true, laidKinds := [.sentinel, .sentinel, .data], laidTests := true, laidLooks := .later }
def FnTextCutUptoCardSaid : Prop := Claim7.holds Tryz.pinned (.plain (OpenSpec.upto fnTextCutSpec)) fnTextCutUptoCard

/-- THE SECOND FORM's CARD OF 'laws.FnTextDo'. -/
def fnTextDoUptoCard : Claim7 := { stood := { row := fnTextDoUptoRow, standIns := [], harness := (true, "746f304be6d7dd424fa475076bfb9560a50c5c9e8f23568e89e76ca5e05b4fd3"), looks := true }, kinds := [], alts := [], laidByText := true, laidKinds := [.sentinel, .sentinel, .sentinel, .sentinel, .sentinel, .sentinel, .sentinel, .sentinel, .data, .data], laidTests := true, laidLooks := .later }
def FnTextDoUptoCardSaid : Prop := Claim7.holds Tryz.pinned (.plain (OpenSpec.upto fnTextDoSpec)) fnTextDoUptoCard
end Rows
end Go.Proofs.YtgkfhcpegdlejaaGreatDoor
