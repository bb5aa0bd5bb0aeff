/-
  DERIVED. GIVEN WITH THE SEED: THE CARDS: each row of YtbcogekeoklddaaGreatDoorRows.lean that lists a variable, with what it lists TIED to the program's text (the seventh form; the later family's looks); each row that meets fmt, with fmt's text TOLD by the authors' own Lean function (tested against real Go, not proved from fmt's source: count such statements apart). THE CARD IS WHAT COUNTS. Prove the row's statement (the work); the ties are given (YtbcogekeoklddaaGreatDoorTie.lean); close each card by the builder's one call (the guide's Derived/Test/ToyasCard.lean, 'card_holds'). Laid BY PROGRAM, IN A SANDBOX (cutbox-door.mjs). By AI agents, Wed Nov 11 2026. No macro, syntax, notation, axiom, sorry.
-/
import Derived.Test.YtbcogekeoklddaaGreatDoorRows
import GoSem.ClaimSeven
namespace Go.Proofs.YtbcogekeoklddaaGreatDoor
namespace Rows

/-- THE TIED CARD OF 'laws.FnTreeTurned'. -/
def fnTreeTurnedCard : Claim7 := { stood := { row := fnTreeTurnedRow, standIns := [], harness := (true, "e2b9e76cf57b4b788a2c47e5df9afbf595f1a6169ba13c22b3f30af9af4c4eb8"), looks := true }, kinds := [], alts := [], laidByText := true, laidKinds := [.sentinel, .sentinel, .sentinel, .sentinel, .sentinel, .sentinel, .sentinel, .sentinel], laidTests := true, laidLooks := .later }
def FnTreeTurnedCardSaid : Prop := Claim7.holds Tryz.pinned (.plain (OpenSpec.ofChange fnTreeTurnedSpec)) fnTreeTurnedCard

/-- THE TIED CARD OF 'laws.FnTreeMove'. -/
def fnTreeMoveCard : Claim7 := { stood := { row := fnTreeMoveRow, standIns := [], harness := (true, "e2b9e76cf57b4b788a2c47e5df9afbf595f1a6169ba13c22b3f30af9af4c4eb8"), looks := true }, kinds := [], alts := [], laidByText := true, laidKinds := [.sentinel, .sentinel, .sentinel, .sentinel, .sentinel, .sentinel, .sentinel, .sentinel], laidTests := true, laidLooks := .later }
def FnTreeMoveCardSaid : Prop := Claim7.holds Tryz.pinned (.plain (OpenSpec.ofChange fnTreeMoveSpec)) fnTreeMoveCard

/-- THE TIED CARD OF 'laws.FnTreeList'. -/
def fnTreeListCard : Claim7 := { stood := { row := fnTreeListRow, standIns := [], harness := (true, "e2b9e76cf57b4b788a2c47e5df9afbf595f1a6169ba13c22b3f30af9af4c4eb8"), looks := true }, kinds := [], alts := [], laidByText := true, laidKinds := [.sentinel, .sentinel, .sentinel, .sentinel, .sentinel, .sentinel, .sentinel], laidTests := true, laidLooks := .later }
def FnTreeListCardSaid : Prop := Claim7.holds Tryz.pinned (.plain (OpenSpec.ofChange fnTreeListSpec)) fnTreeListCard

/-- THE TIED CARD OF 'laws.FnTreeBack'. -/
def fnTreeBackCard : Claim7 := { stood := { row := fnTreeBackRow, standIns := [], harness := (true, "e2b9e76cf57b4b788a2c47e5df9afbf595f1a6169ba13c22b3f30af9af4c4eb8"), looks := true }, kinds := [], alts := [], laidByText := true, laidKinds := [.sentinel, .sentinel, .sentinel, .sentinel, .sentinel, .sentinel, .sentinel, .sentinel], laidTests := true, laidLooks := .later }
def FnTreeBackCardSaid : Prop := Claim7.holds Tryz.pinned (.plain (OpenSpec.ofChange fnTreeBackSpec)) fnTreeBackCard

/-- THE TIED CARD OF 'laws.FnTreeCode'. -/
def fnTreeCodeCard : Claim7 := { stood := { row := fnTreeCodeRow, standIns := [], harness := (true, "e2b9e76cf57b4b788a2c47e5df9afbf595f1a6169ba13c22b3f30af9af4c4eb8"), looks := true }, kinds := [], alts := [], laidByText := true, laidKinds := [.sentinel, .sentinel, .sentinel, .sentinel, .sentinel, .sentinel, .sentinel, .sentinel], laidTests := true, laidLooks := .later }
def FnTreeCodeCardSaid : Prop := Claim7.holds Tryz.pinned (.plain (OpenSpec.ofChange fnTreeCodeSpec)) fnTreeCodeCard

/-- THE TIED CARD OF 'laws.FnTreeVia'. -/
def fnTreeViaCard : Claim7 := { stood := { row := fnTreeViaRow, standIns := [], harness := (true, "e2b9e76cf57b4b788a2c47e5df9afbf595f1a6169ba13c22b3f30af9af4c4eb8"), looks := true }, kinds := [], alts := [], laidByText := true, laidKinds := [.sentinel, .sentinel, .sentinel, .sentinel, .sentinel, .sentinel, .sentinel, .sentinel], laidTests := true, laidLooks := .later }
def FnTreeViaCardSaid : Prop := Claim7.holds Tryz.pinned (.plain (OpenSpec.ofChange fnTreeViaSpec)) fnTreeViaCard

/-- THE SECOND FORM's CARD OF 'laws.FnTreeTurned'. -/
def fnTreeTurnedUptoCard : Claim7 := { stood := { row := fnTreeTurnedUptoRow, standIns := [], harness := (true, "e2b9e76cf57b4b788a2c47e5df9afbf595f1a6169ba13c22b3f30af9af4c4eb8"), looks := true }, kinds := [], alts := [], laidByText := true, laidKinds := [.sentinel, .sentinel, .sentinel, .sentinel, .sentinel, .sentinel, .sentinel, .sentinel], laidTests := true, laidLooks := .later }
def FnTreeTurnedUptoCardSaid : Prop := Claim7.holds Tryz.pinned (.plain (OpenSpec.upto fnTreeTurnedSpec)) fnTreeTurnedUptoCard

/-- THE SECOND FORM's CARD OF 'laws.FnTreeMove'. -/
def fnTreeMoveUptoCard : Claim7 := { stood := { row := fnTreeMoveUptoRow, standIns := [], harness := (true, "e2b9e76cf57b4b788a2c47e5df9afbf595f1a6169ba13c22b3f30af9af4c4eb8"), looks := true }, kinds := [], alts := [], laidByText := true, laidKinds := [.sentinel, .sentinel, .sentinel, .sentinel, .sentinel, .sentinel, .sentinel, .sentinel], laidTests := true, laidLooks := .later }
def FnTreeMoveUptoCardSaid : Prop := Claim7.holds Tryz.pinned (.plain (OpenSpec.upto fnTreeMoveSpec)) fnTreeMoveUptoCard

/-- THE SECOND FORM's CARD OF 'laws.FnTreeList'. -/
def fnTreeListUptoCard : Claim7 := { stood := { row := fnTreeListUptoRow, standIns := [], harness := (true, "e2b9e76cf57b4b788a2c47e5df9afbf595f1a6169ba13c22b3f30af9af4c4eb8"), looks := true }, kinds := [], alts := [], laidByText := true, laidKinds := [.sentinel, .sentinel, .sentinel, .sentinel, .sentinel, .sentinel, .sentinel], laidTests := true, laidLooks := .later }
def FnTreeListUptoCardSaid : Prop := Claim7.holds Tryz.pinned (.plain (OpenSpec.upto fnTreeListSpec)) fnTreeListUptoCard

/-- THE SECOND FORM's CARD OF 'laws.FnTreeBack'. -/
def fnTreeBackUptoCard : Claim7 := { stood := { row := fnTreeBackUptoRow, standIns := [], harness := (true, "e2b9e76cf57b4b788a2c47e5df9afbf595f1a6169ba13c22b3f30af9af4c4eb8"), looks := true }, kinds := [], alts := [], laidByText := true, laidKinds := [.sentinel, .sentinel, .sentinel, .sentinel, .sentinel, .sentinel, .sentinel, .sentinel], laidTests := true, laidLooks := .later }
def FnTreeBackUptoCardSaid : Prop := Claim7.holds Tryz.pinned (.plain (OpenSpec.upto fnTreeBackSpec)) fnTreeBackUptoCard

/-- THE SECOND FORM's CARD OF 'laws.FnTreeCode'. -/
def fnTreeCodeUptoCard : Claim7 := { stood := { row := fnTreeCodeUptoRow, standIns := [], harness := (true, "e2b9e76cf57b4b788a2c47e5df9afbf595f1a6169ba13c22b3f30af9af4c4eb8"), looks := true }, kinds := [], alts := [], laidByText := true, laidKinds := [.sentinel, .sentinel, .sentinel, .sentinel, .sentinel, .sentinel, .sentinel, .sentinel], laidTests := true, laidLooks := .later }
def FnTreeCodeUptoCardSaid : Prop := Claim7.holds Tryz.pinned (.plain (OpenSpec.upto fnTreeCodeSpec)) fnTreeCodeUptoCard

/-- THE SECOND FORM's CARD OF 'laws.FnTreeVia'. -/
def fnTreeViaUptoCard : Claim7 := { stood := { row := fnTreeViaUptoRow, standIns := [], harness := (true, "e2b9e76cf57b4b788a2c47e5df9afbf595f1a6169ba13c22b3f30af9af4c4eb8"), looks := true }, kinds := [], alts := [], laidByText := true, laidKinds := [.sentinel, .sentinel, .sentinel, .sentinel, .sentinel, .sentinel, .sentinel, .sentinel], laidTests := true, laidLooks := .later }
def FnTreeViaUptoCardSaid : Prop := Claim7.holds Tryz.pinned (.plain (OpenSpec.upto fnTreeViaSpec)) fnTreeViaUptoCard
end Rows
end Go.Proofs.YtbcogekeoklddaaGreatDoor
