/-
  DERIVED. GIVEN WITH THE SEED: THE CARDS: each row of YtngjcdlgfcgfoaaGreatDoorRows.lean that lists a variable, with what it lists TIED to the program's text (the seventh form; the later family's looks); each row that meets fmt, with fmt's text TOLD by the authors' own Lean function (tested against real Go, not proved from fmt's source: count such statements apart). THE CARD IS WHAT COUNTS. Prove the row's statement (the work); the ties are given (YtngjcdlgfcgfoaaGreatDoorTie.lean); close each card by the builder's one call (the guide's Derived/Test/ToyasCard.lean, 'card_holds'). Laid BY PROGRAM, IN A SANDBOX (cutbox-door.mjs). By AI agents, Wed Nov 11 2026. No macro, syntax, notation, axiom, sorry.
-/
import Derived.Test.YtngjcdlgfcgfoaaGreatDoorRows
import GoSem.ClaimSeven
namespace Go.Proofs.YtngjcdlgfcgfoaaGreatDoor
namespace Rows

/-- THE TIED CARD OF 'laws.FnExactTreeDo'. -/
def fnExactTreeDoCard : Claim7 := { stood := { row := fnExactTreeDoRow, standIns := [], harness := (true, "219407167ed8d995c872c16445a276f48706998cb3871fc3edcd16bb8f0b9ec4"), looks := true }, kinds := [], alts := [], laidByText := true, laidKinds := [.sentinel, .sentinel, .sentinel, .sentinel, .sentinel, .sentinel, .sentinel, .sentinel], laidTests := true, laidLooks := .later }
def FnExactTreeDoCardSaid : Prop := Claim7.holds Tryz.pinned (.plain (OpenSpec.ofChange fnExactTreeDoSpec)) fnExactTreeDoCard

/-- THE SECOND FORM's CARD OF 'laws.FnExactTreeDo'. -/
def fnExactTreeDoUptoCard : Claim7 := { stood := { row := fnExactTreeDoUptoRow, standIns := [], harness := (true, "219407167ed8d995c872c16445a276f48706998cb3871fc3edcd16bb8f0b9ec4"), looks := true }, kinds := [], alts := [], laidByText := true, laidKinds := [.sentinel, .sentinel, .sentinel, .sentinel, .sentinel, .sentinel, .sentinel, .sentinel], laidTests := true, laidLooks := .later }
def FnExactTreeDoUptoCardSaid : Prop := Claim7.holds Tryz.pinned (.plain (OpenSpec.upto fnExactTreeDoSpec)) fnExactTreeDoUptoCard
end Rows
end Go.Proofs.YtngjcdlgfcgfoaaGreatDoor
