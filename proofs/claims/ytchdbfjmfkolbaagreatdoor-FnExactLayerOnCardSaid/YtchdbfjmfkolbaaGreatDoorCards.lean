/-
  DERIVED. GIVEN WITH THE SEED: THE CARDS: each row of YtchdbfjmfkolbaaGreatDoorRows.lean that lists a variable, with what it lists TIED to the program's text (the seventh form; the later family's looks); each row that meets fmt, with fmt's text TOLD by the authors' own Lean function (tested against real Go, not proved from fmt's source: count such statements apart). THE CARD IS WHAT COUNTS. Prove the row's statement (the work); the ties are given (YtchdbfjmfkolbaaGreatDoorTie.lean); close each card by the builder's one call (the guide's Derived/Test/ToyasCard.lean, 'card_holds'). Laid BY PROGRAM, IN A SANDBOX (cutbox-door.mjs). By AI agents, Wed Nov 11 2026. No macro, syntax, notation, axiom, sorry.
-/
import Derived.Test.YtchdbfjmfkolbaaGreatDoorRows
import GoSem.ClaimSeven
namespace Go.Proofs.YtchdbfjmfkolbaaGreatDoor
namespace Rows

/-- THE TIED CARD OF 'laws.FnExactLayerOn'. -/
def fnExactLayerOnCard : Claim7 := { stood := { row := fnExactLayerOnRow, standIns := [], harness := (true, "bd831e872b7eae29396c56f00bb08e28a79e9bea044dc496f05a2603f961f908"), looks := true }, kinds := [], alts := [], laidByText := true, laidKinds := [.sentinel, .sentinel], laidTests := true, laidLooks := .later }
def FnExactLayerOnCardSaid : Prop := Claim7.holds Tryz.pinned (.plain (OpenSpec.ofChange fnExactLayerOnSpec)) fnExactLayerOnCard

/-- THE SECOND FORM's CARD OF 'laws.FnExactLayerOn'. -/
def fnExactLayerOnUptoCard : Claim7 := { stood := { row := fnExactLayerOnUptoRow, standIns := [], harness := (true, "bd831e872b7eae29396c56f00bb08e28a79e9bea044dc496f05a2603f961f908"), looks := true }, kinds := [], alts := [], laidByText := true, laidKinds := [.sentinel, .sentinel], laidTests := true, laidLooks := .later }
def FnExactLayerOnUptoCardSaid : Prop := Claim7.holds Tryz.pinned (.plain (OpenSpec.upto fnExactLayerOnSpec)) fnExactLayerOnUptoCard
end Rows
end Go.Proofs.YtchdbfjmfkolbaaGreatDoor
