/-
  DERIVED. GIVEN WITH THE SEED: THE CARDS: each row of YtfbhkcfecdbdeaaDoorRows.lean that lists a variable, with what it lists TIED to the program's text (the seventh form; the later family's looks); each row that meets fmt, with fmt's text TOLD by the authors' own Lean function (tested against real Go, not proved from fmt's source: count such statements apart). THE CARD IS WHAT COUNTS. Prove the row's statement (the work); the ties are given (YtfbhkcfecdbdeaaDoorTie.lean); close each card by the builder's one call (the guide's Derived/Test/ToyasCard.lean, 'card_holds'). Laid BY PROGRAM, IN A SANDBOX (cutbox-door.mjs). By AI agents, Wed Nov 11 2026. No macro, syntax, notation, axiom, sorry.
-/
import Derived.Test.YtfbhkcfecdbdeaaDoorRows
import GoSem.ClaimSeven
namespace Go.Proofs.YtfbhkcfecdbdeaaDoor
namespace Rows

/-- THE TIED CARD OF 'laws.FnExactTreeOk'. -/
def fnExactTreeOkCard : Claim7 := { stood := { row := fnExactTreeOkRow, standIns := [], harness := (true, "d3f0a1c3e62bff4b0045e61807348fad042c376a4ecb37e716054a90a11aec9f"), looks := true }, kinds := [], alts := [], laidByText := true, laidKinds := [.sentinel, .sentinel], laidTests := true, laidLooks := .later }
def FnExactTreeOkCardSaid : Prop := Claim7.holds Tryd.pinned (.plain (OpenSpec.ofChange fnExactTreeOkSpec)) fnExactTreeOkCard

/-- THE TIED CARD OF 'laws.FnExactTreeGet'. -/
def fnExactTreeGetCard : Claim7 := { stood := { row := fnExactTreeGetRow, standIns := [], harness := (true, "d3f0a1c3e62bff4b0045e61807348fad042c376a4ecb37e716054a90a11aec9f"), looks := true }, kinds := [], alts := [], laidByText := true, laidKinds := [.sentinel, .sentinel], laidTests := true, laidLooks := .later }
def FnExactTreeGetCardSaid : Prop := Claim7.holds Tryd.pinned (.plain (OpenSpec.ofChange fnExactTreeGetSpec)) fnExactTreeGetCard

/-- THE TIED CARD OF 'laws.FnExactTreeList'. -/
def fnExactTreeListCard : Claim7 := { stood := { row := fnExactTreeListRow, standIns := [], harness := (true, "d3f0a1c3e62bff4b0045e61807348fad042c376a4ecb37e716054a90a11aec9f"), looks := true }, kinds := [], alts := [], laidByText := true, laidKinds := [.sentinel, .sentinel, .sentinel, .sentinel, .sentinel, .sentinel, .sentinel], laidTests := true, laidLooks := .later }
def FnExactTreeListCardSaid : Prop := Claim7.holds Tryd.pinned (.plain (OpenSpec.ofChange fnExactTreeListSpec)) fnExactTreeListCard

/-- THE TIED CARD OF 'laws.FnExactTreeTurned'. -/
def fnExactTreeTurnedCard : Claim7 := { stood := { row := fnExactTreeTurnedRow, standIns := [], harness := (true, "d3f0a1c3e62bff4b0045e61807348fad042c376a4ecb37e716054a90a11aec9f"), looks := true }, kinds := [], alts := [], laidByText := true, laidKinds := [.sentinel, .sentinel], laidTests := true, laidLooks := .later }
def FnExactTreeTurnedCardSaid : Prop := Claim7.holds Tryd.pinned (.plain (OpenSpec.ofChange fnExactTreeTurnedSpec)) fnExactTreeTurnedCard

/-- THE SECOND FORM's CARD OF 'laws.FnExactTreeOk'. -/
def fnExactTreeOkUptoCard : Claim7 := { stood := { row := fnExactTreeOkUptoRow, standIns := [], harness := (true, "d3f0a1c3e62bff4b0045e61807348fad042c376a4ecb37e716054a90a11aec9f"), looks := true }, kinds := [], alts := [], laidByText := true, laidKinds := [.sentinel, .sentinel], laidTests := true, laidLooks := .later }
def FnExactTreeOkUptoCardSaid : Prop := Claim7.holds Tryd.pinned (.plain (OpenSpec.upto fnExactTreeOkSpec)) fnExactTreeOkUptoCard

/-- THE SECOND FORM's CARD OF 'laws.FnExactTreeGet'. -/
def fnExactTreeGetUptoCard : Claim7 := { stood := { row := fnExactTreeGetUptoRow, standIns := [], harness := (true, "d3f0a1c3e62bff4b0045e61807348fad042c376a4ecb37e716054a90a11aec9f"), looks := true }, kinds := [], alts := [], laidByText := true, laidKinds := [.sentinel, .sentinel], laidTests := true, laidLooks := .later }
def FnExactTreeGetUptoCardSaid : Prop := Claim7.holds Tryd.pinned (.plain (OpenSpec.upto fnExactTreeGetSpec)) fnExactTreeGetUptoCard

/-- THE SECOND FORM's CARD OF 'laws.FnExactTreeList'. -/
def fnExactTreeListUptoCard : Claim7 := { stood := { row := fnExactTreeListUptoRow, standIns := [], harness := (true, "d3f0a1c3e62bff4b0045e61807348fad042c376a4ecb37e716054a90a11aec9f"), looks := true }, kinds := [], alts := [], laidByText := true, laidKinds := [.sentinel, .sentinel, .sentinel, .sentinel, .sentinel, .sentinel, .sentinel], laidTests := true, laidLooks := .later }
def FnExactTreeListUptoCardSaid : Prop := Claim7.holds Tryd.pinned (.plain (OpenSpec.upto fnExactTreeListSpec)) fnExactTreeListUptoCard

/-- THE SECOND FORM's CARD OF 'laws.FnExactTreeTurned'. -/
def fnExactTreeTurnedUptoCard : Claim7 := { stood := { row := fnExactTreeTurnedUptoRow, standIns := [], harness := (true, "d3f0a1c3e62bff4b0045e61807348fad042c376a4ecb37e716054a90a11aec9f"), looks := true }, kinds := [], alts := [], laidByText := true, laidKinds := [.sentinel, .sentinel], laidTests := true, laidLooks := .later }
def FnExactTreeTurnedUptoCardSaid : Prop := Claim7.holds Tryd.pinned (.plain (OpenSpec.upto fnExactTreeTurnedSpec)) fnExactTreeTurnedUptoCard
end Rows
end Go.Proofs.YtfbhkcfecdbdeaaDoor
