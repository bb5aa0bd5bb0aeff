/-
  DERIVED. GIVEN WITH THE SEED: THE CARDS: each row of YteppodogghjfhabGreatDoorRows.lean that lists a variable, with what it lists TIED to the program's text (the seventh form; the later family's looks); each row that meets fmt, with fmt's text TOLD by the authors' own Lean function (tested against real Go, not proved from fmt's source: count such statements apart). THE CARD IS WHAT COUNTS. Prove the row's statement (the work); the ties are given (YteppodogghjfhabGreatDoorTie.lean); close each card by the builder's one call (the guide's Derived/Test/ToyasCard.lean, 'card_holds'). Laid BY PROGRAM, IN A SANDBOX (cutbox-door.mjs). By AI agents, Wed Nov 11 2026. No macro, syntax, notation, axiom, sorry.
-/
import Derived.Test.YteppodogghjfhabGreatDoorRows
import GoSem.ClaimSeven
namespace Go.Proofs.YteppodogghjfhabGreatDoor
namespace Rows

/-- THE TIED CARD OF 'laws.FnExactOverDrop'. -/
def fnExactOverDropCard : Claim7 := { stood := { row := fnExactOverDropRow, standIns := [], harness := (true, "35c2b290b26acbddbdd2b8c5d7bf758ecacebc08645edbdef30027f0f98de1f3"), looks := true }, kinds := [], alts := [], laidByText := true, laidKinds := [.sentinel, .sentinel], laidTests := true, laidLooks := .later }
def FnExactOverDropCardSaid : Prop := Claim7.holds Tryz.pinned (.plain (OpenSpec.ofChange fnExactOverDropSpec)) fnExactOverDropCard

/-- THE TIED CARD OF 'laws.FnExactOverFlat'. -/
def fnExactOverFlatCard : Claim7 := { stood := { row := fnExactOverFlatRow, standIns := [], harness := (true, "35c2b290b26acbddbdd2b8c5d7bf758ecacebc08645edbdef30027f0f98de1f3"), looks := true }, kinds := [], alts := [], laidByText := true, laidKinds := [.sentinel, .sentinel], laidTests := true, laidLooks := .later }
def FnExactOverFlatCardSaid : Prop := Claim7.holds Tryz.pinned (.plain (OpenSpec.ofChange fnExactOverFlatSpec)) fnExactOverFlatCard

/-- THE TIED CARD OF 'laws.FnExactOverSink'. -/
def fnExactOverSinkCard : Claim7 := { stood := { row := fnExactOverSinkRow, standIns := [], harness := (true, "35c2b290b26acbddbdd2b8c5d7bf758ecacebc08645edbdef30027f0f98de1f3"), looks := true }, kinds := [], alts := [], laidByText := true, laidKinds := [.sentinel, .sentinel], laidTests := true, laidLooks := .later }
def FnExactOverSinkCardSaid : Prop := Claim7.holds Tryz.pinned (.plain (OpenSpec.ofChange fnExactOverSinkSpec)) fnExactOverSinkCard

/-- THE SECOND FORM's CARD OF 'laws.FnExactOverDrop'. -/
def fnExactOverDropUptoCard : Claim7 := { stood := { row := fnExactOverDropUptoRow, standIns := [], harness := (true, "35c2b290b26acbddbdd2b8c5d7bf758ecacebc08645edbdef30027f0f98de1f3"), looks := true }, kinds := [], alts := [], laidByText := true, laidKinds := [.sentinel, .sentinel], laidTests := true, laidLooks := .later }
def FnExactOverDropUptoCardSaid : Prop := Claim7.holds Tryz.pinned (.plain (OpenSpec.upto fnExactOverDropSpec)) fnExactOverDropUptoCard

/-- THE SECOND FORM's CARD OF 'laws.FnExactOverFlat'. -/
def fnExactOverFlatUptoCard : Claim7 := { stood := { row := fnExactOverFlatUptoRow, standIns := [], harness := (true, "35c2b290b26acbddbdd2b8c5d7bf758ecacebc08645edbdef30027f0f98de1f3"), looks := true }, kinds := [], alts := [], laidByText := true, laidKinds := [.sentinel, .sentinel], laidTests := true, laidLooks := .later }
def FnExactOverFlatUptoCardSaid : Prop := Claim7.holds Tryz.pinned (.plain (OpenSpec.upto fnExactOverFlatSpec)) fnExactOverFlatUptoCard

/-- THE SECOND FORM's CARD OF 'laws.FnExactOverSink'. -/
def fnExactOverSinkUptoCard : Claim7 := { stood := { row := fnExactOverSinkUptoRow, standIns := [], harness := (true, "35c2b290b26acbddbdd2b8c5d7bf758ecacebc08645edbdef30027f0f98de1f3"), looks := true }, kinds := [], alts := [], laidByText := true, laidKinds := [.sentinel, .sentinel], laidTests := true, laidLooks := .later }
def FnExactOverSinkUptoCardSaid : Prop := Claim7.holds Tryz.pinned (.plain (OpenSpec.upto fnExactOverSinkSpec)) fnExactOverSinkUptoCard
end Rows
end Go.Proofs.YteppodogghjfhabGreatDoor
