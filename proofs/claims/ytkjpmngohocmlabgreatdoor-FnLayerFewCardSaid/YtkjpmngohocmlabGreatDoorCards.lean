/-
  DERIVED. GIVEN WITH THE SEED: THE CARDS: each row of YtkjpmngohocmlabGreatDoorRows.lean that lists a variable, with what it lists TIED to the program's text (the seventh form; the later family's looks); each row that meets fmt, with fmt's text TOLD by the authors' own Lean function (tested against real Go, not proved from fmt's source: count such statements apart). THE CARD IS WHAT COUNTS. Prove the row's statement (the work); the ties are given (YtkjpmngohocmlabGreatDoorTie.lean); close each card by the builder's one call (the guide's Derived/Test/ToyasCard.lean, 'card_holds'). Laid BY PROGRAM, IN A SANDBOX (cutbox-door.mjs). By AI agents, Wed Nov 11 2026. No macro, syntax, notation, axiom, sorry.
-/
import Derived.Test.YtkjpmngohocmlabGreatDoorRows
import GoSem.ClaimSeven
namespace Go.Proofs.YtkjpmngohocmlabGreatDoor
namespace Rows

/-- THE TIED CARD OF 'laws.FnLayerSteps'. -/
def fnLayerStepsCard : Claim7 := { stood := { row := fnLayerStepsRow, standIns := [], harness := (true, "c1c2ac8bde22f47da0f2b34bd3ed8f0ee61cc9a081ad1b035408221a11835a80"), looks := true }, kinds := [], alts := [], laidByText := true, laidKinds := [.sentinel, .sentinel], laidTests := true, laidLooks := .later }
def FnLayerStepsCardSaid : Prop := Claim7.holds Tryz.pinned (.plain (OpenSpec.ofChange fnLayerStepsSpec)) fnLayerStepsCard

/-- THE TIED CARD OF 'laws.FnLayerTop'. -/
def fnLayerTopCard : Claim7 := { stood := { row := fnLayerTopRow, standIns := [], harness := (true, "c1c2ac8bde22f47da0f2b34bd3ed8f0ee61cc9a081ad1b035408221a11835a80"), looks := true }, kinds := [], alts := [], laidByText := true, laidKinds := [.sentinel, .sentinel], laidTests := true, laidLooks := .later }
def FnLayerTopCardSaid : Prop := Claim7.holds Tryz.pinned (.plain (OpenSpec.ofChange fnLayerTopSpec)) fnLayerTopCard

/-- THE TIED CARD OF 'laws.FnLayerFew'. -/
def fnLayerFewCard : Claim7 := { stood := { row := fnLayerFewRow, standIns := [], harness := (true, "c1c2ac8bde22f47da0f2b34bd3ed8f0ee61cc9a081ad1b035408221a11835a80"), looks := true }, kinds := [], alts := [], laidByText := true, laidKinds := [.sentinel, .sentinel], laidTests := true, laidLooks := .later }
def FnLayerFewCardSaid : Prop := Claim7.holds Tryz.pinned (.plain (OpenSpec.ofChange fnLayerFewSpec)) fnLayerFewCard

/-- THE TIED CARD OF 'laws.FnLayerBack'. -/
def fnLayerBackCard : Claim7 := { stood := { row := fnLayerBackRow, standIns := [], harness := (true, "c1c2ac8bde22f47da0f2b34bd3ed8f0ee61cc9a081ad1b035408221a11835a80"), looks := true }, kinds := [], alts := [], laidByText := true, laidKinds := [.sentinel, .sentinel], laidTests := true, laidLooks := .later }
def FnLayerBackCardSaid : Prop := Claim7.holds Tryz.pinned (.plain (OpenSpec.ofChange fnLayerBackSpec)) fnLayerBackCard

/-- THE SECOND FORM's CARD OF 'laws.FnLayerSteps'. -/
def fnLayerStepsUptoCard : Claim7 := { stood := { row := fnLayerStepsUptoRow, standIns := [], harness := (true, "c1c2ac8bde22f47da0f2b34bd3ed8f0ee61cc9a081ad1b035408221a11835a80"), looks := true }, kinds := [], alts := [], laidByText := true, laidKinds := [.sentinel, .sentinel], laidTests := true, laidLooks := .later }
def FnLayerStepsUptoCardSaid : Prop := Claim7.holds Tryz.pinned (.plain (OpenSpec.upto fnLayerStepsSpec)) fnLayerStepsUptoCard

/-- THE SECOND FORM's CARD OF 'laws.FnLayerTop'. -/
def fnLayerTopUptoCard : Claim7 := { stood := { row := fnLayerTopUptoRow, standIns := [], harness := (true, "c1c2ac8bde22f47da0f2b34bd3ed8f0ee61cc9a081ad1b035408221a11835a80"), looks := true }, kinds := [], alts := [], laidByText := true, laidKinds := [.sentinel, .sentinel], laidTests := true, laidLooks := .later }
def FnLayerTopUptoCardSaid : Prop := Claim7.holds Tryz.pinned (.plain (OpenSpec.upto fnLayerTopSpec)) fnLayerTopUptoCard

/-- THE SECOND FORM's CARD OF 'laws.FnLayerFew'. -/
def fnLayerFewUptoCard : Claim7 := { stood := { row := fnLayerFewUptoRow, standIns := [], harness := (true, "c1c2ac8bde22f47da0f2b34bd3ed8f0ee61cc9a081ad1b035408221a11835a80"), looks := true }, kinds := [], alts := [], laidByText := true, laidKinds := [.sentinel, .sentinel], laidTests := true, laidLooks := .later }
def FnLayerFewUptoCardSaid : Prop := Claim7.holds Tryz.pinned (.plain (OpenSpec.upto fnLayerFewSpec)) fnLayerFewUptoCard

/-- THE SECOND FORM's CARD OF 'laws.FnLayerBack'. -/
def fnLayerBackUptoCard : Claim7 := { stood := { row := fnLayerBackUptoRow, standIns := [], harness := (true, "c1c2ac8bde22f47da0f2b34bd3ed8f0ee61cc9a081ad1b035408221a11835a80"), looks := true }, kinds := [], alts := [], laidByText := true, laidKinds := [.sentinel, .sentinel], laidTests := true, laidLooks := .later }
def FnLayerBackUptoCardSaid : Prop := Claim7.holds Tryz.pinned (.plain (OpenSpec.upto fnLayerBackSpec)) fnLayerBackUptoCard
end Rows
end Go.Proofs.YtkjpmngohocmlabGreatDoor
