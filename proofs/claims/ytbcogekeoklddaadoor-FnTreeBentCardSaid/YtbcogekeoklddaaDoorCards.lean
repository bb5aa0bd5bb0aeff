/-
  DERIVED. GIVEN WITH THE SEED: THE CARDS: each row of YtbcogekeoklddaaDoorRows.lean that lists a variable, with what it lists TIED to the program's text (the seventh form; the later family's looks); each row that meets fmt, with fmt's text TOLD by the authors' own Lean function (tested against real Go, not proved from fmt's source: count such statements apart). THE CARD IS WHAT COUNTS. Prove the row's statement (the work); the ties are given (YtbcogekeoklddaaDoorTie.lean); close each card by the builder's one call (the guide's Derived/Test/ToyasCard.lean, 'card_holds'). Laid BY PROGRAM, IN A SANDBOX (cutbox-door.mjs). By AI agents, Wed Nov 11 2026. No macro, syntax, notation, axiom, sorry.
-/
import Derived.Test.YtbcogekeoklddaaDoorRows
import GoSem.ClaimSeven
namespace Go.Proofs.YtbcogekeoklddaaDoor
namespace Rows

/-- THE TIED CARD OF 'laws.FnTreeDiffer'. -/
def fnTreeDifferCard : Claim7 := { stood := { row := fnTreeDifferRow, standIns := [], harness := (true, "8b745529ef3e532c2dd1f57383150f8055a4d7ba906647ee6c4fc91e7d9af04c"), looks := false }, kinds := [], alts := [], laidByText := true, laidKinds := [.sentinel, .sentinel], laidTests := true, laidLooks := .later }
def FnTreeDifferCardSaid : Prop := Claim7.holds Tryd.pinned (.plain (OpenSpec.ofChange fnTreeDifferSpec)) fnTreeDifferCard

/-- THE TIED CARD OF 'laws.FnTreeBent'. -/
def fnTreeBentCard : Claim7 := { stood := { row := fnTreeBentRow, standIns := [], harness := (true, "8b745529ef3e532c2dd1f57383150f8055a4d7ba906647ee6c4fc91e7d9af04c"), looks := false }, kinds := [], alts := [], laidByText := true, laidKinds := [.sentinel, .sentinel], laidTests := true, laidLooks := .later }
def FnTreeBentCardSaid : Prop := Claim7.holds Tryd.pinned (.plain (OpenSpec.ofChange fnTreeBentSpec)) fnTreeBentCard

/-- THE SECOND FORM's CARD OF 'laws.FnTreeDiffer'. -/
def fnTreeDifferUptoCard : Claim7 := { stood := { row := fnTreeDifferUptoRow, standIns := [], harness := (true, "8b745529ef3e532c2dd1f57383150f8055a4d7ba906647ee6c4fc91e7d9af04c"), looks := false }, kinds := [], alts := [], laidByText := true, laidKinds := [.sentinel, .sentinel], laidTests := true, laidLooks := .later }
def FnTreeDifferUptoCardSaid : Prop := Claim7.holds Tryd.pinned (.plain (OpenSpec.upto fnTreeDifferSpec)) fnTreeDifferUptoCard

/-- THE SECOND FORM's CARD OF 'laws.FnTreeBent'. -/
def fnTreeBentUptoCard : Claim7 := { stood := { row := fnTreeBentUptoRow, standIns := [], harness := (true, "8b745529ef3e532c2dd1f57383150f8055a4d7ba906647ee6c4fc91e7d9af04c"), looks := false }, kinds := [], alts := [], laidByText := true, laidKinds := [.sentinel, .sentinel], laidTests := true, laidLooks := .later }
def FnTreeBentUptoCardSaid : Prop := Claim7.holds Tryd.pinned (.plain (OpenSpec.upto fnTreeBentSpec)) fnTreeBentUptoCard
end Rows
end Go.Proofs.YtbcogekeoklddaaDoor
