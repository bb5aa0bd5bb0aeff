/-
  DERIVED. GIVEN WITH THE SEED: THE CARDS: each row of YtenlibefdefjmaaDoorRows.lean that lists a variable, with what it lists TIED to the program's text (the seventh form; the later family's looks); each row that meets fmt, with fmt's text TOLD by the authors' own Lean function (tested against real Go, not proved from fmt's source: count such statements apart). THE CARD IS WHAT COUNTS. Prove the row's statement (the work); the ties are given (YtenlibefdefjmaaDoorTie.lean); close each card by the builder's one call (the guide's Derived/Test/ToyasCard.lean, 'card_holds'). Laid BY PROGRAM, IN A SANDBOX (cutbox-door.mjs). By AI agents, Wed Nov 11 2026. No macro, syntax, notation, axiom, sorry.
-/
import Derived.Test.YtenlibefdefjmaaDoorRows
import GoSem.ClaimSeven
namespace Go.Proofs.YtenlibefdefjmaaDoor
namespace Rows

/-- THE TIED CARD OF 'laws.FnExactMergeAt'. -/
def fnExactMergeAtCard : Claim7 := { stood := { row := fnExactMergeAtRow, standIns := [], harness := (true, "72296d1caf77fcc92fed8c5bd3c862446c62ee73f532b1ad634a0ccba786dd58"), looks := false }, kinds := [], alts := [], laidByText := true, laidKinds := [.sentinel, .sentinel], laidTests := true, laidLooks := .later }
def FnExactMergeAtCardSaid : Prop := Claim7.holds Tryd.pinned (.plain (OpenSpec.ofChange fnExactMergeAtSpec)) fnExactMergeAtCard

/-- THE SECOND FORM's CARD OF 'laws.FnExactMergeAt'. -/
def fnExactMergeAtUptoCard : Claim7 := { stood := { row := fnExactMergeAtUptoRow, standIns := [], harness := (true, "72296d1caf77fcc92fed8c5bd3c862446c62ee73f532b1ad634a0ccba786dd58"), looks := false }, kinds := [], alts := [], laidByText := true, laidKinds := [.sentinel, .sentinel], laidTests := true, laidLooks := .later }
def FnExactMergeAtUptoCardSaid : Prop := Claim7.holds Tryd.pinned (.plain (OpenSpec.upto fnExactMergeAtSpec)) fnExactMergeAtUptoCard
end Rows
end Go.Proofs.YtenlibefdefjmaaDoor
