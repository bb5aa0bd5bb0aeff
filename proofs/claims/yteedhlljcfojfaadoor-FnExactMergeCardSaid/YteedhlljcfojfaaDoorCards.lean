/-
  DERIVED. GIVEN WITH THE SEED: THE CARDS: each row of YteedhlljcfojfaaDoorRows.lean that lists a variable, with what it lists TIED to the program's text (the seventh form; the later family's looks); each row that meets fmt, with fmt's text TOLD by the authors' own Lean function (tested against real Go, not proved from fmt's source: count such statements apart). THE CARD IS WHAT COUNTS. Prove the row's statement (the work); the ties are given (YteedhlljcfojfaaDoorTie.lean); close each card by the builder's one call (the guide's Derived/Test/ToyasCard.lean, 'card_holds'). Laid BY PROGRAM, IN A SANDBOX (cutbox-door.mjs). By AI agents, Wed Nov 11 2026. No macro, syntax, notation, axiom, sorry.
-/
import Derived.Test.YteedhlljcfojfaaDoorRows
import GoSem.ClaimSeven
namespace Go.Proofs.YteedhlljcfojfaaDoor
namespace Rows

/-- THE TIED CARD OF 'laws.FnExactMergeClash'. -/
def fnExactMergeClashCard : Claim7 := { stood := { row := fnExactMergeClashRow, standIns := [], harness := (true, "d40815ee7ab990eab438047a92528bcb99e539aa7c0086a4457c4147bc2373b9"), looks := true }, kinds := [], alts := [], laidByText := true, laidKinds := [.sentinel, .sentinel, .sentinel], laidTests := true, laidLooks := .later }
def FnExactMergeClashCardSaid : Prop := Claim7.holds Tryd.pinned (.plain (OpenSpec.ofChange fnExactMergeClashSpec)) fnExactMergeClashCard

/-- THE TIED CARD OF 'laws.FnExactMerge'. -/
def fnExactMergeCard : Claim7 := { stood := { row := fnExactMergeRow, standIns := [], harness := (true, "d40815ee7ab990eab438047a92528bcb99e539aa7c0086a4457c4147bc2373b9"), looks := true }, kinds := [], alts := [], laidByText := true, laidKinds := [.sentinel, .sentinel, .sentinel], laidTests := true, laidLooks := .later }
def FnExactMergeCardSaid : Prop := Claim7.holds Tryd.pinned (.plain (OpenSpec.ofChange fnExactMergeSpec)) fnExactMergeCard

/-- THE SECOND FORM's CARD OF 'laws.FnExactMergeClash'. -/
def fnExactMergeClashUptoCard : Claim7 := { stood := { row := fnExactMergeClashUptoRow, standIns := [], harness := (true, "d40815ee7ab990eab438047a92528bcb99e539aa7c0086a4457c4147bc2373b9"), looks := true }, kinds := [], alts := [], laidByText := true, laidKinds := [.sentinel, .sentinel, .sentinel], laidTests := true, laidLooks := .later }
def FnExactMergeClashUptoCardSaid : Prop := Claim7.holds Tryd.pinned (.plain (OpenSpec.upto fnExactMergeClashSpec)) fnExactMergeClashUptoCard

/-- THE SECOND FORM's CARD OF 'laws.FnExactMerge'. -/
def fnExactMergeUptoCard : Claim7 := { stood := { row := fnExactMergeUptoRow, standIns := [], harness := (true, "d40815ee7ab990eab438047a92528bcb99e539aa7c0086a4457c4147bc2373b9"), looks := true }, kinds := [], alts := [], laidByText := true, laidKinds := [.sentinel, .sentinel, .sentinel], laidTests := true, laidLooks := .later }
def FnExactMergeUptoCardSaid : Prop := Claim7.holds Tryd.pinned (.plain (OpenSpec.upto fnExactMergeSpec)) fnExactMergeUptoCard
end Rows
end Go.Proofs.YteedhlljcfojfaaDoor
