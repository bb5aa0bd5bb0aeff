/-
  DERIVED. GIVEN WITH THE SEED: THE CARDS: each row of YtnbcflbcmcjhdaaGreatDoorRows.lean that lists a variable, with what it lists TIED to the program's text (the seventh form; the later family's looks); each row that meets fmt, with fmt's text TOLD by the authors' own Lean function (tested against real Go, not proved from fmt's source: count such statements apart). THE CARD IS WHAT COUNTS. Prove the row's statement (the work); the ties are given (YtnbcflbcmcjhdaaGreatDoorTie.lean); close each card by the builder's one call (the guide's Derived/Test/ToyasCard.lean, 'card_holds'). Laid BY PROGRAM, IN A SANDBOX (cutbox-door.mjs). By AI agents, Wed Nov 11 2026. No macro, syntax, notation, axiom, sorry.
-/
import Derived.Test.YtnbcflbcmcjhdaaGreatDoorRows
import GoSem.ClaimSeven
namespace Go.Proofs.YtnbcflbcmcjhdaaGreatDoor
namespace Rows

/-- THE TIED CARD OF 'laws.FnTextMany'. -/
def fnTextManyCard : Claim7 := { stood := { row := fnTextManyRow, standIns := [], harness := (true, "947e37fc9eafc67222aa1fb3775b7f4715b589f7ad2ea8a80054ac2b2900d923"), looks := true }, kinds := [], alts := [], laidByText := true, laidKinds := [.sentinel, .sentinel, .data], laidTests := true, laidLooks := .later }
def FnTextManyCardSaid : Prop := Claim7.holds Tryz.pinned (.plain (OpenSpec.ofChange fnTextManySpec)) fnTextManyCard

/-- THE SECOND FORM's CARD OF 'laws.FnTextMany'. -/
def fnTextManyUptoCard : Claim7 := { stood := { row := fnTextManyUptoRow, standIns := [], harness := (true, "947e37fc9eafc67222aa1fb3775b7f4715b589f7ad2ea8a80054ac2b2900d923"), looks := true }, kinds := [], alts := [], laidByText := true, laidKinds := [.sentinel, .sentinel, .data], laidTests := true, laidLooks := .later }
def FnTextManyUptoCardSaid : Prop := Claim7.holds Tryz.pinned (.plain (OpenSpec.upto fnTextManySpec)) fnTextManyUptoCard
end Rows
end Go.Proofs.YtnbcflbcmcjhdaaGreatDoor
