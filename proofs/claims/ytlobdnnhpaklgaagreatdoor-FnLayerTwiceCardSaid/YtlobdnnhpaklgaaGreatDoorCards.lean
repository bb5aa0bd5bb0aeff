/-
  DERIVED. GIVEN WITH THE SEED: THE CARDS: each row of YtlobdnnhpaklgaaGreatDoorRows.lean that lists a variable, with what it lists TIED to the program's text (the seventh form; the later family's looks); each row that meets fmt, with fmt's text TOLD by the authors' own Lean function (tested against real Go, not proved from fmt's source: count such statements apart). THE CARD IS WHAT COUNTS. Prove the row's statement (the work); the ties are given (YtlobdnnhpaklgaaGreatDoorTie.lean); close each card by the builder's one call (the guide's Derived/Test/ToyasCard.lean, 'card_holds'). Laid BY PROGRAM, IN A SANDBOX (cutbox-door.mjs). By AI agents, Wed Nov 11 2026. No macro, syntax, notation, axiom, sorry.
-/
import Derived.Test.YtlobdnnhpaklgaaGreatDoorRows
import GoSem.ClaimSeven
namespace Go.Proofs.YtlobdnnhpaklgaaGreatDoor
namespace Rows

/-- THE TIED CARD OF 'laws.FnLayerTwice'. -/
def fnLayerTwiceCard : Claim7 := { stood := { row := fnLayerTwiceRow, standIns := [], harness := (true, "1a0a0eb500c44db61a1777cfee45a2b3d523bddf69cf9af3e092b9d22df08474"), looks := true }, kinds := [], alts := [], laidByText := true, laidKinds := [.sentinel, .sentinel], laidTests := true, laidLooks := .later }
def FnLayerTwiceCardSaid : Prop := Claim7.holds Tryz.pinned (.plain (OpenSpec.ofChange fnLayerTwiceSpec)) fnLayerTwiceCard

/-- THE SECOND FORM's CARD OF 'laws.FnLayerTwice'. -/
def fnLayerTwiceUptoCard : Claim7 := { stood := { row := fnLayerTwiceUptoRow, standIns := [], harness := (true, "1a0a0eb500c44db61a1777cfee45a2b3d523bddf69cf9af3e092b9d22df08474"), looks := true }, kinds := [], alts := [], laidByText := true, laidKinds := [.sentinel, .sentinel], laidTests := true, laidLooks := .later }
def FnLayerTwiceUptoCardSaid : Prop := Claim7.holds Tryz.pinned (.plain (OpenSpec.upto fnLayerTwiceSpec)) fnLayerTwiceUptoCard
end Rows
end Go.Proofs.YtlobdnnhpaklgaaGreatDoor
