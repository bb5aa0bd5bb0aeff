/-
  DERIVED. GIVEN WITH THE SEED: THE CARDS: each row of YtanldphkkoglkaaGreatDoorRows.lean that lists a variable, with what it lists TIED to the program's text (the seventh form; the later family's looks); each row that meets fmt, with fmt's text TOLD by the authors' own Lean function (tested against real Go, not proved from fmt's source: count such statements apart). THE CARD IS WHAT COUNTS. Prove the row's statement (the work); the ties are given (YtanldphkkoglkaaGreatDoorTie.lean); close each card by the builder's one call (the guide's Derived/Test/ToyasCard.lean, 'card_holds'). Laid BY PROGRAM, IN A SANDBOX (cutbox-door.mjs). By AI agents, Wed Nov 11 2026. No macro, syntax, notation, axiom, sorry.
-/
import Derived.Test.YtanldphkkoglkaaGreatDoorRows
import GoSem.ClaimSeven
namespace Go.Proofs.YtanldphkkoglkaaGreatDoor
namespace Rows

/-- THE TIED CARD OF 'laws.FnExactLayerOn'. -/
def fnExactLayerOnCard : Claim7 := { stood := { row := fnExactLayerOnRow, standIns := [], harness := (true, "97c44a0e55547bfd87237cdb42ddfdf59a582b6c3f0addf2ab9f96d7b0ae7956"), looks := true }, kinds := [], alts := [], laidByText := true, laidKinds := [.sentinel, .sentinel], laidTests := true, laidLooks := .later }
def FnExactLayerOnCardSaid : Prop := Claim7.holds Tryz.pinned (.plain (OpenSpec.ofChange fnExactLayerOnSpec)) fnExactLayerOnCard

/-- THE TIED CARD OF 'laws.FnExactLayerDiff'. -/
def fnExactLayerDiffCard : Claim7 := { stood := { row := fnExactLayerDiffRow, standIns := [], harness := (true, "97c44a0e55547bfd87237cdb42ddfdf59a582b6c3f0addf2ab9f96d7b0ae7956"), looks := true }, kinds := [], alts := [], laidByText := true, laidKinds := [.sentinel, .sentinel], laidTests := true, laidLooks := .later }
def FnExactLayerDiffCardSaid : Prop := Claim7.holds Tryz.pinned (.plain (OpenSpec.ofChange fnExactLayerDiffSpec)) fnExactLayerDiffCard

/-- THE SECOND FORM's CARD OF 'laws.FnExactLayerOn'. -/
def fnExactLayerOnUptoCard : Claim7 := { stood := { row := fnExactLayerOnUptoRow, standIns := [], harness := (true, "97c44a0e55547bfd87237cdb42ddfdf59a582b6c3f0addf2ab9f96d7b0ae7956"), looks := true }, kinds := [], alts := [], laidByText := true, laidKinds := [.sentinel, .sentinel], laidTests := true, laidLooks := .later }
def FnExactLayerOnUptoCardSaid : Prop := Claim7.holds Tryz.pinned (.plain (OpenSpec.upto fnExactLayerOnSpec)) fnExactLayerOnUptoCard

/-- THE SECOND FORM's CARD OF 'laws.FnExactLayerDiff'. -/
def fnExactLayerDiffUptoCard : Claim7 := { stood := { row := fnExactLayerDiffUptoRow, standIns := [], harness := (true, "97c44a0e55547bfd87237cdb42ddfdf59a582b6c3f0addf2ab9f96d7b0ae7956"), looks := true }, kinds := [], alts := [], laidByText := true, laidKinds := [.sentinel, .sentinel], laidTests := true, laidLooks := .later }
def FnExactLayerDiffUptoCardSaid : Prop := Claim7.holds Tryz.pinned (.plain (OpenSpec.upto fnExactLayerDiffSpec)) fnExactLayerDiffUptoCard
end Rows
end Go.Proofs.YtanldphkkoglkaaGreatDoor
