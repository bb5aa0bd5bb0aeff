/-
  DERIVED. GIVEN WITH THE SEED: THE CARDS: each row of YtkjpmngohocmlaaGreatDoorRows.lean that lists a variable, with what it lists TIED to the program's text (the seventh form; the later family's looks); each row that meets fmt, with fmt's text TOLD by the authors' own Lean function (tested against real Go, not proved from fmt's source: count such statements apart). THE CARD IS WHAT COUNTS. Prove the row's statement (the work); the ties are given (YtkjpmngohocmlaaGreatDoorTie.lean); close each card by the builder's one call (the guide's Derived/Test/ToyasCard.lean, 'card_holds'). Laid BY PROGRAM, IN A SANDBOX (cutbox-door.mjs). By AI agents, Wed Nov 11 2026. No macro, syntax, notation, axiom, sorry.
-/
import Derived.Test.YtkjpmngohocmlaaGreatDoorRows
import GoSem.ClaimSeven
namespace Go.Proofs.YtkjpmngohocmlaaGreatDoor
namespace Rows

/-- THE TIED CARD OF 'laws.FnLayerOn'. -/
def fnLayerOnCard : Claim7 := { stood := { row := fnLayerOnRow, standIns := [], harness := (true, "f71efd0497fee0b57d723f688c57484f6a52ab1d235994b79a2a5d5b62c03d40"), looks := true }, kinds := [], alts := [], laidByText := true, laidKinds := [.sentinel, .sentinel], laidTests := true, laidLooks := .later }
def FnLayerOnCardSaid : Prop := Claim7.holds Tryz.pinned (.plain (OpenSpec.ofChange fnLayerOnSpec)) fnLayerOnCard

/-- THE TIED CARD OF 'laws.FnLayerBare'. -/
def fnLayerBareCard : Claim7 := { stood := { row := fnLayerBareRow, standIns := [], harness := (true, "f71efd0497fee0b57d723f688c57484f6a52ab1d235994b79a2a5d5b62c03d40"), looks := true }, kinds := [], alts := [], laidByText := true, laidKinds := [.sentinel, .sentinel], laidTests := true, laidLooks := .later }
def FnLayerBareCardSaid : Prop := Claim7.holds Tryz.pinned (.plain (OpenSpec.ofChange fnLayerBareSpec)) fnLayerBareCard

/-- THE TIED CARD OF 'laws.FnLayerJoin'. -/
def fnLayerJoinCard : Claim7 := { stood := { row := fnLayerJoinRow, standIns := [], harness := (true, "f71efd0497fee0b57d723f688c57484f6a52ab1d235994b79a2a5d5b62c03d40"), looks := true }, kinds := [], alts := [], laidByText := true, laidKinds := [.sentinel, .sentinel], laidTests := true, laidLooks := .later }
def FnLayerJoinCardSaid : Prop := Claim7.holds Tryz.pinned (.plain (OpenSpec.ofChange fnLayerJoinSpec)) fnLayerJoinCard

/-- THE TIED CARD OF 'laws.FnLayerThree'. -/
def fnLayerThreeCard : Claim7 := { stood := { row := fnLayerThreeRow, standIns := [], harness := (true, "f71efd0497fee0b57d723f688c57484f6a52ab1d235994b79a2a5d5b62c03d40"), looks := true }, kinds := [], alts := [], laidByText := true, laidKinds := [.sentinel, .sentinel], laidTests := true, laidLooks := .later }
def FnLayerThreeCardSaid : Prop := Claim7.holds Tryz.pinned (.plain (OpenSpec.ofChange fnLayerThreeSpec)) fnLayerThreeCard

/-- THE TIED CARD OF 'laws.FnLayerDiff'. -/
def fnLayerDiffCard : Claim7 := { stood := { row := fnLayerDiffRow, standIns := [], harness := (true, "f71efd0497fee0b57d723f688c57484f6a52ab1d235994b79a2a5d5b62c03d40"), looks := true }, kinds := [], alts := [], laidByText := true, laidKinds := [.sentinel, .sentinel], laidTests := true, laidLooks := .later }
def FnLayerDiffCardSaid : Prop := Claim7.holds Tryz.pinned (.plain (OpenSpec.ofChange fnLayerDiffSpec)) fnLayerDiffCard

/-- THE TIED CARD OF 'laws.FnLayerLeast'. -/
def fnLayerLeastCard : Claim7 := { stood := { row := fnLayerLeastRow, standIns := [], harness := (true, "f71efd0497fee0b57d723f688c57484f6a52ab1d235994b79a2a5d5b62c03d40"), looks := true }, kinds := [], alts := [], laidByText := true, laidKinds := [.sentinel, .sentinel], laidTests := true, laidLooks := .later }
def FnLayerLeastCardSaid : Prop := Claim7.holds Tryz.pinned (.plain (OpenSpec.ofChange fnLayerLeastSpec)) fnLayerLeastCard

/-- THE SECOND FORM's CARD OF 'laws.FnLayerOn'. -/
def fnLayerOnUptoCard : Claim7 := { stood := { row := fnLayerOnUptoRow, standIns := [], harness := (true, "f71efd0497fee0b57d723f688c57484f6a52ab1d235994b79a2a5d5b62c03d40"), looks := true }, kinds := [], alts := [], laidByText := true, laidKinds := [.sentinel, .sentinel], laidTests := true, laidLooks := .later }
def FnLayerOnUptoCardSaid : Prop := Claim7.holds Tryz.pinned (.plain (OpenSpec.upto fnLayerOnSpec)) fnLayerOnUptoCard

/-- THE SECOND FORM's CARD OF 'laws.FnLayerBare'. -/
def fnLayerBareUptoCard : Claim7 := { stood := { row := fnLayerBareUptoRow, standIns := [], harness := (true, "f71efd0497fee0b57d723f688c57484f6a52ab1d235994b79a2a5d5b62c03d40"), looks := true }, kinds := [], alts := [], laidByText := true, laidKinds := [.sentinel, .sentinel], laidTests := true, laidLooks := .later }
def FnLayerBareUptoCardSaid : Prop := Claim7.holds Tryz.pinned (.plain (OpenSpec.upto fnLayerBareSpec)) fnLayerBareUptoCard

/-- THE SECOND FORM's CARD OF 'laws.FnLayerJoin'. -/
def fnLayerJoinUptoCard : Claim7 := { stood := { row := fnLayerJoinUptoRow, standIns := [], harness := (true, "f71efd0497fee0b57d723f688c57484f6a52ab1d235994b79a2a5d5b62c03d40"), looks := true }, kinds := [], alts := [], laidByText := true, laidKinds := [.sentinel, .sentinel], laidTests := true, laidLooks := .later }
def FnLayerJoinUptoCardSaid : Prop := Claim7.holds Tryz.pinned (.plain (OpenSpec.upto fnLayerJoinSpec)) fnLayerJoinUptoCard

/-- THE SECOND FORM's CARD OF 'laws.FnLayerThree'. -/
def fnLayerThreeUptoCard : Claim7 := { stood := { row := fnLayerThreeUptoRow, standIns := [], harness := (true, "f71efd0497fee0b57d723f688c57484f6a52ab1d235994b79a2a5d5b62c03d40"), looks := true }, kinds := [], alts := [], laidByText := true, laidKinds := [.sentinel, .sentinel], laidTests := true, laidLooks := .later }
def FnLayerThreeUptoCardSaid : Prop := Claim7.holds Tryz.pinned (.plain (OpenSpec.upto fnLayerThreeSpec)) fnLayerThreeUptoCard

/-- THE SECOND FORM's CARD OF 'laws.FnLayerDiff'. -/
def fnLayerDiffUptoCard : Claim7 := { stood := { row := fnLayerDiffUptoRow, standIns := [], harness := (true, "f71efd0497fee0b57d723f688c57484f6a52ab1d235994b79a2a5d5b62c03d40"), looks := true }, kinds := [], alts := [], laidByText := true, laidKinds := [.sentinel, .sentinel], laidTests := true, laidLooks := .later }
def FnLayerDiffUptoCardSaid : Prop := Claim7.holds Tryz.pinned (.plain (OpenSpec.upto fnLayerDiffSpec)) fnLayerDiffUptoCard

/-- THE SECOND FORM's CARD OF 'laws.FnLayerLeast'. -/
def fnLayerLeastUptoCard : Claim7 := { stood := { row := fnLayerLeastUptoRow, standIns := [], harness := (true, "f71efd0497fee0b57d723f688c57484f6a52ab1d235994b79a2a5d5b62c03d40"), looks := true }, kinds := [], alts := [], laidByText := true, laidKinds := [.sentinel, .sentinel], laidTests := true, laidLooks := .later }
def FnLayerLeastUptoCardSaid : Prop := Claim7.holds Tryz.pinned (.plain (OpenSpec.upto fnLayerLeastSpec)) fnLayerLeastUptoCard
end Rows
end Go.Proofs.YtkjpmngohocmlaaGreatDoor
