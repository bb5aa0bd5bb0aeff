/-
  DERIVED. GIVEN WITH THE SEED: THE CARDS: each row of YteppodogghjfhaaGreatDoorRows.lean that lists a variable, with what it lists TIED to the program's text (the seventh form; the later family's looks); each row that meets fmt, with fmt's text TOLD by the authors' own Lean function (tested against real Go, not proved from fmt's source: count such statements apart). THE CARD IS WHAT COUNTS. Prove the row's statement (the work); the ties are given (YteppodogghjfhaaGreatDoorTie.lean); close each card by the builder's one call (the guide's Derived/Test/ToyasCard.lean, 'card_holds'). Laid BY PROGRAM, IN A SANDBOX (cutbox-door.mjs). By AI agents, Wed Nov 11 2026. No macro, syntax, notation, axiom, sorry.
-/
import Derived.Test.YteppodogghjfhaaGreatDoorRows
import GoSem.ClaimSeven
namespace Go.Proofs.YteppodogghjfhaaGreatDoor
namespace Rows

/-- THE TIED CARD OF 'laws.FnExactOverOk'. -/
def fnExactOverOkCard : Claim7 := { stood := { row := fnExactOverOkRow, standIns := [], harness := (true, "b5cf6cdade6a9d9ed9842ff361c67ec03f841078a31203269895a90b481e9def"), looks := true }, kinds := [], alts := [], laidByText := true, laidKinds := [.sentinel, .sentinel], laidTests := true, laidLooks := .later }
def FnExactOverOkCardSaid : Prop := Claim7.holds Tryz.pinned (.plain (OpenSpec.ofChange fnExactOverOkSpec)) fnExactOverOkCard

/-- THE TIED CARD OF 'laws.FnExactOverLower'. -/
def fnExactOverLowerCard : Claim7 := { stood := { row := fnExactOverLowerRow, standIns := [], harness := (true, "b5cf6cdade6a9d9ed9842ff361c67ec03f841078a31203269895a90b481e9def"), looks := true }, kinds := [], alts := [], laidByText := true, laidKinds := [.sentinel, .sentinel], laidTests := true, laidLooks := .later }
def FnExactOverLowerCardSaid : Prop := Claim7.holds Tryz.pinned (.plain (OpenSpec.ofChange fnExactOverLowerSpec)) fnExactOverLowerCard

/-- THE TIED CARD OF 'laws.FnExactOverView'. -/
def fnExactOverViewCard : Claim7 := { stood := { row := fnExactOverViewRow, standIns := [], harness := (true, "b5cf6cdade6a9d9ed9842ff361c67ec03f841078a31203269895a90b481e9def"), looks := true }, kinds := [], alts := [], laidByText := true, laidKinds := [.sentinel, .sentinel], laidTests := true, laidLooks := .later }
def FnExactOverViewCardSaid : Prop := Claim7.holds Tryz.pinned (.plain (OpenSpec.ofChange fnExactOverViewSpec)) fnExactOverViewCard

/-- THE TIED CARD OF 'laws.FnExactOverGet'. -/
def fnExactOverGetCard : Claim7 := { stood := { row := fnExactOverGetRow, standIns := [], harness := (true, "b5cf6cdade6a9d9ed9842ff361c67ec03f841078a31203269895a90b481e9def"), looks := true }, kinds := [], alts := [], laidByText := true, laidKinds := [.sentinel, .sentinel], laidTests := true, laidLooks := .later }
def FnExactOverGetCardSaid : Prop := Claim7.holds Tryz.pinned (.plain (OpenSpec.ofChange fnExactOverGetSpec)) fnExactOverGetCard

/-- THE TIED CARD OF 'laws.FnExactOverDo'. -/
def fnExactOverDoCard : Claim7 := { stood := { row := fnExactOverDoRow, standIns := [], harness := (true, "b5cf6cdade6a9d9ed9842ff361c67ec03f841078a31203269895a90b481e9def"), looks := true }, kinds := [], alts := [], laidByText := true, laidKinds := [.handle, .sentinel, .sentinel, .sentinel, .sentinel, .sentinel, .sentinel, .sentinel, .sentinel], laidTests := true, laidLooks := .later }
def FnExactOverDoCardSaid : Prop := Claim7.holds Tryz.pinned (.plain (OpenSpec.ofChange fnExactOverDoSpec)) fnExactOverDoCard

/-- THE TIED CARD OF 'laws.FnExactOverPush'. -/
def fnExactOverPushCard : Claim7 := { stood := { row := fnExactOverPushRow, standIns := [], harness := (true, "b5cf6cdade6a9d9ed9842ff361c67ec03f841078a31203269895a90b481e9def"), looks := true }, kinds := [], alts := [], laidByText := true, laidKinds := [.sentinel, .sentinel], laidTests := true, laidLooks := .later }
def FnExactOverPushCardSaid : Prop := Claim7.holds Tryz.pinned (.plain (OpenSpec.ofChange fnExactOverPushSpec)) fnExactOverPushCard

/-- THE SECOND FORM's CARD OF 'laws.FnExactOverOk'. -/
def fnExactOverOkUptoCard : Claim7 := { stood := { row := fnExactOverOkUptoRow, standIns := [], harness := (true, "b5cf6cdade6a9d9ed9842ff361c67ec03f841078a31203269895a90b481e9def"), looks := true }, kinds := [], alts := [], laidByText := true, laidKinds := [.sentinel, .sentinel], laidTests := true, laidLooks := .later }
def FnExactOverOkUptoCardSaid : Prop := Claim7.holds Tryz.pinned (.plain (OpenSpec.upto fnExactOverOkSpec)) fnExactOverOkUptoCard

/-- THE SECOND FORM's CARD OF 'laws.FnExactOverLower'. -/
def fnExactOverLowerUptoCard : Claim7 := { stood := { row := fnExactOverLowerUptoRow, standIns := [], harness := (true, "b5cf6cdade6a9d9ed9842ff361c67ec03f841078a31203269895a90b481e9def"), looks := true }, kinds := [], alts := [], laidByText := true, laidKinds := [.sentinel, .sentinel], laidTests := true, laidLooks := .later }
def FnExactOverLowerUptoCardSaid : Prop := Claim7.holds Tryz.pinned (.plain (OpenSpec.upto fnExactOverLowerSpec)) fnExactOverLowerUptoCard

/-- THE SECOND FORM's CARD OF 'laws.FnExactOverView'. -/
def fnExactOverViewUptoCard : Claim7 := { stood := { row := fnExactOverViewUptoRow, standIns := [], harness := (true, "b5cf6cdade6a9d9ed9842ff361c67ec03f841078a31203269895a90b481e9def"), looks := true }, kinds := [], alts := [], laidByText := true, laidKinds := [.sentinel, .sentinel], laidTests := true, laidLooks := .later }
def FnExactOverViewUptoCardSaid : Prop := Claim7.holds Tryz.pinned (.plain (OpenSpec.upto fnExactOverViewSpec)) fnExactOverViewUptoCard

/-- THE SECOND FORM's CARD OF 'laws.FnExactOverGet'. -/
def fnExactOverGetUptoCard : Claim7 := { stood := { row := fnExactOverGetUptoRow, standIns := [], harness := (true, "b5cf6cdade6a9d9ed9842ff361c67ec03f841078a31203269895a90b481e9def"), looks := true }, kinds := [], alts := [], laidByText := true, laidKinds := [.sentinel, .sentinel], laidTests := true, laidLooks := .later }
def FnExactOverGetUptoCardSaid : Prop := Claim7.holds Tryz.pinned (.plain (OpenSpec.upto fnExactOverGetSpec)) fnExactOverGetUptoCard

/-- THE SECOND FORM's CARD OF 'laws.FnExactOverDo'. -/
def fnExactOverDoUptoCard : Claim7 := { stood := { row := fnExactOverDoUptoRow, standIns := [], harness := (true, "b5cf6cdade6a9d9ed9842ff361c67ec03f841078a31203269895a90b481e9def"), looks := true }, kinds := [], alts := [], laidByText := true, laidKinds := [.handle, .sentinel, .sentinel, .sentinel, .sentinel, .sentinel, .sentinel, .sentinel, .sentinel], laidTests := true, laidLooks := .later }
def FnExactOverDoUptoCardSaid : Prop := Claim7.holds Tryz.pinned (.plain (OpenSpec.upto fnExactOverDoSpec)) fnExactOverDoUptoCard

/-- THE SECOND FORM's CARD OF 'laws.FnExactOverPush'. -/
def fnExactOverPushUptoCard : Claim7 := { stood := { row := fnExactOverPushUptoRow, standIns := [], harness := (true, "b5cf6cdade6a9d9ed9842ff361c67ec03f841078a31203269895a90b481e9def"), looks := true }, kinds := [], alts := [], laidByText := true, laidKinds := [.sentinel, .sentinel], laidTests := true, laidLooks := .later }
def FnExactOverPushUptoCardSaid : Prop := Claim7.holds Tryz.pinned (.plain (OpenSpec.upto fnExactOverPushSpec)) fnExactOverPushUptoCard
end Rows
end Go.Proofs.YteppodogghjfhaaGreatDoor
