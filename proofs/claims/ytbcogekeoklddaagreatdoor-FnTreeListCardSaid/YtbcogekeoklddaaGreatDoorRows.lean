/-
  NARROWER THAN 'FOR EVERY INPUT', by the rows' own cells (each row's printed sentence says how): FnTreeTurned: ifaces, laid · FnTreeMove: ifaces, laid · FnTreeList: ifaces, laid · FnTreeBack: ifaces, laid · FnTreeCode: ifaces, laid · FnTreeVia: ifaces, laid.
  DERIVED. THE GIVEN ROWS OF THIS SEAT. 6 by the template 'for every input the law returns true; each argument reads behind the call as it read before'; 0 by the template 'total and deterministic' (their statements: YtbcogekeoklddaaGreatDoorTotals.lean).
  GIVEN WITH THE SEED: the statements are not yours to turn. If you find one false, say at which input.
  Laid BY PROGRAM, IN A SANDBOX (cutbox-rows.mjs): the forced cells as the released guide's own fill.sh prints them over the translation 236ab5c2c13f7923… (all of the seat's roots in one cut). By AI agents, Wed Nov 11 2026. No macro, syntax, notation, axiom, sorry.
-/
import Derived.Test.YtbcogekeoklddaaGreatDoorChecked
import GoSem.Claim
import GoSem.ClaimJoined
import GoSem.ClaimMapViews
import Derived.JoinedTies
import Derived.KernelRfl
namespace Go.Proofs.YtbcogekeoklddaaGreatDoor
/- THE CELL 'sum', in the pinned program and in every row, IS THE sha256 OF THE DUMP (.gsa) THAT YtbcogekeoklddaaGreatDoorProg.lean LOADS. Nothing in Lean hashes anything: it is a label: what it is worth is what the hold of that sum in a sandbox is worth. -/
noncomputable def Tryz.pinned : Pinned := { name := "ytbcogekeoklddaagreatdoor", sum := "236ab5c2c13f79232d272562b3c49d45aabebeaf505893a6ce37960b3f3f4621", checked := Tryz.checked }
namespace Rows
def none {H : Type} : Left H := { results := [], args := [] }

/- WHAT THE LISTED PACKAGE-LEVEL VARIABLES READ AS WHEN THE CALL BEGINS. Each datum BY PROGRAM (the guide's laid-datum.mjs) off the statement by which the dump's own 'gosem.cut.vars' lays the variable. In a bare row this is a premise. The card (YtbcogekeoklddaaGreatDoorCards.lean) ties it to the program's text. -/
def laid_loop_example_pargeting_impl_errBad {H : Type} : DataW H := .iface "*errors.errorString" (.ptr (.agg [.lit (.string [119, 104, 97, 116, 32, 105, 115, 32, 97, 115, 107, 101, 100, 32, 102, 111, 114, 32, 99, 97, 110, 32, 110, 111, 116, 32, 98, 101, 32, 114, 101, 97, 100])]))
def laid_loop_example_pargeting_impl_errNone {H : Type} : DataW H := .iface "*errors.errorString" (.ptr (.agg [.lit (.string [110, 111, 116, 104, 105, 110, 103, 32, 105, 115, 32, 116, 104, 101, 114, 101])]))
def laid_loop_example_pargeting_impl_errNotDir {H : Type} : DataW H := .iface "*errors.errorString" (.ptr (.agg [.lit (.string [97, 32, 102, 105, 108, 101, 32, 105, 115, 32, 116, 104, 101, 114, 101])]))
def laid_loop_example_pargeting_impl_errThere {H : Type} : DataW H := .iface "*errors.errorString" (.ptr (.agg [.lit (.string [115, 111, 109, 101, 116, 104, 105, 110, 103, 32, 105, 115, 32, 116, 104, 101, 114, 101])]))
def laid_loop_example_pargeting_impl_errIsDir {H : Type} : DataW H := .iface "*errors.errorString" (.ptr (.agg [.lit (.string [97, 32, 100, 105, 114, 101, 99, 116, 111, 114, 121, 32, 105, 115, 32, 116, 104, 101, 114, 101])]))
def laid_loop_example_pargeting_impl_errKept {H : Type} : DataW H := .iface "*errors.errorString" (.ptr (.agg [.lit (.string [115, 111, 109, 101, 116, 104, 105, 110, 103, 32, 105, 115, 32, 105, 110, 32, 105, 116])]))
def laid_loop_example_pargeting_impl_errUnder {H : Type} : DataW H := .iface "*errors.errorString" (.ptr (.agg [.lit (.string [105, 116, 32, 119, 111, 117, 108, 100, 32, 98, 101, 32, 98, 101, 108, 111, 119, 32, 105, 116, 115, 101, 108, 102])]))
def laid_loop_example_pargeting_impl_errRoom {H : Type} : DataW H := .iface "*errors.errorString" (.ptr (.agg [.lit (.string [116, 104, 101, 114, 101, 32, 105, 115, 32, 110, 111, 32, 114, 111, 111, 109])]))

/-- 'laws.FnTreeTurned': WHATEVER THE INPUT: true; the input reads as it did. -/
def fnTreeTurnedSpec : ChangeSpec := { name := "fnTreeTurned", vars := ["loop.example/pargeting/impl.errNone", "loop.example/pargeting/impl.errNotDir", "loop.example/pargeting/impl.errBad", "loop.example/pargeting/impl.errThere", "loop.example/pargeting/impl.errIsDir", "loop.example/pargeting/impl.errKept", "loop.example/pargeting/impl.errUnder", "loop.example/pargeting/impl.errRoom"], fn := fun _ => fun
  | [d, g1, g2, g3, g4, g5, g6, g7, g8] => { results := [.lit (.bool true)], args := [d], vars := [g1, g2, g3, g4, g5, g6, g7, g8] }
  | _ => none }
def fnTreeTurnedRow : OpenClaim := { program := "ytbcogekeoklddaagreatdoor", sum := "236ab5c2c13f79232d272562b3c49d45aabebeaf505893a6ce37960b3f3f4621", func := "loop.example/pargeting/laws.FnTreeTurned", spec := "fnTreeTurned", inPlace := ["internal/reflectlite.TypeOf"], unfollowed := true, recurses := true, named := ["loop.example/pargeting/impl.errNone", "loop.example/pargeting/impl.errNotDir", "loop.example/pargeting/impl.errBad", "loop.example/pargeting/impl.errThere", "loop.example/pargeting/impl.errIsDir", "loop.example/pargeting/impl.errKept", "loop.example/pargeting/impl.errUnder", "loop.example/pargeting/impl.errRoom"], ifaces := true, apart := false, laid := [("loop.example/pargeting/impl.errBad", laid_loop_example_pargeting_impl_errBad), ("loop.example/pargeting/impl.errNone", laid_loop_example_pargeting_impl_errNone), ("loop.example/pargeting/impl.errNotDir", laid_loop_example_pargeting_impl_errNotDir), ("loop.example/pargeting/impl.errThere", laid_loop_example_pargeting_impl_errThere), ("loop.example/pargeting/impl.errIsDir", laid_loop_example_pargeting_impl_errIsDir), ("loop.example/pargeting/impl.errKept", laid_loop_example_pargeting_impl_errKept), ("loop.example/pargeting/impl.errUnder", laid_loop_example_pargeting_impl_errUnder), ("loop.example/pargeting/impl.errRoom", laid_loop_example_pargeting_impl_errRoom)] }
def FnTreeTurnedSaid : Prop := fnTreeTurnedRow.holds Tryz.pinned (OpenSpec.ofChange fnTreeTurnedSpec)

/-- ITS FALSE NEIGHBOUR: 'it returns false'. Refute it at one input. -/
def fnTreeTurnedWrong : ChangeSpec := { name := "fnTreeTurned", vars := ["loop.example/pargeting/impl.errNone", "loop.example/pargeting/impl.errNotDir", "loop.example/pargeting/impl.errBad", "loop.example/pargeting/impl.errThere", "loop.example/pargeting/impl.errIsDir", "loop.example/pargeting/impl.errKept", "loop.example/pargeting/impl.errUnder", "loop.example/pargeting/impl.errRoom"], fn := fun _ => fun
  | [d, g1, g2, g3, g4, g5, g6, g7, g8] => { results := [.lit (.bool false)], args := [d], vars := [g1, g2, g3, g4, g5, g6, g7, g8] }
  | _ => none }
def FnTreeTurnedWrongFalsely : Prop := fnTreeTurnedRow.holds Tryz.pinned (OpenSpec.ofChange fnTreeTurnedWrong)

/-- 'laws.FnTreeMove': WHATEVER THE INPUT: true; the input reads as it did. -/
def fnTreeMoveSpec : ChangeSpec := { name := "fnTreeMove", vars := ["loop.example/pargeting/impl.errNone", "loop.example/pargeting/impl.errNotDir", "loop.example/pargeting/impl.errBad", "loop.example/pargeting/impl.errThere", "loop.example/pargeting/impl.errIsDir", "loop.example/pargeting/impl.errKept", "loop.example/pargeting/impl.errUnder", "loop.example/pargeting/impl.errRoom"], fn := fun _ => fun
  | [d, g1, g2, g3, g4, g5, g6, g7, g8] => { results := [.lit (.bool true)], args := [d], vars := [g1, g2, g3, g4, g5, g6, g7, g8] }
  | _ => none }
def fnTreeMoveRow : OpenClaim := { program := "ytbcogekeoklddaagreatdoor", sum := "236ab5c2c13f79232d272562b3c49d45aabebeaf505893a6ce37960b3f3f4621", func := "loop.example/pargeting/laws.FnTreeMove", spec := "fnTreeMove", inPlace := ["internal/reflectlite.TypeOf"], unfollowed := true, recurses := true, named := ["loop.example/pargeting/impl.errNone", "loop.example/pargeting/impl.errNotDir", "loop.example/pargeting/impl.errBad", "loop.example/pargeting/impl.errThere", "loop.example/pargeting/impl.errIsDir", "loop.example/pargeting/impl.errKept", "loop.example/pargeting/impl.errUnder", "loop.example/pargeting/impl.errRoom"], ifaces := true, apart := false, laid := [("loop.example/pargeting/impl.errBad", laid_loop_example_pargeting_impl_errBad), ("loop.example/pargeting/impl.errNone", laid_loop_example_pargeting_impl_errNone), ("loop.example/pargeting/impl.errNotDir", laid_loop_example_pargeting_impl_errNotDir), ("loop.example/pargeting/impl.errThere", laid_loop_example_pargeting_impl_errThere), ("loop.example/pargeting/impl.errIsDir", laid_loop_example_pargeting_impl_errIsDir), ("loop.example/pargeting/impl.errKept", laid_loop_example_pargeting_impl_errKept), ("loop.example/pargeting/impl.errUnder", laid_loop_example_pargeting_impl_errUnder), ("loop.example/pargeting/impl.errRoom", laid_loop_example_pargeting_impl_errRoom)] }
def FnTreeMoveSaid : Prop := fnTreeMoveRow.holds Tryz.pinned (OpenSpec.ofChange fnTreeMoveSpec)

/-- ITS FALSE NEIGHBOUR: 'it returns false'. Refute it at one input. -/
def fnTreeMoveWrong : ChangeSpec := { name := "fnTreeMove", vars := ["loop.example/pargeting/impl.errNone", "loop.example/pargeting/impl.errNotDir", "loop.example/pargeting/impl.errBad", "loop.example/pargeting/impl.errThere", "loop.example/pargeting/impl.errIsDir", "loop.example/pargeting/impl.errKept", "loop.example/pargeting/impl.errUnder", "loop.example/pargeting/impl.errRoom"], fn := fun _ => fun
  | [d, g1, g2, g3, g4, g5, g6, g7, g8] => { results := [.lit (.bool false)], args := [d], vars := [g1, g2, g3, g4, g5, g6, g7, g8] }
  | _ => none }
def FnTreeMoveWrongFalsely : Prop := fnTreeMoveRow.holds Tryz.pinned (OpenSpec.ofChange fnTreeMoveWrong)

/-- 'laws.FnTreeList': WHATEVER THE INPUT: true; the input reads as it did. -/
def fnTreeListSpec : ChangeSpec := { name := "fnTreeList", vars := ["loop.example/pargeting/impl.errNone", "loop.example/pargeting/impl.errNotDir", "loop.example/pargeting/impl.errThere", "loop.example/pargeting/impl.errIsDir", "loop.example/pargeting/impl.errKept", "loop.example/pargeting/impl.errUnder", "loop.example/pargeting/impl.errRoom"], fn := fun _ => fun
  | [d, g1, g2, g3, g4, g5, g6, g7] => { results := [.lit (.bool true)], args := [d], vars := [g1, g2, g3, g4, g5, g6, g7] }
  | _ => none }
def fnTreeListRow : OpenClaim := { program := "ytbcogekeoklddaagreatdoor", sum := "236ab5c2c13f79232d272562b3c49d45aabebeaf505893a6ce37960b3f3f4621", func := "loop.example/pargeting/laws.FnTreeList", spec := "fnTreeList", inPlace := ["internal/reflectlite.TypeOf"], unfollowed := true, recurses := true, named := ["loop.example/pargeting/impl.errNone", "loop.example/pargeting/impl.errNotDir", "loop.example/pargeting/impl.errThere", "loop.example/pargeting/impl.errIsDir", "loop.example/pargeting/impl.errKept", "loop.example/pargeting/impl.errUnder", "loop.example/pargeting/impl.errRoom"], ifaces := true, apart := false, laid := [("loop.example/pargeting/impl.errNone", laid_loop_example_pargeting_impl_errNone), ("loop.example/pargeting/impl.errNotDir", laid_loop_example_pargeting_impl_errNotDir), ("loop.example/pargeting/impl.errThere", laid_loop_example_pargeting_impl_errThere), ("loop.example/pargeting/impl.errIsDir", laid_loop_example_pargeting_impl_errIsDir), ("loop.example/pargeting/impl.errKept", laid_loop_example_pargeting_impl_errKept), ("loop.example/pargeting/impl.errUnder", laid_loop_example_pargeting_impl_errUnder), ("loop.example/pargeting/impl.errRoom", laid_loop_example_pargeting_impl_errRoom)] }
def FnTreeListSaid : Prop := fnTreeListRow.holds Tryz.pinned (OpenSpec.ofChange fnTreeListSpec)

/-- ITS FALSE NEIGHBOUR: 'it returns false'. Refute it at one input. -/
def fnTreeListWrong : ChangeSpec := { name := "fnTreeList", vars := ["loop.example/pargeting/impl.errNone", "loop.example/pargeting/impl.errNotDir", "loop.example/pargeting/impl.errThere", "loop.example/pargeting/impl.errIsDir", "loop.example/pargeting/impl.errKept", "loop.example/pargeting/impl.errUnder", "loop.example/pargeting/impl.errRoom"], fn := fun _ => fun
  | [d, g1, g2, g3, g4, g5, g6, g7] => { results := [.lit (.bool false)], args := [d], vars := [g1, g2, g3, g4, g5, g6, g7] }
  | _ => none }
def FnTreeListWrongFalsely : Prop := fnTreeListRow.holds Tryz.pinned (OpenSpec.ofChange fnTreeListWrong)

/-- 'laws.FnTreeBack': WHATEVER THE INPUT: true; the input reads as it did. -/
def fnTreeBackSpec : ChangeSpec := { name := "fnTreeBack", vars := ["loop.example/pargeting/impl.errNone", "loop.example/pargeting/impl.errNotDir", "loop.example/pargeting/impl.errBad", "loop.example/pargeting/impl.errThere", "loop.example/pargeting/impl.errIsDir", "loop.example/pargeting/impl.errKept", "loop.example/pargeting/impl.errUnder", "loop.example/pargeting/impl.errRoom"], fn := fun _ => fun
  | [d, g1, g2, g3, g4, g5, g6, g7, g8] => { results := [.lit (.bool true)], args := [d], vars := [g1, g2, g3, g4, g5, g6, g7, g8] }
  | _ => none }
def fnTreeBackRow : OpenClaim := { program := "ytbcogekeoklddaagreatdoor", sum := "236ab5c2c13f79232d272562b3c49d45aabebeaf505893a6ce37960b3f3f4621", func := "loop.example/pargeting/laws.FnTreeBack", spec := "fnTreeBack", inPlace := ["internal/reflectlite.TypeOf"], unfollowed := true, recurses := true, named := ["loop.example/pargeting/impl.errNone", "loop.example/pargeting/impl.errNotDir", "loop.example/pargeting/impl.errBad", "loop.example/pargeting/impl.errThere", "loop.example/pargeting/impl.errIsDir", "loop.example/pargeting/impl.errKept", "loop.example/pargeting/impl.errUnder", "loop.example/pargeting/impl.errRoom"], ifaces := true, apart := false, laid := [("loop.example/pargeting/impl.errBad", laid_loop_example_pargeting_impl_errBad), ("loop.example/pargeting/impl.errNone", laid_loop_example_pargeting_impl_errNone), ("loop.example/pargeting/impl.errNotDir", laid_loop_example_pargeting_impl_errNotDir), ("loop.example/pargeting/impl.errThere", laid_loop_example_pargeting_impl_errThere), ("loop.example/pargeting/impl.errIsDir", laid_loop_example_pargeting_impl_errIsDir), ("loop.example/pargeting/impl.errKept", laid_loop_example_pargeting_impl_errKept), ("loop.example/pargeting/impl.errUnder", laid_loop_example_pargeting_impl_errUnder), ("loop.example/pargeting/impl.errRoom", laid_loop_example_pargeting_impl_errRoom)] }
def FnTreeBackSaid : Prop := fnTreeBackRow.holds Tryz.pinned (OpenSpec.ofChange fnTreeBackSpec)

/-- ITS FALSE NEIGHBOUR: 'it returns false'. Refute it at one input. -/
def fnTreeBackWrong : ChangeSpec := { name := "fnTreeBack", vars := ["loop.example/pargeting/impl.errNone", "loop.example/pargeting/impl.errNotDir", "loop.example/pargeting/impl.errBad", "loop.example/pargeting/impl.errThere", "loop.example/pargeting/impl.errIsDir", "loop.example/pargeting/impl.errKept", "loop.example/pargeting/impl.errUnder", "loop.example/pargeting/impl.errRoom"], fn := fun _ => fun
  | [d, g1, g2, g3, g4, g5, g6, g7, g8] => { results := [.lit (.bool false)], args := [d], vars := [g1, g2, g3, g4, g5, g6, g7, g8] }
  | _ => none }
def FnTreeBackWrongFalsely : Prop := fnTreeBackRow.holds Tryz.pinned (OpenSpec.ofChange fnTreeBackWrong)

/-- 'laws.FnTreeCode': WHATEVER THE INPUT: true; the input reads as it did. -/
def fnTreeCodeSpec : ChangeSpec := { name := "fnTreeCode", vars := ["loop.example/pargeting/impl.errNone", "loop.example/pargeting/impl.errNotDir", "loop.example/pargeting/impl.errBad", "loop.example/pargeting/impl.errThere", "loop.example/pargeting/impl.errIsDir", "loop.example/pargeting/impl.errKept", "loop.example/pargeting/impl.errUnder", "loop.example/pargeting/impl.errRoom"], fn := fun _ => fun
  | [d, g1, g2, g3, g4, g5, g6, g7, g8] => { results := [.lit (.bool true)], args := [d], vars := [g1, g2, g3, g4, g5, g6, g7, g8] }
  | _ => none }
def fnTreeCodeRow : OpenClaim := { program := "ytbcogekeoklddaagreatdoor", sum := "236ab5c2c13f79232d272562b3c49d45aabebeaf505893a6ce37960b3f3f4621", func := "loop.example/pargeting/laws.FnTreeCode", spec := "fnTreeCode", inPlace := ["internal/reflectlite.TypeOf"], unfollowed := true, recurses := true, named := ["loop.example/pargeting/impl.errNone", "loop.example/pargeting/impl.errNotDir", "loop.example/pargeting/impl.errBad", "loop.example/pargeting/impl.errThere", "loop.example/pargeting/impl.errIsDir", "loop.example/pargeting/impl.errKept", "loop.example/pargeting/impl.errUnder", "loop.example/pargeting/impl.errRoom"], ifaces := true, apart := false, laid := [("loop.example/pargeting/impl.errBad", laid_loop_example_pargeting_impl_errBad), ("loop.example/pargeting/impl.errNone", laid_loop_example_pargeting_impl_errNone), ("loop.example/pargeting/impl.errNotDir", laid_loop_example_pargeting_impl_errNotDir), ("loop.example/pargeting/impl.errThere", laid_loop_example_pargeting_impl_errThere), ("loop.example/pargeting/impl.errIsDir", laid_loop_example_pargeting_impl_errIsDir), ("loop.example/pargeting/impl.errKept", laid_loop_example_pargeting_impl_errKept), ("loop.example/pargeting/impl.errUnder", laid_loop_example_pargeting_impl_errUnder), ("loop.example/pargeting/impl.errRoom", laid_loop_example_pargeting_impl_errRoom)] }
def FnTreeCodeSaid : Prop := fnTreeCodeRow.holds Tryz.pinned (OpenSpec.ofChange fnTreeCodeSpec)

/-- ITS FALSE NEIGHBOUR: 'it returns false'. Refute it at one input. -/
def fnTreeCodeWrong : ChangeSpec := { name := "fnTreeCode", vars := ["loop.example/pargeting/impl.errNone", "loop.example/pargeting/impl.errNotDir", "loop.example/pargeting/impl.errBad", "loop.example/pargeting/impl.errThere", "loop.example/pargeting/impl.errIsDir", "loop.example/pargeting/impl.errKept", "loop.example/pargeting/impl.errUnder", "loop.example/pargeting/impl.errRoom"], fn := fun _ => fun
  | [d, g1, g2, g3, g4, g5, g6, g7, g8] => { results := [.lit (.bool false)], args := [d], vars := [g1, g2, g3, g4, g5, g6, g7, g8] }
  | _ => none }
def FnTreeCodeWrongFalsely : Prop := fnTreeCodeRow.holds Tryz.pinned (OpenSpec.ofChange fnTreeCodeWrong)

/-- 'laws.FnTreeVia': WHATEVER THE INPUT: true; the input reads as it did. -/
def fnTreeViaSpec : ChangeSpec := { name := "fnTreeVia", vars := ["loop.example/pargeting/impl.errNone", "loop.example/pargeting/impl.errNotDir", "loop.example/pargeting/impl.errBad", "loop.example/pargeting/impl.errThere", "loop.example/pargeting/impl.errIsDir", "loop.example/pargeting/impl.errKept", "loop.example/pargeting/impl.errUnder", "loop.example/pargeting/impl.errRoom"], fn := fun _ => fun
  | [d1, d2, g1, g2, g3, g4, g5, g6, g7, g8] => { results := [.lit (.bool true)], args := [d1, d2], vars := [g1, g2, g3, g4, g5, g6, g7, g8] }
  | _ => none }
def fnTreeViaRow : OpenClaim := { program := "ytbcogekeoklddaagreatdoor", sum := "236ab5c2c13f79232d272562b3c49d45aabebeaf505893a6ce37960b3f3f4621", func := "loop.example/pargeting/laws.FnTreeVia", spec := "fnTreeVia", inPlace := ["internal/reflectlite.TypeOf"], unfollowed := true, recurses := true, named := ["loop.example/pargeting/impl.errNone", "loop.example/pargeting/impl.errNotDir", "loop.example/pargeting/impl.errBad", "loop.example/pargeting/impl.errThere", "loop.example/pargeting/impl.errIsDir", "loop.example/pargeting/impl.errKept", "loop.example/pargeting/impl.errUnder", "loop.example/pargeting/impl.errRoom"], ifaces := true, apart := false, laid := [("loop.example/pargeting/impl.errBad", laid_loop_example_pargeting_impl_errBad), ("loop.example/pargeting/impl.errNone", laid_loop_example_pargeting_impl_errNone), ("loop.example/pargeting/impl.errNotDir", laid_loop_example_pargeting_impl_errNotDir), ("loop.example/pargeting/impl.errThere", laid_loop_example_pargeting_impl_errThere), ("loop.example/pargeting/impl.errIsDir", laid_loop_example_pargeting_impl_errIsDir), ("loop.example/pargeting/impl.errKept", laid_loop_example_pargeting_impl_errKept), ("loop.example/pargeting/impl.errUnder", laid_loop_example_pargeting_impl_errUnder), ("loop.example/pargeting/impl.errRoom", laid_loop_example_pargeting_impl_errRoom)] }
def FnTreeViaSaid : Prop := fnTreeViaRow.holds Tryz.pinned (OpenSpec.ofChange fnTreeViaSpec)

/-- ITS FALSE NEIGHBOUR: 'it returns false'. Refute it at one input. -/
def fnTreeViaWrong : ChangeSpec := { name := "fnTreeVia", vars := ["loop.example/pargeting/impl.errNone", "loop.example/pargeting/impl.errNotDir", "loop.example/pargeting/impl.errBad", "loop.example/pargeting/impl.errThere", "loop.example/pargeting/impl.errIsDir", "loop.example/pargeting/impl.errKept", "loop.example/pargeting/impl.errUnder", "loop.example/pargeting/impl.errRoom"], fn := fun _ => fun
  | [d1, d2, g1, g2, g3, g4, g5, g6, g7, g8] => { results := [.lit (.bool false)], args := [d1, d2], vars := [g1, g2, g3, g4, g5, g6, g7, g8] }
  | _ => none }
def FnTreeViaWrongFalsely : Prop := fnTreeViaRow.holds Tryz.pinned (OpenSpec.ofChange fnTreeViaWrong)

/- THE SECOND FORM. 'bulk': how many values and letters a reading holds, each counted each time it is reached (what is shared counts as often as it is met; a slice's spare places count too). A statement '..UptoSaid' is the law's where the arguments, and the package variables that the reading takes, are together of bulk at most 1048576: NARROWER than '..Said'. Prove '..Said' where nothing that the law and all that it calls make is longer than what came in: it says more and counts as full. Else prove '..UptoSaid'. A law counts once. -/
mutual
def uptoBulk {H : Type} : DataW H → Nat
  | .lit (.string bytes) => bytes.length + 1
  | .lit _ => 1
  | .nil => 1
  | .ptr d => uptoBulk d + 1
  | .slice elems spare => uptoBulkAll elems + uptoBulkAll spare + 1
  | .agg parts => uptoBulkAll parts + 1
  | .iface _ d => uptoBulk d + 1
  | .map entries => uptoBulkEntries entries + 1
  | .held _ => 1
def uptoBulkAll {H : Type} : List (DataW H) → Nat
  | [] => 0
  | d :: r => uptoBulk d + uptoBulkAll r
def uptoBulkEntries {H : Type} : List (Lit × DataW H) → Nat
  | [] => 0
  | x :: r => uptoBulkEntry x + uptoBulkEntries r
def uptoBulkEntry {H : Type} : Lit × DataW H → Nat
  | (.string bytes, d) => bytes.length + uptoBulk d + 1
  | (_, d) => uptoBulk d + 1
 end
def uptoSmall : (H : Type) → List (DataW H) → Bool := fun _ ds => decide (uptoBulkAll ds ≤ 1048576)
def OpenSpec.upto (s : _root_.Go.ChangeSpec) : _root_.Go.OpenSpec := { _root_.Go.OpenSpec.ofChange s with cond := some uptoSmall }

/-- 'laws.FnTreeTurned', WHERE WHAT IT READS IS OF BULK AT MOST 1048576: true; the input reads as it did. -/
def fnTreeTurnedUptoRow : OpenClaim := { program := "ytbcogekeoklddaagreatdoor", sum := "236ab5c2c13f79232d272562b3c49d45aabebeaf505893a6ce37960b3f3f4621", func := "loop.example/pargeting/laws.FnTreeTurned", spec := "fnTreeTurned", inPlace := ["internal/reflectlite.TypeOf"], unfollowed := true, recurses := true, named := ["loop.example/pargeting/impl.errNone", "loop.example/pargeting/impl.errNotDir", "loop.example/pargeting/impl.errBad", "loop.example/pargeting/impl.errThere", "loop.example/pargeting/impl.errIsDir", "loop.example/pargeting/impl.errKept", "loop.example/pargeting/impl.errUnder", "loop.example/pargeting/impl.errRoom"], ifaces := true, apart := false, laid := [("loop.example/pargeting/impl.errBad", laid_loop_example_pargeting_impl_errBad), ("loop.example/pargeting/impl.errNone", laid_loop_example_pargeting_impl_errNone), ("loop.example/pargeting/impl.errNotDir", laid_loop_example_pargeting_impl_errNotDir), ("loop.example/pargeting/impl.errThere", laid_loop_example_pargeting_impl_errThere), ("loop.example/pargeting/impl.errIsDir", laid_loop_example_pargeting_impl_errIsDir), ("loop.example/pargeting/impl.errKept", laid_loop_example_pargeting_impl_errKept), ("loop.example/pargeting/impl.errUnder", laid_loop_example_pargeting_impl_errUnder), ("loop.example/pargeting/impl.errRoom", laid_loop_example_pargeting_impl_errRoom)], narrowed := true }
def FnTreeTurnedUptoSaid : Prop := fnTreeTurnedUptoRow.holds Tryz.pinned (OpenSpec.upto fnTreeTurnedSpec)

/-- 'laws.FnTreeMove', WHERE WHAT IT READS IS OF BULK AT MOST 1048576: true; the input reads as it did. -/
def fnTreeMoveUptoRow : OpenClaim := { program := "ytbcogekeoklddaagreatdoor", sum := "236ab5c2c13f79232d272562b3c49d45aabebeaf505893a6ce37960b3f3f4621", func := "loop.example/pargeting/laws.FnTreeMove", spec := "fnTreeMove", inPlace := ["internal/reflectlite.TypeOf"], unfollowed := true, recurses := true, named := ["loop.example/pargeting/impl.errNone", "loop.example/pargeting/impl.errNotDir", "loop.example/pargeting/impl.errBad", "loop.example/pargeting/impl.errThere", "loop.example/pargeting/impl.errIsDir", "loop.example/pargeting/impl.errKept", "loop.example/pargeting/impl.errUnder", "loop.example/pargeting/impl.errRoom"], ifaces := true, apart := false, laid := [("loop.example/pargeting/impl.errBad", laid_loop_example_pargeting_impl_errBad), ("loop.example/pargeting/impl.errNone", laid_loop_example_pargeting_impl_errNone), ("loop.example/pargeting/impl.errNotDir", laid_loop_example_pargeting_impl_errNotDir), ("loop.example/pargeting/impl.errThere", laid_loop_example_pargeting_impl_errThere), ("loop.example/pargeting/impl.errIsDir", laid_loop_example_pargeting_impl_errIsDir), ("loop.example/pargeting/impl.errKept", laid_loop_example_pargeting_impl_errKept), ("loop.example/pargeting/impl.errUnder", laid_loop_example_pargeting_impl_errUnder), ("loop.example/pargeting/impl.errRoom", laid_loop_example_pargeting_impl_errRoom)], narrowed := true }
def FnTreeMoveUptoSaid : Prop := fnTreeMoveUptoRow.holds Tryz.pinned (OpenSpec.upto fnTreeMoveSpec)

/-- 'laws.FnTreeList', WHERE WHAT IT READS IS OF BULK AT MOST 1048576: true; the input reads as it did. -/
def fnTreeListUptoRow : OpenClaim := { program := "ytbcogekeoklddaagreatdoor", sum := "236ab5c2c13f79232d272562b3c49d45aabebeaf505893a6ce37960b3f3f4621", func := "loop.example/pargeting/laws.FnTreeList", spec := "fnTreeList", inPlace := ["internal/reflectlite.TypeOf"], unfollowed := true, recurses := true, named := ["loop.example/pargeting/impl.errNone", "loop.example/pargeting/impl.errNotDir", "loop.example/pargeting/impl.errThere", "loop.example/pargeting/impl.errIsDir", "loop.example/pargeting/impl.errKept", "loop.example/pargeting/impl.errUnder", "loop.example/pargeting/impl.errRoom"], ifaces := true, apart := false, laid := [("loop.example/pargeting/impl.errNone", laid_loop_example_pargeting_impl_errNone), ("loop.example/pargeting/impl.errNotDir", laid_loop_example_pargeting_impl_errNotDir), ("loop.example/pargeting/impl.errThere", laid_loop_example_pargeting_impl_errThere), ("loop.example/pargeting/impl.errIsDir", laid_loop_example_pargeting_impl_errIsDir), ("loop.example/pargeting/impl.errKept", laid_loop_example_pargeting_impl_errKept), ("loop.example/pargeting/impl.errUnder", laid_loop_example_pargeting_impl_errUnder), ("loop.example/pargeting/impl.errRoom", laid_loop_example_pargeting_impl_errRoom)], narrowed := true }
def FnTreeListUptoSaid : Prop := fnTreeListUptoRow.holds Tryz.pinned (OpenSpec.upto fnTreeListSpec)

/-- 'laws.FnTreeBack', WHERE WHAT IT READS IS OF BULK AT MOST 1048576: true; the input reads as it did. -/
def fnTreeBackUptoRow : OpenClaim := { program := "ytbcogekeoklddaagreatdoor", sum := "236ab5c2c13f79232d272562b3c49d45aabebeaf505893a6ce37960b3f3f4621", func := "loop.example/pargeting/laws.FnTreeBack", spec := "fnTreeBack", inPlace := ["internal/reflectlite.TypeOf"], unfollowed := true, recurses := true, named := ["loop.example/pargeting/impl.errNone", "loop.example/pargeting/impl.errNotDir", "loop.example/pargeting/impl.errBad", "loop.example/pargeting/impl.errThere", "loop.example/pargeting/impl.errIsDir", "loop.example/pargeting/impl.errKept", "loop.example/pargeting/impl.errUnder", "loop.example/pargeting/impl.errRoom"], ifaces := true, apart := false, laid := [("loop.example/pargeting/impl.errBad", laid_loop_example_pargeting_impl_errBad), ("loop.example/pargeting/impl.errNone", laid_loop_example_pargeting_impl_errNone), ("loop.example/pargeting/impl.errNotDir", laid_loop_example_pargeting_impl_errNotDir), ("loop.example/pargeting/impl.errThere", laid_loop_example_pargeting_impl_errThere), ("loop.example/pargeting/impl.errIsDir", laid_loop_example_pargeting_impl_errIsDir), ("loop.example/pargeting/impl.errKept", laid_loop_example_pargeting_impl_errKept), ("loop.example/pargeting/impl.errUnder", laid_loop_example_pargeting_impl_errUnder), ("loop.example/pargeting/impl.errRoom", laid_loop_example_pargeting_impl_errRoom)], narrowed := true }
def FnTreeBackUptoSaid : Prop := fnTreeBackUptoRow.holds Tryz.pinned (OpenSpec.upto fnTreeBackSpec)

/-- 'laws.FnTreeCode', WHERE WHAT IT READS IS OF BULK AT MOST 1048576: true; the input reads as it did. -/
def fnTreeCodeUptoRow : OpenClaim := { program := "ytbcogekeoklddaagreatdoor", sum := "236ab5c2c13f79232d272562b3c49d45aabebeaf505893a6ce37960b3f3f4621", func := "loop.example/pargeting/laws.FnTreeCode", spec := "fnTreeCode", inPlace := ["internal/reflectlite.TypeOf"], unfollowed := true, recurses := true, named := ["loop.example/pargeting/impl.errNone", "loop.example/pargeting/impl.errNotDir", "loop.example/pargeting/impl.errBad", "loop.example/pargeting/impl.errThere", "loop.example/pargeting/impl.errIsDir", "loop.example/pargeting/impl.errKept", "loop.example/pargeting/impl.errUnder", "loop.example/pargeting/impl.errRoom"], ifaces := true, apart := false, laid := [("loop.example/pargeting/impl.errBad", laid_loop_example_pargeting_impl_errBad), ("loop.example/pargeting/impl.errNone", laid_loop_example_pargeting_impl_errNone), ("loop.example/pargeting/impl.errNotDir", laid_loop_example_pargeting_impl_errNotDir), ("loop.example/pargeting/impl.errThere", laid_loop_example_pargeting_impl_errThere), ("loop.example/pargeting/impl.errIsDir", laid_loop_example_pargeting_impl_errIsDir), ("loop.example/pargeting/impl.errKept", laid_loop_example_pargeting_impl_errKept), ("loop.example/pargeting/impl.errUnder", laid_loop_example_pargeting_impl_errUnder), ("loop.example/pargeting/impl.errRoom", laid_loop_example_pargeting_impl_errRoom)], narrowed := true }
def FnTreeCodeUptoSaid : Prop := fnTreeCodeUptoRow.holds Tryz.pinned (OpenSpec.upto fnTreeCodeSpec)

/-- 'laws.FnTreeVia', WHERE WHAT IT READS IS OF BULK AT MOST 1048576: true; the input reads as it did. -/
def fnTreeViaUptoRow : OpenClaim := { program := "ytbcogekeoklddaagreatdoor", sum := "236ab5c2c13f79232d272562b3c49d45aabebeaf505893a6ce37960b3f3f4621", func := "loop.example/pargeting/laws.FnTreeVia", spec := "fnTreeVia", inPlace := ["internal/reflectlite.TypeOf"], unfollowed := true, recurses := true, named := ["loop.example/pargeting/impl.errNone", "loop.example/pargeting/impl.errNotDir", "loop.example/pargeting/impl.errBad", "loop.example/pargeting/impl.errThere", "loop.example/pargeting/impl.errIsDir", "loop.example/pargeting/impl.errKept", "loop.example/pargeting/impl.errUnder", "loop.example/pargeting/impl.errRoom"], ifaces := true, apart := false, laid := [("loop.example/pargeting/impl.errBad", laid_loop_example_pargeting_impl_errBad), ("loop.example/pargeting/impl.errNone", laid_loop_example_pargeting_impl_errNone), ("loop.example/pargeting/impl.errNotDir", laid_loop_example_pargeting_impl_errNotDir), ("loop.example/pargeting/impl.errThere", laid_loop_example_pargeting_impl_errThere), ("loop.example/pargeting/impl.errIsDir", laid_loop_example_pargeting_impl_errIsDir), ("loop.example/pargeting/impl.errKept", laid_loop_example_pargeting_impl_errKept), ("loop.example/pargeting/impl.errUnder", laid_loop_example_pargeting_impl_errUnder), ("loop.example/pargeting/impl.errRoom", laid_loop_example_pargeting_impl_errRoom)], narrowed := true }
def FnTreeViaUptoSaid : Prop := fnTreeViaUptoRow.holds Tryz.pinned (OpenSpec.upto fnTreeViaSpec)

end Rows
end Go.Proofs.YtbcogekeoklddaaGreatDoor
