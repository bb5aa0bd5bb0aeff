/-
  NARROWER THAN 'FOR EVERY INPUT', by the rows' own cells (each row's printed sentence says how): FnExactOverOk: ifaces, laid · FnExactOverLower: ifaces, laid · FnExactOverView: ifaces, laid · FnExactOverGet: ifaces, laid · FnExactOverDo: ifaces, laid · FnExactOverPush: ifaces, laid.
  DERIVED. THE GIVEN ROWS OF THIS SEAT. 6 by the template 'for every input the law returns true; each argument reads behind the call as it read before'; 0 by the template 'total and deterministic' (their statements: YteppodogghjfhaaGreatDoorTotals.lean).
  GIVEN WITH THE SEED: the statements are not yours to turn. If you find one false, say at which input.
  Laid BY PROGRAM, IN A SANDBOX (cutbox-rows.mjs): the forced cells as the released guide's own fill.sh prints them over the translation 09810264c4891841… (all of the seat's roots in one cut). By AI agents, Wed Nov 11 2026. No macro, syntax, notation, axiom, sorry.
-/
import Derived.Test.YteppodogghjfhaaGreatDoorChecked
import GoSem.Claim
import GoSem.ClaimJoined
import GoSem.ClaimMapViews
import Derived.JoinedTies
import Derived.KernelRfl
namespace Go.Proofs.YteppodogghjfhaaGreatDoor
/- THE CELL 'sum', in the pinned program and in every row, IS THE sha256 OF THE DUMP (.gsa) THAT YteppodogghjfhaaGreatDoorProg.lean LOADS. Nothing in Lean hashes anything: it is a label: what it is worth is what the hold of that sum in a sandbox is worth. -/
noncomputable def Tryz.pinned : Pinned := { name := "yteppodogghjfhaagreatdoor", sum := "09810264c4891841d70aeec24e251471e3999b7186c9a91201f97bc8b95f1d26", checked := Tryz.checked }
namespace Rows
def none {H : Type} : Left H := { results := [], args := [] }

/- WHAT THE LISTED PACKAGE-LEVEL VARIABLES READ AS WHEN THE CALL BEGINS. Each datum BY PROGRAM (the guide's laid-datum.mjs) off the statement by which the dump's own 'gosem.cut.vars' lays the variable. In a bare row this is a premise. The card (YteppodogghjfhaaGreatDoorCards.lean) ties it to the program's text. -/
def laid_loop_example_pargeting_impl_errNone {H : Type} : DataW H := .iface "*errors.errorString" (.ptr (.agg [.lit (.string [110, 111, 116, 104, 105, 110, 103, 32, 105, 115, 32, 116, 104, 101, 114, 101])]))
def laid_loop_example_pargeting_impl_errNotDir {H : Type} : DataW H := .iface "*errors.errorString" (.ptr (.agg [.lit (.string [97, 32, 102, 105, 108, 101, 32, 105, 115, 32, 116, 104, 101, 114, 101])]))
def laid_errors_errorType {H : Type} : DataW H := .iface "internal/reflectlite.rtype" (.agg [.ptr (.lit (.string [101, 114, 114, 111, 114]))])
def laid_loop_example_pargeting_impl_errBad {H : Type} : DataW H := .iface "*errors.errorString" (.ptr (.agg [.lit (.string [119, 104, 97, 116, 32, 105, 115, 32, 97, 115, 107, 101, 100, 32, 102, 111, 114, 32, 99, 97, 110, 32, 110, 111, 116, 32, 98, 101, 32, 114, 101, 97, 100])]))
def laid_loop_example_pargeting_impl_errThere {H : Type} : DataW H := .iface "*errors.errorString" (.ptr (.agg [.lit (.string [115, 111, 109, 101, 116, 104, 105, 110, 103, 32, 105, 115, 32, 116, 104, 101, 114, 101])]))
def laid_loop_example_pargeting_impl_errIsDir {H : Type} : DataW H := .iface "*errors.errorString" (.ptr (.agg [.lit (.string [97, 32, 100, 105, 114, 101, 99, 116, 111, 114, 121, 32, 105, 115, 32, 116, 104, 101, 114, 101])]))
def laid_loop_example_pargeting_impl_errKept {H : Type} : DataW H := .iface "*errors.errorString" (.ptr (.agg [.lit (.string [115, 111, 109, 101, 116, 104, 105, 110, 103, 32, 105, 115, 32, 105, 110, 32, 105, 116])]))
def laid_loop_example_pargeting_impl_errUnder {H : Type} : DataW H := .iface "*errors.errorString" (.ptr (.agg [.lit (.string [105, 116, 32, 119, 111, 117, 108, 100, 32, 98, 101, 32, 98, 101, 108, 111, 119, 32, 105, 116, 115, 101, 108, 102])]))
def laid_loop_example_pargeting_impl_errRoom {H : Type} : DataW H := .iface "*errors.errorString" (.ptr (.agg [.lit (.string [116, 104, 101, 114, 101, 32, 105, 115, 32, 110, 111, 32, 114, 111, 111, 109])]))

/-- 'laws.FnExactOverOk': WHATEVER THE INPUT: true; the input reads as it did. -/
def fnExactOverOkSpec : ChangeSpec := { name := "fnExactOverOk", vars := ["loop.example/pargeting/impl.errNone", "loop.example/pargeting/impl.errNotDir"], fn := fun _ => fun
  | [d, g1, g2] => { results := [.lit (.bool true)], args := [d], vars := [g1, g2] }
  | _ => none }
def fnExactOverOkRow : OpenClaim := { program := "yteppodogghjfhaagreatdoor", sum := "09810264c4891841d70aeec24e251471e3999b7186c9a91201f97bc8b95f1d26", func := "loop.example/pargeting/laws.FnExactOverOk", spec := "fnExactOverOk", unfollowed := true, recurses := true, named := ["loop.example/pargeting/impl.errNone", "loop.example/pargeting/impl.errNotDir"], ifaces := true, apart := false, laid := [("loop.example/pargeting/impl.errNone", laid_loop_example_pargeting_impl_errNone), ("loop.example/pargeting/impl.errNotDir", laid_loop_example_pargeting_impl_errNotDir)] }
def FnExactOverOkSaid : Prop := fnExactOverOkRow.holds Tryz.pinned (OpenSpec.ofChange fnExactOverOkSpec)

/-- ITS FALSE NEIGHBOUR: 'it returns false'. Refute it at one input. -/
def fnExactOverOkWrong : ChangeSpec := { name := "fnExactOverOk", vars := ["loop.example/pargeting/impl.errNone", "loop.example/pargeting/impl.errNotDir"], fn := fun _ => fun
  | [d, g1, g2] => { results := [.lit (.bool false)], args := [d], vars := [g1, g2] }
  | _ => none }
def FnExactOverOkWrongFalsely : Prop := fnExactOverOkRow.holds Tryz.pinned (OpenSpec.ofChange fnExactOverOkWrong)

/-- 'laws.FnExactOverLower': WHATEVER THE INPUT: true; the input reads as it did. -/
def fnExactOverLowerSpec : ChangeSpec := { name := "fnExactOverLower", vars := ["loop.example/pargeting/impl.errNone", "loop.example/pargeting/impl.errNotDir"], fn := fun _ => fun
  | [d, g1, g2] => { results := [.lit (.bool true)], args := [d], vars := [g1, g2] }
  | _ => none }
def fnExactOverLowerRow : OpenClaim := { program := "yteppodogghjfhaagreatdoor", sum := "09810264c4891841d70aeec24e251471e3999b7186c9a91201f97bc8b95f1d26", func := "loop.example/pargeting/laws.FnExactOverLower", spec := "fnExactOverLower", unfollowed := true, recurses := true, named := ["loop.example/pargeting/impl.errNone", "loop.example/pargeting/impl.errNotDir"], ifaces := true, apart := false, laid := [("loop.example/pargeting/impl.errNone", laid_loop_example_pargeting_impl_errNone), ("loop.example/pargeting/impl.errNotDir", laid_loop_example_pargeting_impl_errNotDir)] }
def FnExactOverLowerSaid : Prop := fnExactOverLowerRow.holds Tryz.pinned (OpenSpec.ofChange fnExactOverLowerSpec)

/-- ITS FALSE NEIGHBOUR: 'it returns false'. Refute it at one input. -/
def fnExactOverLowerWrong : ChangeSpec := { name := "fnExactOverLower", vars := ["loop.example/pargeting/impl.errNone", "loop.example/pargeting/impl.errNotDir"], fn := fun _ => fun
  | [d, g1, g2] => { results := [.lit (.bool false)], args := [d], vars := [g1, g2] }
  | _ => none }
def FnExactOverLowerWrongFalsely : Prop := fnExactOverLowerRow.holds Tryz.pinned (OpenSpec.ofChange fnExactOverLowerWrong)

/-- 'laws.FnExactOverView': WHATEVER THE INPUT: true; the input reads as it did. -/
def fnExactOverViewSpec : ChangeSpec := { name := "fnExactOverView", vars := ["loop.example/pargeting/impl.errNone", "loop.example/pargeting/impl.errNotDir"], fn := fun _ => fun
  | [d, g1, g2] => { results := [.lit (.bool true)], args := [d], vars := [g1, g2] }
  | _ => none }
def fnExactOverViewRow : OpenClaim := { program := "yteppodogghjfhaagreatdoor", sum := "09810264c4891841d70aeec24e251471e3999b7186c9a91201f97bc8b95f1d26", func := "loop.example/pargeting/laws.FnExactOverView", spec := "fnExactOverView", unfollowed := true, recurses := true, named := ["loop.example/pargeting/impl.errNone", "loop.example/pargeting/impl.errNotDir"], ifaces := true, apart := false, laid := [("loop.example/pargeting/impl.errNone", laid_loop_example_pargeting_impl_errNone), ("loop.example/pargeting/impl.errNotDir", laid_loop_example_pargeting_impl_errNotDir)] }
def FnExactOverViewSaid : Prop := fnExactOverViewRow.holds Tryz.pinned (OpenSpec.ofChange fnExactOverViewSpec)

/-- ITS FALSE NEIGHBOUR: 'it returns false'. Refute it at one input. -/
def fnExactOverViewWrong : ChangeSpec := { name := "fnExactOverView", vars := ["loop.example/pargeting/impl.errNone", "loop.example/pargeting/impl.errNotDir"], fn := fun _ => fun
  | [d, g1, g2] => { results := [.lit (.bool false)], args := [d], vars := [g1, g2] }
  | _ => none }
def FnExactOverViewWrongFalsely : Prop := fnExactOverViewRow.holds Tryz.pinned (OpenSpec.ofChange fnExactOverViewWrong)

/-- 'laws.FnExactOverGet': WHATEVER THE INPUT: true; the input reads as it did. -/
def fnExactOverGetSpec : ChangeSpec := { name := "fnExactOverGet", vars := ["loop.example/pargeting/impl.errNone", "loop.example/pargeting/impl.errNotDir"], fn := fun _ => fun
  | [d1, d2, g1, g2] => { results := [.lit (.bool true)], args := [d1, d2], vars := [g1, g2] }
  | _ => none }
def fnExactOverGetRow : OpenClaim := { program := "yteppodogghjfhaagreatdoor", sum := "09810264c4891841d70aeec24e251471e3999b7186c9a91201f97bc8b95f1d26", func := "loop.example/pargeting/laws.FnExactOverGet", spec := "fnExactOverGet", unfollowed := true, recurses := true, named := ["loop.example/pargeting/impl.errNone", "loop.example/pargeting/impl.errNotDir"], ifaces := true, apart := false, laid := [("loop.example/pargeting/impl.errNone", laid_loop_example_pargeting_impl_errNone), ("loop.example/pargeting/impl.errNotDir", laid_loop_example_pargeting_impl_errNotDir)] }
def FnExactOverGetSaid : Prop := fnExactOverGetRow.holds Tryz.pinned (OpenSpec.ofChange fnExactOverGetSpec)

/-- ITS FALSE NEIGHBOUR: 'it returns false'. Refute it at one input. -/
def fnExactOverGetWrong : ChangeSpec := { name := "fnExactOverGet", vars := ["loop.example/pargeting/impl.errNone", "loop.example/pargeting/impl.errNotDir"], fn := fun _ => fun
  | [d1, d2, g1, g2] => { results := [.lit (.bool false)], args := [d1, d2], vars := [g1, g2] }
  | _ => none }
def FnExactOverGetWrongFalsely : Prop := fnExactOverGetRow.holds Tryz.pinned (OpenSpec.ofChange fnExactOverGetWrong)

/-- 'laws.FnExactOverDo': WHATEVER THE INPUT: true; the input reads as it did. -/
def fnExactOverDoSpec : ChangeSpec := { name := "fnExactOverDo", vars := ["loop.example/pargeting/impl.errNone", "loop.example/pargeting/impl.errNotDir", "loop.example/pargeting/impl.errBad", "loop.example/pargeting/impl.errThere", "loop.example/pargeting/impl.errIsDir", "loop.example/pargeting/impl.errKept", "loop.example/pargeting/impl.errUnder", "loop.example/pargeting/impl.errRoom"], fn := fun _ => fun
  | [d1, d2, g1, g2, g3, g4, g5, g6, g7, g8] => { results := [.lit (.bool true)], args := [d1, d2], vars := [g1, g2, g3, g4, g5, g6, g7, g8] }
  | _ => none }
def fnExactOverDoRow : OpenClaim := { program := "yteppodogghjfhaagreatdoor", sum := "09810264c4891841d70aeec24e251471e3999b7186c9a91201f97bc8b95f1d26", func := "loop.example/pargeting/laws.FnExactOverDo", spec := "fnExactOverDo", inPlace := ["internal/reflectlite.TypeOf", "internal/reflectlite.ValueOf", "(internal/reflectlite.Value).Type", "(internal/reflectlite.Value).IsNil", "(internal/reflectlite.Value).Elem", "(internal/reflectlite.Value).Set"], unfollowed := true, recurses := true, named := ["loop.example/pargeting/impl.errNone", "loop.example/pargeting/impl.errNotDir", "loop.example/pargeting/impl.errBad", "loop.example/pargeting/impl.errThere", "loop.example/pargeting/impl.errIsDir", "loop.example/pargeting/impl.errKept", "loop.example/pargeting/impl.errUnder", "loop.example/pargeting/impl.errRoom", "errors.errorType"], ifaces := true, apart := false, laid := [("errors.errorType", laid_errors_errorType), ("loop.example/pargeting/impl.errBad", laid_loop_example_pargeting_impl_errBad), ("loop.example/pargeting/impl.errNone", laid_loop_example_pargeting_impl_errNone), ("loop.example/pargeting/impl.errNotDir", laid_loop_example_pargeting_impl_errNotDir), ("loop.example/pargeting/impl.errThere", laid_loop_example_pargeting_impl_errThere), ("loop.example/pargeting/impl.errIsDir", laid_loop_example_pargeting_impl_errIsDir), ("loop.example/pargeting/impl.errKept", laid_loop_example_pargeting_impl_errKept), ("loop.example/pargeting/impl.errUnder", laid_loop_example_pargeting_impl_errUnder), ("loop.example/pargeting/impl.errRoom", laid_loop_example_pargeting_impl_errRoom)] }
def FnExactOverDoSaid : Prop := fnExactOverDoRow.holds Tryz.pinned (OpenSpec.ofChange fnExactOverDoSpec)

/-- ITS FALSE NEIGHBOUR: 'it returns false'. Refute it at one input. -/
def fnExactOverDoWrong : ChangeSpec := { name := "fnExactOverDo", vars := ["loop.example/pargeting/impl.errNone", "loop.example/pargeting/impl.errNotDir", "loop.example/pargeting/impl.errBad", "loop.example/pargeting/impl.errThere", "loop.example/pargeting/impl.errIsDir", "loop.example/pargeting/impl.errKept", "loop.example/pargeting/impl.errUnder", "loop.example/pargeting/impl.errRoom"], fn := fun _ => fun
  | [d1, d2, g1, g2, g3, g4, g5, g6, g7, g8] => { results := [.lit (.bool false)], args := [d1, d2], vars := [g1, g2, g3, g4, g5, g6, g7, g8] }
  | _ => none }
def FnExactOverDoWrongFalsely : Prop := fnExactOverDoRow.holds Tryz.pinned (OpenSpec.ofChange fnExactOverDoWrong)

/-- 'laws.FnExactOverPush': WHATEVER THE INPUT: true; the input reads as it did. -/
def fnExactOverPushSpec : ChangeSpec := { name := "fnExactOverPush", vars := ["loop.example/pargeting/impl.errNone", "loop.example/pargeting/impl.errNotDir"], fn := fun _ => fun
  | [d, g1, g2] => { results := [.lit (.bool true)], args := [d], vars := [g1, g2] }
  | _ => none }
def fnExactOverPushRow : OpenClaim := { program := "yteppodogghjfhaagreatdoor", sum := "09810264c4891841d70aeec24e251471e3999b7186c9a91201f97bc8b95f1d26", func := "loop.example/pargeting/laws.FnExactOverPush", spec := "fnExactOverPush", unfollowed := true, recurses := true, named := ["loop.example/pargeting/impl.errNone", "loop.example/pargeting/impl.errNotDir"], ifaces := true, apart := false, laid := [("loop.example/pargeting/impl.errNone", laid_loop_example_pargeting_impl_errNone), ("loop.example/pargeting/impl.errNotDir", laid_loop_example_pargeting_impl_errNotDir)] }
def FnExactOverPushSaid : Prop := fnExactOverPushRow.holds Tryz.pinned (OpenSpec.ofChange fnExactOverPushSpec)

/-- ITS FALSE NEIGHBOUR: 'it returns false'. Refute it at one input. -/
def fnExactOverPushWrong : ChangeSpec := { name := "fnExactOverPush", vars := ["loop.example/pargeting/impl.errNone", "loop.example/pargeting/impl.errNotDir"], fn := fun _ => fun
  | [d, g1, g2] => { results := [.lit (.bool false)], args := [d], vars := [g1, g2] }
  | _ => none }
def FnExactOverPushWrongFalsely : Prop := fnExactOverPushRow.holds Tryz.pinned (OpenSpec.ofChange fnExactOverPushWrong)

/- THE SECOND FORM. 'bulk': how many values and letters a reading holds, each counted each time it is reached (what is shared counts as often as it is met; a slice's spare places count too). A statement '..UptoSaid' is the law's where the arguments, and the package variables that the reading takes, are together of bulk at most 1048576: NARROWER than '..Said'. Prove '..Said' where nothing that the law and all that it calls make is longer than what came in: it says more and counts as full. Else prove '..UptoSaid'. A law counts once. -/
mutual
def uptoBulk {H : Type} : DataW H → Nat
  | .lit (.string bytes) => bytes.length + 1
  | .lit _ => 1
  | .nil => 1
  | .ptr d => uptoBulk d + 1
  | .slice elems spare => uptoBulkAll elems + uptoBulkAll spare + 1
  | .agg parts => uptoBulkAll parts + 1
  | .iface _ d => uptoBulk d + 1
  | .map entries => uptoBulkEntries entries + 1
  | .held _ => 1
def uptoBulkAll {H : Type} : List (DataW H) → Nat
  | [] => 0
  | d :: r => uptoBulk d + uptoBulkAll r
def uptoBulkEntries {H : Type} : List (Lit × DataW H) → Nat
  | [] => 0
  | x :: r => uptoBulkEntry x + uptoBulkEntries r
def uptoBulkEntry {H : Type} : Lit × DataW H → Nat
  | (.string bytes, d) => bytes.length + uptoBulk d + 1
  | (_, d) => uptoBulk d + 1
 end
def uptoSmall : (H : Type) → List (DataW H) → Bool := fun _ ds => decide (uptoBulkAll ds ≤ 1048576)
def OpenSpec.upto (s : _root_.Go.ChangeSpec) : _root_.Go.OpenSpec := { _root_.Go.OpenSpec.ofChange s with cond := some uptoSmall }

/-- 'laws.FnExactOverOk', WHERE WHAT IT READS IS OF BULK AT MOST 1048576: true; the input reads as it did. -/
def fnExactOverOkUptoRow : OpenClaim := { program := "yteppodogghjfhaagreatdoor", sum := "09810264c4891841d70aeec24e251471e3999b7186c9a91201f97bc8b95f1d26", func := "loop.example/pargeting/laws.FnExactOverOk", spec := "fnExactOverOk", unfollowed := true, recurses := true, named := ["loop.example/pargeting/impl.errNone", "loop.example/pargeting/impl.errNotDir"], ifaces := true, apart := false, laid := [("loop.example/pargeting/impl.errNone", laid_loop_example_pargeting_impl_errNone), ("loop.example/pargeting/impl.errNotDir", laid_loop_example_pargeting_impl_errNotDir)], narrowed := true }
def FnExactOverOkUptoSaid : Prop := fnExactOverOkUptoRow.holds Tryz.pinned (OpenSpec.upto fnExactOverOkSpec)

/-- 'laws.FnExactOverLower', WHERE WHAT IT READS IS OF BULK AT MOST 1048576: true; the input reads as it did. -/
def fnExactOverLowerUptoRow : OpenClaim := { program := "yteppodogghjfhaagreatdoor", sum := "09810264c4891841d70aeec24e251471e3999b7186c9a91201f97bc8b95f1d26", func := "loop.example/pargeting/laws.FnExactOverLower", spec := "fnExactOverLower", unfollowed := true, recurses := true, named := ["loop.example/pargeting/impl.errNone", "loop.example/pargeting/impl.errNotDir"], ifaces := true, apart := false, laid := [("loop.example/pargeting/impl.errNone", laid_loop_example_pargeting_impl_errNone), ("loop.example/pargeting/impl.errNotDir", laid_loop_example_pargeting_impl_errNotDir)], narrowed := true }
def FnExactOverLowerUptoSaid : Prop := fnExactOverLowerUptoRow.holds Tryz.pinned (OpenSpec.upto fnExactOverLowerSpec)

/-- 'laws.FnExactOverView', WHERE WHAT IT READS IS OF BULK AT MOST 1048576: true; the input reads as it did. -/
def fnExactOverViewUptoRow : OpenClaim := { program := "yteppodogghjfhaagreatdoor", sum := "09810264c4891841d70aeec24e251471e3999b7186c9a91201f97bc8b95f1d26", func := "loop.example/pargeting/laws.FnExactOverView", spec := "fnExactOverView", unfollowed := true, recurses := true, named := ["loop.example/pargeting/impl.errNone", "loop.example/pargeting/impl.errNotDir"], ifaces := true, apart := false, laid := [("loop.example/pargeting/impl.errNone", laid_loop_example_pargeting_impl_errNone), ("loop.example/pargeting/impl.errNotDir", laid_loop_example_pargeting_impl_errNotDir)], narrowed := true }
def FnExactOverViewUptoSaid : Prop := fnExactOverViewUptoRow.holds Tryz.pinned (OpenSpec.upto fnExactOverViewSpec)

/-- 'laws.FnExactOverGet', WHERE WHAT IT READS IS OF BULK AT MOST 1048576: true; the input reads as it did. -/
def fnExactOverGetUptoRow : OpenClaim := { program := "yteppodogghjfhaagreatdoor", sum := "09810264c4891841d70aeec24e251471e3999b7186c9a91201f97bc8b95f1d26", func := "loop.example/pargeting/laws.FnExactOverGet", spec := "fnExactOverGet", unfollowed := true, recurses := true, named := ["loop.example/pargeting/impl.errNone", "loop.example/pargeting/impl.errNotDir"], ifaces := true, apart := false, laid := [("loop.example/pargeting/impl.errNone", laid_loop_example_pargeting_impl_errNone), ("loop.example/pargeting/impl.errNotDir", laid_loop_example_pargeting_impl_errNotDir)], narrowed := true }
def FnExactOverGetUptoSaid : Prop := fnExactOverGetUptoRow.holds Tryz.pinned (OpenSpec.upto fnExactOverGetSpec)

/-- 'laws.FnExactOverDo', WHERE WHAT IT READS IS OF BULK AT MOST 1048576: true; the input reads as it did. -/
def fnExactOverDoUptoRow : OpenClaim := { program := "yteppodogghjfhaagreatdoor", sum := "09810264c4891841d70aeec24e251471e3999b7186c9a91201f97bc8b95f1d26", func := "loop.example/pargeting/laws.FnExactOverDo", spec := "fnExactOverDo", inPlace := ["internal/reflectlite.TypeOf", "internal/reflectlite.ValueOf", "(internal/reflectlite.Value).Type", "(internal/reflectlite.Value).IsNil", "(internal/reflectlite.Value).Elem", "(internal/reflectlite.Value).Set"], unfollowed := true, recurses := true, named := ["loop.example/pargeting/impl.errNone", "loop.example/pargeting/impl.errNotDir", "loop.example/pargeting/impl.errBad", "loop.example/pargeting/impl.errThere", "loop.example/pargeting/impl.errIsDir", "loop.example/pargeting/impl.errKept", "loop.example/pargeting/impl.errUnder", "loop.example/pargeting/impl.errRoom", "errors.errorType"], ifaces := true, apart := false, laid := [("errors.errorType", laid_errors_errorType), ("loop.example/pargeting/impl.errBad", laid_loop_example_pargeting_impl_errBad), ("loop.example/pargeting/impl.errNone", laid_loop_example_pargeting_impl_errNone), ("loop.example/pargeting/impl.errNotDir", laid_loop_example_pargeting_impl_errNotDir), ("loop.example/pargeting/impl.errThere", laid_loop_example_pargeting_impl_errThere), ("loop.example/pargeting/impl.errIsDir", laid_loop_example_pargeting_impl_errIsDir), ("loop.example/pargeting/impl.errKept", laid_loop_example_pargeting_impl_errKept), ("loop.example/pargeting/impl.errUnder", laid_loop_example_pargeting_impl_errUnder), ("loop.example/pargeting/impl.errRoom", laid_loop_example_pargeting_impl_errRoom)], narrowed := true }
def FnExactOverDoUptoSaid : Prop := fnExactOverDoUptoRow.holds Tryz.pinned (OpenSpec.upto fnExactOverDoSpec)

/-- 'laws.FnExactOverPush', WHERE WHAT IT READS IS OF BULK AT MOST 1048576: true; the input reads as it did. -/
def fnExactOverPushUptoRow : OpenClaim := { program := "yteppodogghjfhaagreatdoor", sum := "09810264c4891841d70aeec24e251471e3999b7186c9a91201f97bc8b95f1d26", func := "loop.example/pargeting/laws.FnExactOverPush", spec := "fnExactOverPush", unfollowed := true, recurses := true, named := ["loop.example/pargeting/impl.errNone", "loop.example/pargeting/impl.errNotDir"], ifaces := true, apart := false, laid := [("loop.example/pargeting/impl.errNone", laid_loop_example_pargeting_impl_errNone), ("loop.example/pargeting/impl.errNotDir", laid_loop_example_pargeting_impl_errNotDir)], narrowed := true }
def FnExactOverPushUptoSaid : Prop := fnExactOverPushUptoRow.holds Tryz.pinned (OpenSpec.upto fnExactOverPushSpec)

end Rows
end Go.Proofs.YteppodogghjfhaaGreatDoor
