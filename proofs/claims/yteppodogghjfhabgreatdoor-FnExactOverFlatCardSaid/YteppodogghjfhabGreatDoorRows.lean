/-
  NARROWER THAN 'FOR EVERY INPUT', by the rows' own cells (each row's printed sentence says how): FnExactOverDrop: ifaces, laid · FnExactOverFlat: ifaces, laid · FnExactOverSink: ifaces, laid.
  DERIVED. THE GIVEN ROWS OF THIS SEAT. 3 by the template 'for every input the law returns true; each argument reads behind the call as it read before'; 0 by the template 'total and deterministic' (their statements: YteppodogghjfhabGreatDoorTotals.lean).
  GIVEN WITH THE SEED: the statements are not yours to turn. If you find one false, say at which input.
  Laid BY PROGRAM, IN A SANDBOX (cutbox-rows.mjs): the forced cells as the released guide's own fill.sh prints them over the translation f0b07e714ba06fd5… (all of the seat's roots in one cut). By AI agents, Wed Nov 11 2026. No macro, syntax, notation, axiom, sorry.
-/
import Derived.Test.YteppodogghjfhabGreatDoorChecked
import GoSem.Claim
import GoSem.ClaimJoined
import GoSem.ClaimMapViews
import Derived.JoinedTies
import Derived.KernelRfl
namespace Go.Proofs.YteppodogghjfhabGreatDoor
/- THE CELL 'sum', in the pinned program and in every row, IS THE sha256 OF THE DUMP (.gsa) THAT YteppodogghjfhabGreatDoorProg.lean LOADS. Nothing in Lean hashes anything: it is a label: what it is worth is what the hold of that sum in a sandbox is worth. -/
noncomputable def Tryz.pinned : Pinned := { name := "yteppodogghjfhabgreatdoor", sum := "f0b07e714ba06fd5055d492469b46e1527f1374b3cffa318a5cedeea2dc2cb14", checked := Tryz.checked }
namespace Rows
def none {H : Type} : Left H := { results := [], args := [] }

/- WHAT THE LISTED PACKAGE-LEVEL VARIABLES READ AS WHEN THE CALL BEGINS. Each datum BY PROGRAM (the guide's laid-datum.mjs) off the statement by which the dump's own 'gosem.cut.vars' lays the variable. In a bare row this is a premise. The card (YteppodogghjfhabGreatDoorCards.lean) ties it to the program's text. -/
def laid_loop_example_pargeting_impl_errNone {H : Type} : DataW H := .iface "*errors.errorString" (.ptr (.agg [.lit (.string [110, 111, 116, 104, 105, 110, 103, 32, 105, 115, 32, 116, 104, 101, 114, 101])]))
def laid_loop_example_pargeting_impl_errNotDir {H : Type} : DataW H := .iface "*errors.errorString" (.ptr (.agg [.lit (.string [97, 32, 102, 105, 108, 101, 32, 105, 115, 32, 116, 104, 101, 114, 101])]))

/-- 'laws.FnExactOverDrop': WHATEVER THE INPUT: true; the input reads as it did. -/
def fnExactOverDropSpec : ChangeSpec := { name := "fnExactOverDrop", vars := ["loop.example/pargeting/impl.errNone", "loop.example/pargeting/impl.errNotDir"], fn := fun _ => fun
  | [d, g1, g2] => { results := [.lit (.bool true)], args := [d], vars := [g1, g2] }
  | _ => none }
def fnExactOverDropRow : OpenClaim := { program := "yteppodogghjfhabgreatdoor", sum := "f0b07e714ba06fd5055d492469b46e1527f1374b3cffa318a5cedeea2dc2cb14", func := "loop.example/pargeting/laws.FnExactOverDrop", spec := "fnExactOverDrop", unfollowed := true, recurses := true, named := ["loop.example/pargeting/impl.errNone", "loop.example/pargeting/impl.errNotDir"], ifaces := true, apart := false, laid := [("loop.example/pargeting/impl.errNone", laid_loop_example_pargeting_impl_errNone), ("loop.example/pargeting/impl.errNotDir", laid_loop_example_pargeting_impl_errNotDir)] }
def FnExactOverDropSaid : Prop := fnExactOverDropRow.holds Tryz.pinned (OpenSpec.ofChange fnExactOverDropSpec)

/-- ITS FALSE NEIGHBOUR: 'it returns false'. Refute it at one input. -/
def fnExactOverDropWrong : ChangeSpec := { name := "fnExactOverDrop", vars := ["loop.example/pargeting/impl.errNone", "loop.example/pargeting/impl.errNotDir"], fn := fun _ => fun
  | [d, g1, g2] => { results := [.lit (.bool false)], args := [d], vars := [g1, g2] }
  | _ => none }
def FnExactOverDropWrongFalsely : Prop := fnExactOverDropRow.holds Tryz.pinned (OpenSpec.ofChange fnExactOverDropWrong)

/-- 'laws.FnExactOverFlat': WHATEVER THE INPUT: true; the input reads as it did. -/
def fnExactOverFlatSpec : ChangeSpec := { name := "fnExactOverFlat", vars := ["loop.example/pargeting/impl.errNone", "loop.example/pargeting/impl.errNotDir"], fn := fun _ => fun
  | [d, g1, g2] => { results := [.lit (.bool true)], args := [d], vars := [g1, g2] }
  | _ => none }
def fnExactOverFlatRow : OpenClaim := { program := "yteppodogghjfhabgreatdoor", sum := "f0b07e714ba06fd5055d492469b46e1527f1374b3cffa318a5cedeea2dc2cb14", func := "loop.example/pargeting/laws.FnExactOverFlat", spec := "fnExactOverFlat", unfollowed := true, recurses := true, named := ["loop.example/pargeting/impl.errNone", "loop.example/pargeting/impl.errNotDir"], ifaces := true, apart := false, laid := [("loop.example/pargeting/impl.errNone", laid_loop_example_pargeting_impl_errNone), ("loop.example/pargeting/impl.errNotDir", laid_loop_example_pargeting_impl_errNotDir)] }
def FnExactOverFlatSaid : Prop := fnExactOverFlatRow.holds Tryz.pinned (OpenSpec.ofChange fnExactOverFlatSpec)

/-- ITS FALSE NEIGHBOUR: 'it returns false'. Refute it at one input. -/
def fnExactOverFlatWrong : ChangeSpec := { name := "fnExactOverFlat", vars := ["loop.example/pargeting/impl.errNone", "loop.example/pargeting/impl.errNotDir"], fn := fun _ => fun
  | [d, g1, g2] => { results := [.lit (.bool false)], args := [d], vars := [g1, g2] }
  | _ => none }
def FnExactOverFlatWrongFalsely : Prop := fnExactOverFlatRow.holds Tryz.pinned (OpenSpec.ofChange fnExactOverFlatWrong)

/-- 'laws.FnExactOverSink': WHATEVER THE INPUT: true; the input reads as it did. -/
def fnExactOverSinkSpec : ChangeSpec := { name := "fnExactOverSink", vars := ["loop.example/pargeting/impl.errNone", "loop.example/pargeting/impl.errNotDir"], fn := fun _ => fun
  | [d, g1, g2] => { results := [.lit (.bool true)], args := [d], vars := [g1, g2] }
  | _ => none }
def fnExactOverSinkRow : OpenClaim := { program := "yteppodogghjfhabgreatdoor", sum := "f0b07e714ba06fd5055d492469b46e1527f1374b3cffa318a5cedeea2dc2cb14", func := "loop.example/pargeting/laws.FnExactOverSink", spec := "fnExactOverSink", unfollowed := true, recurses := true, named := ["loop.example/pargeting/impl.errNone", "loop.example/pargeting/impl.errNotDir"], ifaces := true, apart := false, laid := [("loop.example/pargeting/impl.errNone", laid_loop_example_pargeting_impl_errNone), ("loop.example/pargeting/impl.errNotDir", laid_loop_example_pargeting_impl_errNotDir)] }
def FnExactOverSinkSaid : Prop := fnExactOverSinkRow.holds Tryz.pinned (OpenSpec.ofChange fnExactOverSinkSpec)

/-- ITS FALSE NEIGHBOUR: 'it returns false'. Refute it at one input. -/
def fnExactOverSinkWrong : ChangeSpec := { name := "fnExactOverSink", vars := ["loop.example/pargeting/impl.errNone", "loop.example/pargeting/impl.errNotDir"], fn := fun _ => fun
  | [d, g1, g2] => { results := [.lit (.bool false)], args := [d], vars := [g1, g2] }
  | _ => none }
def FnExactOverSinkWrongFalsely : Prop := fnExactOverSinkRow.holds Tryz.pinned (OpenSpec.ofChange fnExactOverSinkWrong)

/- THE SECOND FORM. 'bulk': how many values and letters a reading holds, each counted each time it is reached (what is shared counts as often as it is met; a slice's spare places count too). A statement '..UptoSaid' is the law's where the arguments, and the package variables that the reading takes, are together of bulk at most 1048576: NARROWER than '..Said'. Prove '..Said' where nothing that the law and all that it calls make is longer than what came in: it says more and counts as full. Else prove '..UptoSaid'. A law counts once. -/
mutual
def uptoBulk {H : Type} : DataW H → Nat
  | .lit (.string bytes) => bytes.length + 1
  | .lit _ => 1
  | .nil => 1
  | .ptr d => uptoBulk d + 1
  | .slice elems spare => uptoBulkAll elems + uptoBulkAll spare + 1
  | .agg parts => uptoBulkAll parts + 1
  | .iface _ d => uptoBulk d + 1
  | .map entries => uptoBulkEntries entries + 1
  | .held _ => 1
def uptoBulkAll {H : Type} : List (DataW H) → Nat
  | [] => 0
  | d :: r => uptoBulk d + uptoBulkAll r
def uptoBulkEntries {H : Type} : List (Lit × DataW H) → Nat
  | [] => 0
  | x :: r => uptoBulkEntry x + uptoBulkEntries r
def uptoBulkEntry {H : Type} : Lit × DataW H → Nat
  | (.string bytes, d) => bytes.length + uptoBulk d + 1
  | (_, d) => uptoBulk d + 1
 end
def uptoSmall : (H : Type) → List (DataW H) → Bool := fun _ ds => decide (uptoBulkAll ds ≤ 1048576)
def OpenSpec.upto (s : _root_.Go.ChangeSpec) : _root_.Go.OpenSpec := { _root_.Go.OpenSpec.ofChange s with cond := some uptoSmall }

/-- 'laws.FnExactOverDrop', WHERE WHAT IT READS IS OF BULK AT MOST 1048576: true; the input reads as it did. -/
def fnExactOverDropUptoRow : OpenClaim := { program := "yteppodogghjfhabgreatdoor", sum := "f0b07e714ba06fd5055d492469b46e1527f1374b3cffa318a5cedeea2dc2cb14", func := "loop.example/pargeting/laws.FnExactOverDrop", spec := "fnExactOverDrop", unfollowed := true, recurses := true, named := ["loop.example/pargeting/impl.errNone", "loop.example/pargeting/impl.errNotDir"], ifaces := true, apart := false, laid := [("loop.example/pargeting/impl.errNone", laid_loop_example_pargeting_impl_errNone), ("loop.example/pargeting/impl.errNotDir", laid_loop_example_pargeting_impl_errNotDir)], narrowed := true }
def FnExactOverDropUptoSaid : Prop := fnExactOverDropUptoRow.holds Tryz.pinned (OpenSpec.upto fnExactOverDropSpec)

/-- 'laws.FnExactOverFlat', WHERE WHAT IT READS IS OF BULK AT MOST 1048576: true; the input reads as it did. -/
def fnExactOverFlatUptoRow : OpenClaim := { program := "yteppodogghjfhabgreatdoor", sum := "f0b07e714ba06fd5055d492469b46e1527f1374b3cffa318a5cedeea2dc2cb14", func := "loop.example/pargeting/laws.FnExactOverFlat", spec := "fnExactOverFlat", unfollowed := true, recurses := true, named := ["loop.example/pargeting/impl.errNone", "loop.example/pargeting/impl.errNotDir"], ifaces := true, apart := false, laid := [("loop.example/pargeting/impl.errNone", laid_loop_example_pargeting_impl_errNone), ("loop.example/pargeting/impl.errNotDir", laid_loop_example_pargeting_impl_errNotDir)], narrowed := true }
def FnExactOverFlatUptoSaid : Prop := fnExactOverFlatUptoRow.holds Tryz.pinned (OpenSpec.upto fnExactOverFlatSpec)

/-- 'laws.FnExactOverSink', WHERE WHAT IT READS IS OF BULK AT MOST 1048576: true; the input reads as it did. -/
def fnExactOverSinkUptoRow : OpenClaim := { program := "yteppodogghjfhabgreatdoor", sum := "f0b07e714ba06fd5055d492469b46e1527f1374b3cffa318a5cedeea2dc2cb14", func := "loop.example/pargeting/laws.FnExactOverSink", spec := "fnExactOverSink", unfollowed := true, recurses := true, named := ["loop.example/pargeting/impl.errNone", "loop.example/pargeting/impl.errNotDir"], ifaces := true, apart := false, laid := [("loop.example/pargeting/impl.errNone", laid_loop_example_pargeting_impl_errNone), ("loop.example/pargeting/impl.errNotDir", laid_loop_example_pargeting_impl_errNotDir)], narrowed := true }
def FnExactOverSinkUptoSaid : Prop := fnExactOverSinkUptoRow.holds Tryz.pinned (OpenSpec.upto fnExactOverSinkSpec)

end Rows
end Go.Proofs.YteppodogghjfhabGreatDoor
