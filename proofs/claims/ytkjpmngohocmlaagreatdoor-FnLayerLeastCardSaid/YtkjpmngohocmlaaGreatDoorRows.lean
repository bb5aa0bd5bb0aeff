/-
  NARROWER THAN 'FOR EVERY INPUT', by the rows' own cells (each row's printed sentence says how): FnLayerOn: ifaces, laid · FnLayerBare: ifaces, laid · FnLayerJoin: ifaces, laid · FnLayerThree: ifaces, laid · FnLayerDiff: ifaces, laid · FnLayerLeast: ifaces, laid.
  DERIVED. THE GIVEN ROWS OF THIS SEAT. 6 by the template 'for every input the law returns true; each argument reads behind the call as it read before'; 0 by the template 'total and deterministic' (their statements: YtkjpmngohocmlaaGreatDoorTotals.lean).
  GIVEN WITH THE SEED: the statements are not yours to turn. If you find one false, say at which input.
  Laid BY PROGRAM, IN A SANDBOX (cutbox-rows.mjs): the forced cells as the released guide's own fill.sh prints them over the translation cee7ee5727a0cbea… (all of the seat's roots in one cut). By AI agents, Wed Nov 11 2026. No macro, syntax, notation, axiom, sorry.
-/
import Derived.Test.YtkjpmngohocmlaaGreatDoorChecked
import GoSem.Claim
import GoSem.ClaimJoined
import GoSem.ClaimMapViews
import Derived.JoinedTies
import Derived.KernelRfl
namespace Go.Proofs.YtkjpmngohocmlaaGreatDoor
/- THE CELL 'sum', in the pinned program and in every row, IS THE sha256 OF THE DUMP (.gsa) THAT YtkjpmngohocmlaaGreatDoorProg.lean LOADS. Nothing in Lean hashes anything: it is a label: what it is worth is what the hold of that sum in a sandbox is worth. -/
noncomputable def Tryz.pinned : Pinned := { name := "ytkjpmngohocmlaagreatdoor", sum := "cee7ee5727a0cbea0d9689f14fed5dff53869756419bf5c415f28af8f2f6a58e", checked := Tryz.checked }
namespace Rows
def none {H : Type} : Left H := { results := [], args := [] }

/- WHAT THE LISTED PACKAGE-LEVEL VARIABLES READ AS WHEN THE CALL BEGINS. Each datum BY PROGRAM (the guide's laid-datum.mjs) off the statement by which the dump's own 'gosem.cut.vars' lays the variable. In a bare row this is a premise. The card (YtkjpmngohocmlaaGreatDoorCards.lean) ties it to the program's text. -/
def laid_loop_example_pargeting_impl_errNone {H : Type} : DataW H := .iface "*errors.errorString" (.ptr (.agg [.lit (.string [110, 111, 116, 104, 105, 110, 103, 32, 105, 115, 32, 116, 104, 101, 114, 101])]))
def laid_loop_example_pargeting_impl_errNotDir {H : Type} : DataW H := .iface "*errors.errorString" (.ptr (.agg [.lit (.string [97, 32, 102, 105, 108, 101, 32, 105, 115, 32, 116, 104, 101, 114, 101])]))

/-- 'laws.FnLayerOn': WHATEVER THE INPUT: true; the input reads as it did. -/
def fnLayerOnSpec : ChangeSpec := { name := "fnLayerOn", vars := ["loop.example/pargeting/impl.errNone", "loop.example/pargeting/impl.errNotDir"], fn := fun _ => fun
  | [d, g1, g2] => { results := [.lit (.bool true)], args := [d], vars := [g1, g2] }
  | _ => none }
def fnLayerOnRow : OpenClaim := { program := "ytkjpmngohocmlaagreatdoor", sum := "cee7ee5727a0cbea0d9689f14fed5dff53869756419bf5c415f28af8f2f6a58e", func := "loop.example/pargeting/laws.FnLayerOn", spec := "fnLayerOn", unfollowed := true, recurses := true, named := ["loop.example/pargeting/impl.errNone", "loop.example/pargeting/impl.errNotDir"], ifaces := true, apart := false, laid := [("loop.example/pargeting/impl.errNone", laid_loop_example_pargeting_impl_errNone), ("loop.example/pargeting/impl.errNotDir", laid_loop_example_pargeting_impl_errNotDir)] }
def FnLayerOnSaid : Prop := fnLayerOnRow.holds Tryz.pinned (OpenSpec.ofChange fnLayerOnSpec)

/-- ITS FALSE NEIGHBOUR: 'it returns false'. Refute it at one input. -/
def fnLayerOnWrong : ChangeSpec := { name := "fnLayerOn", vars := ["loop.example/pargeting/impl.errNone", "loop.example/pargeting/impl.errNotDir"], fn := fun _ => fun
  | [d, g1, g2] => { results := [.lit (.bool false)], args := [d], vars := [g1, g2] }
  | _ => none }
def FnLayerOnWrongFalsely : Prop := fnLayerOnRow.holds Tryz.pinned (OpenSpec.ofChange fnLayerOnWrong)

/-- 'laws.FnLayerBare': WHATEVER THE INPUT: true; the input reads as it did. -/
def fnLayerBareSpec : ChangeSpec := { name := "fnLayerBare", vars := ["loop.example/pargeting/impl.errNone", "loop.example/pargeting/impl.errNotDir"], fn := fun _ => fun
  | [d, g1, g2] => { results := [.lit (.bool true)], args := [d], vars := [g1, g2] }
  | _ => none }
def fnLayerBareRow : OpenClaim := { program := "ytkjpmngohocmlaagreatdoor", sum := "cee7ee5727a0cbea0d9689f14fed5dff53869756419bf5c415f28af8f2f6a58e", func := "loop.example/pargeting/laws.FnLayerBare", spec := "fnLayerBare", unfollowed := true, recurses := true, named := ["loop.example/pargeting/impl.errNone", "loop.example/pargeting/impl.errNotDir"], ifaces := true, apart := false, laid := [("loop.example/pargeting/impl.errNone", laid_loop_example_pargeting_impl_errNone), ("loop.example/pargeting/impl.errNotDir", laid_loop_example_pargeting_impl_errNotDir)] }
def FnLayerBareSaid : Prop := fnLayerBareRow.holds Tryz.pinned (OpenSpec.ofChange fnLayerBareSpec)

/-- ITS FALSE NEIGHBOUR: 'it returns false'. Refute it at one input. -/
def fnLayerBareWrong : ChangeSpec := { name := "fnLayerBare", vars := ["loop.example/pargeting/impl.errNone", "loop.example/pargeting/impl.errNotDir"], fn := fun _ => fun
  | [d, g1, g2] => { results := [.lit (.bool false)], args := [d], vars := [g1, g2] }
  | _ => none }
def FnLayerBareWrongFalsely : Prop := fnLayerBareRow.holds Tryz.pinned (OpenSpec.ofChange fnLayerBareWrong)

/-- 'laws.FnLayerJoin': WHATEVER THE INPUT: true; the input reads as it did. -/
def fnLayerJoinSpec : ChangeSpec := { name := "fnLayerJoin", vars := ["loop.example/pargeting/impl.errNone", "loop.example/pargeting/impl.errNotDir"], fn := fun _ => fun
  | [d1, d2, g1, g2] => { results := [.lit (.bool true)], args := [d1, d2], vars := [g1, g2] }
  | _ => none }
def fnLayerJoinRow : OpenClaim := { program := "ytkjpmngohocmlaagreatdoor", sum := "cee7ee5727a0cbea0d9689f14fed5dff53869756419bf5c415f28af8f2f6a58e", func := "loop.example/pargeting/laws.FnLayerJoin", spec := "fnLayerJoin", unfollowed := true, recurses := true, named := ["loop.example/pargeting/impl.errNone", "loop.example/pargeting/impl.errNotDir"], ifaces := true, apart := false, laid := [("loop.example/pargeting/impl.errNone", laid_loop_example_pargeting_impl_errNone), ("loop.example/pargeting/impl.errNotDir", laid_loop_example_pargeting_impl_errNotDir)] }
def FnLayerJoinSaid : Prop := fnLayerJoinRow.holds Tryz.pinned (OpenSpec.ofChange fnLayerJoinSpec)

/-- ITS FALSE NEIGHBOUR: 'it returns false'. Refute it at one input. -/
def fnLayerJoinWrong : ChangeSpec := { name := "fnLayerJoin", vars := ["loop.example/pargeting/impl.errNone", "loop.example/pargeting/impl.errNotDir"], fn := fun _ => fun
  | [d1, d2, g1, g2] => { results := [.lit (.bool false)], args := [d1, d2], vars := [g1, g2] }
  | _ => none }
def FnLayerJoinWrongFalsely : Prop := fnLayerJoinRow.holds Tryz.pinned (OpenSpec.ofChange fnLayerJoinWrong)

/-- 'laws.FnLayerThree': WHATEVER THE INPUT: true; the input reads as it did. -/
def fnLayerThreeSpec : ChangeSpec := { name := "fnLayerThree", vars := ["loop.example/pargeting/impl.errNone", "loop.example/pargeting/impl.errNotDir"], fn := fun _ => fun
  | [d1, d2, g1, g2] => { results := [.lit (.bool true)], args := [d1, d2], vars := [g1, g2] }
  | _ => none }
def fnLayerThreeRow : OpenClaim := { program := "ytkjpmngohocmlaagreatdoor", sum := "cee7ee5727a0cbea0d9689f14fed5dff53869756419bf5c415f28af8f2f6a58e", func := "loop.example/pargeting/laws.FnLayerThree", spec := "fnLayerThree", unfollowed := true, recurses := true, named := ["loop.example/pargeting/impl.errNone", "loop.example/pargeting/impl.errNotDir"], ifaces := true, apart := false, laid := [("loop.example/pargeting/impl.errNone", laid_loop_example_pargeting_impl_errNone), ("loop.example/pargeting/impl.errNotDir", laid_loop_example_pargeting_impl_errNotDir)] }
def FnLayerThreeSaid : Prop := fnLayerThreeRow.holds Tryz.pinned (OpenSpec.ofChange fnLayerThreeSpec)

/-- ITS FALSE NEIGHBOUR: 'it returns false'. Refute it at one input. -/
def fnLayerThreeWrong : ChangeSpec := { name := "fnLayerThree", vars := ["loop.example/pargeting/impl.errNone", "loop.example/pargeting/impl.errNotDir"], fn := fun _ => fun
  | [d1, d2, g1, g2] => { results := [.lit (.bool false)], args := [d1, d2], vars := [g1, g2] }
  | _ => none }
def FnLayerThreeWrongFalsely : Prop := fnLayerThreeRow.holds Tryz.pinned (OpenSpec.ofChange fnLayerThreeWrong)

/-- 'laws.FnLayerDiff': WHATEVER THE INPUT: true; the input reads as it did. -/
def fnLayerDiffSpec : ChangeSpec := { name := "fnLayerDiff", vars := ["loop.example/pargeting/impl.errNone", "loop.example/pargeting/impl.errNotDir"], fn := fun _ => fun
  | [d, g1, g2] => { results := [.lit (.bool true)], args := [d], vars := [g1, g2] }
  | _ => none }
def fnLayerDiffRow : OpenClaim := { program := "ytkjpmngohocmlaagreatdoor", sum := "cee7ee5727a0cbea0d9689f14fed5dff53869756419bf5c415f28af8f2f6a58e", func := "loop.example/pargeting/laws.FnLayerDiff", spec := "fnLayerDiff", unfollowed := true, recurses := true, named := ["loop.example/pargeting/impl.errNone", "loop.example/pargeting/impl.errNotDir"], ifaces := true, apart := false, laid := [("loop.example/pargeting/impl.errNone", laid_loop_example_pargeting_impl_errNone), ("loop.example/pargeting/impl.errNotDir", laid_loop_example_pargeting_impl_errNotDir)] }
def FnLayerDiffSaid : Prop := fnLayerDiffRow.holds Tryz.pinned (OpenSpec.ofChange fnLayerDiffSpec)

/-- ITS FALSE NEIGHBOUR: 'it returns false'. Refute it at one input. -/
def fnLayerDiffWrong : ChangeSpec := { name := "fnLayerDiff", vars := ["loop.example/pargeting/impl.errNone", "loop.example/pargeting/impl.errNotDir"], fn := fun _ => fun
  | [d, g1, g2] => { results := [.lit (.bool false)], args := [d], vars := [g1, g2] }
  | _ => none }
def FnLayerDiffWrongFalsely : Prop := fnLayerDiffRow.holds Tryz.pinned (OpenSpec.ofChange fnLayerDiffWrong)

/-- 'laws.FnLayerLeast': WHATEVER THE INPUT: true; the input reads as it did. -/
def fnLayerLeastSpec : ChangeSpec := { name := "fnLayerLeast", vars := ["loop.example/pargeting/impl.errNone", "loop.example/pargeting/impl.errNotDir"], fn := fun _ => fun
  | [d1, d2, g1, g2] => { results := [.lit (.bool true)], args := [d1, d2], vars := [g1, g2] }
  | _ => none }
def fnLayerLeastRow : OpenClaim := { program := "ytkjpmngohocmlaagreatdoor", sum := "cee7ee5727a0cbea0d9689f14fed5dff53869756419bf5c415f28af8f2f6a58e", func := "loop.example/pargeting/laws.FnLayerLeast", spec := "fnLayerLeast", unfollowed := true, recurses := true, named := ["loop.example/pargeting/impl.errNone", "loop.example/pargeting/impl.errNotDir"], ifaces := true, apart := false, laid := [("loop.example/pargeting/impl.errNone", laid_loop_example_pargeting_impl_errNone), ("loop.example/pargeting/impl.errNotDir", laid_loop_example_pargeting_impl_errNotDir)] }
def FnLayerLeastSaid : Prop := fnLayerLeastRow.holds Tryz.pinned (OpenSpec.ofChange fnLayerLeastSpec)

/-- ITS FALSE NEIGHBOUR: 'it returns false'. Refute it at one input. -/
def fnLayerLeastWrong : ChangeSpec := { name := "fnLayerLeast", vars := ["loop.example/pargeting/impl.errNone", "loop.example/pargeting/impl.errNotDir"], fn := fun _ => fun
  | [d1, d2, g1, g2] => { results := [.lit (.bool false)], args := [d1, d2], vars := [g1, g2] }
  | _ => none }
def FnLayerLeastWrongFalsely : Prop := fnLayerLeastRow.holds Tryz.pinned (OpenSpec.ofChange fnLayerLeastWrong)

/- THE SECOND FORM. 'bulk': how many values and letters a reading holds, each counted each time it is reached (what is shared counts as often as it is met; a slice's spare places count too). A statement '..UptoSaid' is the law's where the arguments, and the package variables that the reading takes, are together of bulk at most 1048576: NARROWER than '..Said'. Prove '..Said' where nothing that the law and all that it calls make is longer than what came in: it says more and counts as full. Else prove '..UptoSaid'. A law counts once. -/
mutual
def uptoBulk {H : Type} : DataW H → Nat
  | .lit (.string bytes) => bytes.length + 1
  | .lit _ => 1
  | .nil => 1
  | .ptr d => uptoBulk d + 1
  | .slice elems spare => uptoBulkAll elems + uptoBulkAll spare + 1
  | .agg parts => uptoBulkAll parts + 1
  | .iface _ d => uptoBulk d + 1
  | .map entries => uptoBulkEntries entries + 1
  | .held _ => 1
def uptoBulkAll {H : Type} : List (DataW H) → Nat
  | [] => 0
  | d :: r => uptoBulk d + uptoBulkAll r
def uptoBulkEntries {H : Type} : List (Lit × DataW H) → Nat
  | [] => 0
  | x :: r => uptoBulkEntry x + uptoBulkEntries r
def uptoBulkEntry {H : Type} : Lit × DataW H → Nat
  | (.string bytes, d) => bytes.length + uptoBulk d + 1
  | (_, d) => uptoBulk d + 1
 end
def uptoSmall : (H : Type) → List (DataW H) → Bool := fun _ ds => decide (uptoBulkAll ds ≤ 1048576)
def OpenSpec.upto (s : _root_.Go.ChangeSpec) : _root_.Go.OpenSpec := { _root_.Go.OpenSpec.ofChange s with cond := some uptoSmall }

/-- 'laws.FnLayerOn', WHERE WHAT IT READS IS OF BULK AT MOST 1048576: true; the input reads as it did. -/
def fnLayerOnUptoRow : OpenClaim := { program := "ytkjpmngohocmlaagreatdoor", sum := "cee7ee5727a0cbea0d9689f14fed5dff53869756419bf5c415f28af8f2f6a58e", func := "loop.example/pargeting/laws.FnLayerOn", spec := "fnLayerOn", unfollowed := true, recurses := true, named := ["loop.example/pargeting/impl.errNone", "loop.example/pargeting/impl.errNotDir"], ifaces := true, apart := false, laid := [("loop.example/pargeting/impl.errNone", laid_loop_example_pargeting_impl_errNone), ("loop.example/pargeting/impl.errNotDir", laid_loop_example_pargeting_impl_errNotDir)], narrowed := true }
def FnLayerOnUptoSaid : Prop := fnLayerOnUptoRow.holds Tryz.pinned (OpenSpec.upto fnLayerOnSpec)

/-- 'laws.FnLayerBare', WHERE WHAT IT READS IS OF BULK AT MOST 1048576: true; the input reads as it did. -/
def fnLayerBareUptoRow : OpenClaim := { program := "ytkjpmngohocmlaagreatdoor", sum := "cee7ee5727a0cbea0d9689f14fed5dff53869756419bf5c415f28af8f2f6a58e", func := "loop.example/pargeting/laws.FnLayerBare", spec := "fnLayerBare", unfollowed := true, recurses := true, named := ["loop.example/pargeting/impl.errNone", "loop.example/pargeting/impl.errNotDir"], ifaces := true, apart := false, laid := [("loop.example/pargeting/impl.errNone", laid_loop_example_pargeting_impl_errNone), ("loop.example/pargeting/impl.errNotDir", laid_loop_example_pargeting_impl_errNotDir)], narrowed := true }
def FnLayerBareUptoSaid : Prop := fnLayerBareUptoRow.holds Tryz.pinned (OpenSpec.upto fnLayerBareSpec)

/-- 'laws.FnLayerJoin', WHERE WHAT IT READS IS OF BULK AT MOST 1048576: true; the input reads as it did. -/
def fnLayerJoinUptoRow : OpenClaim := { program := "ytkjpmngohocmlaagreatdoor", sum := "cee7ee5727a0cbea0d9689f14fed5dff53869756419bf5c415f28af8f2f6a58e", func := "loop.example/pargeting/laws.FnLayerJoin", spec := "fnLayerJoin", unfollowed := true, recurses := true, named := ["loop.example/pargeting/impl.errNone", "loop.example/pargeting/impl.errNotDir"], ifaces := true, apart := false, laid := [("loop.example/pargeting/impl.errNone", laid_loop_example_pargeting_impl_errNone), ("loop.example/pargeting/impl.errNotDir", laid_loop_example_pargeting_impl_errNotDir)], narrowed := true }
def FnLayerJoinUptoSaid : Prop := fnLayerJoinUptoRow.holds Tryz.pinned (OpenSpec.upto fnLayerJoinSpec)

/-- 'laws.FnLayerThree', WHERE WHAT IT READS IS OF BULK AT MOST 1048576: true; the input reads as it did. -/
def fnLayerThreeUptoRow : OpenClaim := { program := "ytkjpmngohocmlaagreatdoor", sum := "cee7ee5727a0cbea0d9689f14fed5dff53869756419bf5c415f28af8f2f6a58e", func := "loop.example/pargeting/laws.FnLayerThree", spec := "fnLayerThree", unfollowed := true, recurses := true, named := ["loop.example/pargeting/impl.errNone", "loop.example/pargeting/impl.errNotDir"], ifaces := true, apart := false, laid := [("loop.example/pargeting/impl.errNone", laid_loop_example_pargeting_impl_errNone), ("loop.example/pargeting/impl.errNotDir", laid_loop_example_pargeting_impl_errNotDir)], narrowed := true }
def FnLayerThreeUptoSaid : Prop := fnLayerThreeUptoRow.holds Tryz.pinned (OpenSpec.upto fnLayerThreeSpec)

/-- 'laws.FnLayerDiff', WHERE WHAT IT READS IS OF BULK AT MOST 1048576: true; the input reads as it did. -/
def fnLayerDiffUptoRow : OpenClaim := { program := "ytkjpmngohocmlaagreatdoor", sum := "cee7ee5727a0cbea0d9689f14fed5dff53869756419bf5c415f28af8f2f6a58e", func := "loop.example/pargeting/laws.FnLayerDiff", spec := "fnLayerDiff", unfollowed := true, recurses := true, named := ["loop.example/pargeting/impl.errNone", "loop.example/pargeting/impl.errNotDir"], ifaces := true, apart := false, laid := [("loop.example/pargeting/impl.errNone", laid_loop_example_pargeting_impl_errNone), ("loop.example/pargeting/impl.errNotDir", laid_loop_example_pargeting_impl_errNotDir)], narrowed := true }
def FnLayerDiffUptoSaid : Prop := fnLayerDiffUptoRow.holds Tryz.pinned (OpenSpec.upto fnLayerDiffSpec)

/-- 'laws.FnLayerLeast', WHERE WHAT IT READS IS OF BULK AT MOST 1048576: true; the input reads as it did. -/
def fnLayerLeastUptoRow : OpenClaim := { program := "ytkjpmngohocmlaagreatdoor", sum := "cee7ee5727a0cbea0d9689f14fed5dff53869756419bf5c415f28af8f2f6a58e", func := "loop.example/pargeting/laws.FnLayerLeast", spec := "fnLayerLeast", unfollowed := true, recurses := true, named := ["loop.example/pargeting/impl.errNone", "loop.example/pargeting/impl.errNotDir"], ifaces := true, apart := false, laid := [("loop.example/pargeting/impl.errNone", laid_loop_example_pargeting_impl_errNone), ("loop.example/pargeting/impl.errNotDir", laid_loop_example_pargeting_impl_errNotDir)], narrowed := true }
def FnLayerLeastUptoSaid : Prop := fnLayerLeastUptoRow.holds Tryz.pinned (OpenSpec.upto fnLayerLeastSpec)

end Rows
end Go.Proofs.YtkjpmngohocmlaaGreatDoor
