/-
  NARROWER THAN 'FOR EVERY INPUT', by the rows' own cells (each row's printed sentence says how): FnOpBack: ifaces, laid.
  DERIVED. THE GIVEN ROWS OF THIS SEAT. 1 by the template 'for every input the law returns true; each argument reads behind the call as it read before'; 0 by the template 'total and deterministic' (their statements: YtafeddiijemnbaaGreatDoorTotals.lean).
  GIVEN WITH THE SEED: the statements are not yours to turn. If you find one false, say at which input.
  Laid BY PROGRAM, IN A SANDBOX (cutbox-rows.mjs): the forced cells as the released guide's own fill.sh prints them over the translation b213b0de2f33ed8c… (all of the seat's roots in one cut). By AI agents, Wed Nov 11 2026. No macro, syntax, notation, axiom, sorry.
-/
import Derived.Test.YtafeddiijemnbaaGreatDoorChecked
import GoSem.Claim
import GoSem.ClaimJoined
import GoSem.ClaimMapViews
import Derived.JoinedTies
import Derived.KernelRfl
namespace Go.Proofs.YtafeddiijemnbaaGreatDoor
/- THE CELL 'sum', in the pinned program and in every row, IS THE sha256 OF THE DUMP (.gsa) THAT YtafeddiijemnbaaGreatDoorProg.lean LOADS. Nothing in Lean hashes anything: it is a label: what it is worth is what the hold of that sum in a sandbox is worth. -/
noncomputable def Tryz.pinned : Pinned := { name := "ytafeddiijemnbaagreatdoor", sum := "b213b0de2f33ed8c220fac5086fea9c8737486ee8ba3f8400974c936e5b53179", checked := Tryz.checked }
namespace Rows
def none {H : Type} : Left H := { results := [], args := [] }

/- WHAT THE LISTED PACKAGE-LEVEL VARIABLES READ AS WHEN THE CALL BEGINS. Each datum BY PROGRAM (the guide's laid-datum.mjs) off the statement by which the dump's own 'gosem.cut.vars' lays the variable. In a bare row this is a premise. The card (YtafeddiijemnbaaGreatDoorCards.lean) ties it to the program's text. -/
def laid_loop_example_pargeting_impl_errBad {H : Type} : DataW H := .iface "*errors.errorString" (.ptr (.agg [.lit (.string [119, 104, 97, 116, 32, 105, 115, 32, 97, 115, 107, 101, 100, 32, 102, 111, 114, 32, 99, 97, 110, 32, 110, 111, 116, 32, 98, 101, 32, 114, 101, 97, 100])]))
def laid_loop_example_pargeting_impl_errNone {H : Type} : DataW H := .iface "*errors.errorString" (.ptr (.agg [.lit (.string [110, 111, 116, 104, 105, 110, 103, 32, 105, 115, 32, 116, 104, 101, 114, 101])]))
def laid_loop_example_pargeting_impl_errNotDir {H : Type} : DataW H := .iface "*errors.errorString" (.ptr (.agg [.lit (.string [97, 32, 102, 105, 108, 101, 32, 105, 115, 32, 116, 104, 101, 114, 101])]))
def laid_loop_example_pargeting_impl_errThere {H : Type} : DataW H := .iface "*errors.errorString" (.ptr (.agg [.lit (.string [115, 111, 109, 101, 116, 104, 105, 110, 103, 32, 105, 115, 32, 116, 104, 101, 114, 101])]))
def laid_loop_example_pargeting_impl_errIsDir {H : Type} : DataW H := .iface "*errors.errorString" (.ptr (.agg [.lit (.string [97, 32, 100, 105, 114, 101, 99, 116, 111, 114, 121, 32, 105, 115, 32, 116, 104, 101, 114, 101])]))
def laid_loop_example_pargeting_impl_errKept {H : Type} : DataW H := .iface "*errors.errorString" (.ptr (.agg [.lit (.string [115, 111, 109, 101, 116, 104, 105, 110, 103, 32, 105, 115, 32, 105, 110, 32, 105, 116])]))
def laid_loop_example_pargeting_impl_errUnder {H : Type} : DataW H := .iface "*errors.errorString" (.ptr (.agg [.lit (.string [105, 116, 32, 119, 111, 117, 108, 100, 32, 98, 101, 32, 98, 101, 108, 111, 119, 32, 105, 116, 115, 101, 108, 102])]))
def laid_loop_example_pargeting_impl_errRoom {H : Type} : DataW H := .iface "*errors.errorString" (.ptr (.agg [.lit (.string [116, 104, 101, 114, 101, 32, 105, 115, 32, 110, 111, 32, 114, 111, 111, 109])]))

/-- 'laws.FnOpBack': WHATEVER THE INPUT: true; the input reads as it did. -/
def fnOpBackSpec : ChangeSpec := { name := "fnOpBack", vars := ["loop.example/pargeting/impl.errNone", "loop.example/pargeting/impl.errNotDir", "loop.example/pargeting/impl.errBad", "loop.example/pargeting/impl.errThere", "loop.example/pargeting/impl.errIsDir", "loop.example/pargeting/impl.errKept", "loop.example/pargeting/impl.errUnder", "loop.example/pargeting/impl.errRoom"], fn := fun _ => fun
  | [d, g1, g2, g3, g4, g5, g6, g7, g8] => { results := [.lit (.bool true)], args := [d], vars := [g1, g2, g3, g4, g5, g6, g7, g8] }
  | _ => none }
def fnOpBackRow : OpenClaim := { program := "ytafeddiijemnbaagreatdoor", sum := "b213b0de2f33ed8c220fac5086fea9c8737486ee8ba3f8400974c936e5b53179", func := "loop.example/pargeting/laws.FnOpBack", spec := "fnOpBack", inPlace := ["internal/reflectlite.TypeOf"], unfollowed := true, recurses := true, named := ["loop.example/pargeting/impl.errNone", "loop.example/pargeting/impl.errNotDir", "loop.example/pargeting/impl.errBad", "loop.example/pargeting/impl.errThere", "loop.example/pargeting/impl.errIsDir", "loop.example/pargeting/impl.errKept", "loop.example/pargeting/impl.errUnder", "loop.example/pargeting/impl.errRoom"], ifaces := true, apart := false, laid := [("loop.example/pargeting/impl.errBad", laid_loop_example_pargeting_impl_errBad), ("loop.example/pargeting/impl.errNone", laid_loop_example_pargeting_impl_errNone), ("loop.example/pargeting/impl.errNotDir", laid_loop_example_pargeting_impl_errNotDir), ("loop.example/pargeting/impl.errThere", laid_loop_example_pargeting_impl_errThere), ("loop.example/pargeting/impl.errIsDir", laid_loop_example_pargeting_impl_errIsDir), ("loop.example/pargeting/impl.errKept", laid_loop_example_pargeting_impl_errKept), ("loop.example/pargeting/impl.errUnder", laid_loop_example_pargeting_impl_errUnder), ("loop.example/pargeting/impl.errRoom", laid_loop_example_pargeting_impl_errRoom)] }
def FnOpBackSaid : Prop := fnOpBackRow.holds Tryz.pinned (OpenSpec.ofChange fnOpBackSpec)

/-- ITS FALSE NEIGHBOUR: 'it returns false'. Refute it at one input. -/
def fnOpBackWrong : ChangeSpec := { name := "fnOpBack", vars := ["loop.example/pargeting/impl.errNone", "loop.example/pargeting/impl.errNotDir", "loop.example/pargeting/impl.errBad", "loop.example/pargeting/impl.errThere", "loop.example/pargeting/impl.errIsDir", "loop.example/pargeting/impl.errKept", "loop.example/pargeting/impl.errUnder", "loop.example/pargeting/impl.errRoom"], fn := fun _ => fun
  | [d, g1, g2, g3, g4, g5, g6, g7, g8] => { results := [.lit (.bool false)], args := [d], vars := [g1, g2, g3, g4, g5, g6, g7, g8] }
  | _ => none }
def FnOpBackWrongFalsely : Prop := fnOpBackRow.holds Tryz.pinned (OpenSpec.ofChange fnOpBackWrong)

/- THE SECOND FORM. 'bulk': how many values and letters a reading holds, each counted each time it is reached (what is shared counts as often as it is met; a slice's spare places count too). A statement '..UptoSaid' is the law's where the arguments, and the package variables that the reading takes, are together of bulk at most 1048576: NARROWER than '..Said'. Prove '..Said' where nothing that the law and all that it calls make is longer than what came in: it says more and counts as full. Else prove '..UptoSaid'. A law counts once. -/
mutual
def uptoBulk {H : Type} : DataW H → Nat
  | .lit (.string bytes) => bytes.length + 1
  | .lit _ => 1
  | .nil => 1
  | .ptr d => uptoBulk d + 1
  | .slice elems spare => uptoBulkAll elems + uptoBulkAll spare + 1
  | .agg parts => uptoBulkAll parts + 1
  | .iface _ d => uptoBulk d + 1
  | .map entries => uptoBulkEntries entries + 1
  | .held _ => 1
def uptoBulkAll {H : Type} : List (DataW H) → Nat
  | [] => 0
  | d :: r => uptoBulk d + uptoBulkAll r
def uptoBulkEntries {H : Type} : List (Lit × DataW H) → Nat
  | [] => 0
  | x :: r => uptoBulkEntry x + uptoBulkEntries r
def uptoBulkEntry {H : Type} : Lit × DataW H → Nat
  | (.string bytes, d) => bytes.length + uptoBulk d + 1
  | (_, d) => uptoBulk d + 1
 end
def uptoSmall : (H : Type) → List (DataW H) → Bool := fun _ ds => decide (uptoBulkAll ds ≤ 1048576)
def OpenSpec.upto (s : _root_.Go.ChangeSpec) : _root_.Go.OpenSpec := { _root_.Go.OpenSpec.ofChange s with cond := some uptoSmall }

/-- 'laws.FnOpBack', WHERE WHAT IT READS IS OF BULK AT MOST 1048576: true; the input reads as it did. -/
def fnOpBackUptoRow : OpenClaim := { program := "ytafeddiijemnbaagreatdoor", sum := "b213b0de2f33ed8c220fac5086fea9c8737486ee8ba3f8400974c936e5b53179", func := "loop.example/pargeting/laws.FnOpBack", spec := "fnOpBack", inPlace := ["internal/reflectlite.TypeOf"], unfollowed := true, recurses := true, named := ["loop.example/pargeting/impl.errNone", "loop.example/pargeting/impl.errNotDir", "loop.example/pargeting/impl.errBad", "loop.example/pargeting/impl.errThere", "loop.example/pargeting/impl.errIsDir", "loop.example/pargeting/impl.errKept", "loop.example/pargeting/impl.errUnder", "loop.example/pargeting/impl.errRoom"], ifaces := true, apart := false, laid := [("loop.example/pargeting/impl.errBad", laid_loop_example_pargeting_impl_errBad), ("loop.example/pargeting/impl.errNone", laid_loop_example_pargeting_impl_errNone), ("loop.example/pargeting/impl.errNotDir", laid_loop_example_pargeting_impl_errNotDir), ("loop.example/pargeting/impl.errThere", laid_loop_example_pargeting_impl_errThere), ("loop.example/pargeting/impl.errIsDir", laid_loop_example_pargeting_impl_errIsDir), ("loop.example/pargeting/impl.errKept", laid_loop_example_pargeting_impl_errKept), ("loop.example/pargeting/impl.errUnder", laid_loop_example_pargeting_impl_errUnder), ("loop.example/pargeting/impl.errRoom", laid_loop_example_pargeting_impl_errRoom)], narrowed := true }
def FnOpBackUptoSaid : Prop := fnOpBackUptoRow.holds Tryz.pinned (OpenSpec.upto fnOpBackSpec)

end Rows
end Go.Proofs.YtafeddiijemnbaaGreatDoor
