/-
  NARROWER THAN 'FOR EVERY INPUT', by the rows' own cells (each row's printed sentence says how): FnMergeAt: ifaces, laid · FnMergeTurn: ifaces, laid · FnMergeSame: ifaces, laid · FnMergeMore: ifaces, laid.
  DERIVED. THE GIVEN ROWS OF THIS SEAT. 4 by the template 'for every input the law returns true; each argument reads behind the call as it read before'; 0 by the template 'total and deterministic' (their statements: YtoaipphccjkphaaDoorTotals.lean).
  GIVEN WITH THE SEED: the statements are not yours to turn. If you find one false, say at which input.
  Laid BY PROGRAM, IN A SANDBOX (cutbox-rows.mjs): the forced cells as the released guide's own fill.sh prints them over the translation b25434ebfdfdc45f… (all of the seat's roots in one cut). By AI agents, Wed Nov 11 2026. No macro, syntax, notation, axiom, sorry.
-/
import Derived.Test.YtoaipphccjkphaaDoorChecked
import GoSem.Claim
import GoSem.ClaimJoined
import GoSem.ClaimMapViews
import Derived.JoinedTies
import Derived.KernelRfl
namespace Go.Proofs.YtoaipphccjkphaaDoor
/- THE CELL 'sum', in the pinned program and in every row, IS THE sha256 OF THE DUMP (.gsa) THAT YtoaipphccjkphaaDoorProg.lean LOADS. Nothing in Lean hashes anything: it is a label: what it is worth is what the hold of that sum in a sandbox is worth. -/
noncomputable def Tryd.pinned : Pinned := { name := "ytoaipphccjkphaadoor", sum := "b25434ebfdfdc45f1052dc55ec51439deec3b9959571b46d9939a2f7283073c0", checked := Tryd.checked }
namespace Rows
def none {H : Type} : Left H := { results := [], args := [] }

/- WHAT THE LISTED PACKAGE-LEVEL VARIABLES READ AS WHEN THE CALL BEGINS. Each datum BY PROGRAM (the guide's laid-datum.mjs) off the statement by which the dump's own 'gosem.cut.vars' lays the variable. In a bare row this is a premise. The card (YtoaipphccjkphaaDoorCards.lean) ties it to the program's text. -/
def laid_loop_example_pargeting_impl_errNone {H : Type} : DataW H := .iface "*errors.errorString" (.ptr (.agg [.lit (.string [110, 111, 116, 104, 105, 110, 103, 32, 105, 115, 32, 116, 104, 101, 114, 101])]))
def laid_loop_example_pargeting_impl_errNotDir {H : Type} : DataW H := .iface "*errors.errorString" (.ptr (.agg [.lit (.string [97, 32, 102, 105, 108, 101, 32, 105, 115, 32, 116, 104, 101, 114, 101])]))
def laid_loop_example_pargeting_impl_errBad {H : Type} : DataW H := .iface "*errors.errorString" (.ptr (.agg [.lit (.string [119, 104, 97, 116, 32, 105, 115, 32, 97, 115, 107, 101, 100, 32, 102, 111, 114, 32, 99, 97, 110, 32, 110, 111, 116, 32, 98, 101, 32, 114, 101, 97, 100])]))

/-- 'laws.FnMergeAt': WHATEVER THE INPUT: true; the input reads as it did. -/
def fnMergeAtSpec : ChangeSpec := { name := "fnMergeAt", vars := ["loop.example/pargeting/impl.errNone", "loop.example/pargeting/impl.errNotDir"], fn := fun _ => fun
  | [d, g1, g2] => { results := [.lit (.bool true)], args := [d], vars := [g1, g2] }
  | _ => none }
def fnMergeAtRow : OpenClaim := { program := "ytoaipphccjkphaadoor", sum := "b25434ebfdfdc45f1052dc55ec51439deec3b9959571b46d9939a2f7283073c0", func := "loop.example/pargeting/laws.FnMergeAt", spec := "fnMergeAt", unfollowed := true, recurses := true, named := ["loop.example/pargeting/impl.errNone", "loop.example/pargeting/impl.errNotDir"], ifaces := true, apart := false, laid := [("loop.example/pargeting/impl.errNone", laid_loop_example_pargeting_impl_errNone), ("loop.example/pargeting/impl.errNotDir", laid_loop_example_pargeting_impl_errNotDir)] }
def FnMergeAtSaid : Prop := fnMergeAtRow.holds Tryd.pinned (OpenSpec.ofChange fnMergeAtSpec)

/-- ITS FALSE NEIGHBOUR: 'it returns false'. Refute it at one input. -/
def fnMergeAtWrong : ChangeSpec := { name := "fnMergeAt", vars := ["loop.example/pargeting/impl.errNone", "loop.example/pargeting/impl.errNotDir"], fn := fun _ => fun
  | [d, g1, g2] => { results := [.lit (.bool false)], args := [d], vars := [g1, g2] }
  | _ => none }
def FnMergeAtWrongFalsely : Prop := fnMergeAtRow.holds Tryd.pinned (OpenSpec.ofChange fnMergeAtWrong)

/-- 'laws.FnMergeTurn': WHATEVER THE INPUT: true; the input reads as it did. -/
def fnMergeTurnSpec : ChangeSpec := { name := "fnMergeTurn", vars := ["loop.example/pargeting/impl.errBad", "loop.example/pargeting/impl.errNone", "loop.example/pargeting/impl.errNotDir"], fn := fun _ => fun
  | [d, g1, g2, g3] => { results := [.lit (.bool true)], args := [d], vars := [g1, g2, g3] }
  | _ => none }
def fnMergeTurnRow : OpenClaim := { program := "ytoaipphccjkphaadoor", sum := "b25434ebfdfdc45f1052dc55ec51439deec3b9959571b46d9939a2f7283073c0", func := "loop.example/pargeting/laws.FnMergeTurn", spec := "fnMergeTurn", unfollowed := true, recurses := true, named := ["loop.example/pargeting/impl.errBad", "loop.example/pargeting/impl.errNone", "loop.example/pargeting/impl.errNotDir"], ifaces := true, apart := false, laid := [("loop.example/pargeting/impl.errBad", laid_loop_example_pargeting_impl_errBad), ("loop.example/pargeting/impl.errNone", laid_loop_example_pargeting_impl_errNone), ("loop.example/pargeting/impl.errNotDir", laid_loop_example_pargeting_impl_errNotDir)] }
def FnMergeTurnSaid : Prop := fnMergeTurnRow.holds Tryd.pinned (OpenSpec.ofChange fnMergeTurnSpec)

/-- ITS FALSE NEIGHBOUR: 'it returns false'. Refute it at one input. -/
def fnMergeTurnWrong : ChangeSpec := { name := "fnMergeTurn", vars := ["loop.example/pargeting/impl.errBad", "loop.example/pargeting/impl.errNone", "loop.example/pargeting/impl.errNotDir"], fn := fun _ => fun
  | [d, g1, g2, g3] => { results := [.lit (.bool false)], args := [d], vars := [g1, g2, g3] }
  | _ => none }
def FnMergeTurnWrongFalsely : Prop := fnMergeTurnRow.holds Tryd.pinned (OpenSpec.ofChange fnMergeTurnWrong)

/-- 'laws.FnMergeSame': WHATEVER THE INPUT: true; the input reads as it did. -/
def fnMergeSameSpec : ChangeSpec := { name := "fnMergeSame", vars := ["loop.example/pargeting/impl.errBad", "loop.example/pargeting/impl.errNone", "loop.example/pargeting/impl.errNotDir"], fn := fun _ => fun
  | [d, g1, g2, g3] => { results := [.lit (.bool true)], args := [d], vars := [g1, g2, g3] }
  | _ => none }
def fnMergeSameRow : OpenClaim := { program := "ytoaipphccjkphaadoor", sum := "b25434ebfdfdc45f1052dc55ec51439deec3b9959571b46d9939a2f7283073c0", func := "loop.example/pargeting/laws.FnMergeSame", spec := "fnMergeSame", unfollowed := true, recurses := true, named := ["loop.example/pargeting/impl.errBad", "loop.example/pargeting/impl.errNone", "loop.example/pargeting/impl.errNotDir"], ifaces := true, apart := false, laid := [("loop.example/pargeting/impl.errBad", laid_loop_example_pargeting_impl_errBad), ("loop.example/pargeting/impl.errNone", laid_loop_example_pargeting_impl_errNone), ("loop.example/pargeting/impl.errNotDir", laid_loop_example_pargeting_impl_errNotDir)] }
def FnMergeSameSaid : Prop := fnMergeSameRow.holds Tryd.pinned (OpenSpec.ofChange fnMergeSameSpec)

/-- ITS FALSE NEIGHBOUR: 'it returns false'. Refute it at one input. -/
def fnMergeSameWrong : ChangeSpec := { name := "fnMergeSame", vars := ["loop.example/pargeting/impl.errBad", "loop.example/pargeting/impl.errNone", "loop.example/pargeting/impl.errNotDir"], fn := fun _ => fun
  | [d, g1, g2, g3] => { results := [.lit (.bool false)], args := [d], vars := [g1, g2, g3] }
  | _ => none }
def FnMergeSameWrongFalsely : Prop := fnMergeSameRow.holds Tryd.pinned (OpenSpec.ofChange fnMergeSameWrong)

/-- 'laws.FnMergeMore': WHATEVER THE INPUT: true; the input reads as it did. -/
def fnMergeMoreSpec : ChangeSpec := { name := "fnMergeMore", vars := ["loop.example/pargeting/impl.errBad", "loop.example/pargeting/impl.errNone", "loop.example/pargeting/impl.errNotDir"], fn := fun _ => fun
  | [d, g1, g2, g3] => { results := [.lit (.bool true)], args := [d], vars := [g1, g2, g3] }
  | _ => none }
def fnMergeMoreRow : OpenClaim := { program := "ytoaipphccjkphaadoor", sum := "b25434ebfdfdc45f1052dc55ec51439deec3b9959571b46d9939a2f7283073c0", func := "loop.example/pargeting/laws.FnMergeMore", spec := "fnMergeMore", unfollowed := true, recurses := true, named := ["loop.example/pargeting/impl.errBad", "loop.example/pargeting/impl.errNone", "loop.example/pargeting/impl.errNotDir"], ifaces := true, apart := false, laid := [("loop.example/pargeting/impl.errBad", laid_loop_example_pargeting_impl_errBad), ("loop.example/pargeting/impl.errNone", laid_loop_example_pargeting_impl_errNone), ("loop.example/pargeting/impl.errNotDir", laid_loop_example_pargeting_impl_errNotDir)] }
def FnMergeMoreSaid : Prop := fnMergeMoreRow.holds Tryd.pinned (OpenSpec.ofChange fnMergeMoreSpec)

/-- ITS FALSE NEIGHBOUR: 'it returns false'. Refute it at one input. -/
def fnMergeMoreWrong : ChangeSpec := { name := "fnMergeMore", vars := ["loop.example/pargeting/impl.errBad", "loop.example/pargeting/impl.errNone", "loop.example/pargeting/impl.errNotDir"], fn := fun _ => fun
  | [d, g1, g2, g3] => { results := [.lit (.bool false)], args := [d], vars := [g1, g2, g3] }
  | _ => none }
def FnMergeMoreWrongFalsely : Prop := fnMergeMoreRow.holds Tryd.pinned (OpenSpec.ofChange fnMergeMoreWrong)

/- THE SECOND FORM. 'bulk': how many values and letters a reading holds, each counted each time it is reached (what is shared counts as often as it is met; a slice's spare places count too). A statement '..UptoSaid' is the law's where the arguments, and the package variables that the reading takes, are together of bulk at most 1048576: NARROWER than '..Said'. Prove '..Said' where nothing that the law and all that it calls make is longer than what came in: it says more and counts as full. Else prove '..UptoSaid'. A law counts once. -/
mutual
def uptoBulk {H : Type} : DataW H → Nat
  | .lit (.string bytes) => bytes.length + 1
  | .lit _ => 1
  | .nil => 1
  | .ptr d => uptoBulk d + 1
  | .slice elems spare => uptoBulkAll elems + uptoBulkAll spare + 1
  | .agg parts => uptoBulkAll parts + 1
  | .iface _ d => uptoBulk d + 1
  | .map entries => uptoBulkEntries entries + 1
  | .held _ => 1
def uptoBulkAll {H : Type} : List (DataW H) → Nat
  | [] => 0
  | d :: r => uptoBulk d + uptoBulkAll r
def uptoBulkEntries {H : Type} : List (Lit × DataW H) → Nat
  | [] => 0
  | x :: r => uptoBulkEntry x + uptoBulkEntries r
def uptoBulkEntry {H : Type} : Lit × DataW H → Nat
  | (.string bytes, d) => bytes.length + uptoBulk d + 1
  | (_, d) => uptoBulk d + 1
 end
def uptoSmall : (H : Type) → List (DataW H) → Bool := fun _ ds => decide (uptoBulkAll ds ≤ 1048576)
def OpenSpec.upto (s : _root_.Go.ChangeSpec) : _root_.Go.OpenSpec := { _root_.Go.OpenSpec.ofChange s with cond := some uptoSmall }

/-- 'laws.FnMergeAt', WHERE WHAT IT READS IS OF BULK AT MOST 1048576: true; the input reads as it did. -/
def fnMergeAtUptoRow : OpenClaim := { program := "ytoaipphccjkphaadoor", sum := "b25434ebfdfdc45f1052dc55ec51439deec3b9959571b46d9939a2f7283073c0", func := "loop.example/pargeting/laws.FnMergeAt", spec := "fnMergeAt", unfollowed := true, recurses := true, named := ["loop.example/pargeting/impl.errNone", "loop.example/pargeting/impl.errNotDir"], ifaces := true, apart := false, laid := [("loop.example/pargeting/impl.errNone", laid_loop_example_pargeting_impl_errNone), ("loop.example/pargeting/impl.errNotDir", laid_loop_example_pargeting_impl_errNotDir)], narrowed := true }
def FnMergeAtUptoSaid : Prop := fnMergeAtUptoRow.holds Tryd.pinned (OpenSpec.upto fnMergeAtSpec)

/-- 'laws.FnMergeTurn', WHERE WHAT IT READS IS OF BULK AT MOST 1048576: true; the input reads as it did. -/
def fnMergeTurnUptoRow : OpenClaim := { program := "ytoaipphccjkphaadoor", sum := "b25434ebfdfdc45f1052dc55ec51439deec3b9959571b46d9939a2f7283073c0", func := "loop.example/pargeting/laws.FnMergeTurn", spec := "fnMergeTurn", unfollowed := true, recurses := true, named := ["loop.example/pargeting/impl.errBad", "loop.example/pargeting/impl.errNone", "loop.example/pargeting/impl.errNotDir"], ifaces := true, apart := false, laid := [("loop.example/pargeting/impl.errBad", laid_loop_example_pargeting_impl_errBad), ("loop.example/pargeting/impl.errNone", laid_loop_example_pargeting_impl_errNone), ("loop.example/pargeting/impl.errNotDir", laid_loop_example_pargeting_impl_errNotDir)], narrowed := true }
def FnMergeTurnUptoSaid : Prop := fnMergeTurnUptoRow.holds Tryd.pinned (OpenSpec.upto fnMergeTurnSpec)

/-- 'laws.FnMergeSame', WHERE WHAT IT READS IS OF BULK AT MOST 1048576: true; the input reads as it did. -/
def fnMergeSameUptoRow : OpenClaim := { program := "ytoaipphccjkphaadoor", sum := "b25434ebfdfdc45f1052dc55ec51439deec3b9959571b46d9939a2f7283073c0", func := "loop.example/pargeting/laws.FnMergeSame", spec := "fnMergeSame", unfollowed := true, recurses := true, named := ["loop.example/pargeting/impl.errBad", "loop.example/pargeting/impl.errNone", "loop.example/pargeting/impl.errNotDir"], ifaces := true, apart := false, laid := [("loop.example/pargeting/impl.errBad", laid_loop_example_pargeting_impl_errBad), ("loop.example/pargeting/impl.errNone", laid_loop_example_pargeting_impl_errNone), ("loop.example/pargeting/impl.errNotDir", laid_loop_example_pargeting_impl_errNotDir)], narrowed := true }
def FnMergeSameUptoSaid : Prop := fnMergeSameUptoRow.holds Tryd.pinned (OpenSpec.upto fnMergeSameSpec)

/-- 'laws.FnMergeMore', WHERE WHAT IT READS IS OF BULK AT MOST 1048576: true; the input reads as it did. -/
def fnMergeMoreUptoRow : OpenClaim := { program := "ytoaipphccjkphaadoor", sum := "b25434ebfdfdc45f1052dc55ec51439deec3b9959571b46d9939a2f7283073c0", func := "loop.example/pargeting/laws.FnMergeMore", spec := "fnMergeMore", unfollowed := true, recurses := true, named := ["loop.example/pargeting/impl.errBad", "loop.example/pargeting/impl.errNone", "loop.example/pargeting/impl.errNotDir"], ifaces := true, apart := false, laid := [("loop.example/pargeting/impl.errBad", laid_loop_example_pargeting_impl_errBad), ("loop.example/pargeting/impl.errNone", laid_loop_example_pargeting_impl_errNone), ("loop.example/pargeting/impl.errNotDir", laid_loop_example_pargeting_impl_errNotDir)], narrowed := true }
def FnMergeMoreUptoSaid : Prop := fnMergeMoreUptoRow.holds Tryd.pinned (OpenSpec.upto fnMergeMoreSpec)

end Rows
end Go.Proofs.YtoaipphccjkphaaDoor
