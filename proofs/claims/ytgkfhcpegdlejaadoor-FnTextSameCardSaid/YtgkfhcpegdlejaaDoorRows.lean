/-
  NARROWER THAN 'FOR EVERY INPUT', by the rows' own cells (each row's printed sentence says how): FnTreeText: ifaces, laid · FnLayerText: laid · FnOpText: laid · FnTextSame: laid.
  DERIVED. THE GIVEN ROWS OF THIS SEAT. 4 by the template 'for every input the law returns true; each argument reads behind the call as it read before'; 0 by the template 'total and deterministic' (their statements: YtgkfhcpegdlejaaDoorTotals.lean).
  GIVEN WITH THE SEED: the statements are not yours to turn. If you find one false, say at which input.
  Laid BY PROGRAM, IN A SANDBOX (cutbox-rows.mjs): the forced cells as the released guide's own fill.sh prints them over the translation 4bc2957e7cd40c19… (all of the seat's roots in one cut). By AI agents, Wed Nov 11 2026. No macro, syntax, notation, axiom, sorry.
-/
import Derived.Test.YtgkfhcpegdlejaaDoorChecked
import GoSem.Claim
import GoSem.ClaimJoined
import GoSem.ClaimMapViews
import Derived.JoinedTies
import Derived.KernelRfl
namespace Go.Proofs.YtgkfhcpegdlejaaDoor
/- THE CELL 'sum', in the pinned program and in every row, IS THE sha256 OF THE DUMP (.gsa) THAT YtgkfhcpegdlejaaDoorProg.lean LOADS. Nothing in Lean hashes anything: it is a label: what it is worth is what the hold of that sum in a sandbox is worth. -/
noncomputable def Tryd.pinned : Pinned := { name := "ytgkfhcpegdlejaadoor", sum := "4bc2957e7cd40c19c27a4f09aadcc25b7a31d33e38e761f6ad826170cec1a612", checked := Tryd.checked }
namespace Rows
def none {H : Type} : Left H := { results := [], args := [] }

/- WHAT THE LISTED PACKAGE-LEVEL VARIABLES READ AS WHEN THE CALL BEGINS. Each datum BY PROGRAM (the guide's laid-datum.mjs) off the statement by which the dump's own 'gosem.cut.vars' lays the variable. In a bare row this is a premise. The card (YtgkfhcpegdlejaaDoorCards.lean) ties it to the program's text. -/
def laid_loop_example_pargeting_impl_errNone {H : Type} : DataW H := .iface "*errors.errorString" (.ptr (.agg [.lit (.string [110, 111, 116, 104, 105, 110, 103, 32, 105, 115, 32, 116, 104, 101, 114, 101])]))
def laid_loop_example_pargeting_impl_errNotDir {H : Type} : DataW H := .iface "*errors.errorString" (.ptr (.agg [.lit (.string [97, 32, 102, 105, 108, 101, 32, 105, 115, 32, 116, 104, 101, 114, 101])]))
def laid_loop_example_pargeting_impl_markWords {H : Type} : DataW H := .agg [.lit (.string []), .lit (.string [102]), .lit (.string [100]), .lit (.string [120]), .lit (.string [98])]
def laid_loop_example_pargeting_impl_opWords {H : Type} : DataW H := .agg [.lit (.string []), .lit (.string [109, 97, 107, 101]), .lit (.string [112, 117, 116]), .lit (.string [114, 109]), .lit (.string [114, 109, 100, 105, 114]), .lit (.string [109, 111, 118, 101])]

/-- 'laws.FnTreeText': WHATEVER THE INPUT: true; the input reads as it did. -/
def fnTreeTextSpec : ChangeSpec := { name := "fnTreeText", vars := ["loop.example/pargeting/impl.errNone", "loop.example/pargeting/impl.errNotDir", "loop.example/pargeting/impl.markWords"], fn := fun _ => fun
  | [d1, d2, g1, g2, g3] => { results := [.lit (.bool true)], args := [d1, d2], vars := [g1, g2, g3] }
  | _ => none }
def fnTreeTextRow : OpenClaim := { program := "ytgkfhcpegdlejaadoor", sum := "4bc2957e7cd40c19c27a4f09aadcc25b7a31d33e38e761f6ad826170cec1a612", func := "loop.example/pargeting/laws.FnTreeText", spec := "fnTreeText", unfollowed := true, recurses := true, named := ["loop.example/pargeting/impl.errNone", "loop.example/pargeting/impl.errNotDir", "loop.example/pargeting/impl.markWords"], ifaces := true, apart := false, laid := [("loop.example/pargeting/impl.errNone", laid_loop_example_pargeting_impl_errNone), ("loop.example/pargeting/impl.errNotDir", laid_loop_example_pargeting_impl_errNotDir), ("loop.example/pargeting/impl.markWords", laid_loop_example_pargeting_impl_markWords)] }
def FnTreeTextSaid : Prop := fnTreeTextRow.holds Tryd.pinned (OpenSpec.ofChange fnTreeTextSpec)

/-- ITS FALSE NEIGHBOUR: 'it returns false'. Refute it at one input. -/
def fnTreeTextWrong : ChangeSpec := { name := "fnTreeText", vars := ["loop.example/pargeting/impl.errNone", "loop.example/pargeting/impl.errNotDir", "loop.example/pargeting/impl.markWords"], fn := fun _ => fun
  | [d1, d2, g1, g2, g3] => { results := [.lit (.bool false)], args := [d1, d2], vars := [g1, g2, g3] }
  | _ => none }
def FnTreeTextWrongFalsely : Prop := fnTreeTextRow.holds Tryd.pinned (OpenSpec.ofChange fnTreeTextWrong)

/-- 'laws.FnLayerText': WHATEVER THE INPUT: true; the input reads as it did. -/
def fnLayerTextSpec : ChangeSpec := { name := "fnLayerText", vars := ["loop.example/pargeting/impl.markWords"], fn := fun _ => fun
  | [d1, d2, g1] => { results := [.lit (.bool true)], args := [d1, d2], vars := [g1] }
  | _ => none }
def fnLayerTextRow : OpenClaim := { program := "ytgkfhcpegdlejaadoor", sum := "4bc2957e7cd40c19c27a4f09aadcc25b7a31d33e38e761f6ad826170cec1a612", func := "loop.example/pargeting/laws.FnLayerText", spec := "fnLayerText", unfollowed := true, recurses := true, named := ["loop.example/pargeting/impl.markWords"], apart := false, laid := [("loop.example/pargeting/impl.markWords", laid_loop_example_pargeting_impl_markWords)] }
def FnLayerTextSaid : Prop := fnLayerTextRow.holds Tryd.pinned (OpenSpec.ofChange fnLayerTextSpec)

/-- ITS FALSE NEIGHBOUR: 'it returns false'. Refute it at one input. -/
def fnLayerTextWrong : ChangeSpec := { name := "fnLayerText", vars := ["loop.example/pargeting/impl.markWords"], fn := fun _ => fun
  | [d1, d2, g1] => { results := [.lit (.bool false)], args := [d1, d2], vars := [g1] }
  | _ => none }
def FnLayerTextWrongFalsely : Prop := fnLayerTextRow.holds Tryd.pinned (OpenSpec.ofChange fnLayerTextWrong)

/-- 'laws.FnOpText': WHATEVER THE INPUT: true; the input reads as it did. -/
def fnOpTextSpec : ChangeSpec := { name := "fnOpText", vars := ["loop.example/pargeting/impl.opWords"], fn := fun _ => fun
  | [d1, d2, g1] => { results := [.lit (.bool true)], args := [d1, d2], vars := [g1] }
  | _ => none }
def fnOpTextRow : OpenClaim := { program := "ytgkfhcpegdlejaadoor", sum := "4bc2957e7cd40c19c27a4f09aadcc25b7a31d33e38e761f6ad826170cec1a612", func := "loop.example/pargeting/laws.FnOpText", spec := "fnOpText", unfollowed := true, recurses := true, named := ["loop.example/pargeting/impl.opWords"], apart := false, laid := [("loop.example/pargeting/impl.opWords", laid_loop_example_pargeting_impl_opWords)] }
def FnOpTextSaid : Prop := fnOpTextRow.holds Tryd.pinned (OpenSpec.ofChange fnOpTextSpec)

/-- ITS FALSE NEIGHBOUR: 'it returns false'. Refute it at one input. -/
def fnOpTextWrong : ChangeSpec := { name := "fnOpText", vars := ["loop.example/pargeting/impl.opWords"], fn := fun _ => fun
  | [d1, d2, g1] => { results := [.lit (.bool false)], args := [d1, d2], vars := [g1] }
  | _ => none }
def FnOpTextWrongFalsely : Prop := fnOpTextRow.holds Tryd.pinned (OpenSpec.ofChange fnOpTextWrong)

/-- 'laws.FnTextSame': WHATEVER THE INPUT: true; the input reads as it did. -/
def fnTextSameSpec : ChangeSpec := { name := "fnTextSame", vars := ["loop.example/pargeting/impl.markWords", "loop.example/pargeting/impl.opWords"], fn := fun _ => fun
  | [d1, d2, g1, g2] => { results := [.lit (.bool true)], args := [d1, d2], vars := [g1, g2] }
  | _ => none }
def fnTextSameRow : OpenClaim := { program := "ytgkfhcpegdlejaadoor", sum := "4bc2957e7cd40c19c27a4f09aadcc25b7a31d33e38e761f6ad826170cec1a612", func := "loop.example/pargeting/laws.FnTextSame", spec := "fnTextSame", unfollowed := true, recurses := true, named := ["loop.example/pargeting/impl.markWords", "loop.example/pargeting/impl.opWords"], apart := false, laid := [("loop.example/pargeting/impl.opWords", laid_loop_example_pargeting_impl_opWords), ("loop.example/pargeting/impl.markWords", laid_loop_example_pargeting_impl_markWords)] }
def FnTextSameSaid : Prop := fnTextSameRow.holds Tryd.pinned (OpenSpec.ofChange fnTextSameSpec)

/-- ITS FALSE NEIGHBOUR: 'it returns false'. Refute it at one input. -/
def fnTextSameWrong : ChangeSpec := { name := "fnTextSame", vars := ["loop.example/pargeting/impl.markWords", "loop.example/pargeting/impl.opWords"], fn := fun _ => fun
  | [d1, d2, g1, g2] => { results := [.lit (.bool false)], args := [d1, d2], vars := [g1, g2] }
  | _ => none }
def FnTextSameWrongFalsely : Prop := fnTextSameRow.holds Tryd.pinned (OpenSpec.ofChange fnTextSameWrong)

/- THE SECOND FORM. 'bulk': how many values and letters a reading holds, each counted each time it is reached (what is shared counts as often as it is met; a slice's spare places count too). A statement '..UptoSaid' is the law's where the arguments, and the package variables that the reading takes, are together of bulk at most 1048576: NARROWER than '..Said'. Prove '..Said' where nothing that the law and all that it calls make is longer than what came in: it says more and counts as full. Else prove '..UptoSaid'. A law counts once. -/
mutual
def uptoBulk {H : Type} : DataW H → Nat
  | .lit (.string bytes) => bytes.length + 1
  | .lit _ => 1
  | .nil => 1
  | .ptr d => uptoBulk d + 1
  | .slice elems spare => uptoBulkAll elems + uptoBulkAll spare + 1
  | .agg parts => uptoBulkAll parts + 1
  | .iface _ d => uptoBulk d + 1
  | .map entries => uptoBulkEntries entries + 1
  | .held _ => 1
def uptoBulkAll {H : Type} : List (DataW H) → Nat
  | [] => 0
  | d :: r => uptoBulk d + uptoBulkAll r
def uptoBulkEntries {H : Type} : List (Lit × DataW H) → Nat
  | [] => 0
  | x :: r => uptoBulkEntry x + uptoBulkEntries r
def uptoBulkEntry {H : Type} : Lit × DataW H → Nat
  | (.string bytes, d) => bytes.length + uptoBulk d + 1
  | (_, d) => uptoBulk d + 1
 end
def uptoSmall : (H : Type) → List (DataW H) → Bool := fun _ ds => decide (uptoBulkAll ds ≤ 1048576)
def OpenSpec.upto (s : _root_.Go.ChangeSpec) : _root_.Go.OpenSpec := { _root_.Go.OpenSpec.ofChange s with cond := some uptoSmall }

/-- 'laws.FnTreeText', WHERE WHAT IT READS IS OF BULK AT MOST 1048576: true; the input reads as it did. -/
def fnTreeTextUptoRow : OpenClaim := { program := "ytgkfhcpegdlejaadoor", sum := "4bc2957e7cd40c19c27a4f09aadcc25b7a31d33e38e761f6ad826170cec1a612", func := "loop.example/pargeting/laws.FnTreeText", spec := "fnTreeText", unfollowed := true, recurses := true, named := ["loop.example/pargeting/impl.errNone", "loop.example/pargeting/impl.errNotDir", "loop.example/pargeting/impl.markWords"], ifaces := true, apart := false, laid := [("loop.example/pargeting/impl.errNone", laid_loop_example_pargeting_impl_errNone), ("loop.example/pargeting/impl.errNotDir", laid_loop_example_pargeting_impl_errNotDir), ("loop.example/pargeting/impl.markWords", laid_loop_example_pargeting_impl_markWords)], narrowed := true }
def FnTreeTextUptoSaid : Prop := fnTreeTextUptoRow.holds Tryd.pinned (OpenSpec.upto fnTreeTextSpec)

/-- 'laws.FnLayerText', WHERE WHAT IT READS IS OF BULK AT MOST 1048576: true; the input reads as it did. -/
def fnLayerTextUptoRow : OpenClaim := { program := "ytgkfhcpegdlejaadoor", sum := "4bc2957e7cd40c19c27a4f09aadcc25b7a31d33e38e761f6ad826170cec1a612", func := "loop.example/pargeting/laws.FnLayerText", spec := "fnLayerText", unfollowed := true, recurses := true, named := ["loop.example/pargeting/impl.markWords"], apart := false, laid := [("loop.example/pargeting/impl.markWords", laid_loop_example_pargeting_impl_markWords)], narrowed := true }
def FnLayerTextUptoSaid : Prop := fnLayerTextUptoRow.holds Tryd.pinned (OpenSpec.upto fnLayerTextSpec)

/-- 'laws.FnOpText', WHERE WHAT IT READS IS OF BULK AT MOST 1048576: true; the input reads as it did. -/
def fnOpTextUptoRow : OpenClaim := { program := "ytgkfhcpegdlejaadoor", sum := "4bc2957e7cd40c19c27a4f09aadcc25b7a31d33e38e761f6ad826170cec1a612", func := "loop.example/pargeting/laws.FnOpText", spec := "fnOpText", unfollowed := true, recurses := true, named := ["loop.example/pargeting/impl.opWords"], apart := false, laid := [("loop.example/pargeting/impl.opWords", laid_loop_example_pargeting_impl_opWords)], narrowed := true }
def FnOpTextUptoSaid : Prop := fnOpTextUptoRow.holds Tryd.pinned (OpenSpec.upto fnOpTextSpec)

/-- 'laws.FnTextSame', WHERE WHAT IT READS IS OF BULK AT MOST 1048576: true; the input reads as it did. -/
def fnTextSameUptoRow : OpenClaim := { program := "ytgkfhcpegdlejaadoor", sum := "4bc2957e7cd40c19c27a4f09aadcc25b7a31d33e38e761f6ad826170cec1a612", func := "loop.example/pargeting/laws.FnTextSame", spec := "fnTextSame", unfollowed := true, recurses := true, named := ["loop.example/pargeting/impl.markWords", "loop.example/pargeting/impl.opWords"], apart := false, laid := [("loop.example/pargeting/impl.opWords", laid_loop_example_pargeting_impl_opWords), ("loop.example/pargeting/impl.markWords", laid_loop_example_pargeting_impl_markWords)], narrowed := true }
def FnTextSameUptoSaid : Prop := fnTextSameUptoRow.holds Tryd.pinned (OpenSpec.upto fnTextSameSpec)

end Rows
end Go.Proofs.YtgkfhcpegdlejaaDoor
