/-
  No cell of these rows narrows 'for every input' (looked for: loops, veiled, ifaces, maps, wideKeys, modest, calm, conditions, laid).
  DERIVED. THE GIVEN ROWS OF THIS SEAT. 6 by the template 'for every input the law returns true; each argument reads behind the call as it read before'; 0 by the template 'total and deterministic' (their statements: YtgbchekmojjckaaTotals.lean).
  GIVEN WITH THE SEED: the statements are not yours to turn. If you find one false, say at which input.
  Laid BY PROGRAM, IN A SANDBOX (cutbox-rows.mjs): the forced cells as the released guide's own fill.sh prints them over the translation a9c7383401cdd5e3… (all of the seat's roots in one cut). By AI agents, Wed Nov 11 2026. No macro, syntax, notation, axiom, sorry.
-/
import Derived.Test.YtgbchekmojjckaaChecked
import GoSem.Claim
import GoSem.ClaimJoined
import GoSem.ClaimMapViews
import Derived.JoinedTies
import Derived.KernelRfl
namespace Go.Proofs.Ytgbchekmojjckaa
/- THE CELL 'sum', in the pinned program and in every row, IS THE sha256 OF THE DUMP (.gsa) THAT YtgbchekmojjckaaProg.lean LOADS. Nothing in Lean hashes anything: it is a label: what it is worth is what the hold of that sum in a sandbox is worth. -/
noncomputable def Try.pinned : Pinned := { name := "ytgbchekmojjckaa", sum := "a9c7383401cdd5e31a5d8f8602b11937587d2129b1b898796dd95586b89f2fe8", checked := Try.checked }
namespace Rows
def none {H : Type} : Left H := { results := [], args := [] }

/-- 'laws.FnPath': WHATEVER THE INPUT: true; the input reads as it did. -/
def fnPathSpec : ChangeSpec := { name := "fnPath", fn := fun _ => fun
  | [d] => { results := [.lit (.bool true)], args := [d] }
  | _ => none }
def fnPathRow : OpenClaim := { program := "ytgbchekmojjckaa", sum := "a9c7383401cdd5e31a5d8f8602b11937587d2129b1b898796dd95586b89f2fe8", func := "loop.example/pargeting/laws.FnPath", spec := "fnPath", unfollowed := true, recurses := true, apart := false }
def FnPathSaid : Prop := fnPathRow.holds Try.pinned (OpenSpec.ofChange fnPathSpec)

/-- ITS FALSE NEIGHBOUR: 'it returns false'. Refute it at one input. -/
def fnPathWrong : ChangeSpec := { name := "fnPath", fn := fun _ => fun
  | [d] => { results := [.lit (.bool false)], args := [d] }
  | _ => none }
def FnPathWrongFalsely : Prop := fnPathRow.holds Try.pinned (OpenSpec.ofChange fnPathWrong)

/-- 'laws.FnPathJoin': WHATEVER THE INPUT: true; the input reads as it did. -/
def fnPathJoinSpec : ChangeSpec := { name := "fnPathJoin", fn := fun _ => fun
  | [d1, d2] => { results := [.lit (.bool true)], args := [d1, d2] }
  | _ => none }
def fnPathJoinRow : OpenClaim := { program := "ytgbchekmojjckaa", sum := "a9c7383401cdd5e31a5d8f8602b11937587d2129b1b898796dd95586b89f2fe8", func := "loop.example/pargeting/laws.FnPathJoin", spec := "fnPathJoin", unfollowed := true, recurses := true, apart := false }
def FnPathJoinSaid : Prop := fnPathJoinRow.holds Try.pinned (OpenSpec.ofChange fnPathJoinSpec)

/-- ITS FALSE NEIGHBOUR: 'it returns false'. Refute it at one input. -/
def fnPathJoinWrong : ChangeSpec := { name := "fnPathJoin", fn := fun _ => fun
  | [d1, d2] => { results := [.lit (.bool false)], args := [d1, d2] }
  | _ => none }
def FnPathJoinWrongFalsely : Prop := fnPathJoinRow.holds Try.pinned (OpenSpec.ofChange fnPathJoinWrong)

/-- 'laws.FnPathUnder': WHATEVER THE INPUT: true; the input reads as it did. -/
def fnPathUnderSpec : ChangeSpec := { name := "fnPathUnder", fn := fun _ => fun
  | [d1, d2] => { results := [.lit (.bool true)], args := [d1, d2] }
  | _ => none }
def fnPathUnderRow : OpenClaim := { program := "ytgbchekmojjckaa", sum := "a9c7383401cdd5e31a5d8f8602b11937587d2129b1b898796dd95586b89f2fe8", func := "loop.example/pargeting/laws.FnPathUnder", spec := "fnPathUnder", unfollowed := true, recurses := true, apart := false }
def FnPathUnderSaid : Prop := fnPathUnderRow.holds Try.pinned (OpenSpec.ofChange fnPathUnderSpec)

/-- ITS FALSE NEIGHBOUR: 'it returns false'. Refute it at one input. -/
def fnPathUnderWrong : ChangeSpec := { name := "fnPathUnder", fn := fun _ => fun
  | [d1, d2] => { results := [.lit (.bool false)], args := [d1, d2] }
  | _ => none }
def FnPathUnderWrongFalsely : Prop := fnPathUnderRow.holds Try.pinned (OpenSpec.ofChange fnPathUnderWrong)

/-- 'laws.FnPathMove': WHATEVER THE INPUT: true; the input reads as it did. -/
def fnPathMoveSpec : ChangeSpec := { name := "fnPathMove", fn := fun _ => fun
  | [d] => { results := [.lit (.bool true)], args := [d] }
  | _ => none }
def fnPathMoveRow : OpenClaim := { program := "ytgbchekmojjckaa", sum := "a9c7383401cdd5e31a5d8f8602b11937587d2129b1b898796dd95586b89f2fe8", func := "loop.example/pargeting/laws.FnPathMove", spec := "fnPathMove", unfollowed := true, recurses := true, apart := false }
def FnPathMoveSaid : Prop := fnPathMoveRow.holds Try.pinned (OpenSpec.ofChange fnPathMoveSpec)

/-- ITS FALSE NEIGHBOUR: 'it returns false'. Refute it at one input. -/
def fnPathMoveWrong : ChangeSpec := { name := "fnPathMove", fn := fun _ => fun
  | [d] => { results := [.lit (.bool false)], args := [d] }
  | _ => none }
def FnPathMoveWrongFalsely : Prop := fnPathMoveRow.holds Try.pinned (OpenSpec.ofChange fnPathMoveWrong)

/-- 'laws.FnPathOrder': WHATEVER THE INPUT: true; the input reads as it did. -/
def fnPathOrderSpec : ChangeSpec := { name := "fnPathOrder", fn := fun _ => fun
  | [d1, d2] => { results := [.lit (.bool true)], args := [d1, d2] }
  | _ => none }
def fnPathOrderRow : OpenClaim := { program := "ytgbchekmojjckaa", sum := "a9c7383401cdd5e31a5d8f8602b11937587d2129b1b898796dd95586b89f2fe8", func := "loop.example/pargeting/laws.FnPathOrder", spec := "fnPathOrder", unfollowed := true, recurses := true, apart := false }
def FnPathOrderSaid : Prop := fnPathOrderRow.holds Try.pinned (OpenSpec.ofChange fnPathOrderSpec)

/-- ITS FALSE NEIGHBOUR: 'it returns false'. Refute it at one input. -/
def fnPathOrderWrong : ChangeSpec := { name := "fnPathOrder", fn := fun _ => fun
  | [d1, d2] => { results := [.lit (.bool false)], args := [d1, d2] }
  | _ => none }
def FnPathOrderWrongFalsely : Prop := fnPathOrderRow.holds Try.pinned (OpenSpec.ofChange fnPathOrderWrong)

/-- 'laws.FnPathUp': WHATEVER THE INPUT: true; the input reads as it did. -/
def fnPathUpSpec : ChangeSpec := { name := "fnPathUp", fn := fun _ => fun
  | [d] => { results := [.lit (.bool true)], args := [d] }
  | _ => none }
def fnPathUpRow : OpenClaim := { program := "ytgbchekmojjckaa", sum := "a9c7383401cdd5e31a5d8f8602b11937587d2129b1b898796dd95586b89f2fe8", func := "loop.example/pargeting/laws.FnPathUp", spec := "fnPathUp", unfollowed := true, recurses := true, apart := false }
def FnPathUpSaid : Prop := fnPathUpRow.holds Try.pinned (OpenSpec.ofChange fnPathUpSpec)

/-- ITS FALSE NEIGHBOUR: 'it returns false'. Refute it at one input. -/
def fnPathUpWrong : ChangeSpec := { name := "fnPathUp", fn := fun _ => fun
  | [d] => { results := [.lit (.bool false)], args := [d] }
  | _ => none }
def FnPathUpWrongFalsely : Prop := fnPathUpRow.holds Try.pinned (OpenSpec.ofChange fnPathUpWrong)

/- THE SECOND FORM. 'bulk': how many values and letters a reading holds, each counted each time it is reached (what is shared counts as often as it is met; a slice's spare places count too). A statement '..UptoSaid' is the law's where the arguments, and the package variables that the reading takes, are together of bulk at most 1048576: NARROWER than '..Said'. Prove '..Said' where nothing that the law and all that it calls make is longer than what came in: it says more and counts as full. Else prove '..UptoSaid'. A law counts once. -/
mutual
def uptoBulk {H : Type} : DataW H → Nat
  | .lit (.string bytes) => bytes.length + 1
  | .lit _ => 1
  | .nil => 1
  | .ptr d => uptoBulk d + 1
  | .slice elems spare => uptoBulkAll elems + uptoBulkAll spare + 1
  | .agg parts => uptoBulkAll parts + 1
  | .iface _ d => uptoBulk d + 1
  | .map entries => uptoBulkEntries entries + 1
  | .held _ => 1
def uptoBulkAll {H : Type} : List (DataW H) → Nat
  | [] => 0
  | d :: r => uptoBulk d + uptoBulkAll r
def uptoBulkEntries {H : Type} : List (Lit × DataW H) → Nat
  | [] => 0
  | x :: r => uptoBulkEntry x + uptoBulkEntries r
def uptoBulkEntry {H : Type} : Lit × DataW H → Nat
  | (.string bytes, d) => bytes.length + uptoBulk d + 1
  | (_, d) => uptoBulk d + 1
 end
def uptoSmall : (H : Type) → List (DataW H) → Bool := fun _ ds => decide (uptoBulkAll ds ≤ 1048576)
def OpenSpec.upto (s : _root_.Go.ChangeSpec) : _root_.Go.OpenSpec := { _root_.Go.OpenSpec.ofChange s with cond := some uptoSmall }

/-- 'laws.FnPath', WHERE WHAT IT READS IS OF BULK AT MOST 1048576: true; the input reads as it did. -/
def fnPathUptoRow : OpenClaim := { program := "ytgbchekmojjckaa", sum := "a9c7383401cdd5e31a5d8f8602b11937587d2129b1b898796dd95586b89f2fe8", func := "loop.example/pargeting/laws.FnPath", spec := "fnPath", unfollowed := true, recurses := true, apart := false, narrowed := true }
def FnPathUptoSaid : Prop := fnPathUptoRow.holds Try.pinned (OpenSpec.upto fnPathSpec)

/-- 'laws.FnPathJoin', WHERE WHAT IT READS IS OF BULK AT MOST 1048576: true; the input reads as it did. -/
def fnPathJoinUptoRow : OpenClaim := { program := "ytgbchekmojjckaa", sum := "a9c7383401cdd5e31a5d8f8602b11937587d2129b1b898796dd95586b89f2fe8", func := "loop.example/pargeting/laws.FnPathJoin", spec := "fnPathJoin", unfollowed := true, recurses := true, apart := false, narrowed := true }
def FnPathJoinUptoSaid : Prop := fnPathJoinUptoRow.holds Try.pinned (OpenSpec.upto fnPathJoinSpec)

/-- 'laws.FnPathUnder', WHERE WHAT IT READS IS OF BULK AT MOST 1048576: true; the input reads as it did. -/
def fnPathUnderUptoRow : OpenClaim := { program := "ytgbchekmojjckaa", sum := "a9c7383401cdd5e31a5d8f8602b11937587d2129b1b898796dd95586b89f2fe8", func := "loop.example/pargeting/laws.FnPathUnder", spec := "fnPathUnder", unfollowed := true, recurses := true, apart := false, narrowed := true }
def FnPathUnderUptoSaid : Prop := fnPathUnderUptoRow.holds Try.pinned (OpenSpec.upto fnPathUnderSpec)

/-- 'laws.FnPathMove', WHERE WHAT IT READS IS OF BULK AT MOST 1048576: true; the input reads as it did. -/
def fnPathMoveUptoRow : OpenClaim := { program := "ytgbchekmojjckaa", sum := "a9c7383401cdd5e31a5d8f8602b11937587d2129b1b898796dd95586b89f2fe8", func := "loop.example/pargeting/laws.FnPathMove", spec := "fnPathMove", unfollowed := true, recurses := true, apart := false, narrowed := true }
def FnPathMoveUptoSaid : Prop := fnPathMoveUptoRow.holds Try.pinned (OpenSpec.upto fnPathMoveSpec)

/-- 'laws.FnPathOrder', WHERE WHAT IT READS IS OF BULK AT MOST 1048576: true; the input reads as it did. -/
def fnPathOrderUptoRow : OpenClaim := { program := "ytgbchekmojjckaa", sum := "a9c7383401cdd5e31a5d8f8602b11937587d2129b1b898796dd95586b89f2fe8", func := "loop.example/pargeting/laws.FnPathOrder", spec := "fnPathOrder", unfollowed := true, recurses := true, apart := false, narrowed := true }
def FnPathOrderUptoSaid : Prop := fnPathOrderUptoRow.holds Try.pinned (OpenSpec.upto fnPathOrderSpec)

/-- 'laws.FnPathUp', WHERE WHAT IT READS IS OF BULK AT MOST 1048576: true; the input reads as it did. -/
def fnPathUpUptoRow : OpenClaim := { program := "ytgbchekmojjckaa", sum := "a9c7383401cdd5e31a5d8f8602b11937587d2129b1b898796dd95586b89f2fe8", func := "loop.example/pargeting/laws.FnPathUp", spec := "fnPathUp", unfollowed := true, recurses := true, apart := false, narrowed := true }
def FnPathUpUptoSaid : Prop := fnPathUpUptoRow.holds Try.pinned (OpenSpec.upto fnPathUpSpec)

end Rows
end Go.Proofs.Ytgbchekmojjckaa
