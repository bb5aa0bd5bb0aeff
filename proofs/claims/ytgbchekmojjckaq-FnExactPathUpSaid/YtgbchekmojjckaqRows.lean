/-
  No cell of these rows narrows 'for every input' (looked for: loops, veiled, ifaces, maps, wideKeys, modest, calm, conditions, laid).
  DERIVED. THE GIVEN ROWS OF THIS SEAT. 6 by the template 'for every input the law returns true; each argument reads behind the call as it read before'; 0 by the template 'total and deterministic' (their statements: YtgbchekmojjckaqTotals.lean).
  GIVEN WITH THE SEED: the statements are not yours to turn. If you find one false, say at which input.
  Laid BY PROGRAM, IN A SANDBOX (cutbox-rows.mjs): the forced cells as the released guide's own fill.sh prints them over the translation 7a84a4b871a596e9… (all of the seat's roots in one cut). By AI agents, Wed Nov 11 2026. No macro, syntax, notation, axiom, sorry.
-/
import Derived.Test.YtgbchekmojjckaqChecked
import GoSem.Claim
import GoSem.ClaimJoined
import GoSem.ClaimMapViews
import Derived.JoinedTies
import Derived.KernelRfl
namespace Go.Proofs.Ytgbchekmojjckaq
/- THE CELL 'sum', in the pinned program and in every row, IS THE sha256 OF THE DUMP (.gsa) THAT YtgbchekmojjckaqProg.lean LOADS. Nothing in Lean hashes anything: it is a label: what it is worth is what the hold of that sum in a sandbox is worth. -/
noncomputable def Try.pinned : Pinned := { name := "ytgbchekmojjckaq", sum := "7a84a4b871a596e98faf8b692429b52afe2dbf62a36d39873c70265809adfee6", checked := Try.checked }
namespace Rows
def none {H : Type} : Left H := { results := [], args := [] }

/-- 'laws.FnExactPathOk': WHATEVER THE INPUT: true; the input reads as it did. -/
def fnExactPathOkSpec : ChangeSpec := { name := "fnExactPathOk", fn := fun _ => fun
  | [d] => { results := [.lit (.bool true)], args := [d] }
  | _ => none }
def fnExactPathOkRow : OpenClaim := { program := "ytgbchekmojjckaq", sum := "7a84a4b871a596e98faf8b692429b52afe2dbf62a36d39873c70265809adfee6", func := "loop.example/pargeting/laws.FnExactPathOk", spec := "fnExactPathOk", unfollowed := true, recurses := true, apart := false }
def FnExactPathOkSaid : Prop := fnExactPathOkRow.holds Try.pinned (OpenSpec.ofChange fnExactPathOkSpec)

/-- ITS FALSE NEIGHBOUR: 'it returns false'. Refute it at one input. -/
def fnExactPathOkWrong : ChangeSpec := { name := "fnExactPathOk", fn := fun _ => fun
  | [d] => { results := [.lit (.bool false)], args := [d] }
  | _ => none }
def FnExactPathOkWrongFalsely : Prop := fnExactPathOkRow.holds Try.pinned (OpenSpec.ofChange fnExactPathOkWrong)

/-- 'laws.FnExactPathLevels': WHATEVER THE INPUT: true; the input reads as it did. -/
def fnExactPathLevelsSpec : ChangeSpec := { name := "fnExactPathLevels", fn := fun _ => fun
  | [d] => { results := [.lit (.bool true)], args := [d] }
  | _ => none }
def fnExactPathLevelsRow : OpenClaim := { program := "ytgbchekmojjckaq", sum := "7a84a4b871a596e98faf8b692429b52afe2dbf62a36d39873c70265809adfee6", func := "loop.example/pargeting/laws.FnExactPathLevels", spec := "fnExactPathLevels", unfollowed := true, recurses := true, apart := false }
def FnExactPathLevelsSaid : Prop := fnExactPathLevelsRow.holds Try.pinned (OpenSpec.ofChange fnExactPathLevelsSpec)

/-- ITS FALSE NEIGHBOUR: 'it returns false'. Refute it at one input. -/
def fnExactPathLevelsWrong : ChangeSpec := { name := "fnExactPathLevels", fn := fun _ => fun
  | [d] => { results := [.lit (.bool false)], args := [d] }
  | _ => none }
def FnExactPathLevelsWrongFalsely : Prop := fnExactPathLevelsRow.holds Try.pinned (OpenSpec.ofChange fnExactPathLevelsWrong)

/-- 'laws.FnExactPathUp': WHATEVER THE INPUT: true; the input reads as it did. -/
def fnExactPathUpSpec : ChangeSpec := { name := "fnExactPathUp", fn := fun _ => fun
  | [d] => { results := [.lit (.bool true)], args := [d] }
  | _ => none }
def fnExactPathUpRow : OpenClaim := { program := "ytgbchekmojjckaq", sum := "7a84a4b871a596e98faf8b692429b52afe2dbf62a36d39873c70265809adfee6", func := "loop.example/pargeting/laws.FnExactPathUp", spec := "fnExactPathUp", unfollowed := true, recurses := true, apart := false }
def FnExactPathUpSaid : Prop := fnExactPathUpRow.holds Try.pinned (OpenSpec.ofChange fnExactPathUpSpec)

/-- ITS FALSE NEIGHBOUR: 'it returns false'. Refute it at one input. -/
def fnExactPathUpWrong : ChangeSpec := { name := "fnExactPathUp", fn := fun _ => fun
  | [d] => { results := [.lit (.bool false)], args := [d] }
  | _ => none }
def FnExactPathUpWrongFalsely : Prop := fnExactPathUpRow.holds Try.pinned (OpenSpec.ofChange fnExactPathUpWrong)

/-- 'laws.FnExactPathName': WHATEVER THE INPUT: true; the input reads as it did. -/
def fnExactPathNameSpec : ChangeSpec := { name := "fnExactPathName", fn := fun _ => fun
  | [d] => { results := [.lit (.bool true)], args := [d] }
  | _ => none }
def fnExactPathNameRow : OpenClaim := { program := "ytgbchekmojjckaq", sum := "7a84a4b871a596e98faf8b692429b52afe2dbf62a36d39873c70265809adfee6", func := "loop.example/pargeting/laws.FnExactPathName", spec := "fnExactPathName", unfollowed := true, recurses := true, apart := false }
def FnExactPathNameSaid : Prop := fnExactPathNameRow.holds Try.pinned (OpenSpec.ofChange fnExactPathNameSpec)

/-- ITS FALSE NEIGHBOUR: 'it returns false'. Refute it at one input. -/
def fnExactPathNameWrong : ChangeSpec := { name := "fnExactPathName", fn := fun _ => fun
  | [d] => { results := [.lit (.bool false)], args := [d] }
  | _ => none }
def FnExactPathNameWrongFalsely : Prop := fnExactPathNameRow.holds Try.pinned (OpenSpec.ofChange fnExactPathNameWrong)

/-- 'laws.FnExactPathJoin': WHATEVER THE INPUT: true; the input reads as it did. -/
def fnExactPathJoinSpec : ChangeSpec := { name := "fnExactPathJoin", fn := fun _ => fun
  | [d1, d2] => { results := [.lit (.bool true)], args := [d1, d2] }
  | _ => none }
def fnExactPathJoinRow : OpenClaim := { program := "ytgbchekmojjckaq", sum := "7a84a4b871a596e98faf8b692429b52afe2dbf62a36d39873c70265809adfee6", func := "loop.example/pargeting/laws.FnExactPathJoin", spec := "fnExactPathJoin", unfollowed := true, recurses := true, apart := false }
def FnExactPathJoinSaid : Prop := fnExactPathJoinRow.holds Try.pinned (OpenSpec.ofChange fnExactPathJoinSpec)

/-- ITS FALSE NEIGHBOUR: 'it returns false'. Refute it at one input. -/
def fnExactPathJoinWrong : ChangeSpec := { name := "fnExactPathJoin", fn := fun _ => fun
  | [d1, d2] => { results := [.lit (.bool false)], args := [d1, d2] }
  | _ => none }
def FnExactPathJoinWrongFalsely : Prop := fnExactPathJoinRow.holds Try.pinned (OpenSpec.ofChange fnExactPathJoinWrong)

/-- 'laws.FnExactPathUnder': WHATEVER THE INPUT: true; the input reads as it did. -/
def fnExactPathUnderSpec : ChangeSpec := { name := "fnExactPathUnder", fn := fun _ => fun
  | [d1, d2] => { results := [.lit (.bool true)], args := [d1, d2] }
  | _ => none }
def fnExactPathUnderRow : OpenClaim := { program := "ytgbchekmojjckaq", sum := "7a84a4b871a596e98faf8b692429b52afe2dbf62a36d39873c70265809adfee6", func := "loop.example/pargeting/laws.FnExactPathUnder", spec := "fnExactPathUnder", unfollowed := true, recurses := true, apart := false }
def FnExactPathUnderSaid : Prop := fnExactPathUnderRow.holds Try.pinned (OpenSpec.ofChange fnExactPathUnderSpec)

/-- ITS FALSE NEIGHBOUR: 'it returns false'. Refute it at one input. -/
def fnExactPathUnderWrong : ChangeSpec := { name := "fnExactPathUnder", fn := fun _ => fun
  | [d1, d2] => { results := [.lit (.bool false)], args := [d1, d2] }
  | _ => none }
def FnExactPathUnderWrongFalsely : Prop := fnExactPathUnderRow.holds Try.pinned (OpenSpec.ofChange fnExactPathUnderWrong)

/- THE SECOND FORM. 'bulk': how many values and letters a reading holds, each counted each time it is reached (what is shared counts as often as it is met; a slice's spare places count too). A statement '..UptoSaid' is the law's where the arguments, and the package variables that the reading takes, are together of bulk at most 1048576: NARROWER than '..Said'. Prove '..Said' where nothing that the law and all that it calls make is longer than what came in: it says more and counts as full. Else prove '..UptoSaid'. A law counts once. -/
mutual
def uptoBulk {H : Type} : DataW H → Nat
  | .lit (.string bytes) => bytes.length + 1
  | .lit _ => 1
  | .nil => 1
  | .ptr d => uptoBulk d + 1
  | .slice elems spare => uptoBulkAll elems + uptoBulkAll spare + 1
  | .agg parts => uptoBulkAll parts + 1
  | .iface _ d => uptoBulk d + 1
  | .map entries => uptoBulkEntries entries + 1
  | .held _ => 1
def uptoBulkAll {H : Type} : List (DataW H) → Nat
  | [] => 0
  | d :: r => uptoBulk d + uptoBulkAll r
def uptoBulkEntries {H : Type} : List (Lit × DataW H) → Nat
  | [] => 0
  | x :: r => uptoBulkEntry x + uptoBulkEntries r
def uptoBulkEntry {H : Type} : Lit × DataW H → Nat
  | (.string bytes, d) => bytes.length + uptoBulk d + 1
  | (_, d) => uptoBulk d + 1
 end
def uptoSmall : (H : Type) → List (DataW H) → Bool := fun _ ds => decide (uptoBulkAll ds ≤ 1048576)
def OpenSpec.upto (s : _root_.Go.ChangeSpec) : _root_.Go.OpenSpec := { _root_.Go.OpenSpec.ofChange s with cond := some uptoSmall }

/-- 'laws.FnExactPathOk', WHERE WHAT IT READS IS OF BULK AT MOST 1048576: true; the input reads as it did. -/
def fnExactPathOkUptoRow : OpenClaim := { program := "ytgbchekmojjckaq", sum := "7a84a4b871a596e98faf8b692429b52afe2dbf62a36d39873c70265809adfee6", func := "loop.example/pargeting/laws.FnExactPathOk", spec := "fnExactPathOk", unfollowed := true, recurses := true, apart := false, narrowed := true }
def FnExactPathOkUptoSaid : Prop := fnExactPathOkUptoRow.holds Try.pinned (OpenSpec.upto fnExactPathOkSpec)

/-- 'laws.FnExactPathLevels', WHERE WHAT IT READS IS OF BULK AT MOST 1048576: true; the input reads as it did. -/
def fnExactPathLevelsUptoRow : OpenClaim := { program := "ytgbchekmojjckaq", sum := "7a84a4b871a596e98faf8b692429b52afe2dbf62a36d39873c70265809adfee6", func := "loop.example/pargeting/laws.FnExactPathLevels", spec := "fnExactPathLevels", unfollowed := true, recurses := true, apart := false, narrowed := true }
def FnExactPathLevelsUptoSaid : Prop := fnExactPathLevelsUptoRow.holds Try.pinned (OpenSpec.upto fnExactPathLevelsSpec)

/-- 'laws.FnExactPathUp', WHERE WHAT IT READS IS OF BULK AT MOST 1048576: true; the input reads as it did. -/
def fnExactPathUpUptoRow : OpenClaim := { program := "ytgbchekmojjckaq", sum := "7a84a4b871a596e98faf8b692429b52afe2dbf62a36d39873c70265809adfee6", func := "loop.example/pargeting/laws.FnExactPathUp", spec := "fnExactPathUp", unfollowed := true, recurses := true, apart := false, narrowed := true }
def FnExactPathUpUptoSaid : Prop := fnExactPathUpUptoRow.holds Try.pinned (OpenSpec.upto fnExactPathUpSpec)

/-- 'laws.FnExactPathName', WHERE WHAT IT READS IS OF BULK AT MOST 1048576: true; the input reads as it did. -/
def fnExactPathNameUptoRow : OpenClaim := { program := "ytgbchekmojjckaq", sum := "7a84a4b871a596e98faf8b692429b52afe2dbf62a36d39873c70265809adfee6", func := "loop.example/pargeting/laws.FnExactPathName", spec := "fnExactPathName", unfollowed := true, recurses := true, apart := false, narrowed := true }
def FnExactPathNameUptoSaid : Prop := fnExactPathNameUptoRow.holds Try.pinned (OpenSpec.upto fnExactPathNameSpec)

/-- 'laws.FnExactPathJoin', WHERE WHAT IT READS IS OF BULK AT MOST 1048576: true; the input reads as it did. -/
def fnExactPathJoinUptoRow : OpenClaim := { program := "ytgbchekmojjckaq", sum := "7a84a4b871a596e98faf8b692429b52afe2dbf62a36d39873c70265809adfee6", func := "loop.example/pargeting/laws.FnExactPathJoin", spec := "fnExactPathJoin", unfollowed := true, recurses := true, apart := false, narrowed := true }
def FnExactPathJoinUptoSaid : Prop := fnExactPathJoinUptoRow.holds Try.pinned (OpenSpec.upto fnExactPathJoinSpec)

/-- 'laws.FnExactPathUnder', WHERE WHAT IT READS IS OF BULK AT MOST 1048576: true; the input reads as it did. -/
def fnExactPathUnderUptoRow : OpenClaim := { program := "ytgbchekmojjckaq", sum := "7a84a4b871a596e98faf8b692429b52afe2dbf62a36d39873c70265809adfee6", func := "loop.example/pargeting/laws.FnExactPathUnder", spec := "fnExactPathUnder", unfollowed := true, recurses := true, apart := false, narrowed := true }
def FnExactPathUnderUptoSaid : Prop := fnExactPathUnderUptoRow.holds Try.pinned (OpenSpec.upto fnExactPathUnderSpec)

end Rows
end Go.Proofs.Ytgbchekmojjckaq
