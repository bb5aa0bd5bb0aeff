/-
  Whether two marks are the same, as the language asks it.
-/
import Derived.Laws.StructEq
import Derived.Laws.Small
import Derived.KernelRfl
import Derived.Test.YtjkpnohfkadfiaaHMkWalkBase
namespace Go.Proofs.Ytjkpnohfkadfiaa.Mk
open Go.RowKit Go.Lib

theorem eq_ent (a b c a' b' c' : _) (w : World) : (Op.equalIn 10000 109 (.agg #[.string a, .int .i64 b, .string c]) (.agg #[.string a', .int .i64 b', .string c'])).run Try.prog w = .ok ((a.toList == a'.toList) && (b == b') && (c.toList == c'.toList)) w := by
  have u9 := Try.underlying9
  have u4 := Try.underlying3
  have a9 := Try.isAgg9
  have a3 := Try.isAgg3
  have z9 := Try.sizeOf9
  have z4 := Try.sizeOf3
  have hS : Try.prog.underlying 109 = some (.struct (Try.prog.fieldsOf 109)) := by kernel_rfl
  have hp : Try.prog.stoodInHeld 109 = false := by kernel_rfl
  rw [show (10000 : Nat) = 9999 + 1 from rfl, run_equalIn_agg w 9999 109 _ _ hS hp]
  simp only [Program.fieldsOf, Try.underlying109]
  go_simp
  cases h1 : (a.toList == a'.toList) <;> cases h2 : (b == b') <;> cases h3 : (c.toList == c'.toList) <;> simp_all
theorem guard_ent (op : BinOp) (x y : Operand) (xs ys : Array Value) (w : World) : (eqGuard op 109 x y (.agg xs) (.agg ys)).run Try.prog w = .ok () w := run_eqGuard_agg w op 109 x y xs ys (by kernel_rfl)
end Go.Proofs.Ytjkpnohfkadfiaa.Mk
