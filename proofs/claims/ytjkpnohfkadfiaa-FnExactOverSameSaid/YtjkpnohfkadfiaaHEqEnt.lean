/-
  Whether two entries are the same, as the language asks it.
-/
import Derived.Laws.StructEq
import Derived.Laws.Small
import Derived.KernelRfl
import Derived.Test.YtjkpnohfkadfiaaHWalkBase
namespace Go.Proofs.Ytjkpnohfkadfiaa
open Go.RowKit Go.Lib

theorem eq_ent (a b c a' b' c' : _) (w : World) : (Op.equalIn 10000 99 (.agg #[.string a, .bool b, .string c]) (.agg #[.string a', .bool b', .string c'])).run Try.prog w = .ok ((a.toList == a'.toList) && (b == b') && (c.toList == c'.toList)) w := by
  have u9 := Try.underlying9
  have u4 := Try.underlying4
  have a9 := Try.isAgg9
  have a4 := Try.isAgg4
  have z9 := Try.sizeOf9
  have z4 := Try.sizeOf4
  have hS : Try.prog.underlying 99 = some (.struct (Try.prog.fieldsOf 99)) := by kernel_rfl
  have hp : Try.prog.stoodInHeld 99 = false := by kernel_rfl
  rw [show (10000 : Nat) = 9999 + 1 from rfl, run_equalIn_agg w 9999 99 _ _ hS hp]
  simp only [Program.fieldsOf, Try.underlying99]
  go_simp
  cases h1 : (a.toList == a'.toList) <;> cases h2 : (b == b') <;> cases h3 : (c.toList == c'.toList) <;> simp_all
theorem guard_ent (op : BinOp) (x y : Operand) (xs ys : Array Value) (w : World) : (eqGuard op 99 x y (.agg xs) (.agg ys)).run Try.prog w = .ok () w := run_eqGuard_agg w op 99 x y xs ys (by kernel_rfl)
end Go.Proofs.Ytjkpnohfkadfiaa
