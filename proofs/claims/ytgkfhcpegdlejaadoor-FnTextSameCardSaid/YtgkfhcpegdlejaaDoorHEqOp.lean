/-
  Whether two things that are done are the same, as the language asks it.
-/
import Derived.Laws.StructEq
import Derived.Laws.Small
import Derived.KernelRfl
import Derived.Test.YtgkfhcpegdlejaaDoorHPk04
namespace Go.Proofs.YtgkfhcpegdlejaaDoor
open Go.RowKit Go.Lib

theorem eq_op (k p t x k' p' t' x' : _) (w : World) : (Op.equalIn 10000 40 (.agg #[.int .i64 k, .string p, .string t, .string x]) (.agg #[.int .i64 k', .string p', .string t', .string x'])).run Tryd.prog w = .ok ((k == k') && (p.toList == p'.toList) && (t.toList == t'.toList) && (x.toList == x'.toList)) w := by
  have u9 := Tryd.underlying9
  have u3 := Tryd.underlying3
  have a9 := Tryd.isAgg9
  have a3 := Tryd.isAgg3
  have z9 := Tryd.sizeOf9
  have z3 := Tryd.sizeOf3
  have hS : Tryd.prog.underlying 40 = some (.struct (Tryd.prog.fieldsOf 40)) := by kernel_rfl
  have hp : Tryd.prog.stoodInHeld 40 = false := by kernel_rfl
  rw [show (10000 : Nat) = 9999 + 1 from rfl, run_equalIn_agg w 9999 40 _ _ hS hp]
  simp only [Program.fieldsOf, Tryd.underlying40]
  go_simp
  cases h0 : (k == k') <;> cases h1 : (p.toList == p'.toList) <;> cases h2 : (t.toList == t'.toList) <;> cases h3 : (x.toList == x'.toList) <;> simp_all
theorem guard_op (op : BinOp) (x y : Operand) (xs ys : Array Value) (w : World) : (eqGuard op 40 x y (.agg xs) (.agg ys)).run Tryd.prog w = .ok () w := run_eqGuard_agg w op 40 x y xs ys (by kernel_rfl)
end Go.Proofs.YtgkfhcpegdlejaaDoor
