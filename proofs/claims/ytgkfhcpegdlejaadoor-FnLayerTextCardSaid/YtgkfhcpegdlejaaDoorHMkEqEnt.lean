/-
  Whether two marks are the same, as the language asks it.
-/
import Derived.Laws.StructEq
import Derived.Laws.Small
import Derived.KernelRfl
import Derived.Test.YtgkfhcpegdlejaaDoorHPk04
namespace Go.Proofs.YtgkfhcpegdlejaaDoor.Mk
open Go.RowKit Go.Lib

theorem eq_ent (a b c a' b' c' : _) (w : World) : (Op.equalIn 10000 77 (.agg #[.string a, .int .i64 b, .string c]) (.agg #[.string a', .int .i64 b', .string c'])).run Tryd.prog w = .ok ((a.toList == a'.toList) && (b == b') && (c.toList == c'.toList)) w := by
  have u9 := Tryd.underlying9
  have u4 := Tryd.underlying3
  have a9 := Tryd.isAgg9
  have a3 := Tryd.isAgg3
  have z9 := Tryd.sizeOf9
  have z4 := Tryd.sizeOf3
  have hS : Tryd.prog.underlying 77 = some (.struct (Tryd.prog.fieldsOf 77)) := by kernel_rfl
  have hp : Tryd.prog.stoodInHeld 77 = false := by kernel_rfl
  rw [show (10000 : Nat) = 9999 + 1 from rfl, run_equalIn_agg w 9999 77 _ _ hS hp]
  simp only [Program.fieldsOf, Tryd.underlying77]
  go_simp
  cases h1 : (a.toList == a'.toList) <;> cases h2 : (b == b') <;> cases h3 : (c.toList == c'.toList) <;> simp_all
theorem guard_ent (op : BinOp) (x y : Operand) (xs ys : Array Value) (w : World) : (eqGuard op 77 x y (.agg xs) (.agg ys)).run Tryd.prog w = .ok () w := run_eqGuard_agg w op 77 x y xs ys (by kernel_rfl)
end Go.Proofs.YtgkfhcpegdlejaaDoor.Mk
