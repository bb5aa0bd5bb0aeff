/-
  Whether two marks are the same, as the language asks it.
-/
import Derived.Laws.StructEq
import Derived.Laws.Small
import Derived.KernelRfl
import Derived.Test.YtkjpmngohocmlaaGreatDoorHPk21
namespace Go.Proofs.YtkjpmngohocmlaaGreatDoor.Mk
open Go.RowKit Go.Lib

theorem eq_ent (a b c a' b' c' : _) (w : World) : (Op.equalIn 10000 36 (.agg #[.string a, .int .i64 b, .string c]) (.agg #[.string a', .int .i64 b', .string c'])).run Tryz.prog w = .ok ((a.toList == a'.toList) && (b == b') && (c.toList == c'.toList)) w := by
  have u9 := Tryz.underlying9
  have u4 := Tryz.underlying3
  have a9 := Tryz.isAgg9
  have a3 := Tryz.isAgg3
  have z9 := Tryz.sizeOf9
  have z4 := Tryz.sizeOf3
  have hS : Tryz.prog.underlying 36 = some (.struct (Tryz.prog.fieldsOf 36)) := by kernel_rfl
  have hp : Tryz.prog.stoodInHeld 36 = false := by kernel_rfl
  rw [show (10000 : Nat) = 9999 + 1 from rfl, run_equalIn_agg w 9999 36 _ _ hS hp]
  simp only [Program.fieldsOf, Tryz.underlying36]
  go_simp
  cases h1 : (a.toList == a'.toList) <;> cases h2 : (b == b') <;> cases h3 : (c.toList == c'.toList) <;> simp_all
theorem guard_ent (op : BinOp) (x y : Operand) (xs ys : Array Value) (w : World) : (eqGuard op 36 x y (.agg xs) (.agg ys)).run Tryz.prog w = .ok () w := run_eqGuard_agg w op 36 x y xs ys (by kernel_rfl)
end Go.Proofs.YtkjpmngohocmlaaGreatDoor.Mk
