/-
  Whether two signs are the same, as the language asks it.
-/
import Derived.Laws.StructEq
import Derived.Laws.Small
import Derived.KernelRfl
import Derived.Test.YtocfbplaieonkaaGreatHPk10
namespace Go.Proofs.YtocfbplaieonkaaGreat.Mk
open Go.RowKit Go.Lib

theorem eqs14 (x : ByteArray) (w : World) : (binOp .eql 40 (.iface 80 (.agg #[.string x])) (.iface 69 (.agg #[]))).run Tryz.prog w = .ok (.bool false) w := by kernel_rfl
theorem eqs24 (w : World) : (binOp .eql 40 (.iface 78 (.agg #[])) (.iface 69 (.agg #[]))).run Tryz.prog w = .ok (.bool false) w := by kernel_rfl
theorem eqs34 (w : World) : (binOp .eql 40 (.iface 81 (.agg #[])) (.iface 69 (.agg #[]))).run Tryz.prog w = .ok (.bool false) w := by kernel_rfl
theorem eqs44 (w : World) : (binOp .eql 40 (.iface 69 (.agg #[])) (.iface 69 (.agg #[]))).run Tryz.prog w = .ok (.bool true) w := by kernel_rfl
theorem eqs22 (w : World) : (binOp .eql 40 (.iface 78 (.agg #[])) (.iface 78 (.agg #[]))).run Tryz.prog w = .ok (.bool true) w := by kernel_rfl
theorem eqF (x : ByteArray) (d : Nat) (w : World) : (Op.equalIn (d + 2) 80 (.agg #[.string x]) (.agg #[.string x])).run Tryz.prog w = .ok true w := by
  have u9 := Tryz.underlying9
  have a9 := Tryz.isAgg9
  have z9 := Tryz.sizeOf9
  have hS : Tryz.prog.underlying 80 = some (.struct (Tryz.prog.fieldsOf 80)) := by kernel_rfl
  have hp : Tryz.prog.stoodInHeld 80 = false := by kernel_rfl
  rw [run_equalIn_agg w (d + 1) 80 _ _ hS hp]
  simp only [Program.fieldsOf, Tryz.underlying80]
  go_simp
theorem eqIface {P : Program} (w : World) {t tx : TypeId} {ms : Array (String × TypeId)} {i : TypeInfo} (v v' : Value) (d : Nat) (b : Bool)
    (ht : P.underlying t = some (.interface ms)) (hi : P.info? tx = some i) (hc : i.comparable = true) (hE : (Op.equalIn d tx v v').run P w = .ok b w) :
    (Op.equalIn (d + 1) t (.iface tx v) (.iface tx v')).run P w = .ok b w := by
  simp [Op.equalIn, run_underlying ht, typeInfo, hi, hc, hE]
theorem eqs11 (x : ByteArray) (w : World) : (binOp .eql 40 (.iface 80 (.agg #[.string x])) (.iface 80 (.agg #[.string x]))).run Tryz.prog w = .ok (.bool true) w := by
  have hc : (Tryz.prog.info? 80).map (·.comparable) = some true := by kernel_rfl
  have hE := eqF x 9997 w
  have hu := Tryz.underlying40
  cases hi : Tryz.prog.info? 80 with
  | none => rw [hi] at hc; cases hc
  | some i =>
    have hcc : i.comparable = true := by rw [hi] at hc; exact Option.some.inj hc
    have h := eqIface w (.agg #[.string x]) (.agg #[.string x]) 9999 true hu hi hcc hE
    simp only [binOp]
    simp [Op.equal, Op.maxDepth, h]
theorem guards (x y : Operand) (t t' : TypeId) (v v' : Value) (w : World) : (eqGuard .eql 40 x y (.iface t v) (.iface t' v')).run Tryz.prog w = .ok () w := by simp [eqGuard]
end Go.Proofs.YtocfbplaieonkaaGreat.Mk
