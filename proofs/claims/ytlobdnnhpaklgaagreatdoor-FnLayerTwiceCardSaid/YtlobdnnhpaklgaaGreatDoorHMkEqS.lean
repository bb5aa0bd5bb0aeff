/-
  Whether two signs are the same, as the language asks it.
-/
import Derived.Laws.StructEq
import Derived.Laws.Small
import Derived.KernelRfl
import Derived.Test.YtlobdnnhpaklgaaGreatDoorHPk06
namespace Go.Proofs.YtlobdnnhpaklgaaGreatDoor.Mk
open Go.RowKit Go.Lib

theorem eqs14 (x : ByteArray) (w : World) : (binOp .eql 38 (.iface 113 (.agg #[.string x])) (.iface 115 (.agg #[]))).run Tryz.prog w = .ok (.bool false) w := by kernel_rfl
theorem eqs24 (w : World) : (binOp .eql 38 (.iface 111 (.agg #[])) (.iface 115 (.agg #[]))).run Tryz.prog w = .ok (.bool false) w := by kernel_rfl
theorem eqs34 (w : World) : (binOp .eql 38 (.iface 114 (.agg #[])) (.iface 115 (.agg #[]))).run Tryz.prog w = .ok (.bool false) w := by kernel_rfl
theorem eqs44 (w : World) : (binOp .eql 38 (.iface 115 (.agg #[])) (.iface 115 (.agg #[]))).run Tryz.prog w = .ok (.bool true) w := by kernel_rfl
theorem eqs22 (w : World) : (binOp .eql 38 (.iface 111 (.agg #[])) (.iface 111 (.agg #[]))).run Tryz.prog w = .ok (.bool true) w := by kernel_rfl
theorem eqF (x : ByteArray) (d : Nat) (w : World) : (Op.equalIn (d + 2) 113 (.agg #[.string x]) (.agg #[.string x])).run Tryz.prog w = .ok true w := by
  have u9 := Tryz.underlying9
  have a9 := Tryz.isAgg9
  have z9 := Tryz.sizeOf9
  have hS : Tryz.prog.underlying 113 = some (.struct (Tryz.prog.fieldsOf 113)) := by kernel_rfl
  have hp : Tryz.prog.stoodInHeld 113 = false := by kernel_rfl
  rw [run_equalIn_agg w (d + 1) 113 _ _ hS hp]
  simp only [Program.fieldsOf, Tryz.underlying113]
  go_simp
theorem eqIface {P : Program} (w : World) {t tx : TypeId} {ms : Array (String × TypeId)} {i : TypeInfo} (v v' : Value) (d : Nat) (b : Bool)
    (ht : P.underlying t = some (.interface ms)) (hi : P.info? tx = some i) (hc : i.comparable = true) (hE : (Op.equalIn d tx v v').run P w = .ok b w) :
    (Op.equalIn (d + 1) t (.iface tx v) (.iface tx v')).run P w = .ok b w := by
  simp [Op.equalIn, run_underlying ht, typeInfo, hi, hc, hE]
theorem eqs11 (x : ByteArray) (w : World) : (binOp .eql 38 (.iface 113 (.agg #[.string x])) (.iface 113 (.agg #[.string x]))).run Tryz.prog w = .ok (.bool true) w := by
  have hc : (Tryz.prog.info? 113).map (·.comparable) = some true := by kernel_rfl
  have hE := eqF x 9997 w
  have hu := Tryz.underlying38
  cases hi : Tryz.prog.info? 113 with
  | none => rw [hi] at hc; cases hc
  | some i =>
    have hcc : i.comparable = true := by rw [hi] at hc; exact Option.some.inj hc
    have h := eqIface w (.agg #[.string x]) (.agg #[.string x]) 9999 true hu hi hcc hE
    simp only [binOp]
    simp [Op.equal, Op.maxDepth, h]
theorem guards (x y : Operand) (t t' : TypeId) (v v' : Value) (w : World) : (eqGuard .eql 38 x y (.iface t v) (.iface t' v')).run Tryz.prog w = .ok () w := by simp [eqGuard]
end Go.Proofs.YtlobdnnhpaklgaaGreatDoor.Mk
