import Derived.Test.YteppodogghjfhaaGreatDoorRows
import Derived.Test.YteppodogghjfhaaGreatDoorHPk07
import Derived.ProofKit
import Derived.LaidMore
import Derived.Stop.LaidErr
import Derived.Stop.LaidTwo
import Derived.MakeChecks
import Derived.OpenVars
namespace Go.Proofs.YteppodogghjfhaaGreatDoor
open Go.ChangeShapes Go.WideShapes Go.ChangeAt Go.RowKit
theorem own : ownKnob Tryz.prog.godebug = none := by kernel_rfl
theorem laidOut : laidOutB Tryz.prog = true := by kernel_rfl
theorem gN : Tryz.prog.globalNamed "loop.example/pargeting/impl.errNone" = some 1 := by kernel_rfl
theorem gD : Tryz.prog.globalNamed "loop.example/pargeting/impl.errNotDir" = some 2 := by kernel_rfl
theorem gNt : (Tryz.prog.globals[1]?).map (·.type) = some 69 := by kernel_rfl
theorem gDt : (Tryz.prog.globals[2]?).map (·.type) = some 69 := by kernel_rfl
theorem cellsEs : Tryz.prog.cellsOf 324 = 1 := by kernel_rfl
theorem cellsStr : Tryz.prog.cellsOf 9 = 1 := by kernel_rfl
theorem star : "*" ++ "errors.errorString" = "*errors.errorString" := by decide
theorem rowEs (u : TypeId) (h : Tryz.prog.typeName? 3 u = some "*errors.errorString") : u = 302 :=
 typeName_ptr_named (nm := "errors.errorString") (by rw [star]; kernel_rfl) (by kernel_rfl) (by decide) u (by rw [star]; exact h)
abbrev laidL : List (String × DataW Unit) := [("loop.example/pargeting/impl.errNone", Rows.laid_loop_example_pargeting_impl_errNone), ("loop.example/pargeting/impl.errNotDir", Rows.laid_loop_example_pargeting_impl_errNotDir)]
theorem door_met (os : Os) (args : Array Value) : laidMetH Tryz.prog laidL ((World.doorLaid Tryz.prog 400 os).forCall (fun _ _ => 0) ⟨#[], args, []⟩).memory :=
 laidMetH_of_parts3 (fuel := 8) (laidMet_of_run' 8 (by kernel_rfl) (by kernel_rfl)) (by kernel_rfl) (by kernel_rfl)
theorem errs_of_laid {W : World} (h : laidMetH Tryz.prog laidL W) : ∃ ae, Errs2 W ae := by
 rw [MakeChecks.laidMetH_plain _ _ _ (by kernel_rfl)] at h; obtain ⟨a0, a1, s0, s1, c0, c1, t0, t1, hv0, hv1, _⟩ := laid_sentinels2 h gN gNt gD gDt Tryz.underlying69 rowEs Tryz.underlying302 Tryz.underlying324 rfl rfl Tryz.underlying9 cellsEs cellsStr; exact ⟨fun c => if c = 2 then a0 else a1, by simpa using World.var?_cell gN hv0 0, by simpa using World.var?_cell gD hv1 0⟩
end Go.Proofs.YteppodogghjfhaaGreatDoor
