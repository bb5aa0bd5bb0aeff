/-
  What the listed variable gives the walks: the words of what is done.
-/
import Derived.Test.YtgkfhcpegdlejaaDoorRows
import Derived.Test.YtgkfhcpegdlejaaDoorHTxTab
import Derived.Test.YtgkfhcpegdlejaaDoorHPk04
import Derived.ProofKit
import Derived.LaidMore
import Derived.Stop.LaidErr
import Derived.MakeChecks
import Derived.OpenVars
namespace Go.Proofs.YtgkfhcpegdlejaaDoor
open Go.ChangeShapes Go.WideShapes Go.ChangeAt Go.RowKit

theorem own : ownKnob Tryd.prog.godebug = none := by kernel_rfl
theorem laidOut : laidOutB Tryd.prog = true := by kernel_rfl
theorem gW : Tryd.prog.globalNamed "loop.example/pargeting/impl.opWords" = some 0 := by kernel_rfl
theorem gWt : (Tryd.prog.globals[0]?).map (·.type) = some 95 := by kernel_rfl
theorem cellsW : Tryd.prog.cellsOf 95 = 6 := by kernel_rfl
theorem cellsStr : Tryd.prog.cellsOf 9 = 1 := by kernel_rfl

abbrev laidL : List (String × DataW Unit) := [("loop.example/pargeting/impl.opWords", Rows.laid_loop_example_pargeting_impl_opWords)]
theorem door_met (os : Os) (args : Array Value) : laidMetH Tryd.prog laidL ((World.doorLaid Tryd.prog 400 os).forCall (fun _ _ => 0) ⟨#[], args, []⟩).memory :=
  laidMetH_of_parts3 (fuel := 8) (laidMet_of_run' 8 (by kernel_rfl) (by kernel_rfl)) (by kernel_rfl) (by kernel_rfl)
theorem words_of_laid {W : World} (h : laidMetH Tryd.prog laidL W) : OpTab W := by
  rw [MakeChecks.laidMetH_plain _ _ _ (by kernel_rfl)] at h
  obtain ⟨ps, ⟨g', t', cs, fuel, p, q, hg', ht', hv, hd, _, _⟩, _⟩ := h
  obtain rfl := Option.some.inj (gW.symm.trans hg')
  obtain rfl := Option.some.inj (gWt.symm.trans ht')
  have hc := cells_of_strs (zs := [[], [109, 97, 107, 101], [112, 117, 116], [114, 109], [114, 109, 100, 105, 114], [109, 111, 118, 101]]) Tryd.underlying95 Tryd.underlying9 cellsStr cellsW hd
  have hcs : cs = #[.string ⟨#[]⟩, .string oW1, .string oW2, .string oW3, .string oW4, .string oW5] := by
    cases cs with | mk l => dsimp only at hc; subst hc; rfl
  subst hcs
  exact ⟨(World.var?_cell gW hv 0).trans rfl, (World.var?_cell gW hv 1).trans rfl, (World.var?_cell gW hv 2).trans rfl, (World.var?_cell gW hv 3).trans rfl, (World.var?_cell gW hv 4).trans rfl, (World.var?_cell gW hv 5).trans rfl⟩
end Go.Proofs.YtgkfhcpegdlejaaDoor
