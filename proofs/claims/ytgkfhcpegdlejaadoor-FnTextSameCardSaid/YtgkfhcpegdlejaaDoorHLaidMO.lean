/-
  What the listed variables give the walks.
-/
import Derived.Test.YtgkfhcpegdlejaaDoorRows
import Derived.Test.YtgkfhcpegdlejaaDoorHTxTab
import Derived.Test.YtgkfhcpegdlejaaDoorHPk04
import Derived.ProofKit
import Derived.LaidMore
import Derived.LaidSub
import Derived.Stop.LaidErr
import Derived.MakeChecks
import Derived.OpenVars
namespace Go.Proofs.YtgkfhcpegdlejaaDoor
open Go.ChangeShapes Go.WideShapes Go.ChangeAt Go.RowKit

theorem own : ownKnob Tryd.prog.godebug = none := by kernel_rfl
theorem laidOut : laidOutB Tryd.prog = true := by kernel_rfl
theorem cellsStr : Tryd.prog.cellsOf 9 = 1 := by kernel_rfl
abbrev laidX : List (String × DataW Unit) := [("loop.example/pargeting/impl.opWords", Rows.laid_loop_example_pargeting_impl_opWords), ("loop.example/pargeting/impl.markWords", Rows.laid_loop_example_pargeting_impl_markWords)]
theorem door_metX (os : Os) (args : Array Value) : laidMetH Tryd.prog laidX ((World.doorLaid Tryd.prog 400 os).forCall (fun _ _ => 0) ⟨#[], args, []⟩).memory :=
  laidMetH_of_parts3 (fuel := 8) (laidMet_of_run' 8 (by kernel_rfl) (by kernel_rfl)) (by kernel_rfl) (by kernel_rfl)
theorem gWo : Tryd.prog.globalNamed "loop.example/pargeting/impl.opWords" = some 0 := by kernel_rfl
theorem gWto : (Tryd.prog.globals[0]?).map (·.type) = some 95 := by kernel_rfl
theorem cellsWo : Tryd.prog.cellsOf 95 = 6 := by kernel_rfl
theorem words_o {W : World} (h : laidMetH Tryd.prog laidX W) : OpTab W := by
  have h := h.filter (fun x => x.1 == "loop.example/pargeting/impl.opWords")
  rw [show laidX.filter (fun x => x.1 == "loop.example/pargeting/impl.opWords") = [("loop.example/pargeting/impl.opWords", Rows.laid_loop_example_pargeting_impl_opWords)] from by kernel_rfl, MakeChecks.laidMetH_plain _ _ _ (by kernel_rfl)] at h
  obtain ⟨ps, ⟨g', t', cs, fuel, p, q, hg', ht', hv, hd, _, _⟩, _⟩ := h
  obtain rfl := Option.some.inj (gWo.symm.trans hg')
  obtain rfl := Option.some.inj (gWto.symm.trans ht')
  have hc := cells_of_strs (zs := [[], [109, 97, 107, 101], [112, 117, 116], [114, 109], [114, 109, 100, 105, 114], [109, 111, 118, 101]]) Tryd.underlying95 Tryd.underlying9 cellsStr cellsWo hd
  have hcs : cs = #[.string ⟨#[]⟩, .string oW1, .string oW2, .string oW3, .string oW4, .string oW5] := by
    cases cs with | mk l => dsimp only at hc; subst hc; rfl
  subst hcs
  exact ⟨(World.var?_cell gWo hv 0).trans rfl, (World.var?_cell gWo hv 1).trans rfl, (World.var?_cell gWo hv 2).trans rfl, (World.var?_cell gWo hv 3).trans rfl, (World.var?_cell gWo hv 4).trans rfl, (World.var?_cell gWo hv 5).trans rfl⟩
theorem gWm : Tryd.prog.globalNamed "loop.example/pargeting/impl.markWords" = some 1 := by kernel_rfl
theorem gWtm : (Tryd.prog.globals[1]?).map (·.type) = some 113 := by kernel_rfl
theorem cellsWm : Tryd.prog.cellsOf 113 = 5 := by kernel_rfl
theorem words_m {W : World} (h : laidMetH Tryd.prog laidX W) : MarkTab W := by
  have h := h.filter (fun x => x.1 == "loop.example/pargeting/impl.markWords")
  rw [show laidX.filter (fun x => x.1 == "loop.example/pargeting/impl.markWords") = [("loop.example/pargeting/impl.markWords", Rows.laid_loop_example_pargeting_impl_markWords)] from by kernel_rfl, MakeChecks.laidMetH_plain _ _ _ (by kernel_rfl)] at h
  obtain ⟨ps, ⟨g', t', cs, fuel, p, q, hg', ht', hv, hd, _, _⟩, _⟩ := h
  obtain rfl := Option.some.inj (gWm.symm.trans hg')
  obtain rfl := Option.some.inj (gWtm.symm.trans ht')
  have hc := cells_of_strs (zs := [[], [102], [100], [120], [98]]) Tryd.underlying113 Tryd.underlying9 cellsStr cellsWm hd
  have hcs : cs = #[.string ⟨#[]⟩, .string wF, .string wD, .string wX, .string wB] := by
    cases cs with | mk l => dsimp only at hc; subst hc; rfl
  subst hcs
  exact ⟨(World.var?_cell gWm hv 0).trans rfl, (World.var?_cell gWm hv 1).trans rfl, (World.var?_cell gWm hv 2).trans rfl, (World.var?_cell gWm hv 3).trans rfl, (World.var?_cell gWm hv 4).trans rfl⟩
theorem words_of_laidX {W : World} (h : laidMetH Tryd.prog laidX W) : MarkTab W ∧ OpTab W := ⟨words_m h, words_o h⟩
end Go.Proofs.YtgkfhcpegdlejaaDoor
