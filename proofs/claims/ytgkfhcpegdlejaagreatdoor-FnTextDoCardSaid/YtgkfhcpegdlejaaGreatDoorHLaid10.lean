/-
  What the listed variables give the walks.
-/
import Derived.Test.YtgkfhcpegdlejaaGreatDoorRows
import Derived.Test.YtgkfhcpegdlejaaGreatDoorHTxTab
import Derived.Test.YtgkfhcpegdlejaaGreatDoorHPk04
import Derived.Test.YtgkfhcpegdlejaaGreatDoorHLaid8
import Derived.ProofKit
import Derived.LaidMore
import Derived.LaidSub
import Derived.Stop.LaidErr
import Derived.MakeChecks
import Derived.OpenVars
namespace Go.Proofs.YtgkfhcpegdlejaaGreatDoor
open Go.ChangeShapes Go.WideShapes Go.ChangeAt Go.RowKit

abbrev laidX : List (String × DataW Unit) := [("loop.example/pargeting/impl.errBad", Rows.laid_loop_example_pargeting_impl_errBad), ("loop.example/pargeting/impl.errNone", Rows.laid_loop_example_pargeting_impl_errNone), ("loop.example/pargeting/impl.errNotDir", Rows.laid_loop_example_pargeting_impl_errNotDir), ("loop.example/pargeting/impl.errThere", Rows.laid_loop_example_pargeting_impl_errThere), ("loop.example/pargeting/impl.errIsDir", Rows.laid_loop_example_pargeting_impl_errIsDir), ("loop.example/pargeting/impl.errKept", Rows.laid_loop_example_pargeting_impl_errKept), ("loop.example/pargeting/impl.errUnder", Rows.laid_loop_example_pargeting_impl_errUnder), ("loop.example/pargeting/impl.errRoom", Rows.laid_loop_example_pargeting_impl_errRoom), ("loop.example/pargeting/impl.opWords", Rows.laid_loop_example_pargeting_impl_opWords), ("loop.example/pargeting/impl.markWords", Rows.laid_loop_example_pargeting_impl_markWords)]
theorem door_metX (os : Os) (args : Array Value) : laidMetH Tryz.prog laidX ((World.doorLaid Tryz.prog 400 os).forCall (fun _ _ => 0) ⟨#[], args, []⟩).memory :=
  laidMetH_of_parts3 (fuel := 8) (laidMet_of_run' 8 (by kernel_rfl) (by kernel_rfl)) (by kernel_rfl) (by kernel_rfl)
theorem gWo : Tryz.prog.globalNamed "loop.example/pargeting/impl.opWords" = some 0 := by kernel_rfl
theorem gWto : (Tryz.prog.globals[0]?).map (·.type) = some 77 := by kernel_rfl
theorem cellsWo : Tryz.prog.cellsOf 77 = 6 := by kernel_rfl
theorem words_o {W : World} (h : laidMetH Tryz.prog laidX W) : OpTab W := by
  have h := h.filter (fun x => x.1 == "loop.example/pargeting/impl.opWords")
  rw [show laidX.filter (fun x => x.1 == "loop.example/pargeting/impl.opWords") = [("loop.example/pargeting/impl.opWords", Rows.laid_loop_example_pargeting_impl_opWords)] from by kernel_rfl, MakeChecks.laidMetH_plain _ _ _ (by kernel_rfl)] at h
  obtain ⟨ps, ⟨g', t', cs, fuel, p, q, hg', ht', hv, hd, _, _⟩, _⟩ := h
  obtain rfl := Option.some.inj (gWo.symm.trans hg')
  obtain rfl := Option.some.inj (gWto.symm.trans ht')
  have hc := cells_of_strs (zs := [[], [109, 97, 107, 101], [112, 117, 116], [114, 109], [114, 109, 100, 105, 114], [109, 111, 118, 101]]) Tryz.underlying77 Tryz.underlying9 cellsStr cellsWo hd
  have hcs : cs = #[.string ⟨#[]⟩, .string oW1, .string oW2, .string oW3, .string oW4, .string oW5] := by
    cases cs with | mk l => dsimp only at hc; subst hc; rfl
  subst hcs
  exact ⟨(World.var?_cell gWo hv 0).trans rfl, (World.var?_cell gWo hv 1).trans rfl, (World.var?_cell gWo hv 2).trans rfl, (World.var?_cell gWo hv 3).trans rfl, (World.var?_cell gWo hv 4).trans rfl, (World.var?_cell gWo hv 5).trans rfl⟩
theorem gWm : Tryz.prog.globalNamed "loop.example/pargeting/impl.markWords" = some 1 := by kernel_rfl
theorem gWtm : (Tryz.prog.globals[1]?).map (·.type) = some 101 := by kernel_rfl
theorem cellsWm : Tryz.prog.cellsOf 101 = 5 := by kernel_rfl
theorem words_m {W : World} (h : laidMetH Tryz.prog laidX W) : MarkTab W := by
  have h := h.filter (fun x => x.1 == "loop.example/pargeting/impl.markWords")
  rw [show laidX.filter (fun x => x.1 == "loop.example/pargeting/impl.markWords") = [("loop.example/pargeting/impl.markWords", Rows.laid_loop_example_pargeting_impl_markWords)] from by kernel_rfl, MakeChecks.laidMetH_plain _ _ _ (by kernel_rfl)] at h
  obtain ⟨ps, ⟨g', t', cs, fuel, p, q, hg', ht', hv, hd, _, _⟩, _⟩ := h
  obtain rfl := Option.some.inj (gWm.symm.trans hg')
  obtain rfl := Option.some.inj (gWtm.symm.trans ht')
  have hc := cells_of_strs (zs := [[], [102], [100], [120], [98]]) Tryz.underlying101 Tryz.underlying9 cellsStr cellsWm hd
  have hcs : cs = #[.string ⟨#[]⟩, .string wF, .string wD, .string wX, .string wB] := by
    cases cs with | mk l => dsimp only at hc; subst hc; rfl
  subst hcs
  exact ⟨(World.var?_cell gWm hv 0).trans rfl, (World.var?_cell gWm hv 1).trans rfl, (World.var?_cell gWm hv 2).trans rfl, (World.var?_cell gWm hv 3).trans rfl, (World.var?_cell gWm hv 4).trans rfl⟩
theorem errs_X {W : World} (h : laidMetH Tryz.prog laidX W) : ∃ ae, Errs8 W ae := by
  have h := h.filter (fun x => !(x.1 == "loop.example/pargeting/impl.markWords") && !(x.1 == "loop.example/pargeting/impl.opWords"))
  rw [show laidX.filter (fun x => !(x.1 == "loop.example/pargeting/impl.markWords") && !(x.1 == "loop.example/pargeting/impl.opWords")) = laidL8 from by kernel_rfl] at h
  exact errs_of_laid8 h
theorem words_of_laidX {W : World} (h : laidMetH Tryz.prog laidX W) : ∃ ae, Errs8 W ae ∧ (MarkTab W ∧ OpTab W) := by
  obtain ⟨ae, he⟩ := errs_X h
  exact ⟨ae, he, words_m h, words_o h⟩
theorem vars_lenX {H : Type} {enc : TypeId × Value → H} {P : Program} {w : World} {spare : Nat → Bool} : ∀ {ns : List String} {gs : List (DataW H)} {ps : List MemPlace}, DataW.TrodVars enc P w spare ns gs ps → gs.length = ns.length
  | [], [], _, _ => rfl
  | [], _ :: _, _, h => by simp [DataW.TrodVars] at h
  | _ :: _, [], _, h => by simp [DataW.TrodVars] at h
  | _ :: ns, _ :: gs, _, h => by
    obtain ⟨_, _, _, _, _, _, _, _, _, _, hs, _⟩ := h
    show gs.length + 1 = ns.length + 1
    rw [vars_lenX hs]
theorem listX {α : Type} {gs : List α} (h : gs.length = 10) : ∃ d0 d1 d2 d3 d4 d5 d6 d7 d8 d9, gs = [d0, d1, d2, d3, d4, d5, d6, d7, d8, d9] := by
  match gs, h with
  | [d0, d1, d2, d3, d4, d5, d6, d7, d8, d9], _ => exact ⟨d0, d1, d2, d3, d4, d5, d6, d7, d8, d9, rfl⟩
end Go.Proofs.YtgkfhcpegdlejaaGreatDoor
