/-
  What the seven listed variables give the walks.
-/
import Derived.Test.YtbcogekeoklddaaGreatDoorHLaid2
import Derived.Test.YtbcogekeoklddaaGreatDoorHListI
namespace Go.Proofs.YtbcogekeoklddaaGreatDoor
open Go.ChangeShapes Go.WideShapes Go.ChangeAt Go.RowKit

abbrev names7 : List String := ["loop.example/pargeting/impl.errNone", "loop.example/pargeting/impl.errNotDir", "loop.example/pargeting/impl.errThere", "loop.example/pargeting/impl.errIsDir", "loop.example/pargeting/impl.errKept", "loop.example/pargeting/impl.errUnder", "loop.example/pargeting/impl.errRoom"]
abbrev laidL7 : List (String × DataW Unit) := [("loop.example/pargeting/impl.errNone", Rows.laid_loop_example_pargeting_impl_errNone), ("loop.example/pargeting/impl.errNotDir", Rows.laid_loop_example_pargeting_impl_errNotDir), ("loop.example/pargeting/impl.errThere", Rows.laid_loop_example_pargeting_impl_errThere), ("loop.example/pargeting/impl.errIsDir", Rows.laid_loop_example_pargeting_impl_errIsDir), ("loop.example/pargeting/impl.errKept", Rows.laid_loop_example_pargeting_impl_errKept), ("loop.example/pargeting/impl.errUnder", Rows.laid_loop_example_pargeting_impl_errUnder), ("loop.example/pargeting/impl.errRoom", Rows.laid_loop_example_pargeting_impl_errRoom)]
theorem door_met7 (os : Os) (args : Array Value) : laidMetH Tryz.prog laidL7 ((World.doorLaid Tryz.prog 400 os).forCall (fun _ _ => 0) ⟨#[], args, []⟩).memory :=
  laidMetH_of_parts3 (fuel := 8) (laidMet_of_run' 8 (by kernel_rfl) (by kernel_rfl)) (by kernel_rfl) (by kernel_rfl)
theorem errs_of_laid7 {W : World} (h : laidMetH Tryz.prog laidL7 W) : ∃ ae, Errs2R W ae := by
  rw [MakeChecks.laidMetH_plain _ _ _ (by kernel_rfl)] at h
  obtain ⟨a0, a1, s0, s1, c0, c1, t0, t1, hv0, hv1, _, _, _, _, _, _, hne, hr0, hr1⟩ := laid_sentinels2 h gN gNt gD gDt Tryz.underlying65 rowEs Tryz.underlying171 Tryz.underlying194 rfl rfl Tryz.underlying9 cellsEs cellsStr
  exact ⟨fun c => if c = 2 then a0 else a1, ⟨by simpa using World.var?_cell gN hv0 0, by simpa using World.var?_cell gD hv1 0⟩, by simpa using hne.symm, ⟨c0, t0, by simpa using hr0⟩, ⟨c1, t1, by simpa using hr1⟩⟩
theorem vars_len {H : Type} {enc : TypeId × Value → H} {P : Program} {w : World} {spare : Nat → Bool} : ∀ {ns : List String} {gs : List (DataW H)} {ps : List MemPlace}, DataW.TrodVars enc P w spare ns gs ps → gs.length = ns.length
  | [], [], _, _ => rfl
  | [], _ :: _, _, h => by simp [DataW.TrodVars] at h
  | _ :: _, [], _, h => by simp [DataW.TrodVars] at h
  | _ :: ns, _ :: gs, _, h => by
    obtain ⟨_, _, _, _, _, _, _, _, _, _, hs, _⟩ := h
    show gs.length + 1 = ns.length + 1
    rw [vars_len hs]
theorem list7 {α : Type} {gs : List α} (h : gs.length = 7) : ∃ a b c d e f g, gs = [a, b, c, d, e, f, g] := by
  match gs, h with
  | [a, b, c, d, e, f, g], _ => exact ⟨a, b, c, d, e, f, g, rfl⟩
end Go.Proofs.YtbcogekeoklddaaGreatDoor
