import Derived.Test.YtoaipphccjkphaaDoorHLaid2
import Derived.Test.YtoaipphccjkphaaDoorHLaidN
import Derived.Test.YtoaipphccjkphaaDoorHMgFin
namespace Go.Proofs.YtoaipphccjkphaaDoor
open Go.ChangeShapes Go.WideShapes Go.ChangeAt Go.RowKit
abbrev names3 : List String := ["loop.example/pargeting/impl.errBad", "loop.example/pargeting/impl.errNone", "loop.example/pargeting/impl.errNotDir"]
abbrev laidL3 : List (String × DataW Unit) := [("loop.example/pargeting/impl.errBad", Rows.laid_loop_example_pargeting_impl_errBad), ("loop.example/pargeting/impl.errNone", Rows.laid_loop_example_pargeting_impl_errNone), ("loop.example/pargeting/impl.errNotDir", Rows.laid_loop_example_pargeting_impl_errNotDir)]
theorem door_met3 (os : Os) (args : Array Value) : laidMetH Tryd.prog laidL3 ((World.doorLaid Tryd.prog 400 os).forCall (fun _ _ => 0) ⟨#[], args, []⟩).memory :=
 laidMetH_of_parts3 (fuel := 8) (laidMet_of_run' 8 (by kernel_rfl) (by kernel_rfl)) (by kernel_rfl) (by kernel_rfl)
def txt3 : DataW Unit → List UInt8
 | .iface _ (.ptr (.agg [.lit (.string s)])) => s
 | _ => []
abbrev L3 : List (String × List UInt8) := [("loop.example/pargeting/impl.errBad", txt3 Rows.laid_loop_example_pargeting_impl_errBad), ("loop.example/pargeting/impl.errNone", txt3 Rows.laid_loop_example_pargeting_impl_errNone), ("loop.example/pargeting/impl.errNotDir", txt3 Rows.laid_loop_example_pargeting_impl_errNotDir)]
abbrev G3 : List Nat := [0, 1, 2]
set_option maxRecDepth 100000 in
theorem glob3 : ∀ x ∈ L3.zip G3, Tryd.prog.globalNamed x.1.1 = some x.2 ∧ (Tryd.prog.globals[x.2]?).map (·.type) = some 53 := by
 intro x hx; simp only [List.zip_cons_cons, List.zip_nil_right, List.mem_cons, List.not_mem_nil, or_false] at hx; rcases hx with rfl | rfl | rfl <;> exact ⟨by kernel_rfl, by kernel_rfl⟩
theorem errs_of_laid3 {W : World} (h : laidMetH Tryd.prog laidL3 W) : ∃ ae bad, Mg.Errs3 W ae bad := by
 rw [MakeChecks.laidMetH_plain _ _ _ (by kernel_rfl)] at h; obtain ⟨ps, hv, hnd, hrows⟩ := h; have hv' : DataW.LaidVars Tryd.prog W (L3.map fun x => (x.1, .iface "*errors.errorString" (.ptr (.agg [.lit (.string x.2)])))) ps := hv; obtain ⟨ads, hl, hsub, hc⟩ := sents Tryd.underlying53 rowEs Tryd.underlying132 Tryd.underlying150 rfl rfl Tryd.underlying9 cellsEs cellsStr L3 G3 ps hv' rfl glob3 hrows
 match ads, hl with
 | [a1, a2, a3], _ =>
  have hcc := fun (g : Nat) (a : Addr) (h : (g, a) ∈ G3.zip [a1, a2, a3]) => hc (g, a) h; exact ⟨fun c => if c = 2 then a2 else a3, .pointer (some a1), ⟨⟨by simpa using hcc 1 a2 (by simp), by simpa using hcc 2 a3 (by simp)⟩, hcc 0 a1 (by simp)⟩⟩
theorem vars_len3 {H : Type} {enc : TypeId × Value → H} {P : Program} {w : World} {spare : Nat → Bool} : ∀ {ns : List String} {gs : List (DataW H)} {ps : List MemPlace}, DataW.TrodVars enc P w spare ns gs ps → gs.length = ns.length
 | [], [], _, _ => rfl
 | [], _ :: _, _, h => by simp [DataW.TrodVars] at h
 | _ :: _, [], _, h => by simp [DataW.TrodVars] at h
 | _ :: ns, _ :: gs, _, h => by
  obtain ⟨_, _, _, _, _, _, _, _, _, _, hs, _⟩ := h; show gs.length + 1 = ns.length + 1
  rw [vars_len3 hs]
theorem list3 {α : Type} {gs : List α} (h : gs.length = 3) : ∃ a b c, gs = [a, b, c] := by
 match gs, h with
 | [a, b, c], _ => exact ⟨a, b, c, rfl⟩
end Go.Proofs.YtoaipphccjkphaaDoor
