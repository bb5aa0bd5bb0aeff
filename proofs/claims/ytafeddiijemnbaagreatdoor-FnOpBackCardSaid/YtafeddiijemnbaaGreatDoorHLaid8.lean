import Derived.Test.YtafeddiijemnbaaGreatDoorHLaid2
import Derived.Test.YtafeddiijemnbaaGreatDoorHLaidN
import Derived.Test.YtafeddiijemnbaaGreatDoorHCodeI
namespace Go.Proofs.YtafeddiijemnbaaGreatDoor
open Go.ChangeShapes Go.WideShapes Go.ChangeAt Go.RowKit
abbrev names8 : List String := ["loop.example/pargeting/impl.errNone", "loop.example/pargeting/impl.errNotDir", "loop.example/pargeting/impl.errBad", "loop.example/pargeting/impl.errThere", "loop.example/pargeting/impl.errIsDir", "loop.example/pargeting/impl.errKept", "loop.example/pargeting/impl.errUnder", "loop.example/pargeting/impl.errRoom"]
abbrev laidL8 : List (String × DataW Unit) := [("loop.example/pargeting/impl.errBad", Rows.laid_loop_example_pargeting_impl_errBad), ("loop.example/pargeting/impl.errNone", Rows.laid_loop_example_pargeting_impl_errNone), ("loop.example/pargeting/impl.errNotDir", Rows.laid_loop_example_pargeting_impl_errNotDir), ("loop.example/pargeting/impl.errThere", Rows.laid_loop_example_pargeting_impl_errThere), ("loop.example/pargeting/impl.errIsDir", Rows.laid_loop_example_pargeting_impl_errIsDir), ("loop.example/pargeting/impl.errKept", Rows.laid_loop_example_pargeting_impl_errKept), ("loop.example/pargeting/impl.errUnder", Rows.laid_loop_example_pargeting_impl_errUnder), ("loop.example/pargeting/impl.errRoom", Rows.laid_loop_example_pargeting_impl_errRoom)]
theorem door_met8 (os : Os) (args : Array Value) : laidMetH Tryz.prog laidL8 ((World.doorLaid Tryz.prog 400 os).forCall (fun _ _ => 0) ⟨#[], args, []⟩).memory :=
 laidMetH_of_parts3 (fuel := 8) (laidMet_of_run' 8 (by kernel_rfl) (by kernel_rfl)) (by kernel_rfl) (by kernel_rfl)
def txt8 : DataW Unit → List UInt8
 | .iface _ (.ptr (.agg [.lit (.string s)])) => s
 | _ => []
abbrev L8 : List (String × List UInt8) := [("loop.example/pargeting/impl.errBad", txt8 Rows.laid_loop_example_pargeting_impl_errBad), ("loop.example/pargeting/impl.errNone", txt8 Rows.laid_loop_example_pargeting_impl_errNone), ("loop.example/pargeting/impl.errNotDir", txt8 Rows.laid_loop_example_pargeting_impl_errNotDir), ("loop.example/pargeting/impl.errThere", txt8 Rows.laid_loop_example_pargeting_impl_errThere), ("loop.example/pargeting/impl.errIsDir", txt8 Rows.laid_loop_example_pargeting_impl_errIsDir), ("loop.example/pargeting/impl.errKept", txt8 Rows.laid_loop_example_pargeting_impl_errKept), ("loop.example/pargeting/impl.errUnder", txt8 Rows.laid_loop_example_pargeting_impl_errUnder), ("loop.example/pargeting/impl.errRoom", txt8 Rows.laid_loop_example_pargeting_impl_errRoom)]
abbrev G8 : List Nat := [0, 1, 2, 3, 4, 5, 6, 7]
set_option maxRecDepth 100000 in
theorem glob8 : ∀ x ∈ L8.zip G8, Tryz.prog.globalNamed x.1.1 = some x.2 ∧ (Tryz.prog.globals[x.2]?).map (·.type) = some 42 := by
 intro x hx; simp only [List.zip_cons_cons, List.zip_nil_right, List.mem_cons, List.not_mem_nil, or_false] at hx; rcases hx with rfl | rfl | rfl | rfl | rfl | rfl | rfl | rfl <;> exact ⟨by kernel_rfl, by kernel_rfl⟩
def pos8 : Int → Nat := fun c : Int => if c = 1 then 0 else if c = 2 then 1 else if c = 3 then 2 else if c = 4 then 3 else if c = 5 then 4 else if c = 6 then 5 else if c = 7 then 6 else 7
theorem pos8_lt (c : Int) : pos8 c < 8 := by unfold pos8; repeat (first | omega | split)
theorem pos8_inj {c d : Int} (h1 : 1 ≤ c) (h2 : c < d) (h3 : d ≤ 8) : pos8 c ≠ pos8 d := by
 unfold pos8
 repeat (first | omega | split)
theorem getD_at {l : List Addr} {i : Nat} (hi : i < l.length) (z : Addr) : l.getD i z = l[i] := by simp [List.getD, hi]
theorem ne_of_nodup {l : List Addr} (h : l.Nodup) {i j : Nat} (hi : i < l.length) (hj : j < l.length) (hne : i ≠ j) (z : Addr) : l.getD i z ≠ l.getD j z := by
 rw [getD_at hi, getD_at hj]; have hp := List.pairwise_iff_getElem.1 h; rcases Nat.lt_or_gt_of_ne hne with k | k
 ·
  exact hp i j hi hj k
 ·
  exact fun e => hp j i hj hi k e.symm
theorem errs_of_laid8 {W : World} (h : laidMetH Tryz.prog laidL8 W) : ∃ ae, Errs8 W ae := by
 rw [MakeChecks.laidMetH_plain _ _ _ (by kernel_rfl)] at h; obtain ⟨ps, hv, hnd, hrows⟩ := h; have hv' : DataW.LaidVars Tryz.prog W (L8.map fun x => (x.1, .iface "*errors.errorString" (.ptr (.agg [.lit (.string x.2)])))) ps := hv; obtain ⟨ads, hl, hsub, hc⟩ := sents Tryz.underlying42 rowEs Tryz.underlying168 Tryz.underlying194 rfl rfl Tryz.underlying9 cellsEs cellsStr L8 G8 ps hv' rfl glob8 hrows
 match ads, hl with
 | [a1, a2, a3, a4, a5, a6, a7, a8], _ =>
  have hn : ([a1, a2, a3, a4, a5, a6, a7, a8].map fun a : Addr => MemPlace.cell a.block a.off).Nodup := hnd.sublist hsub; have hn2 : [a1, a2, a3, a4, a5, a6, a7, a8].Nodup := List.Pairwise.imp (fun {a b} h e => h (by rw [e])) (List.pairwise_map.1 hn); have hr : ∀ a ∈ [a1, a2, a3, a4, a5, a6, a7, a8], ∃ (cs : Array Value) (t : TypeId), W.heap[a.block]? = some (.cells cs t (0, 0)) := fun a ha => (hrows a.block a.off (hsub.subset (List.mem_map.2 ⟨a, ha, rfl⟩))).1; have hcc := fun (g : Nat) (a : Addr) (h : (g, a) ∈ G8.zip [a1, a2, a3, a4, a5, a6, a7, a8]) => hc (g, a) h; refine ⟨fun c => [a1, a2, a3, a4, a5, a6, a7, a8].getD (pos8 c) a1, ⟨⟨?_, ?_⟩, ?_, ?_, ?_, ?_, ?_, ?_, ?_, ?_⟩⟩
  ·
   exact hcc 1 a2 (by simp)
  ·
   exact hcc 2 a3 (by simp)
  ·
   exact hcc 0 a1 (by simp)
  ·
   exact hcc 3 a4 (by simp)
  ·
   exact hcc 4 a5 (by simp)
  ·
   exact hcc 5 a6 (by simp)
  ·
   exact hcc 6 a7 (by simp)
  ·
   exact hcc 7 a8 (by simp)
  ·
   intro c d h1 h2 h3; exact ne_of_nodup hn2 (pos8_lt c) (pos8_lt d) (pos8_inj h1 h2 h3) _
  ·
   intro c _ _; have hlt := pos8_lt c; refine hr _ ?_; rw [getD_at hlt]; exact List.getElem_mem _
theorem vars_len8 {H : Type} {enc : TypeId × Value → H} {P : Program} {w : World} {spare : Nat → Bool} : ∀ {ns : List String} {gs : List (DataW H)} {ps : List MemPlace}, DataW.TrodVars enc P w spare ns gs ps → gs.length = ns.length
 | [], [], _, _ => rfl
 | [], _ :: _, _, h => by simp [DataW.TrodVars] at h
 | _ :: _, [], _, h => by simp [DataW.TrodVars] at h
 | _ :: ns, _ :: gs, _, h => by
  obtain ⟨_, _, _, _, _, _, _, _, _, _, hs, _⟩ := h; show gs.length + 1 = ns.length + 1
  rw [vars_len8 hs]
theorem list8 {α : Type} {gs : List α} (h : gs.length = 8) : ∃ a b c d e f g i, gs = [a, b, c, d, e, f, g, i] := by
 match gs, h with
 | [a, b, c, d, e, f, g, i], _ => exact ⟨a, b, c, d, e, f, g, i, rfl⟩
end Go.Proofs.YtafeddiijemnbaaGreatDoor
