/-
  The walk of the law FnTree, out of the contracts.
-/
import Derived.Lib.QuietBelow
import Derived.Test.YtolfeljefdgikaaGreatDoorHPk07
import Derived.Test.YtolfeljefdgikaaGreatDoorHTreeDoI
import Derived.Test.YtolfeljefdgikaaGreatDoorHSameI
import Derived.Test.YtolfeljefdgikaaGreatDoorHImplOk
import Derived.Test.YtolfeljefdgikaaGreatDoorHDoSz
import Derived.Test.YtolfeljefdgikaaGreatDoorHFitOp
namespace Go.Proofs.YtolfeljefdgikaaGreatDoor
open Go.RowKit Go.Lib Go.Sort
attribute [local go_sem] eq_ent guard_ent

set_option maxHeartbeats 2000000 in
set_option maxRecDepth 100000 in
theorem walk_fnTree (ae : Int → Addr) (a : Option Addr) (len cap : Nat) (zs : List Int) (w : World) (hErr : Errs8 w ae) (hw : IsRow .u8 w a len cap zs) :
    Calls Tryz.prog 3 #[.slice a len cap] w fun e w' => e = .returned (.bool true) ∧ Below w.heap.size w w' := by
  have hC := hidR hw.cod
  have HEr := hidR hErr
  clear hw hErr
  by_cases hl : len ≤ 1048576
  · go_enter Tryz.func3, Tryz.ntmps3
    go_wp2_with fail
    refine (DrawTreeDo_any _ a len cap hl hC.out).mono ?_
    rintro e w1 ⟨v, es, k, p, t, x, rfl, hL, hS, zp, zt, zx, hB⟩
    obtain ⟨a1, g1, o1, c1, rfl, ha1, hE, hc1, -⟩ := hL
    have HB := hidR hB
    replace HEr := hidR (HEr.out.below hB)
    have HE := hidR hE
    have HA := hidR ha1
    have HZ : Hid (∀ e ∈ es, e.p.size ≤ 16777216 ∧ e.x.size ≤ 16777216) := fun e he => ⟨by have := (hS.2 e he).1; omega, by have := (hS.2 e he).2; omega⟩
    have HZ16 := hidR hS.2
    have HV := hidR zt
    have hlen : es.length ≤ 17 := hS.1
    have hn1 : es.length ≤ 1048576 := by omega
    have hn2 : es.length ≤ 16777216 := by omega
    have hp : p.size ≤ 16777216 := by omega
    have ht : t.size ≤ 16777216 := by have := okS_size zt; omega
    have hx : x.size ≤ 16777216 := by omega
    clear hB hC hE ha1 hS zt
    have HIm := hidR (fun (W : World) (hEr : Errs8 W ae) (hW : Ents W g1 o1 es) => iTreeDo_any W a1 g1 o1 c1 es k p t x ae hEr hn2 hp ht hx HZ.out HA.out hW)
    have HSp := hidR (fun (W : World) (hW : Ents W g1 o1 es) => sTreeDo_any W a1 g1 o1 c1 es k p t x hn1 hc1 hp ht hx HZ.out HA.out hW)
    have HDS := hidR (do_lens es k p t x)
    obtain ⟨ds, hds⟩ : ∃ ds, doE es ⟨k, p, t, x⟩ = ds := ⟨_, rfl⟩
    obtain ⟨cc, hcc⟩ : ∃ cc, doC es ⟨k, p, t, x⟩ = cc := ⟨_, rfl⟩
    rw [hds, hcc] at HIm HSp
    rw [hds] at HDS
    obtain ⟨hdl, hdz⟩ := HDS.out
    have HDZ := hidR hdz
    clear hdz HDS
    have hcase : (treeE es = false ∧ cc = 1 ∧ ds = []) ∨ (treeE es = true ∧ cc ≠ 0 ∧ ds = es ∧ (cc == 1) = !opB ⟨k, p, t, x⟩) ∨ (treeE es = true ∧ cc = 0 ∧ treeE ds = true) := by
      cases htr : treeE es with
      | false => exact .inl ⟨rfl, by rw [← hcc]; exact doC_no_tree htr, by rw [← hds]; unfold doE; rw [htr]; rfl⟩
      | true =>
        right
        by_cases h0 : cc = 0
        · exact .inr ⟨rfl, h0, by rw [← hds]; exact do_tree htr⟩
        · refine .inl ⟨rfl, h0, by rw [← hds, not_done (by rw [hcc]; exact h0), if_pos htr], ?_⟩
          have := doC_one (q := ⟨k, p, t, x⟩) htr
          rw [hcc] at this
          cases ho : opB ⟨k, p, t, x⟩ with
          | false => rw [this.2 ho]; rfl
          | true => rw [beq_eq_false_iff_ne.2 (fun q => by rw [this.1 q] at ho; cases ho)]; rfl
    clear hds hcc
    have hcne : (cc != cc) = false := by simp
    have hsame := sameT_refl ds
    have HSame := hidR (fun (W : World) (g g' : Nat) (a a' : Option Addr) (c c' : Nat) (ha : 0 < ds.length → a = some ⟨g, 0, none⟩) (ha' : 0 < ds.length → a' = some ⟨g', 0, none⟩) (h1 : Ents W g 0 ds) (h2 : Ents W g' 0 ds) => iTreeSame_any W a g 0 c ds a' g' 0 c' ds (by omega) (by omega) ha ha' h1 h2)
    have HOp := hidR (fun (W : World) => iOpOk_any W k p t x hp ht)
    have HOs := hidR (fun (W : World) => sOpOk_any W k p t x hp ht hx)
    have HTi := hidR (fun (W : World) (hEr : Errs8 W ae) (hW : Ents W g1 o1 es) => iTreeOk_any W a1 g1 o1 c1 es ae hEr.two hn2 HZ.out HA.out hW)
    have HTs := hidR (fun (W : World) (hW : Ents W g1 o1 es) => sTreeOk_any W a1 g1 o1 c1 es hn2 hc1 HZ.out HA.out hW)
    rw [hsame] at HSame
    rw [fit_op] at HOp
    obtain ⟨bo, hbo⟩ : ∃ bo, opB ⟨k, p, t, x⟩ = bo := ⟨_, rfl⟩
    obtain ⟨bt, hbt⟩ : ∃ bt, treeE es = bt := ⟨_, rfl⟩
    rw [hbo] at HOp HOs hcase
    rw [hbt] at HTi HTs hcase
    have ho1 : (bo != bo) = false := by simp
    have ht1 : (bt != bt) = false := by simp
    clear hbo hbt hsame
    obtain ⟨W1, hW1⟩ : ∃ W1, W1 = w1.alloc (.cells #[.int .i64 k, .string p, .string t, .string x] 25) := ⟨_, rfl⟩
    have HO : Hid (Bx W1 w1.heap.size k p t x) := by rw [hW1]; exact Bx.new w1 k p t x 25
    have hB : Below w1.heap.size w1 W1 := by rw [hW1]; exact (Below.refl _ w1).alloc (Nat.le_refl _) _
    replace HB := hidR (B3' HB.out hB)
    replace HEr := hidR (HEr.out.below hB)
    replace HE := hidR (HE.out.below hB)
    clear hB
    go_wp2_with fail
    rw [← hW1]
    clear hW1
    refine (HIm.out _ HEr.out HE.out).mono ?_
    rintro e w2 ⟨vx, rfl, hox, hB⟩
    replace HB := hidR (B3' HB.out hB)
    replace HO := hidR (HO.out.bel hB)
    replace HEr := hidR (HEr.out.below hB)
    replace HE := hidR (HE.out.below hB)
    obtain ⟨ax, gx, cx, rfl, hax, hEx, hcx, -⟩ := hox.at
    have HX := hidR hEx
    have HAX := hidR hax
    clear hox hEx hax
    clear hB
    obtain ⟨b0, b1, b2, b3, -, -, -, -⟩ := HO.out
    go_wp2_with fail
    refine (HSp.out _ HE.out).mono ?_
    rintro e w3 ⟨vy, rfl, hoy, hB⟩
    clear b0 b1 b2 b3
    replace HB := hidR (B3' HB.out hB)
    replace HO := hidR (HO.out.bel hB)
    replace HEr := hidR (HEr.out.below hB)
    replace HE := hidR (HE.out.below hB)
    replace HX := hidR (HX.out.below hB)
    obtain ⟨ay, gy, cy, rfl, hay, hEy, hcy, -⟩ := hoy.at
    have HY := hidR hEy
    have HAY := hidR hay
    clear hoy hEy hay
    clear hB
    obtain ⟨b0, b1, b2, b3, -, -, -, -⟩ := HO.out
    have k0 := cell_regrown b0
    have k1 := cell_regrown b1
    have k2 := cell_regrown b2
    have k3 := cell_regrown b3
    have r0 := fun (d : Nat) (os : Array Obj) => Calls.regrown_of (HSame.out (grow (redrawn w3 d) os) gx gy ax ay cx cy HAX.out HAY.out (HX.out.below (below_regrown w3 d os)) (HY.out.below (below_regrown w3 d os)))
    have r1 := fun (d : Nat) (os : Array Obj) => Calls.regrown_of (HTi.out (grow (redrawn w3 d) os) (HEr.out.below (below_regrown w3 d os)) (HE.out.below (below_regrown w3 d os)))
    have r2 := fun (d : Nat) (os : Array Obj) => Calls.regrown_of (HTs.out (grow (redrawn w3 d) os) (HE.out.below (below_regrown w3 d os)))
    have r3 := fun (d : Nat) (os : Array Obj) => Calls.regrown_of (HOp.out (grow (redrawn w3 d) os))
    have r4 := fun (d : Nat) (os : Array Obj) => Calls.regrown_of (HOs.out (grow (redrawn w3 d) os))
    go_wp2
    refine wp_region_quiet_below (by kernel_rfl) (by kernel_rfl) ?_
    repeat (go_big_quiet_step (first | exact r0 _ _ | exact r1 _ _ | exact r2 _ _ | exact r3 _ _ | exact r4 _ _))
    refine wpQuiet_nil ?_
    intro w4 hw'
    obtain ⟨⟨dq, osq⟩, hw''⟩ := hw'
    have hB : Below w3.heap.size w3 w4 := by rw [hw'']; exact below_regrown w3 dq osq
    clear hw'' r0 r1 r2 r3 r4 k0 k1 k2 k3 b0 b1 b2 b3
    replace HB := hidR (B3' HB.out hB)
    replace HO := hidR (HO.out.bel hB)
    replace HEr := hidR (HEr.out.below hB)
    replace HE := hidR (HE.out.below hB)
    replace HX := hidR (HX.out.below hB)
    clear hB
    obtain ⟨b0, b1, b2, b3, -, -, -, -⟩ := HO.out
    go_wp2_with fail
    refine (HTs.out _ HE.out).mono ?_
    rintro e w5 ⟨rfl, hB⟩
    clear b0 b1 b2 b3
    replace HB := hidR (B3' HB.out hB)
    replace HO := hidR (HO.out.bel hB)
    replace HEr := hidR (HEr.out.below hB)
    replace HE := hidR (HE.out.below hB)
    replace HX := hidR (HX.out.below hB)
    clear hB
    rcases hcase with ⟨rfl, rfl, rfl⟩ | ⟨rfl, h0, hde, h1⟩ | ⟨rfl, rfl, h1⟩
    · go_wp2
      go_ret
      exact ⟨rfl, HB.out⟩
    · subst hde
      have h0' : (cc == 0) = false := by rw [beq_eq_false_iff_ne]; exact h0
      have h0n : (cc != 0) = true := by simp [h0]
      have HSb := hidR (fun (W : World) (h1 : Ents W gx 0 ds) (h2 : Ents W g1 o1 ds) => iTreeSame_any W ax gx 0 cx ds a1 g1 o1 c1 ds (by omega) (by omega) HAX.out HA.out h1 h2)
      rw [sameT_refl ds] at HSb
      have hbb : ((cc == 1) == !bo) = true := by rw [h1]; simp
      obtain ⟨b0, b1, b2, b3, -, -, -, -⟩ := HO.out
      go_wp2_with fail
      refine (HSb.out _ HX.out HE.out).mono ?_
      rintro e w6 ⟨rfl, hB⟩
      clear b0 b1 b2 b3
      replace HB := hidR (B3' HB.out hB)
      replace HO := hidR (HO.out.bel hB)
      clear hB
      obtain ⟨b0, b1, b2, b3, -, -, -, -⟩ := HO.out
      go_wp2_with fail
      refine (HOp.out _).mono ?_
      rintro e w7 ⟨rfl, hB⟩
      clear b0 b1 b2 b3
      replace HB := hidR (B3' HB.out hB)
      replace HO := hidR (HO.out.bel hB)
      clear hB
      go_wp2
      go_ret
      exact ⟨rfl, HB.out⟩
    · have HTx := hidR (fun (W : World) (hEr : Errs8 W ae) (hW : Ents W gx 0 ds) => iTreeOk_any W ax gx 0 cx ds ae hEr.two (by omega) (fun e he => ⟨by have := (HDZ.out e he).1; omega, by have := (HDZ.out e he).2; omega⟩) HAX.out hW)
      rw [h1] at HTx
      obtain ⟨b0, b1, b2, b3, -, -, -, -⟩ := HO.out
      go_wp2_with fail
      refine (HTx.out _ HEr.out HX.out).mono ?_
      rintro e w6 ⟨rfl, hB⟩
      clear b0 b1 b2 b3
      replace HB := hidR (B3' HB.out hB)
      replace HO := hidR (HO.out.bel hB)
      clear hB
      go_wp2
      go_ret
      exact ⟨rfl, HB.out⟩
  · go_enter Tryz.func3, Tryz.ntmps3
    go_wp2
    go_ret
    exact ⟨rfl, Below.refl _ _⟩
end Go.Proofs.YtolfeljefdgikaaGreatDoor
