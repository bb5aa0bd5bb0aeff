import Derived.Lib.QuietBelow
import Derived.Test.YtafeddiijemnbaaGreatDoorHPk18
import Derived.Test.YtafeddiijemnbaaGreatDoorHTreeDoI
import Derived.Test.YtafeddiijemnbaaGreatDoorHPk29
import Derived.Test.YtafeddiijemnbaaGreatDoorHPk05
import Derived.Test.YtafeddiijemnbaaGreatDoorHPk30
import Derived.Test.YtafeddiijemnbaaGreatDoorHLgBack
import Derived.Test.YtafeddiijemnbaaGreatDoorHLgSpB
namespace Go.Proofs.YtafeddiijemnbaaGreatDoor
open Go.RowKit Go.Lib Go.Sort
attribute [local go_sem] eq_op guard_op
set_option maxHeartbeats 4000000 in
set_option maxRecDepth 100000 in
theorem walk_fnOpBack (ae : Int → Addr) (a : Option Addr) (len cap : Nat) (zs : List Int) (w : World) (hErr : Errs8 w ae) (hw : IsRow .u8 w a len cap zs) :
  Calls Tryz.prog 3 #[.slice a len cap] w fun e w' => e = .returned (.bool true) ∧ Below w.heap.size w w' := by
 have hC := hidR hw.cod; have HEr := hidR hErr; clear hw hErr; by_cases hl : len ≤ 1048576
 ·
  go_enter Tryz.func3, Tryz.ntmps3
  go_wp2_with fail
  refine (DrawOpBack_any _ a len cap hl hC.out).mono ?_; rintro e w1 ⟨v, es, k, p, t, x, rfl, hL, hS, zp, zt, zx, hB⟩; obtain ⟨a1, g1, o1, c1, rfl, ha1, hE, hc1, -⟩ := hL; have HB := hidR hB; replace HEr := hidR (HEr.out.below hB); have HE := hidR hE; have HA := hidR ha1; have HZ : Hid (∀ e ∈ es, e.p.size ≤ 16777216 ∧ e.x.size ≤ 16777216) := fun e he => ⟨by have := (hS.2 e he).1; omega, by have := (hS.2 e he).2; omega⟩; have HZ16 := hidR hS.2; have hlen : es.length ≤ 17 := hS.1; have hn1 : es.length ≤ 1048576 := by omega
  have hn2 : es.length ≤ 16777216 := by omega
  have hp : p.size ≤ 16777216 := by omega
  have ht : t.size ≤ 16777216 := by have := okS_size zt; omega
  have hx : x.size ≤ 16777216 := by omega
  clear hB hC hE ha1 hS zt; have HIm := hidR (fun (W : World) (hEr : Errs8 W ae) (hW : Ents W g1 o1 es) => iTreeDo_any W a1 g1 o1 c1 es k p t x ae hEr hn2 hp ht hx HZ.out HA.out hW); have HOi := hidR (fun (W : World) (hEr : Errs8 W ae) (hW : Ents W g1 o1 es) => iOpBack_any W a1 g1 o1 c1 es k p t x ae hEr hn2 hp ht hx HZ.out HA.out hW); have HOs := hidR (fun (W : World) (hW : Ents W g1 o1 es) => sOpBack_any W a1 g1 o1 c1 es k p t x hn1 hc1 hp ht hx HZ.out HA.out hW); have HDS := hidR (do_lens es k p t x)
  have hcase : (doC es ⟨k, p, t, x⟩ ≠ 0 ∧ bkB es ⟨k, p, t, x⟩ = false ∧ bkO es ⟨k, p, t, x⟩ = ⟨0, ⟨#[]⟩, ⟨#[]⟩, ⟨#[]⟩⟩) ∨ (doC es ⟨k, p, t, x⟩ = 0 ∧ bkB es ⟨k, p, t, x⟩ = true ∧ ∃ b, bkO es ⟨k, p, t, x⟩ = b ∧ (b.p.size ≤ 16777216 ∧ b.t.size ≤ 16777216 ∧ b.x.size ≤ 16777216) ∧
    doC (doE es ⟨k, p, t, x⟩) b = 0 ∧ doE (doE es ⟨k, p, t, x⟩) b = es ∧ bkB (doE es ⟨k, p, t, x⟩) b = true ∧ ∃ ag, bkO (doE es ⟨k, p, t, x⟩) b = ag ∧ (ag.p.size ≤ 16777216 ∧ ag.t.size ≤ 16777216 ∧ ag.x.size ≤ 16777216) ∧ doC es ag = 0 ∧ doE es ag = doE es ⟨k, p, t, x⟩) := by
   by_cases h0 : doC es ⟨k, p, t, x⟩ = 0
   ·
    have d := (done_iff es ⟨k, p, t, x⟩).1 h0; obtain ⟨u1, u2⟩ := bk_undo d; have d2 := (done_iff (doE es ⟨k, p, t, x⟩) (bkE es ⟨k, p, t, x⟩)).1 u1; obtain ⟨v1, v2⟩ := bk_undo d2; rw [u2] at v1 v2; have z1 := bk_sz (es := es) (o := ⟨k, p, t, x⟩) (m := 16777216) HZ.out hp ht; have z2 := bk_sz (es := doE es ⟨k, p, t, x⟩) (o := bkE es ⟨k, p, t, x⟩) (m := 16777216) (fun e he => ⟨by have := (HDS.out.2 e he).1; omega, by have := (HDS.out.2 e he).2; omega⟩) z1.1 z1.2.1; refine .inr ⟨h0, by unfold bkB; rw [h0]; rfl, _, by unfold bkO; rw [if_pos h0], z1, u1, u2, by unfold bkB; rw [u1]; rfl, _, by unfold bkO; rw [if_pos u1], z2, v1, v2⟩
   ·
    exact .inl ⟨h0, by unfold bkB; rw [decide_eq_false h0], by unfold bkO; rw [if_neg h0]⟩
  have hlen2 := HDS.out.1; have HDZ : Hid (∀ e ∈ doE es ⟨k, p, t, x⟩, e.p.size ≤ 16777216 ∧ e.x.size ≤ 16777216) := fun e he => ⟨by have := (HDS.out.2 e he).1; omega, by have := (HDS.out.2 e he).2; omega⟩; clear HDS; obtain ⟨ds, hds⟩ : ∃ ds, doE es ⟨k, p, t, x⟩ = ds := ⟨_, rfl⟩
  obtain ⟨cc, hcc⟩ : ∃ cc, doC es ⟨k, p, t, x⟩ = cc := ⟨_, rfl⟩
  obtain ⟨bb, hbb⟩ : ∃ bb, bkB es ⟨k, p, t, x⟩ = bb := ⟨_, rfl⟩
  obtain ⟨⟨k', p', t', x'⟩, hbo⟩ : ∃ bo, bkO es ⟨k, p, t, x⟩ = bo := ⟨_, rfl⟩
  unfold opV at HOi HOs; rw [hbb, hbo] at HOi HOs; rw [hds, hcc] at HIm; rw [hds] at HDZ hlen2; rw [hds, hcc, hbb, hbo] at hcase; clear hds hcc hbb hbo; have hbne : (bb != bb) = false := by simp
  have e1 : (k' == k') = true := by simp
  have e2 : (p'.toList == p'.toList) = true := by simp
  have e3 : (t'.toList == t'.toList) = true := by simp
  have e4 : (x'.toList == x'.toList) = true := by simp
  obtain ⟨W1, hW1⟩ : ∃ W1, W1 = w1.alloc (.cells #[.int .i64 k, .string p, .string t, .string x] 25) := ⟨_, rfl⟩
  have HO : Hid (Bx W1 w1.heap.size k p t x) := by rw [hW1]; exact Bx.new w1 k p t x 25
  have hB : Below w1.heap.size w1 W1 := by rw [hW1]; exact (Below.refl _ w1).alloc (Nat.le_refl _) _
  replace HB := hidR (B3' HB.out hB); replace HEr := hidR (HEr.out.below hB); replace HE := hidR (HE.out.below hB); clear hB; go_wp2_with fail
  rw [← hW1]; clear hW1; refine (HOi.out _ HEr.out HE.out).mono ?_; rintro e w2 ⟨rfl, hB⟩; obtain ⟨W2, hW2⟩ : ∃ W2, w2.alloc (.cells #[.int .i64 k', .string p', .string t', .string x'] 25) = W2 := ⟨_, rfl⟩
  have HK : Hid (Bx W2 w2.heap.size k' p' t' x') := by rw [← hW2]; exact Bx.new w2 k' p' t' x' 25
  replace hB : Below W1.heap.size W1 W2 := by rw [← hW2]; exact hB.alloc hB.size _
  replace HB := hidR (B3' HB.out hB); replace HO := hidR (HO.out.bel hB); replace HEr := hidR (HEr.out.below hB); replace HE := hidR (HE.out.below hB); clear hB; obtain ⟨b0, b1, b2, b3, -, -, -, -⟩ := HO.out; go_wp2_with fail
  clear hW2; refine (HOs.out _ HE.out).mono ?_; rintro e w3 ⟨rfl, hB⟩; clear b0 b1 b2 b3; obtain ⟨W3, hW3⟩ : ∃ W3, w3.alloc (.cells #[.int .i64 k', .string p', .string t', .string x'] 25) = W3 := ⟨_, rfl⟩
  have HQ : Hid (Bx W3 w3.heap.size k' p' t' x') := by rw [← hW3]; exact Bx.new w3 k' p' t' x' 25
  replace hB : Below W2.heap.size W2 W3 := by rw [← hW3]; exact hB.alloc hB.size _
  replace HB := hidR (B3' HB.out hB); replace HO := hidR (HO.out.bel hB); replace HK := hidR (HK.out.bel hB); replace HEr := hidR (HEr.out.below hB); replace HE := hidR (HE.out.below hB); clear hB; obtain ⟨b0, b1, b2, b3, -, -, -, -⟩ := HO.out; obtain ⟨d0, d1, d2, d3, -, -, -, -⟩ := HK.out; obtain ⟨q0, q1, q2, q3, -, -, -, -⟩ := HQ.out; go_wp2_with fail
  refine (HIm.out _ HEr.out HE.out).mono ?_; rintro e w4 ⟨vx, rfl, hox, hB⟩; clear hW3 b0 b1 b2 b3 d0 d1 d2 d3 q0 q1 q2 q3 HQ; replace HB := hidR (B3' HB.out hB); replace HO := hidR (HO.out.bel hB); replace HK := hidR (HK.out.bel hB); replace HEr := hidR (HEr.out.below hB); replace HE := hidR (HE.out.below hB); obtain ⟨ax, gx, cx, rfl, hax, hEx, hcx, -⟩ := hox.at; have HX := hidR hEx; have HAX := hidR hax; clear hox hEx hax hB; rcases hcase with ⟨h0, rfl, hz⟩ | ⟨rfl, rfl, b, hb, zb, u1, u2, u3, ag, hag, zg, v1, v2⟩
  ·
   injection hz with z1 z2 z3 z4
   subst z1 z2 z3 z4; have h1 : (cc != 0) = true := by simp [h0]
   obtain ⟨d0, d1, d2, d3, -, -, -, -⟩ := HK.out; go_wp2
   go_ret
   exact ⟨rfl, HB.out⟩
  ·
   subst hb; obtain ⟨k2, p2, t2, x2⟩ := ag; have HI2 := hidR (fun (W : World) (hEr : Errs8 W ae) (hW : Ents W gx 0 ds) => iTreeDo_any W ax gx 0 cx ds k' p' t' x' ae hEr (by omega) zb.1 zb.2.1 zb.2.2 HDZ.out HAX.out hW); rw [u1, u2] at HI2; have HO2 := hidR (fun (W : World) (hEr : Errs8 W ae) (hW : Ents W gx 0 ds) => iOpBack_any W ax gx 0 cx ds k' p' t' x' ae hEr (by omega) zb.1 zb.2.1 zb.2.2 HDZ.out HAX.out hW); unfold opV at HO2; rw [u3, hag] at HO2; have HI3 := hidR (fun (W : World) (a g o' c) (hA : 0 < es.length → a = some ⟨g, o', none⟩) (hEr : Errs8 W ae) (hW : Ents W g o' es) => iTreeDo_any W a g o' c es k2 p2 t2 x2 ae hEr hn2 zg.1 zg.2.1 zg.2.2 HZ.out hA hW); rw [v1, v2] at HI3; clear hag u1 u2 u3 v1 v2; have HSame := hidR (fun (W : World) (g g' : Nat) (a a' : Option Addr) (o' c c' : Nat) (ha : 0 < es.length → a = some ⟨g, 0, none⟩) (ha' : 0 < es.length → a' = some ⟨g', o', none⟩) (h1 : Ents W g 0 es) (h2 : Ents W g' o' es) => iTreeSame_any W a g 0 c es a' g' o' c' es (by omega) (by omega) ha ha' h1 h2); rw [sameT_refl es] at HSame; have HSam2 := hidR (fun (W : World) (g g' : Nat) (a a' : Option Addr) (o' c c' : Nat) (ha : 0 < ds.length → a = some ⟨g, 0, none⟩) (ha' : 0 < ds.length → a' = some ⟨g', o', none⟩) (h1 : Ents W g 0 ds) (h2 : Ents W g' o' ds) => iTreeSame_any W a g 0 c ds a' g' o' c' ds (by omega) (by omega) ha ha' h1 h2); rw [sameT_refl ds] at HSam2; obtain ⟨d0, d1, d2, d3, -, -, -, -⟩ := HK.out; go_wp2_with fail
   refine (HI2.out _ HEr.out HX.out).mono ?_; rintro e w5 ⟨vy, rfl, hoy, hB⟩; clear d0 d1 d2 d3; replace HB := hidR (B3' HB.out hB); replace HK := hidR (HK.out.bel hB); replace HEr := hidR (HEr.out.below hB); replace HE := hidR (HE.out.below hB); replace HX := hidR (HX.out.below hB); obtain ⟨ay, gy, cy, rfl, hay, hEy, hcy, -⟩ := hoy.at; have HY := hidR hEy; have HAY := hidR hay; clear hoy hEy hay hB; obtain ⟨d0, d1, d2, d3, -, -, -, -⟩ := HK.out; go_wp2_with fail
   refine (HO2.out _ HEr.out HX.out).mono ?_; rintro e w6 ⟨rfl, hB⟩; clear d0 d1 d2 d3; obtain ⟨W6, hW6⟩ : ∃ W6, w6.alloc (.cells #[.int .i64 k2, .string p2, .string t2, .string x2] 25) = W6 := ⟨_, rfl⟩
   have HQ : Hid (Bx W6 w6.heap.size k2 p2 t2 x2) := by rw [← hW6]; exact Bx.new w6 k2 p2 t2 x2 25
   replace hB : Below w5.heap.size w5 W6 := by rw [← hW6]; exact hB.alloc hB.size _
   replace HB := hidR (B3' HB.out hB); replace HEr := hidR (HEr.out.below hB); replace HE := hidR (HE.out.below hB); replace HX := hidR (HX.out.below hB); replace HY := hidR (HY.out.below hB); clear hB; obtain ⟨d0, d1, d2, d3, -, -, -, -⟩ := HQ.out; go_wp2_with fail
   refine (HI3.out _ _ _ _ _ HAY.out HEr.out HY.out).mono ?_; rintro e w7 ⟨vz, rfl, hoz, hB⟩; clear d0 d1 d2 d3 hW6; replace HB := hidR (B3' HB.out hB); replace HE := hidR (HE.out.below hB); replace HX := hidR (HX.out.below hB); replace HY := hidR (HY.out.below hB); obtain ⟨az, gz, cz, rfl, haz, hEz, hcz, -⟩ := hoz.at; have HZz := hidR hEz; have HAZ := hidR haz; clear hoz hEz haz hB; go_wp2_with fail
   refine (HSame.out _ gy g1 _ _ _ _ _ HAY.out HA.out HY.out HE.out).mono ?_; rintro e w8 ⟨rfl, hB⟩; replace HB := hidR (B3' HB.out hB); replace HX := hidR (HX.out.below hB); replace HZz := hidR (HZz.out.below hB); clear hB; go_wp2_with fail
   refine (HSam2.out _ gz gx _ _ _ _ _ HAZ.out HAX.out HZz.out HX.out).mono ?_; rintro e w9 ⟨rfl, hB⟩; replace HB := hidR (B3' HB.out hB); clear hB; go_wp2
   go_ret
   exact ⟨rfl, HB.out⟩
 ·
  go_enter Tryz.func3, Tryz.ntmps3
  go_wp2
  go_ret
  exact ⟨rfl, Below.refl _ _⟩
end Go.Proofs.YtafeddiijemnbaaGreatDoor
