import Derived.Test.YteppodogghjfhaaGreatDoorHPk41
import Derived.Test.YteppodogghjfhaaGreatDoorHPk46
namespace Go.Proofs.YteppodogghjfhaaGreatDoor.Ov
open Go.RowKit Go.Lib Go.Sort
set_option maxHeartbeats 8000000 in
set_option maxRecDepth 100000 in
theorem walk_fnExactOverPush (ae : Int → Addr) (v : Value) (x : O) (w : World) (hErr0 : Errs2 w ae) (hS0 : Sz maxLen x) (hA00 : Arg w v x) :
  Calls Tryz.prog 8 #[v] w fun r w' => r = .returned (.bool true) ∧ Below w.heap.size w w' := by
 have hA := hA00; obtain ⟨a0, g0, o0, c0, a1, g1, o1, c1, a2, g2, o2, c2, rfl, -⟩ := hA.ex; have HA0 := hidE (fun (W : World) (hb : Below w.heap.size w W) => hA.below hb); have HE0 := hidE (fun (W : World) (hb : Below w.heap.size w W) => hErr0.below hb); have HS0 := hidE hS0; have HB_0 := hidE (Below.refl w.heap.size w); clear hErr0 hA hA00 hS0; go_enter Tryz.func8, Tryz.ntmps8
 obtain ⟨U0, hU0⟩ : ∃ U, w.alloc (.cells #[.slice a0 x.b.length c0, .slice a1 x.l.length c1, .slice a2 x.u.length c2] 26) = U := ⟨_, rfl⟩
 have hBU : Below w.heap.size w U0 := by rw [← hU0]; exact (Below.refl _ w).alloc (Nat.le_refl _) _
 have hbx : C3 U0 w.heap.size (.slice a0 x.b.length c0) (.slice a1 x.l.length c1) (.slice a2 x.u.length c2) := by rw [← hU0]; exact C3.new _ _ _ _ _
 have hza0 : w.heap.size < U0.heap.size := by rw [← hU0]; simp
 have hz1 := hBU.size; have HB_1 := hidE (B3E HB_0.out hBU); have BX_1 := hidE hbx; clear HB_0 hBU hbx; obtain ⟨qBX0, qBX1, qBX2, -, -, -⟩ := BX_1.out; go_wp2_with fail
 refine (szOverT_any _ _ x _ (by omega) (by omega) HS0.out (HA0.out _ HB_1.out)).mono ?_; rintro e w2 ⟨r, rfl, p1, q1, hzz, hB⟩; have hz2 := hB.size; have HB_2 := hidE (B3E HB_1.out hB); have BX_2 := hidE (BX_1.out.below hB); have Z_2 := hidE hzz; clear HB_1 BX_1 hB hzz; clear qBX0 qBX1 qBX2; clear hU0; by_cases hr : 0 ≤ r
 ·
  obtain ⟨hs, ht⟩ := Z_2.out hr; clear Z_2; have HSZ := hidE hs; have HTT : Hid (totO x ≤ 1048576) := by show _ ≤ _; omega
  clear hs ht p1 q1; obtain ⟨qBX0, qBX1, qBX2, -, -, -⟩ := BX_2.out; go_wp2_with fail
  refine (toOver2_any _ _ x HSZ.out (HA0.out _ HB_2.out)).mono ?_; rintro e w3 ⟨vS, rfl, hO, hB⟩; have hz3 := hB.size; have HB_3 := hidE (B3E HB_2.out hB); have BX_3 := hidE (BX_2.out.below hB); have OS_3 := hidE hO; clear HB_2 BX_2 hB hO; clear qBX0 qBX1 qBX2; obtain ⟨pS0, dS0, pS1, dS1, pS2, dS2, rfl⟩ := OS_3.out.ex; have hyz := push_sz HSZ.out; have HYZ := hidE hyz.1; have hyc : 1 + cntO (puO x) * 3 ≤ 1048576 := by have := hyz.2.1; omega
  have hyt : totO (puO x) ≤ 1048576 := by have := hyz.2.2.1; omega
  have hyl : (puO x).l.length ≤ 1048576 := by have := hyz.2.2.2; omega
  clear hyz; go_wp2_with fail
  refine (sOverPush_any _ _ x (OS_3.out.lie HSZ.out)).mono ?_; rintro e w4 ⟨uW, rfl, hLW, hB⟩; have hz4 := hB.size; clear OS_3; have HB_4 := hidE (B3E HB_3.out hB); have BX_4 := hidE (BX_3.out.below hB); clear HB_3 BX_3 hB; obtain ⟨pW0, dW0, pW1, dW1, pW2, dW2, rfl⟩ := hLW.exL; have W0_4 := hidE (hLW.lw); clear hLW; obtain ⟨bb1, hbb1⟩ : ∃ bb, puB x = bb := ⟨_, rfl⟩
  have HBB1 := hidE hbb1; rw [hbb1]; clear hbb1; have hbne1 : (bb1 != bb1) = false := by simp
  obtain ⟨UW, hUW⟩ : ∃ U, w4.alloc (.cells #[.slice pW0 (puO x).b.length dW0, .slice pW1 (puO x).l.length dW1, .slice pW2 (puO x).u.length dW2] 33) = U := ⟨_, rfl⟩
  have hBU : Below w4.heap.size w4 UW := by rw [← hUW]; exact (Below.refl _ w4).alloc (Nat.le_refl _) _
  have hbx : C3 UW w4.heap.size (.slice pW0 (puO x).b.length dW0) (.slice pW1 (puO x).l.length dW1) (.slice pW2 (puO x).u.length dW2) := by rw [← hUW]; exact C3.new _ _ _ _ _
  have hzaW : w4.heap.size < UW.heap.size := by rw [← hUW]; simp
  have hz5 := hBU.size; have HB_5 := hidE (B3E HB_4.out hBU); have BX_5 := hidE (BX_4.out.below hBU); have W0_5 := hidE (W0_4.out.below hBU); have BW_5 := hidE hbx; clear HB_4 BX_4 W0_4 hBU hbx; obtain ⟨qBX0, qBX1, qBX2, -, -, -⟩ := BX_5.out; go_wp2_with fail
  refine (toOver2_any _ _ x HSZ.out (HA0.out _ HB_5.out)).mono ?_; rintro e w6 ⟨vX, rfl, hO, hB⟩; have hz6 := hB.size; have HB_6 := hidE (B3E HB_5.out hB); have BX_6 := hidE (BX_5.out.below hB); have W0_6 := hidE (W0_5.out.below hB); have BW_6 := hidE (BW_5.out.below hB); have OX_6 := hidE hO; clear HB_5 BX_5 W0_5 BW_5 hB hO; clear qBX0 qBX1 qBX2; obtain ⟨pX0, dX0, pX1, dX1, pX2, dX2, rfl⟩ := OX_6.out.ex; clear hUW; obtain ⟨U1, hU1⟩ : ∃ U, w6.alloc (.cells #[.slice pX0 x.b.length dX0, .slice pX1 x.l.length dX1, .slice pX2 x.u.length dX2] 33) = U := ⟨_, rfl⟩
  have hBU : Below w6.heap.size w6 U1 := by rw [← hU1]; exact (Below.refl _ w6).alloc (Nat.le_refl _) _
  have hbx : C3 U1 w6.heap.size (.slice pX0 x.b.length dX0) (.slice pX1 x.l.length dX1) (.slice pX2 x.u.length dX2) := by rw [← hU1]; exact C3.new _ _ _ _ _
  have hza1 : w6.heap.size < U1.heap.size := by rw [← hU1]; simp
  have hz7 := hBU.size; have HB_7 := hidE (B3E HB_6.out hBU); have BX_7 := hidE (BX_6.out.below hBU); have W0_7 := hidE (W0_6.out.below hBU); have BW_7 := hidE (BW_6.out.below hBU); have OX_7 := hidE (OX_6.out.below hBU); have BXX_7 := hidE hbx; clear HB_6 BX_6 W0_6 BW_6 OX_6 hBU hbx; obtain ⟨qBXX0, qBXX1, qBXX2, -, -, -⟩ := BXX_7.out; go_wp2_with fail
  refine (iOverPush_any _ _ x ae (HE0.out _ HB_7.out) (OX_7.out.lie HSZ.out)).mono ?_; rintro e w8 ⟨uG, rfl, hO, hB⟩; have hz8 := hB.size; have HB_8 := hidE (B3E HB_7.out hB); have BX_8 := hidE (BX_7.out.below hB); have W0_8 := hidE (W0_7.out.below hB); have BW_8 := hidE (BW_7.out.below hB); have OX_8 := hidE (OX_7.out.below hB); have BXX_8 := hidE (BXX_7.out.below hB); have G0_8 := hidE hO; clear HB_7 BX_7 W0_7 BW_7 OX_7 BXX_7 hB hO; clear qBXX0 qBXX1 qBXX2; clear hU1; rw [HBB1.out]; obtain ⟨pG0, dG0, pG1, dG1, pG2, dG2, rfl⟩ := G0_8.out.ex; obtain ⟨UG, hUG⟩ : ∃ U, w8.alloc (.cells #[.slice pG0 (puO x).b.length dG0, .slice pG1 (puO x).l.length dG1, .slice pG2 (puO x).u.length dG2] 33) = U := ⟨_, rfl⟩
  have hBU : Below w8.heap.size w8 UG := by rw [← hUG]; exact (Below.refl _ w8).alloc (Nat.le_refl _) _
  have hbx : C3 UG w8.heap.size (.slice pG0 (puO x).b.length dG0) (.slice pG1 (puO x).l.length dG1) (.slice pG2 (puO x).u.length dG2) := by rw [← hUG]; exact C3.new _ _ _ _ _
  have hzaG : w8.heap.size < UG.heap.size := by rw [← hUG]; simp
  have hz9 := hBU.size; have HB_9 := hidE (B3E HB_8.out hBU); have BX_9 := hidE (BX_8.out.below hBU); have W0_9 := hidE (W0_8.out.below hBU); have BW_9 := hidE (BW_8.out.below hBU); have OX_9 := hidE (OX_8.out.below hBU); have BXX_9 := hidE (BXX_8.out.below hBU); have G0_9 := hidE (G0_8.out.below hBU); have BG_9 := hidE hbx; clear HB_8 BX_8 W0_8 BW_8 OX_8 BXX_8 G0_8 hBU hbx; obtain ⟨qBG0, qBG1, qBG2, -, -, -⟩ := BG_9.out; obtain ⟨qBW0, qBW1, qBW2, -, -, -⟩ := BW_9.out; go_wp2_with fail
  refine (eqOver_selfN _ _ _ _ HYZ.out G0_9.out.arg W0_9.out.arg).mono ?_; rintro e w10 ⟨rfl, hB⟩; have hz10 := hB.size; have HB_10 := hidE (B3E HB_9.out hB); have BX_10 := hidE (BX_9.out.below hB); have W0_10 := hidE (W0_9.out.below hB); have BW_10 := hidE (BW_9.out.below hB); have OX_10 := hidE (OX_9.out.below hB); have BXX_10 := hidE (BXX_9.out.below hB); have G0_10 := hidE (G0_9.out.below hB); have BG_10 := hidE (BG_9.out.below hB); clear HB_9 BX_9 W0_9 BW_9 OX_9 BXX_9 G0_9 BG_9 hB; clear qBG0 qBG1 qBG2 qBW0 qBW1 qBW2; clear hUG; have AO_10 := hidE (HA0.out _ HB_10.out); have FBXX := hidE (fun (W : World) (hb : Below w10.heap.size w10 W) => BXX_10.out.below hb); have FBX := hidE (fun (W : World) (hb : Below w10.heap.size w10 W) => BX_10.out.below hb); have FAO := hidE (fun (W : World) (hb : Below w10.heap.size w10 W) => AO_10.out.below hb); have FOX := hidE (fun (W : World) (hb : Below w10.heap.size w10 W) => OX_10.out.below hb); go_wp2
  refine wp_region_held_drew (S := fun W' => Below w10.heap.size w10 W') (by kernel_rfl) ((Below.refl _ w10).drew) (fun hS0 => ?_); refine wpAnyH_take (i := 0) (v := ?_) rfl (by kernel_rfl) (by kernel_rfl) (by kernel_rfl) (fun _ _ _ h => h) (Or.inl ⟨by kernel_rfl, ?_⟩) hS0 ?_
  rotate_left 1
  ·
   intro w' hw'; obtain ⟨zBXX0, zBXX1, zBXX2, -, -, -⟩ := FBXX.out w' hw'; go_simp; first | done | with_reducible rfl
  refine wpAnyH_take (i := 1) (v := ?_) rfl (by kernel_rfl) (by kernel_rfl) (by kernel_rfl) (fun _ _ _ h => h) (Or.inl ⟨by kernel_rfl, ?_⟩) hS0 ?_
  rotate_left 1
  ·
   intro w' hw'; obtain ⟨zBX0, zBX1, zBX2, -, -, -⟩ := FBX.out w' hw'; go_simp; first | done | with_reducible rfl
  refine wpAnyH_ready (rs := [2]) (by kernel_rfl) (by simp) (AllReadyH.cons rfl (fun K hK => ?_) AllReadyH.nil); go_simp; go_wp2_with (first | (go_at_call 11; refine (toOver2_any _ _ x HSZ.out (FAO.out _ hS0)).mono ?_; rintro e y1 ⟨vT, rfl, hT, hBr⟩) | fail)
  have hS1 : Below w10.heap.size w10 y1 := B3 hS0 hBr; have HT := hidE (hT); clear hBr; refine hK.out _ _ hS1 (fun _ => ?_); clear hK K; refine wpAnyH_ready (rs := [3]) (by kernel_rfl) (by simp) (AllReadyH.cons rfl (fun K hK => ?_) AllReadyH.nil); go_simp; go_wp2_with (first | (go_at_call 13; refine (eqOver_self _ _ _ x HSZ.out ((FOX.out _ hS1).arg) HT.out.arg).mono ?_; rintro e y2 ⟨rfl, hBr⟩) | fail)
  have hS2 : Below w10.heap.size w10 y2 := B3 hS1 hBr; clear hBr; refine hK.out _ _ hS2 (fun _ => ?_); clear hK K; refine wpAnyH_take (i := 4) (v := ?_) rfl (by kernel_rfl) (by kernel_rfl) (by kernel_rfl) (fun _ _ _ h => h) (Or.inl ⟨by kernel_rfl, ?_⟩) hS2 ?_
  rotate_left 1
  ·
   intro w' hw'; go_simp; first | done | with_reducible rfl
  refine wpAnyH_done (by kernel_rfl) ?_ _; clear FBXX FBX FAO FOX hS0 hS1 HT; have hz11 := hS2.size; have HB_11 := hidE (B3E HB_10.out hS2); have BX_11 := hidE (BX_10.out.below hS2); have W0_11 := hidE (W0_10.out.below hS2); have BW_11 := hidE (BW_10.out.below hS2); have OX_11 := hidE (OX_10.out.below hS2); have BXX_11 := hidE (BXX_10.out.below hS2); have G0_11 := hidE (G0_10.out.below hS2); have BG_11 := hidE (BG_10.out.below hS2); have AO_11 := hidE (AO_10.out.below hS2); clear HB_10 BX_10 W0_10 BW_10 OX_10 BXX_10 G0_10 BG_10 AO_10 hS2; clear AO_11; obtain ⟨qBXX0, qBXX1, qBXX2, -, -, -⟩ := BXX_11.out; go_wp2_with fail
  refine (OX_11.out.mark (by omega) HTT.out).mono ?_; rintro e wM ⟨rfl, -, hW⟩; clear OX_11 BXX_11; clear qBXX0 qBXX1 qBXX2; have hz12 := hW.size; have HB_12 := hidE (hW.belowE HB_11.out HB_11.out.size (by omega)); have BX_12 := hidE (BX_11.out.win hW (by omega)); have W0_12 := hidE (W0_11.out.win hW (by omega)); have BW_12 := hidE (BW_11.out.win hW (by omega)); have G0_12 := hidE (G0_11.out.win hW (by omega)); have BG_12 := hidE (BG_11.out.win hW (by omega)); clear HB_11 BX_11 W0_11 BW_11 G0_11 BG_11 hW; have hk0 : ¬ ((1 + cntO x * 3 : Nat) : Int) < 0 := by omega
  obtain ⟨kz, hkz⟩ : ∃ kz, ((1 + cntO x * 3 : Nat) : Int) = kz := ⟨_, rfl⟩
  rw [hkz] at hk0; rw [hkz]; clear hkz; obtain ⟨qBG0, qBG1, qBG2, -, -, -⟩ := BG_12.out; obtain ⟨qBW0, qBW1, qBW2, -, -, -⟩ := BW_12.out; go_wp2_with fail
  refine (eqOver_selfN _ _ _ _ HYZ.out G0_12.out.arg W0_12.out.arg).mono ?_; rintro e w13 ⟨rfl, hB⟩; have hz13 := hB.size; have HB_13 := hidE (B3E HB_12.out hB); have BX_13 := hidE (BX_12.out.below hB); have W0_13 := hidE (W0_12.out.below hB); have BW_13 := hidE (BW_12.out.below hB); have G0_13 := hidE (G0_12.out.below hB); have BG_13 := hidE (BG_12.out.below hB); clear HB_12 BX_12 W0_12 BW_12 G0_12 BG_12 hB; clear qBG0 qBG1 qBG2 qBW0 qBW1 qBW2; obtain ⟨qBG0, qBG1, qBG2, -, -, -⟩ := BG_13.out; go_wp2_with fail
  refine (G0_13.out.mark (by omega) hyt).mono ?_; rintro e wN ⟨rfl, hM, hW⟩; clear G0_13 qBG0 qBG1 qBG2; have hz14 := hW.size; have HB_14 := hidE (hW.belowE HB_13.out HB_13.out.size (by omega)); have BX_14 := hidE (BX_13.out.win hW (by omega)); have W0_14 := hidE (W0_13.out.win hW (by omega)); have BW_14 := hidE (BW_13.out.win hW (by omega)); have BG_14 := hidE (BG_13.out.win hW (by omega)); have M0_14 := hidE hM; clear HB_13 BX_13 W0_13 BW_13 BG_13 hW hM; have hm0 : ¬ ((1 + cntO (puO x) * 3 : Nat) : Int) < 0 := by omega
  obtain ⟨mm, hmm⟩ : ∃ mm, ((1 + cntO (puO x) * 3 : Nat) : Int) = mm := ⟨_, rfl⟩
  have HMM := hidE hmm; rw [hmm] at hm0; rw [hmm]; clear hmm; have hmne : (mm != mm) = false := by simp
  obtain ⟨qBG0, qBG1, qBG2, -, -, -⟩ := BG_14.out; go_wp2_with fail
  refine (M0_14.out.held hyc hyl).mono ?_; rintro e w15 ⟨rfl, hB⟩; have hz15 := hB.size; have HB_15 := hidE (B3E HB_14.out hB); have BX_15 := hidE (BX_14.out.below hB); have W0_15 := hidE (W0_14.out.below hB); have BW_15 := hidE (BW_14.out.below hB); have BG_15 := hidE (BG_14.out.below hB); have M0_15 := hidE (M0_14.out.below hB); clear HB_14 BX_14 W0_14 BW_14 BG_14 M0_14 hB; clear qBG0 qBG1 qBG2; rw [HMM.out]; obtain ⟨qBX0, qBX1, qBX2, -, -, -⟩ := BX_15.out; go_wp2_with fail
  refine (toOver2_any _ _ x HSZ.out (HA0.out _ HB_15.out)).mono ?_; rintro e w16 ⟨vH, rfl, hO, hB⟩; have hz16 := hB.size; have HB_16 := hidE (B3E HB_15.out hB); have BX_16 := hidE (BX_15.out.below hB); have W0_16 := hidE (W0_15.out.below hB); have BW_16 := hidE (BW_15.out.below hB); have BG_16 := hidE (BG_15.out.below hB); have M0_16 := hidE (M0_15.out.below hB); have OH_16 := hidE hO; clear HB_15 BX_15 W0_15 BW_15 BG_15 M0_15 hB hO; clear qBX0 qBX1 qBX2; obtain ⟨pH0, dH0, pH1, dH1, pH2, dH2, rfl⟩ := OH_16.out.ex; go_wp2_with fail
  refine (iOverPush_any _ _ x ae (HE0.out _ HB_16.out) (OH_16.out.lie HSZ.out)).mono ?_; rintro e w17 ⟨uH, rfl, hO, hB⟩; have hz17 := hB.size; clear OH_16; have HB_17 := hidE (B3E HB_16.out hB); have BX_17 := hidE (BX_16.out.below hB); have W0_17 := hidE (W0_16.out.below hB); have BW_17 := hidE (BW_16.out.below hB); have BG_17 := hidE (BG_16.out.below hB); have M0_17 := hidE (M0_16.out.below hB); have H0_17 := hidE hO; clear HB_16 BX_16 W0_16 BW_16 BG_16 M0_16 hB hO; rw [HBB1.out]; obtain ⟨pH0, dH0, pH1, dH1, pH2, dH2, rfl⟩ := H0_17.out.ex; obtain ⟨UH, hUH⟩ : ∃ U, w17.alloc (.cells #[.slice pH0 (puO x).b.length dH0, .slice pH1 (puO x).l.length dH1, .slice pH2 (puO x).u.length dH2] 33) = U := ⟨_, rfl⟩
  have hBU : Below w17.heap.size w17 UH := by rw [← hUH]; exact (Below.refl _ w17).alloc (Nat.le_refl _) _
  have hbx : C3 UH w17.heap.size (.slice pH0 (puO x).b.length dH0) (.slice pH1 (puO x).l.length dH1) (.slice pH2 (puO x).u.length dH2) := by rw [← hUH]; exact C3.new _ _ _ _ _
  have hzaH : w17.heap.size < UH.heap.size := by rw [← hUH]; simp
  have hz18 := hBU.size; have HB_18 := hidE (B3E HB_17.out hBU); have BX_18 := hidE (BX_17.out.below hBU); have W0_18 := hidE (W0_17.out.below hBU); have BW_18 := hidE (BW_17.out.below hBU); have BG_18 := hidE (BG_17.out.below hBU); have M0_18 := hidE (M0_17.out.below hBU); have H0_18 := hidE (H0_17.out.below hBU); have BH_18 := hidE hbx; clear HB_17 BX_17 W0_17 BW_17 BG_17 M0_17 H0_17 hBU hbx; obtain ⟨qBH0, qBH1, qBH2, -, -, -⟩ := BH_18.out; obtain ⟨qBW0, qBW1, qBW2, -, -, -⟩ := BW_18.out; go_wp2_with fail
  refine (eqOver_selfN _ _ _ _ HYZ.out H0_18.out.arg W0_18.out.arg).mono ?_; rintro e w19 ⟨rfl, hB⟩; have hz19 := hB.size; have HB_19 := hidE (B3E HB_18.out hB); have BX_19 := hidE (BX_18.out.below hB); have W0_19 := hidE (W0_18.out.below hB); have BW_19 := hidE (BW_18.out.below hB); have BG_19 := hidE (BG_18.out.below hB); have M0_19 := hidE (M0_18.out.below hB); have H0_19 := hidE (H0_18.out.below hB); have BH_19 := hidE (BH_18.out.below hB); clear HB_18 BX_18 W0_18 BW_18 BG_18 M0_18 H0_18 BH_18 hB; clear qBH0 qBH1 qBH2 qBW0 qBW1 qBW2; clear hUH; clear H0_19; clear BH_19; clear W0_19; clear BW_19; obtain ⟨qBG0, qBG1, qBG2, -, -, -⟩ := BG_19.out; go_wp2_with fail
  refine (M0_19.out.held hyc hyl).mono ?_; rintro e w20 ⟨rfl, hB⟩; have hz20 := hB.size; have HB_20 := hidE (B3E HB_19.out hB); have BX_20 := hidE (BX_19.out.below hB); have BG_20 := hidE (BG_19.out.below hB); have M0_20 := hidE (M0_19.out.below hB); clear HB_19 BX_19 BG_19 M0_19 hB; clear qBG0 qBG1 qBG2; rw [HMM.out]; go_wp2
  go_ret
  exact ⟨rfl, HB_20.out⟩
 ·
  go_wp2
  go_ret
  exact ⟨rfl, HB_2.out⟩
end Go.Proofs.YteppodogghjfhaaGreatDoor.Ov
