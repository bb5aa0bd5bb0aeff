/-
  The walk of the law FnExactOverView, out of the contracts.
-/
import Derived.Test.YteppodogghjfhaaGreatDoorHPk27
import Derived.Test.YteppodogghjfhaaGreatDoorHOvLv
namespace Go.Proofs.YteppodogghjfhaaGreatDoor.Ov
open Go.RowKit Go.Lib Go.Sort

set_option maxHeartbeats 8000000 in
set_option maxRecDepth 100000 in
theorem walk_fnExactOverView (ae : Int → Addr) (v : Value) (x : O) (w : World) (hErr0 : Errs2 w ae) (hS0 : Sz maxLen x) (hA00 : Arg w v x) :
    Calls Tryz.prog 5 #[v] w fun r w' => r = .returned (.bool true) ∧ Below w.heap.size w w' := by
  have hA := hA00
  obtain ⟨a0, g0, o0, c0, a1, g1, o1, c1, a2, g2, o2, c2, rfl, -⟩ := hA.ex
  have HA0 := hidE (fun (W : World) (hb : Below w.heap.size w W) => hA.below hb)
  have HE0 := hidE (fun (W : World) (hb : Below w.heap.size w W) => hErr0.below hb)
  have HS0 := hidE hS0
  have HB_0 := hidE (Below.refl w.heap.size w)
  clear hErr0 hA hA00 hS0
  go_enter Tryz.func5, Tryz.ntmps5
  obtain ⟨U0, hU0⟩ : ∃ U, w.alloc (.cells #[.slice a0 x.b.length c0, .slice a1 x.l.length c1, .slice a2 x.u.length c2] 26) = U := ⟨_, rfl⟩
  have hBU : Below w.heap.size w U0 := by rw [← hU0]; exact (Below.refl _ w).alloc (Nat.le_refl _) _
  have hbx : C3 U0 w.heap.size (.slice a0 x.b.length c0) (.slice a1 x.l.length c1) (.slice a2 x.u.length c2) := by rw [← hU0]; exact C3.new _ _ _ _ _
  have hza0 : w.heap.size < U0.heap.size := by rw [← hU0]; simp
  have hz1 := hBU.size
  have HB_1 := hidE (B3E HB_0.out hBU)
  have BX_1 := hidE hbx
  clear HB_0 hBU hbx
  obtain ⟨qBX0, qBX1, qBX2, -, -, -⟩ := BX_1.out
  go_wp2_with fail
  refine (szOverT_any _ _ x _ (by omega) (by omega) HS0.out (HA0.out _ HB_1.out)).mono ?_
  rintro e w2 ⟨r, rfl, p1, q1, hzz, hB⟩
  have hz2 := hB.size
  have HB_2 := hidE (B3E HB_1.out hB)
  have BX_2 := hidE (BX_1.out.below hB)
  have Z_2 := hidE hzz
  clear HB_1 BX_1 hB hzz
  clear qBX0 qBX1 qBX2
  clear hU0
  by_cases hr : 0 ≤ r
  · obtain ⟨hs, ht⟩ := Z_2.out hr
    clear Z_2
    have HSZ := hidE hs
    have HTT : Hid (totO x ≤ 1048576) := by show _ ≤ _; omega
    clear hs ht p1 q1
    obtain ⟨qBX0, qBX1, qBX2, -, -, -⟩ := BX_2.out
    go_wp2_with fail
    refine (toOver2_any _ _ x HSZ.out (HA0.out _ HB_2.out)).mono ?_
    rintro e w3 ⟨vS, rfl, hO, hB⟩
    have hz3 := hB.size
    have HB_3 := hidE (B3E HB_2.out hB)
    have BX_3 := hidE (BX_2.out.below hB)
    have OS_3 := hidE hO
    clear HB_2 BX_2 hB hO
    clear qBX0 qBX1 qBX2
    obtain ⟨pS0, dS0, pS1, dS1, pS2, dS2, rfl⟩ := OS_3.out.ex
    have hlen := se_len x
    go_wp2_with fail
    refine (sOverView_any _ _ x (OS_3.out.lie HSZ.out)).mono ?_
    rintro e w4 ⟨uW, rfl, hO, hB⟩
    have hz4 := hB.size
    clear OS_3
    have HB_4 := hidE (B3E HB_3.out hB)
    have BX_4 := hidE (BX_3.out.below hB)
    have W0_4 := hidE ((own_oe hO).ren (by omega))
    clear HB_3 BX_3 hB
    clear hO
    obtain ⟨bb1, hbb1⟩ : ∃ bb, okB x = bb := ⟨_, rfl⟩
    have HBB1 := hidE hbb1
    rw [hbb1]
    clear hbb1
    have hbne1 : (bb1 != bb1) = false := by simp
    obtain ⟨qBX0, qBX1, qBX2, -, -, -⟩ := BX_4.out
    go_wp2_with fail
    refine (toOver2_any _ _ x HSZ.out (HA0.out _ HB_4.out)).mono ?_
    rintro e w5 ⟨vX, rfl, hO, hB⟩
    have hz5 := hB.size
    have HB_5 := hidE (B3E HB_4.out hB)
    have BX_5 := hidE (BX_4.out.below hB)
    have W0_5 := hidE (W0_4.out.below hB)
    have OX_5 := hidE hO
    clear HB_4 BX_4 W0_4 hB hO
    clear qBX0 qBX1 qBX2
    obtain ⟨pX0, dX0, pX1, dX1, pX2, dX2, rfl⟩ := OX_5.out.ex
    obtain ⟨U1, hU1⟩ : ∃ U, w5.alloc (.cells #[.slice pX0 x.b.length dX0, .slice pX1 x.l.length dX1, .slice pX2 x.u.length dX2] 33) = U := ⟨_, rfl⟩
    have hBU : Below w5.heap.size w5 U1 := by rw [← hU1]; exact (Below.refl _ w5).alloc (Nat.le_refl _) _
    have hbx : C3 U1 w5.heap.size (.slice pX0 x.b.length dX0) (.slice pX1 x.l.length dX1) (.slice pX2 x.u.length dX2) := by rw [← hU1]; exact C3.new _ _ _ _ _
    have hza1 : w5.heap.size < U1.heap.size := by rw [← hU1]; simp
    have hz6 := hBU.size
    have HB_6 := hidE (B3E HB_5.out hBU)
    have BX_6 := hidE (BX_5.out.below hBU)
    have W0_6 := hidE (W0_5.out.below hBU)
    have OX_6 := hidE (OX_5.out.below hBU)
    have BXX_6 := hidE hbx
    clear HB_5 BX_5 W0_5 OX_5 hBU hbx
    obtain ⟨qBXX0, qBXX1, qBXX2, -, -, -⟩ := BXX_6.out
    go_wp2_with fail
    refine (iOverView_any _ _ x ae (HE0.out _ HB_6.out) (OX_6.out.lie HSZ.out)).mono ?_
    rintro e w7 ⟨uG, rfl, hO, hB⟩
    have hz7 := hB.size
    have HB_7 := hidE (B3E HB_6.out hB)
    have BX_7 := hidE (BX_6.out.below hB)
    have W0_7 := hidE (W0_6.out.below hB)
    have OX_7 := hidE (OX_6.out.below hB)
    have BXX_7 := hidE (BXX_6.out.below hB)
    have G0_7 := hidE (own_oe hO)
    clear HB_6 BX_6 W0_6 OX_6 BXX_6 hB
    clear qBXX0 qBXX1 qBXX2
    clear hO
    clear hU1
    rw [HBB1.out]
    go_wp2_with fail
    refine (eqES_self (G0_7.out.ren (by omega)) W0_7.out).mono ?_
    rintro e w8 ⟨rfl, hB⟩
    have hz8 := hB.size
    have HB_8 := hidE (B3E HB_7.out hB)
    have BX_8 := hidE (BX_7.out.below hB)
    have W0_8 := hidE (W0_7.out.below hB)
    have OX_8 := hidE (OX_7.out.below hB)
    have BXX_8 := hidE (BXX_7.out.below hB)
    have G0_8 := hidE (G0_7.out.below hB)
    clear HB_7 BX_7 W0_7 OX_7 BXX_7 G0_7 hB
    have AO_8 := hidE (HA0.out _ HB_8.out)
    have FBXX := hidE (fun (W : World) (hb : Below w8.heap.size w8 W) => BXX_8.out.below hb)
    have FBX := hidE (fun (W : World) (hb : Below w8.heap.size w8 W) => BX_8.out.below hb)
    have FAO := hidE (fun (W : World) (hb : Below w8.heap.size w8 W) => AO_8.out.below hb)
    have FOX := hidE (fun (W : World) (hb : Below w8.heap.size w8 W) => OX_8.out.below hb)
    go_wp2
    refine wp_region_held_drew (S := fun W' => Below w8.heap.size w8 W') (by kernel_rfl) ((Below.refl _ w8).drew) (fun hS0 => ?_)
    refine wpAnyH_take (i := 0) (v := ?_) rfl (by kernel_rfl) (by kernel_rfl) (by kernel_rfl) (fun _ _ _ h => h) (Or.inl ⟨by kernel_rfl, ?_⟩) hS0 ?_
    rotate_left 1
    · intro w' hw'; obtain ⟨zBXX0, zBXX1, zBXX2, -, -, -⟩ := FBXX.out w' hw'; go_simp; first | done | with_reducible rfl
    refine wpAnyH_take (i := 1) (v := ?_) rfl (by kernel_rfl) (by kernel_rfl) (by kernel_rfl) (fun _ _ _ h => h) (Or.inl ⟨by kernel_rfl, ?_⟩) hS0 ?_
    rotate_left 1
    · intro w' hw'; obtain ⟨zBX0, zBX1, zBX2, -, -, -⟩ := FBX.out w' hw'; go_simp; first | done | with_reducible rfl
    refine wpAnyH_ready (rs := [2]) (by kernel_rfl) (by simp) (AllReadyH.cons rfl (fun K hK => ?_) AllReadyH.nil)
    go_simp
    go_wp2_with (first | (go_at_call 11; refine (toOver2_any _ _ x HSZ.out (FAO.out _ hS0)).mono ?_; rintro e y1 ⟨vT, rfl, hT, hBr⟩) | fail)
    have hS1 : Below w8.heap.size w8 y1 := B3 hS0 hBr
    have HT := hidE (hT)
    clear hBr
    refine hK.out _ _ hS1 (fun _ => ?_)
    clear hK K
    refine wpAnyH_ready (rs := [3]) (by kernel_rfl) (by simp) (AllReadyH.cons rfl (fun K hK => ?_) AllReadyH.nil)
    go_simp
    go_wp2_with (first | (go_at_call 13; refine (eqOver_self _ _ _ x HSZ.out ((FOX.out _ hS1).arg) HT.out.arg).mono ?_; rintro e y2 ⟨rfl, hBr⟩) | fail)
    have hS2 : Below w8.heap.size w8 y2 := B3 hS1 hBr
    clear hBr
    refine hK.out _ _ hS2 (fun _ => ?_)
    clear hK K
    refine wpAnyH_take (i := 4) (v := ?_) rfl (by kernel_rfl) (by kernel_rfl) (by kernel_rfl) (fun _ _ _ h => h) (Or.inl ⟨by kernel_rfl, ?_⟩) hS2 ?_
    rotate_left 1
    · intro w' hw'; go_simp; first | done | with_reducible rfl
    refine wpAnyH_done (by kernel_rfl) ?_ _
    clear FBXX FBX FAO FOX hS0 hS1 HT
    have hz9 := hS2.size
    have HB_9 := hidE (B3E HB_8.out hS2)
    have BX_9 := hidE (BX_8.out.below hS2)
    have W0_9 := hidE (W0_8.out.below hS2)
    have OX_9 := hidE (OX_8.out.below hS2)
    have BXX_9 := hidE (BXX_8.out.below hS2)
    have G0_9 := hidE (G0_8.out.below hS2)
    have AO_9 := hidE (AO_8.out.below hS2)
    clear HB_8 BX_8 W0_8 OX_8 BXX_8 G0_8 AO_8 hS2
    clear AO_9
    obtain ⟨qBXX0, qBXX1, qBXX2, -, -, -⟩ := BXX_9.out
    go_wp2_with fail
    refine (OX_9.out.mark (by omega) HTT.out).mono ?_
    rintro e wM ⟨rfl, -, hW⟩
    clear OX_9 BXX_9
    clear qBXX0 qBXX1 qBXX2
    have hz10 := hW.size
    have HB_10 := hidE (hW.belowE HB_9.out HB_9.out.size (by omega))
    have BX_10 := hidE (BX_9.out.win hW (by omega))
    have W0_10 := hidE (W0_9.out.win hW (by omega))
    have G0_10 := hidE (G0_9.out.win hW (by omega))
    clear HB_9 BX_9 W0_9 G0_9 hW
    have hk0 : ¬ ((1 + cntO x * 3 : Nat) : Int) < 0 := by omega
    obtain ⟨kz, hkz⟩ : ∃ kz, ((1 + cntO x * 3 : Nat) : Int) = kz := ⟨_, rfl⟩
    rw [hkz] at hk0
    rw [hkz]
    clear hkz
    go_wp2_with fail
    refine (eqES_self (G0_10.out.ren (by omega)) W0_10.out).mono ?_
    rintro e w11 ⟨rfl, hB⟩
    have hz11 := hB.size
    have HB_11 := hidE (B3E HB_10.out hB)
    have BX_11 := hidE (BX_10.out.below hB)
    have W0_11 := hidE (W0_10.out.below hB)
    have G0_11 := hidE (G0_10.out.below hB)
    clear HB_10 BX_10 W0_10 G0_10 hB
    go_wp2_with fail
    refine (G0_11.out.mark 1 (by omega) (by omega) (by omega)).mono ?_
    rintro e wN ⟨rfl, hM, hW⟩
    clear G0_11
    have hz12 := hW.size
    have HB_12 := hidE (hW.belowE HB_11.out HB_11.out.size (by omega))
    have BX_12 := hidE (BX_11.out.win hW (by omega))
    have W0_12 := hidE (W0_11.out.win hW (by omega))
    have M0_12 := hidE hM
    clear HB_11 BX_11 W0_11 hW hM
    have hm0 : ¬ ((1 + (seO x).length * 3 : Nat) : Int) < 0 := by omega
    obtain ⟨mm, hmm⟩ : ∃ mm, ((1 + (seO x).length * 3 : Nat) : Int) = mm := ⟨_, rfl⟩
    have HMM := hidE hmm
    rw [hmm] at hm0
    rw [hmm]
    clear hmm
    have hmne : (mm != mm) = false := by simp
    go_wp2_with fail
    refine (M0_12.out.held (by omega) (by omega) (by omega)).mono ?_
    rintro e w13 ⟨rfl, hB⟩
    have hz13 := hB.size
    have HB_13 := hidE (B3E HB_12.out hB)
    have BX_13 := hidE (BX_12.out.below hB)
    have W0_13 := hidE (W0_12.out.below hB)
    have M0_13 := hidE (M0_12.out.below hB)
    clear HB_12 BX_12 W0_12 M0_12 hB
    rw [HMM.out]
    obtain ⟨qBX0, qBX1, qBX2, -, -, -⟩ := BX_13.out
    go_wp2_with fail
    refine (toOver2_any _ _ x HSZ.out (HA0.out _ HB_13.out)).mono ?_
    rintro e w14 ⟨vH, rfl, hO, hB⟩
    have hz14 := hB.size
    have HB_14 := hidE (B3E HB_13.out hB)
    have BX_14 := hidE (BX_13.out.below hB)
    have W0_14 := hidE (W0_13.out.below hB)
    have M0_14 := hidE (M0_13.out.below hB)
    have OH_14 := hidE hO
    clear HB_13 BX_13 W0_13 M0_13 hB hO
    clear qBX0 qBX1 qBX2
    obtain ⟨pH0, dH0, pH1, dH1, pH2, dH2, rfl⟩ := OH_14.out.ex
    go_wp2_with fail
    refine (iOverView_any _ _ x ae (HE0.out _ HB_14.out) (OH_14.out.lie HSZ.out)).mono ?_
    rintro e w15 ⟨uH, rfl, hO, hB⟩
    have hz15 := hB.size
    clear OH_14
    have HB_15 := hidE (B3E HB_14.out hB)
    have BX_15 := hidE (BX_14.out.below hB)
    have W0_15 := hidE (W0_14.out.below hB)
    have M0_15 := hidE (M0_14.out.below hB)
    have H0_15 := hidE ((own_oe hO).ren (by omega))
    clear HB_14 BX_14 W0_14 M0_14 hB
    clear hO
    rw [HBB1.out]
    go_wp2_with fail
    refine (eqES_self H0_15.out W0_15.out).mono ?_
    rintro e w16 ⟨rfl, hB⟩
    have hz16 := hB.size
    clear H0_15
    clear W0_15
    have HB_16 := hidE (B3E HB_15.out hB)
    have BX_16 := hidE (BX_15.out.below hB)
    have M0_16 := hidE (M0_15.out.below hB)
    clear HB_15 BX_15 M0_15 hB
    go_wp2_with fail
    refine (M0_16.out.held (by omega) (by omega) (by omega)).mono ?_
    rintro e w17 ⟨rfl, hB⟩
    have hz17 := hB.size
    have HB_17 := hidE (B3E HB_16.out hB)
    have BX_17 := hidE (BX_16.out.below hB)
    have M0_17 := hidE (M0_16.out.below hB)
    clear HB_16 BX_16 M0_16 hB
    rw [HMM.out]
    go_wp2
    go_ret
    exact ⟨rfl, HB_17.out⟩
  · go_wp2
    go_ret
    exact ⟨rfl, HB_2.out⟩
end Go.Proofs.YteppodogghjfhaaGreatDoor.Ov
