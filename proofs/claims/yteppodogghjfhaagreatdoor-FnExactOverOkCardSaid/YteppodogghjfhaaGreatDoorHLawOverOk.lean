/-
  The walk of the law FnExactOverOk, out of the contracts.
-/
import Derived.Test.YteppodogghjfhaaGreatDoorHOvIm
import Derived.Test.YteppodogghjfhaaGreatDoorHPk27
namespace Go.Proofs.YteppodogghjfhaaGreatDoor.Ov
open Go.RowKit Go.Lib Go.Sort

set_option maxHeartbeats 4000000 in
set_option maxRecDepth 100000 in
theorem walk_fnExactOverOk (ae : Int → Addr) (v : Value) (x : O) (w : World) (hErr : Errs2 w ae) (hS : Sz maxLen x) (hA : Arg w v x) :
    Calls Tryz.prog 3 #[v] w fun r w' => r = .returned (.bool true) ∧ Below w.heap.size w w' := by
  have hA0 := hA
  obtain ⟨a0, g0, o0, c0, a1, g1, o1, c1, a2, g2, o2, c2, rfl, -⟩ := hA.ex
  have HB_0 := hidE (Below.refl w.heap.size w)
  have ER_0 := hidE ((⟨hErr⟩ : ErrB ae w))
  have AO_0 := hidE (hA0)
  clear hErr hA hA0
  go_enter Tryz.func3, Tryz.ntmps3
  obtain ⟨U0, hU0⟩ : ∃ U, w.alloc (.cells #[.slice a0 x.b.length c0, .slice a1 x.l.length c1, .slice a2 x.u.length c2] 26) = U := ⟨_, rfl⟩
  have hBU : Below w.heap.size w U0 := by rw [← hU0]; exact (Below.refl _ w).alloc (Nat.le_refl _) _
  have hbx : C3 U0 w.heap.size (.slice a0 x.b.length c0) (.slice a1 x.l.length c1) (.slice a2 x.u.length c2) := by rw [← hU0]; exact C3.new _ _ _ _ _
  have HB_1 := hidE (B3E HB_0.out hBU)
  have ER_1 := hidE (ER_0.out.below hBU)
  have AO_1 := hidE (AO_0.out.below hBU)
  have BX_1 := hidE hbx
  clear HB_0 ER_0 AO_0 hBU hbx
  obtain ⟨qBX0, qBX1, qBX2, -, -, -⟩ := BX_1.out
  go_wp2_with fail
  refine (szOverT_any _ _ x _ (by omega) (by omega) hS AO_1.out).mono ?_
  rintro e w2 ⟨r, rfl, p1, q1, hz, hB⟩
  have HB_2 := hidE (B3E HB_1.out hB)
  have ER_2 := hidE (ER_1.out.below hB)
  have AO_2 := hidE (AO_1.out.below hB)
  have BX_2 := hidE (BX_1.out.below hB)
  have Z_2 := hidE hz
  clear HB_1 ER_1 AO_1 BX_1 hB hz
  clear qBX0 qBX1 qBX2
  clear hU0
  by_cases hr : 0 ≤ r
  · obtain ⟨hs, ht⟩ := Z_2.out hr
    clear Z_2
    have HSZ := hidE hs
    clear hs
    obtain ⟨qBX0, qBX1, qBX2, -, -, -⟩ := BX_2.out
    go_wp2_with fail
    refine (toOver2_any _ _ x HSZ.out AO_2.out).mono ?_
    rintro e w3 ⟨vS, rfl, hO, hB⟩
    have HB_3 := hidE (B3E HB_2.out hB)
    have ER_3 := hidE (ER_2.out.below hB)
    have AO_3 := hidE (AO_2.out.below hB)
    have BX_3 := hidE (BX_2.out.below hB)
    have OS_3 := hidE hO
    clear HB_2 ER_2 AO_2 BX_2 hB hO
    clear qBX0 qBX1 qBX2
    obtain ⟨pS0, dS0, pS1, dS1, pS2, dS2, rfl⟩ := OS_3.out.ex
    go_wp2_with fail
    refine (sOverOk_any _ _ x (OS_3.out.lie HSZ.out)).mono ?_
    rintro e w4 ⟨rfl, hB⟩
    clear OS_3
    have HB_4 := hidE (B3E HB_3.out hB)
    have ER_4 := hidE (ER_3.out.below hB)
    have AO_4 := hidE (AO_3.out.below hB)
    have BX_4 := hidE (BX_3.out.below hB)
    clear HB_3 ER_3 AO_3 BX_3 hB
    obtain ⟨bb, hbb⟩ : ∃ bb, okB x = bb := ⟨_, rfl⟩
    have HBB := hidE hbb
    rw [hbb]
    clear hbb
    have hbne : (bb != bb) = false := by simp
    obtain ⟨qBX0, qBX1, qBX2, -, -, -⟩ := BX_4.out
    go_wp2_with fail
    refine (toOver2_any _ _ x HSZ.out AO_4.out).mono ?_
    rintro e w5 ⟨vX, rfl, hO, hB⟩
    have HB_5 := hidE (B3E HB_4.out hB)
    have ER_5 := hidE (ER_4.out.below hB)
    have AO_5 := hidE (AO_4.out.below hB)
    have BX_5 := hidE (BX_4.out.below hB)
    have OX_5 := hidE hO
    clear HB_4 ER_4 AO_4 BX_4 hB hO
    clear qBX0 qBX1 qBX2
    obtain ⟨pX0, dX0, pX1, dX1, pX2, dX2, rfl⟩ := OX_5.out.ex
    obtain ⟨U1, hU1⟩ : ∃ U, w5.alloc (.cells #[.slice pX0 x.b.length dX0, .slice pX1 x.l.length dX1, .slice pX2 x.u.length dX2] 33) = U := ⟨_, rfl⟩
    have hBU : Below w5.heap.size w5 U1 := by rw [← hU1]; exact (Below.refl _ w5).alloc (Nat.le_refl _) _
    have hbx : C3 U1 w5.heap.size (.slice pX0 x.b.length dX0) (.slice pX1 x.l.length dX1) (.slice pX2 x.u.length dX2) := by rw [← hU1]; exact C3.new _ _ _ _ _
    have HB_6 := hidE (B3E HB_5.out hBU)
    have ER_6 := hidE (ER_5.out.below hBU)
    have AO_6 := hidE (AO_5.out.below hBU)
    have BX_6 := hidE (BX_5.out.below hBU)
    have OX_6 := hidE (OX_5.out.below hBU)
    have BXX_6 := hidE hbx
    clear HB_5 ER_5 AO_5 BX_5 OX_5 hBU hbx
    obtain ⟨qBXX0, qBXX1, qBXX2, -, -, -⟩ := BXX_6.out
    go_wp2_with fail
    refine (iOverOk_any _ _ x ae ER_6.out.e (OX_6.out.lie HSZ.out)).mono ?_
    rintro e w7 ⟨rfl, hB⟩
    have HB_7 := hidE (B3E HB_6.out hB)
    have ER_7 := hidE (ER_6.out.below hB)
    have AO_7 := hidE (AO_6.out.below hB)
    have BX_7 := hidE (BX_6.out.below hB)
    have OX_7 := hidE (OX_6.out.below hB)
    have BXX_7 := hidE (BXX_6.out.below hB)
    clear HB_6 ER_6 AO_6 BX_6 OX_6 BXX_6 hB
    clear qBXX0 qBXX1 qBXX2
    clear hU1
    rw [HBB.out]
    have FBXX := hidE (fun (W : World) (hb : Below w7.heap.size w7 W) => BXX_7.out.below hb)
    have FBX := hidE (fun (W : World) (hb : Below w7.heap.size w7 W) => BX_7.out.below hb)
    have FAO := hidE (fun (W : World) (hb : Below w7.heap.size w7 W) => AO_7.out.below hb)
    have FOX := hidE (fun (W : World) (hb : Below w7.heap.size w7 W) => OX_7.out.below hb)
    go_wp2
    refine wp_region_held_drew (S := fun W' => Below w7.heap.size w7 W') (by kernel_rfl) ((Below.refl _ w7).drew) (fun hS0 => ?_)
    refine wpAnyH_take (i := 0) (v := ?_) rfl (by kernel_rfl) (by kernel_rfl) (by kernel_rfl) (fun _ _ _ h => h) (Or.inl ⟨by kernel_rfl, ?_⟩) hS0 ?_
    rotate_left 1
    · intro w' hw'; obtain ⟨zBXX0, zBXX1, zBXX2, -, -, -⟩ := FBXX.out w' hw'; go_simp; first | done | with_reducible rfl
    refine wpAnyH_take (i := 1) (v := ?_) rfl (by kernel_rfl) (by kernel_rfl) (by kernel_rfl) (fun _ _ _ h => h) (Or.inl ⟨by kernel_rfl, ?_⟩) hS0 ?_
    rotate_left 1
    · intro w' hw'; obtain ⟨zBX0, zBX1, zBX2, -, -, -⟩ := FBX.out w' hw'; go_simp; first | done | with_reducible rfl
    refine wpAnyH_ready (rs := [2]) (by kernel_rfl) (by simp) (AllReadyH.cons rfl (fun K hK => ?_) AllReadyH.nil)
    go_simp
    go_wp2_with (first | (go_at_call 11; refine (toOver2_any _ _ x HSZ.out (FAO.out _ hS0)).mono ?_; rintro e y1 ⟨vT, rfl, hT, hBr⟩) | fail)
    have hS1 : Below w7.heap.size w7 y1 := B3 hS0 hBr
    have HT := hidE (hT)
    clear hBr
    refine hK.out _ _ hS1 (fun _ => ?_)
    clear hK K
    refine wpAnyH_ready (rs := [3]) (by kernel_rfl) (by simp) (AllReadyH.cons rfl (fun K hK => ?_) AllReadyH.nil)
    go_simp
    go_wp2_with (first | (go_at_call 13; refine (eqOver_self _ _ _ x HSZ.out ((FOX.out _ hS1).arg) HT.out.arg).mono ?_; rintro e y2 ⟨rfl, hBr⟩) | fail)
    have hS2 : Below w7.heap.size w7 y2 := B3 hS1 hBr
    clear hBr
    refine hK.out _ _ hS2 (fun _ => ?_)
    clear hK K
    refine wpAnyH_take (i := 4) (v := ?_) rfl (by kernel_rfl) (by kernel_rfl) (by kernel_rfl) (fun _ _ _ h => h) (Or.inl ⟨by kernel_rfl, ?_⟩) hS2 ?_
    rotate_left 1
    · intro w' hw'; go_simp; first | done | with_reducible rfl
    refine wpAnyH_done (by kernel_rfl) ?_ _
    clear FBXX FBX FAO FOX hS0 hS1 HT
    have HB_8 := hidE (B3E HB_7.out hS2)
    have ER_8 := hidE (ER_7.out.below hS2)
    have AO_8 := hidE (AO_7.out.below hS2)
    have BX_8 := hidE (BX_7.out.below hS2)
    have OX_8 := hidE (OX_7.out.below hS2)
    have BXX_8 := hidE (BXX_7.out.below hS2)
    clear HB_7 ER_7 AO_7 BX_7 OX_7 BXX_7 hS2
    go_wp2
    go_ret
    exact ⟨rfl, HB_8.out⟩
  · go_wp2
    go_ret
    exact ⟨rfl, HB_2.out⟩
end Go.Proofs.YteppodogghjfhaaGreatDoor.Ov
