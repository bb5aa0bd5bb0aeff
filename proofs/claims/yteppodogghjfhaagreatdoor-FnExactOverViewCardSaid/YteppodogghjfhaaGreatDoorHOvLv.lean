/-
  The walks of OverLower and OverView: the model's, and the program's own.
-/
import Derived.Test.YteppodogghjfhaaGreatDoorHPk34
import Derived.Test.YteppodogghjfhaaGreatDoorHPk27
import Derived.Test.YteppodogghjfhaaGreatDoorHRdList
namespace Go.Proofs.YteppodogghjfhaaGreatDoor.Ov
open Go.RowKit Go.Lib

theorem RP.fresh {w : World} {v : Value} {es : List E} (h : RP w v es) (hn : es.length ≤ 1000) :
    Calls Tryz.prog 45 #[v, .func (.func 46) #[] #[]] w fun r w' => ∃ u, r = .returned u ∧ OwnE w' w.heap.size u es ∧ Below w.heap.size w w' := by
  obtain ⟨a, g, o, cap, rfl, h1, h3, h4, h5⟩ := h
  exact freshList_any w a g o cap es hn h3 h4 h5
theorem lo_len (x : O) : (loO x).length ≤ 16 := by
  unfold loO
  cases h : okB x with
  | false => exact Nat.zero_le _
  | true => exact (lw_parts (ok_parts h).1).2.2.2
theorem se_len (x : O) : (seO x).length ≤ 16 := by
  unfold seO
  cases h : okB x with
  | false => exact Nat.zero_le _
  | true => exact (treeE_tr (ok_parts h).2.2.2.2.2.1).2

set_option maxHeartbeats 1000000 in
set_option maxRecDepth 100000 in
theorem sOverLower_any (w : World) (v : Value) (x : O) (h : Lie w v x) :
    Calls Tryz.prog 14 #[v] w fun r w' => ∃ u, r = .returned (.tuple #[u, .bool (okB x)]) ∧ OwnE w' w.heap.size u (loO x) ∧ Below w.heap.size w w' := by
  have hL := h
  obtain ⟨v0, v1, v2, rfl, h0, h1, h2⟩ := h
  obtain ⟨a0, g0, o0, c0, rfl, -⟩ := id h0
  obtain ⟨a1, g1, o1, c1, rfl, -⟩ := id h1
  obtain ⟨a2, g2, o2, c2, rfl, -⟩ := id h2
  obtain ⟨W0, hW0⟩ : ∃ W0, w.alloc (.cells #[.slice a0 x.b.length c0, .slice a1 x.l.length c1, .slice a2 x.u.length c2] 33) = W0 := ⟨_, rfl⟩
  have hb0 : Below w.heap.size w W0 := by rw [← hW0]; exact (Below.refl _ w).alloc (Nat.le_refl _) _
  have HX := hidE (fun (W : World) (hb : Below W0.heap.size W0 W) => (show C3 W0 w.heap.size (.slice a0 x.b.length c0) (.slice a1 x.l.length c1) (.slice a2 x.u.length c2) from by rw [← hW0]; exact C3.new _ _ _ _ _).below hb)
  have HB := hidE hb0
  have HO := hidE (sOverOk_any W0 _ x (hL.below hb0))
  have HL := hidE (fun (W : World) (hb : Below W0.heap.size W0 W) => sl4Lower_any W _ x ((hL.below hb0).below hb))
  clear h0 h1 h2 hb0 hL
  go_enter Tryz.func14, Tryz.ntmps14
  obtain ⟨k0, k1, k2, -, -, -⟩ := HX.out W0 (Below.refl _ _)
  go_wp2_with fail
  refine HO.out.mono ?_
  rintro e w1 ⟨rfl, hB⟩
  have HB1 := hidE hB
  clear hB k0 k1 k2 hW0 HO
  obtain ⟨k0, k1, k2, -, -, -⟩ := HX.out w1 HB1.out
  cases hok : okB x with
  | false =>
    have hq : loO x = [] := by unfold loO; rw [hok]; rfl
    have HK := hidE hok
    have hbb := B3 HB.out HB1.out
    clear hok
    go_wp2
    go_ret2
    exact ⟨_, by rw [HK.out]; rfl, by rw [hq]; exact OwnE.made _ hbb.size, hbb.alloc hbb.size _⟩
  | true =>
    have HK := hidE hok
    have HQ : Hid (loO x = lwE x) := by show _ = _; unfold loO; rw [hok]; rfl
    have HV : Hid (lwB x = true) := (ok_parts hok).1
    clear hok
    go_wp2_with fail
    refine (HL.out _ HB1.out).mono ?_
    rintro e w2 ⟨u2, rfl, hO2, hB2⟩
    have HB2 := hidE (B3 HB.out (B3 HB1.out hB2))
    have HO2 := hidE (hO2.lower (base' := w.heap.size) (Nat.le_trans HB.out.size HB1.out.size))
    clear hB2 hO2 k0 k1 k2
    rw [HV.out]
    go_wp2
    go_ret2
    exact ⟨_, by rw [HK.out]; rfl, by rw [HQ.out]; exact HO2.out, HB2.out⟩

set_option maxHeartbeats 1000000 in
set_option maxRecDepth 100000 in
theorem sOverView_any (w : World) (v : Value) (x : O) (h : Lie w v x) :
    Calls Tryz.prog 20 #[v] w fun r w' => ∃ u, r = .returned (.tuple #[u, .bool (okB x)]) ∧ OwnE w' w.heap.size u (seO x) ∧ Below w.heap.size w w' := by
  have hL := h
  obtain ⟨v0, v1, v2, rfl, h0, h1, h2⟩ := h
  obtain ⟨a0, g0, o0, c0, rfl, -⟩ := id h0
  obtain ⟨a1, g1, o1, c1, rfl, -⟩ := id h1
  obtain ⟨a2, g2, o2, c2, rfl, -⟩ := id h2
  obtain ⟨W0, hW0⟩ : ∃ W0, w.alloc (.cells #[.slice a0 x.b.length c0, .slice a1 x.l.length c1, .slice a2 x.u.length c2] 33) = W0 := ⟨_, rfl⟩
  have hb0 : Below w.heap.size w W0 := by rw [← hW0]; exact (Below.refl _ w).alloc (Nat.le_refl _) _
  have HX := hidE (fun (W : World) (hb : Below W0.heap.size W0 W) => (show C3 W0 w.heap.size (.slice a0 x.b.length c0) (.slice a1 x.l.length c1) (.slice a2 x.u.length c2) from by rw [← hW0]; exact C3.new _ _ _ _ _).below hb)
  have HB := hidE hb0
  have HO := hidE (sOverOk_any W0 _ x (hL.below hb0))
  have HL := hidE (fun (W : World) (hb : Below W0.heap.size W0 W) => sl4View_any W _ x ((hL.below hb0).below hb))
  clear h0 h1 h2 hb0 hL
  go_enter Tryz.func20, Tryz.ntmps20
  obtain ⟨k0, k1, k2, -, -, -⟩ := HX.out W0 (Below.refl _ _)
  go_wp2_with fail
  refine HO.out.mono ?_
  rintro e w1 ⟨rfl, hB⟩
  have HB1 := hidE hB
  clear hB k0 k1 k2 hW0 HO
  obtain ⟨k0, k1, k2, -, -, -⟩ := HX.out w1 HB1.out
  cases hok : okB x with
  | false =>
    have hq : seO x = [] := by unfold seO; rw [hok]; rfl
    have HK := hidE hok
    have hbb := B3 HB.out HB1.out
    clear hok
    go_wp2
    go_ret2
    exact ⟨_, by rw [HK.out]; rfl, by rw [hq]; exact OwnE.made _ hbb.size, hbb.alloc hbb.size _⟩
  | true =>
    have HK := hidE hok
    have HQ : Hid (seO x = vwE x) := by show _ = _; unfold seO; rw [hok]; rfl
    have HV : Hid (vwB x = true) := (ok_parts hok).2.1
    clear hok
    go_wp2_with fail
    refine (HL.out _ HB1.out).mono ?_
    rintro e w2 ⟨u2, rfl, hO2, hB2⟩
    have HB2 := hidE (B3 HB.out (B3 HB1.out hB2))
    have HO2 := hidE (hO2.lower (base' := w.heap.size) (Nat.le_trans HB.out.size HB1.out.size))
    clear hB2 hO2 k0 k1 k2
    rw [HV.out]
    go_wp2
    go_ret2
    exact ⟨_, by rw [HK.out]; rfl, by rw [HQ.out]; exact HO2.out, HB2.out⟩


set_option maxHeartbeats 2000000 in
set_option maxRecDepth 100000 in
theorem iOverLower_any (w : World) (v : Value) (x : O) (ae : Int → Addr) (hErr : Errs2 w ae) (h : Lie w v x) :
    Calls Tryz.prog 15 #[v] w fun r w' => ∃ u, r = .returned (.tuple #[u, .bool (okB x)]) ∧ OwnE w' w.heap.size u (loO x) ∧ Below w.heap.size w w' := by
  have hL := h
  obtain ⟨v0, v1, v2, rfl, h0, h1, h2⟩ := h
  obtain ⟨a0, g0, o0, c0, rfl, -⟩ := id h0
  obtain ⟨a1, g1, o1, c1, rfl, -⟩ := id h1
  obtain ⟨a2, g2, o2, c2, rfl, -⟩ := id h2
  obtain ⟨W0, hW0⟩ : ∃ W0, w.alloc (.cells #[.slice a0 x.b.length c0, .slice a1 x.l.length c1, .slice a2 x.u.length c2] 33) = W0 := ⟨_, rfl⟩
  have hb0 : Below w.heap.size w W0 := by rw [← hW0]; exact (Below.refl _ w).alloc (Nat.le_refl _) _
  have hX : C3 W0 w.heap.size (.slice a0 x.b.length c0) (.slice a1 x.l.length c1) (.slice a2 x.u.length c2) := by rw [← hW0]; exact C3.new _ _ _ _ _
  have HB := hidE hb0
  have HO := hidE (overOf_any W0 _ x ae (hErr.below hb0) (hL.below hb0))
  clear h0 h1 h2 hb0 hL hErr
  obtain ⟨k0, k1, k2, -, -, -⟩ := hX
  go_enter Tryz.func15, Tryz.ntmps15
  go_wp2_with fail
  refine HO.out.mono ?_
  rintro e w1 ⟨u, rfl, hT, hB⟩
  have HB1 := hidE (B3 HB.out hB)
  obtain ⟨t0, t1, t2, t3, t4, rfl, r0, r1, r2, r3, r4⟩ := hT
  obtain ⟨p0, y0, z0, d0, rfl, -⟩ := r0
  obtain ⟨p1, y1, z1, d1, rfl, -⟩ := r1
  obtain ⟨p2, y2, z2, d2, rfl, -⟩ := r2
  obtain ⟨p3, y3, z3, d3, rfl, -⟩ := id r3
  obtain ⟨p4, y4, z4, d4, rfl, -⟩ := id r4
  have hlen := lo_len x
  obtain ⟨U, hU⟩ : ∃ U, w1.alloc (.cells #[.slice p0 (ofO x).b.length d0, .slice p1 (ofO x).l.length d1, .slice p2 (ofO x).u.length d2, .slice p3 (loO x).length d3, .slice p4 (seO x).length d4] 67) = U := ⟨_, rfl⟩
  have hBU : Below w1.heap.size w1 U := by rw [← hU]; exact (Below.refl _ w1).alloc (Nat.le_refl _) _
  have FC := hidE (fun (W : World) (hb : Below U.heap.size U W) => ((show C5 U w1.heap.size (.slice p0 (ofO x).b.length d0) (.slice p1 (ofO x).l.length d1) (.slice p2 (ofO x).u.length d2) (.slice p3 (loO x).length d3) (.slice p4 (seO x).length d4) from by rw [← hU]; exact C5.new _ _ _ _ _ _ _).below hb).c3)
  have FR := hidE (fun (W : World) (hb : Below U.heap.size U W) => (r3.below hBU).below hb)
  have HB2 := hidE (B3 HB1.out hBU)
  clear r3 r4 hB HB HO k0 k1 k2 hW0
  cases hok : okB x with
  | true =>
    rw [show erO x = .nilIface by unfold erO; rw [hok]; rfl]
    have HKK := hidE hok
    clear hok
    go_wp2
    refine wp_region_held_drew (S := fun W' => Below U.heap.size U W') (by kernel_rfl) ((Below.refl _ U).drew) (fun hS0 => ?_)
    refine wpAnyH_take (i := 0) (v := ?_) rfl (by kernel_rfl) (by kernel_rfl) (by kernel_rfl) (fun _ _ _ h => h) (Or.inl ⟨by kernel_rfl, ?_⟩) hS0 ?_
    rotate_left 1
    · intro w' hw'; go_simp; first | done | with_reducible rfl
    refine wpAnyH_take (i := 1) (v := ?_) rfl (by kernel_rfl) (by kernel_rfl) (by kernel_rfl) (fun _ _ _ h => h) (Or.inl ⟨by kernel_rfl, ?_⟩) hS0 ?_
    rotate_left 1
    · intro w' hw'; have q := FC.out w' hw'; go_simp; first | done | with_reducible rfl
    refine wpAnyH_take (i := 3) (v := ?_) rfl (by kernel_rfl) (by kernel_rfl) (by kernel_rfl) (fun _ _ _ h => h) (Or.inl ⟨by kernel_rfl, ?_⟩) hS0 ?_
    rotate_left 1
    · intro w' hw'; go_simp; first | done | with_reducible rfl
    refine wpAnyH_take (i := 4) (v := ?_) rfl (by kernel_rfl) (by kernel_rfl) (by kernel_rfl) (fun _ _ _ h => h) (Or.inl ⟨by kernel_rfl, ?_⟩) hS0 ?_
    rotate_left 1
    · intro w' hw'; go_simp; first | done | with_reducible rfl
    refine wpAnyH_ready (rs := [2]) (by kernel_rfl) (by simp) (AllReadyH.cons rfl (fun K hK => ?_) AllReadyH.nil)
    go_simp
    go_wp2_with (first | (go_at_call 45; refine ((FR.out _ hS0).fresh (by omega)).mono ?_; rintro e w2 ⟨u2, rfl, hO2, hB2⟩) | fail)
    have hS1 : Below U.heap.size U w2 := B3 hS0 hB2
    have HO2 := hidE hO2
    clear hB2 hO2
    refine hK.out _ _ hS1 (fun _ => ?_)
    clear hK K
    refine wpAnyH_take (i := 5) (v := ?_) rfl (by kernel_rfl) (by kernel_rfl) (by kernel_rfl) (fun _ _ _ h => h) (Or.inl ⟨by kernel_rfl, ?_⟩) hS1 ?_
    rotate_left 1
    · intro w' hw'; go_simp; first | done | with_reducible rfl
    refine wpAnyH_take (i := 6) (v := ?_) rfl (by kernel_rfl) (by kernel_rfl) (by kernel_rfl) (fun _ _ _ h => h) (Or.inl ⟨by kernel_rfl, ?_⟩) hS1 ?_
    rotate_left 1
    · intro w' hw'; go_simp; first | done | with_reducible rfl
    refine wpAnyH_done (by kernel_rfl) ?_ _
    go_wp2
    go_ret2
    exact ⟨_, by rw [HKK.out]; rfl, HO2.out.lower (by have := HB2.out.size; have := hS0.size; omega), B3 HB2.out hS1⟩
  | false =>
    rw [show erO x = endV 1 by unfold erO; rw [hok]; rfl]
    unfold endV
    have HKK := hidE hok
    clear hok
    go_wp2
    refine wp_region_held_drew (S := fun W' => Below U.heap.size U W') (by kernel_rfl) ((Below.refl _ U).drew) (fun hS0 => ?_)
    refine wpAnyH_take (i := 0) (v := ?_) rfl (by kernel_rfl) (by kernel_rfl) (by kernel_rfl) (fun _ _ _ h => h) (Or.inl ⟨by kernel_rfl, ?_⟩) hS0 ?_
    rotate_left 1
    · intro w' hw'; go_simp; first | done | with_reducible rfl
    refine wpAnyH_take (i := 1) (v := ?_) rfl (by kernel_rfl) (by kernel_rfl) (by kernel_rfl) (fun _ _ _ h => h) (Or.inl ⟨by kernel_rfl, ?_⟩) hS0 ?_
    rotate_left 1
    · intro w' hw'; have q := FC.out w' hw'; go_simp; first | done | with_reducible rfl
    refine wpAnyH_take (i := 3) (v := ?_) rfl (by kernel_rfl) (by kernel_rfl) (by kernel_rfl) (fun _ _ _ h => h) (Or.inl ⟨by kernel_rfl, ?_⟩) hS0 ?_
    rotate_left 1
    · intro w' hw'; go_simp; first | done | with_reducible rfl
    refine wpAnyH_take (i := 4) (v := ?_) rfl (by kernel_rfl) (by kernel_rfl) (by kernel_rfl) (fun _ _ _ h => h) (Or.inl ⟨by kernel_rfl, ?_⟩) hS0 ?_
    rotate_left 1
    · intro w' hw'; go_simp; first | done | with_reducible rfl
    refine wpAnyH_ready (rs := [2]) (by kernel_rfl) (by simp) (AllReadyH.cons rfl (fun K hK => ?_) AllReadyH.nil)
    go_simp
    go_wp2_with (first | (go_at_call 45; refine ((FR.out _ hS0).fresh (by omega)).mono ?_; rintro e w2 ⟨u2, rfl, hO2, hB2⟩) | fail)
    have hS1 : Below U.heap.size U w2 := B3 hS0 hB2
    have HO2 := hidE hO2
    clear hB2 hO2
    refine hK.out _ _ hS1 (fun _ => ?_)
    clear hK K
    refine wpAnyH_take (i := 5) (v := ?_) rfl (by kernel_rfl) (by kernel_rfl) (by kernel_rfl) (fun _ _ _ h => h) (Or.inl ⟨by kernel_rfl, ?_⟩) hS1 ?_
    rotate_left 1
    · intro w' hw'; go_simp; first | done | with_reducible rfl
    refine wpAnyH_take (i := 6) (v := ?_) rfl (by kernel_rfl) (by kernel_rfl) (by kernel_rfl) (fun _ _ _ h => h) (Or.inl ⟨by kernel_rfl, ?_⟩) hS1 ?_
    rotate_left 1
    · intro w' hw'; go_simp; first | done | with_reducible rfl
    refine wpAnyH_done (by kernel_rfl) ?_ _
    go_wp2
    go_ret2
    exact ⟨_, by rw [HKK.out]; rfl, HO2.out.lower (by have := HB2.out.size; have := hS0.size; omega), B3 HB2.out hS1⟩

set_option maxHeartbeats 2000000 in
set_option maxRecDepth 100000 in
theorem iOverView_any (w : World) (v : Value) (x : O) (ae : Int → Addr) (hErr : Errs2 w ae) (h : Lie w v x) :
    Calls Tryz.prog 21 #[v] w fun r w' => ∃ u, r = .returned (.tuple #[u, .bool (okB x)]) ∧ OwnE w' w.heap.size u (seO x) ∧ Below w.heap.size w w' := by
  have hL := h
  obtain ⟨v0, v1, v2, rfl, h0, h1, h2⟩ := h
  obtain ⟨a0, g0, o0, c0, rfl, -⟩ := id h0
  obtain ⟨a1, g1, o1, c1, rfl, -⟩ := id h1
  obtain ⟨a2, g2, o2, c2, rfl, -⟩ := id h2
  obtain ⟨W0, hW0⟩ : ∃ W0, w.alloc (.cells #[.slice a0 x.b.length c0, .slice a1 x.l.length c1, .slice a2 x.u.length c2] 33) = W0 := ⟨_, rfl⟩
  have hb0 : Below w.heap.size w W0 := by rw [← hW0]; exact (Below.refl _ w).alloc (Nat.le_refl _) _
  have hX : C3 W0 w.heap.size (.slice a0 x.b.length c0) (.slice a1 x.l.length c1) (.slice a2 x.u.length c2) := by rw [← hW0]; exact C3.new _ _ _ _ _
  have HB := hidE hb0
  have HO := hidE (overOf_any W0 _ x ae (hErr.below hb0) (hL.below hb0))
  clear h0 h1 h2 hb0 hL hErr
  obtain ⟨k0, k1, k2, -, -, -⟩ := hX
  go_enter Tryz.func21, Tryz.ntmps21
  go_wp2_with fail
  refine HO.out.mono ?_
  rintro e w1 ⟨u, rfl, hT, hB⟩
  have HB1 := hidE (B3 HB.out hB)
  obtain ⟨t0, t1, t2, t3, t4, rfl, r0, r1, r2, r3, r4⟩ := hT
  obtain ⟨p0, y0, z0, d0, rfl, -⟩ := r0
  obtain ⟨p1, y1, z1, d1, rfl, -⟩ := r1
  obtain ⟨p2, y2, z2, d2, rfl, -⟩ := r2
  obtain ⟨p3, y3, z3, d3, rfl, -⟩ := id r3
  obtain ⟨p4, y4, z4, d4, rfl, -⟩ := id r4
  have hlen := se_len x
  obtain ⟨U, hU⟩ : ∃ U, w1.alloc (.cells #[.slice p0 (ofO x).b.length d0, .slice p1 (ofO x).l.length d1, .slice p2 (ofO x).u.length d2, .slice p3 (loO x).length d3, .slice p4 (seO x).length d4] 67) = U := ⟨_, rfl⟩
  have hBU : Below w1.heap.size w1 U := by rw [← hU]; exact (Below.refl _ w1).alloc (Nat.le_refl _) _
  have FC := hidE (fun (W : World) (hb : Below U.heap.size U W) => ((show C5 U w1.heap.size (.slice p0 (ofO x).b.length d0) (.slice p1 (ofO x).l.length d1) (.slice p2 (ofO x).u.length d2) (.slice p3 (loO x).length d3) (.slice p4 (seO x).length d4) from by rw [← hU]; exact C5.new _ _ _ _ _ _ _).below hb).c4)
  have FR := hidE (fun (W : World) (hb : Below U.heap.size U W) => (r4.below hBU).below hb)
  have HB2 := hidE (B3 HB1.out hBU)
  clear r3 r4 hB HB HO k0 k1 k2 hW0
  cases hok : okB x with
  | true =>
    rw [show erO x = .nilIface by unfold erO; rw [hok]; rfl]
    have HKK := hidE hok
    clear hok
    go_wp2
    refine wp_region_held_drew (S := fun W' => Below U.heap.size U W') (by kernel_rfl) ((Below.refl _ U).drew) (fun hS0 => ?_)
    refine wpAnyH_take (i := 0) (v := ?_) rfl (by kernel_rfl) (by kernel_rfl) (by kernel_rfl) (fun _ _ _ h => h) (Or.inl ⟨by kernel_rfl, ?_⟩) hS0 ?_
    rotate_left 1
    · intro w' hw'; go_simp; first | done | with_reducible rfl
    refine wpAnyH_take (i := 1) (v := ?_) rfl (by kernel_rfl) (by kernel_rfl) (by kernel_rfl) (fun _ _ _ h => h) (Or.inl ⟨by kernel_rfl, ?_⟩) hS0 ?_
    rotate_left 1
    · intro w' hw'; have q := FC.out w' hw'; go_simp; first | done | with_reducible rfl
    refine wpAnyH_take (i := 3) (v := ?_) rfl (by kernel_rfl) (by kernel_rfl) (by kernel_rfl) (fun _ _ _ h => h) (Or.inl ⟨by kernel_rfl, ?_⟩) hS0 ?_
    rotate_left 1
    · intro w' hw'; go_simp; first | done | with_reducible rfl
    refine wpAnyH_take (i := 4) (v := ?_) rfl (by kernel_rfl) (by kernel_rfl) (by kernel_rfl) (fun _ _ _ h => h) (Or.inl ⟨by kernel_rfl, ?_⟩) hS0 ?_
    rotate_left 1
    · intro w' hw'; go_simp; first | done | with_reducible rfl
    refine wpAnyH_ready (rs := [2]) (by kernel_rfl) (by simp) (AllReadyH.cons rfl (fun K hK => ?_) AllReadyH.nil)
    go_simp
    go_wp2_with (first | (go_at_call 45; refine ((FR.out _ hS0).fresh (by omega)).mono ?_; rintro e w2 ⟨u2, rfl, hO2, hB2⟩) | fail)
    have hS1 : Below U.heap.size U w2 := B3 hS0 hB2
    have HO2 := hidE hO2
    clear hB2 hO2
    refine hK.out _ _ hS1 (fun _ => ?_)
    clear hK K
    refine wpAnyH_take (i := 5) (v := ?_) rfl (by kernel_rfl) (by kernel_rfl) (by kernel_rfl) (fun _ _ _ h => h) (Or.inl ⟨by kernel_rfl, ?_⟩) hS1 ?_
    rotate_left 1
    · intro w' hw'; go_simp; first | done | with_reducible rfl
    refine wpAnyH_take (i := 6) (v := ?_) rfl (by kernel_rfl) (by kernel_rfl) (by kernel_rfl) (fun _ _ _ h => h) (Or.inl ⟨by kernel_rfl, ?_⟩) hS1 ?_
    rotate_left 1
    · intro w' hw'; go_simp; first | done | with_reducible rfl
    refine wpAnyH_done (by kernel_rfl) ?_ _
    go_wp2
    go_ret2
    exact ⟨_, by rw [HKK.out]; rfl, HO2.out.lower (by have := HB2.out.size; have := hS0.size; omega), B3 HB2.out hS1⟩
  | false =>
    rw [show erO x = endV 1 by unfold erO; rw [hok]; rfl]
    unfold endV
    have HKK := hidE hok
    clear hok
    go_wp2
    refine wp_region_held_drew (S := fun W' => Below U.heap.size U W') (by kernel_rfl) ((Below.refl _ U).drew) (fun hS0 => ?_)
    refine wpAnyH_take (i := 0) (v := ?_) rfl (by kernel_rfl) (by kernel_rfl) (by kernel_rfl) (fun _ _ _ h => h) (Or.inl ⟨by kernel_rfl, ?_⟩) hS0 ?_
    rotate_left 1
    · intro w' hw'; go_simp; first | done | with_reducible rfl
    refine wpAnyH_take (i := 1) (v := ?_) rfl (by kernel_rfl) (by kernel_rfl) (by kernel_rfl) (fun _ _ _ h => h) (Or.inl ⟨by kernel_rfl, ?_⟩) hS0 ?_
    rotate_left 1
    · intro w' hw'; have q := FC.out w' hw'; go_simp; first | done | with_reducible rfl
    refine wpAnyH_take (i := 3) (v := ?_) rfl (by kernel_rfl) (by kernel_rfl) (by kernel_rfl) (fun _ _ _ h => h) (Or.inl ⟨by kernel_rfl, ?_⟩) hS0 ?_
    rotate_left 1
    · intro w' hw'; go_simp; first | done | with_reducible rfl
    refine wpAnyH_take (i := 4) (v := ?_) rfl (by kernel_rfl) (by kernel_rfl) (by kernel_rfl) (fun _ _ _ h => h) (Or.inl ⟨by kernel_rfl, ?_⟩) hS0 ?_
    rotate_left 1
    · intro w' hw'; go_simp; first | done | with_reducible rfl
    refine wpAnyH_ready (rs := [2]) (by kernel_rfl) (by simp) (AllReadyH.cons rfl (fun K hK => ?_) AllReadyH.nil)
    go_simp
    go_wp2_with (first | (go_at_call 45; refine ((FR.out _ hS0).fresh (by omega)).mono ?_; rintro e w2 ⟨u2, rfl, hO2, hB2⟩) | fail)
    have hS1 : Below U.heap.size U w2 := B3 hS0 hB2
    have HO2 := hidE hO2
    clear hB2 hO2
    refine hK.out _ _ hS1 (fun _ => ?_)
    clear hK K
    refine wpAnyH_take (i := 5) (v := ?_) rfl (by kernel_rfl) (by kernel_rfl) (by kernel_rfl) (fun _ _ _ h => h) (Or.inl ⟨by kernel_rfl, ?_⟩) hS1 ?_
    rotate_left 1
    · intro w' hw'; go_simp; first | done | with_reducible rfl
    refine wpAnyH_take (i := 6) (v := ?_) rfl (by kernel_rfl) (by kernel_rfl) (by kernel_rfl) (fun _ _ _ h => h) (Or.inl ⟨by kernel_rfl, ?_⟩) hS1 ?_
    rotate_left 1
    · intro w' hw'; go_simp; first | done | with_reducible rfl
    refine wpAnyH_done (by kernel_rfl) ?_ _
    go_wp2
    go_ret2
    exact ⟨_, by rw [HKK.out]; rfl, HO2.out.lower (by have := HB2.out.size; have := hS0.size; omega), B3 HB2.out hS1⟩


end Go.Proofs.YteppodogghjfhaaGreatDoor.Ov
