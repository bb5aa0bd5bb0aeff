/-
  The walks of the model's draws of a layer, whatever the code.
-/
import Derived.Test.YtkjpmngohocmlaaGreatDoorHPk29
import Derived.Test.YtkjpmngohocmlaaGreatDoorHPk22
import Derived.Test.YtkjpmngohocmlaaGreatDoorHPk07
namespace Go.Proofs.YtkjpmngohocmlaaGreatDoor.Mk
open Go.RowKit Go.Lib

theorem lieL {w : World} {base : Nat} {v : Value} {es : List E} (h : LieB w base v es) : ∃ a g o cap, v = .slice a es.length cap ∧ (0 < es.length → a = some ⟨g, o, none⟩) ∧ Ents w g o es ∧ es.length ≤ cap := by
  obtain ⟨a, g, o, cap, h1, h2, h3, h4, _⟩ := h
  exact ⟨a, g, o, cap, h1, h2, h3, h4⟩

theorem LieB.kn {w w' : World} {base r : Nat} {v : Value} {es : List E} (h : LieB w base v es) (hr : r < base) (k : Kn w.heap.size r w w') : LieB w' base v es := by
  obtain ⟨a, g, o, cap, h1, h2, h3, h4, h5⟩ := h
  refine ⟨a, g, o, cap, h1, h2, fun i hi => ?_, h4, h5⟩
  obtain ⟨c0, c1, c2⟩ := h3 i hi
  have hg : g ≠ r := by have := h5 (by omega); omega
  have hl : g < w.heap.size := World.block_lt_of_cell? w ⟨g, _, none⟩ c0
  have hh := k.2.2.2.2 g hl hg
  exact ⟨(World.cell?_of_block (w := w) (a := ⟨g, _, none⟩) hh).trans c0, (World.cell?_of_block (w := w) (a := ⟨g, _, none⟩) hh).trans c1, (World.cell?_of_block (w := w) (a := ⟨g, _, none⟩) hh).trans c2⟩
theorem Box3.keptD {W W' : World} {b r : Nat} {u v x : Value} (h : Box3 W b u v x) (k : Kept r W W') (hb : b ≠ r) : Box3 W' b u v x := by
  have hh := k.2.2.2.2 b h.lt hb
  exact ⟨(World.cell?_of_block (w := W) (a := ⟨b, _, none⟩) hh).trans h.c0, (World.cell?_of_block (w := W) (a := ⟨b, _, none⟩) hh).trans h.c1, (World.cell?_of_block (w := W) (a := ⟨b, _, none⟩) hh).trans h.c2, (World.frozen?_of_block (w := W) (a := ⟨b, _, none⟩) hh).trans h.f0, (World.frozen?_of_block (w := W) (a := ⟨b, _, none⟩) hh).trans h.f1, (World.frozen?_of_block (w := W) (a := ⟨b, _, none⟩) hh).trans h.f2⟩
theorem Box3.put2 {W : World} {b : Nat} {u v x : Value} (h : Box3 W b u v x) (y : Value) : Box3 (W.setCell ⟨b, 2, none⟩ y) b u v y :=
  ⟨(cell_ne' _ _ _ _ _ (by decide)).trans h.c0, (cell_ne' _ _ _ _ _ (by decide)).trans h.c1, cell_eq' _ h.c2, by rw [World.frozen?_setCell]; exact h.f0, by rw [World.frozen?_setCell]; exact h.f1, by rw [World.frozen?_setCell]; exact h.f2⟩

set_option maxHeartbeats 1000000 in
set_option maxRecDepth 100000 in
theorem l3Ups_any : ∀ (n : Nat) (w : World) (base : Nat) (v : Value) (es : List E) (s : ByteArray), s.size < n → pthP s = true → DrnP es → es.length + s.size ≤ 2000 → base ≤ w.heap.size → LieB w base v es →
    Calls Tryz.prog 73 #[v, .string s] w fun e w' => ∃ (v' : Value) (es' : List E), e = .returned v' ∧ LieB w' base v' es' ∧ DrnP es' ∧ es'.length ≤ es.length + s.size ∧ Below w.heap.size w w'
  | 0, _, _, _, _, _, h, _, _, _, _, _ => by omega
  | n + 1, w, base, v, es, s, hn, hp, hD, hl, hb, hL => by
    have hpb := pth_path hp
    have hlt := up_lt hpb
    have hs16 := okP_size (pth_ok hp)
    have hu := pth_up hp
    obtain ⟨a, g, o, cap, rfl, ha, hE, hcap, hgb⟩ := hL
    have HE := hidE hE
    have HA := hidE ha
    have HD := hidE hD
    have HG := hidE hgb
    clear hE ha hD hgb
    go_enter Tryz.func73, Tryz.ntmps73
    go_wp2_with fail
    refine (sPathUp_any s (by omega) _).mono ?_
    rintro e w1 ⟨rfl, hB1⟩
    have HB1 := hidE hB1
    have HE1 := hidE (HE.out.below hB1)
    clear hB1
    rcases hu with hr | hu
    · have hr2 : (upS s).toList = [47] := by rw [hr, Lib.toList_data]
      have hr3 : ((upS s).toList == [47]) = true := by rw [hr2]; rfl
      go_wp2
      go_ret
      exact ⟨_, es, rfl, ⟨_, g, o, cap, rfl, HA.out, HE1.out, hcap, HG.out⟩, HD.out, by omega, HB1.out⟩
    · have hr2 : ¬ (upS s).toList = [47] := fun q => by
        have : upS s = ⟨#[47]⟩ := (isRoot_iff _).1 (by unfold isRoot; rw [q]; rfl)
        rw [this] at hu
        have := pth_path hu
        rw [root_no_path] at this; cases this
      have hr3 : ((upS s).toList == [47]) = false := by rw [beq_eq_false_iff_ne]; exact hr2
      have HKi := hidE (l3Kind_any w1 a g o cap es (upS s) (by omega) HA.out HE1.out)
      have hw1 := HB1.out.size
      by_cases hk : kindM es (upS s) = 0
      · rw [hk] at HKi
        have HPu := hidE (l3Put_any w1 a g o cap es (upS s) 2 ⟨#[]⟩ (by omega) hcap HA.out HE1.out)
        have hpl := put_len es ⟨upS s, 2, ⟨#[]⟩⟩
        have HD2 := hidE (HD.out.put (e := ⟨upS s, 2, ⟨#[]⟩⟩) ⟨hu, Nat.zero_le _⟩)
        go_wp2_with (first | (go_at_call 91; refine HKi.out.mono ?_; rintro e w2 ⟨rfl, rfl⟩) | (go_at_call 72; refine HPu.out.mono ?_; rintro e w3 ⟨v3, rfl, ho3, hB3⟩) | (go_at_call 73; refine (l3Ups_any n _ base v3 _ (upS s) (by omega) hu HD2.out (by omega) (Nat.le_trans hb (Nat.le_trans hw1 hB3.size)) (ho3.lieB.lower (Nat.le_trans hb hw1))).mono ?_; rintro e w4 ⟨v4, es4, rfl, hL4, hD4, hl4, hB4⟩) | fail)
        go_ret
        exact ⟨_, es4, rfl, hL4, hD4, by omega, tBelow (tBelow HB1.out hB3) hB4⟩
      · have hk' : (kindM es (upS s) == 0) = false := by rw [beq_eq_false_iff_ne]; exact hk
        have HL1 : Hid (LieB w1 base (.slice a es.length cap) es) := ⟨_, g, o, cap, rfl, HA.out, HE1.out, hcap, HG.out⟩
        go_wp2_with (first | (go_at_call 91; refine HKi.out.mono ?_; rintro e w2 ⟨rfl, rfl⟩) | (go_at_call 73; refine (l3Ups_any n _ base _ es (upS s) (by omega) hu HD.out (by omega) (Nat.le_trans hb hw1) HL1.out).mono ?_; rintro e w4 ⟨v4, es4, rfl, hL4, hD4, hl4, hB4⟩) | fail)
        go_ret
        exact ⟨_, es4, rfl, hL4, hD4, by omega, tBelow HB1.out hB4⟩

set_option maxHeartbeats 2000000 in
set_option maxRecDepth 100000 in
theorem l3Layer_any (w : World) (r p : Nat) (hp : p ≤ 5000) (h : Rd w r p) :
    Calls Tryz.prog 29 #[.pointer (some ⟨r, 0, none⟩)] w fun e w' => ∃ (v : Value) (es : List E) (q : Nat), e = .returned v ∧ layB es = true ∧ DrnP es ∧ LieB w' w.heap.size v es ∧ q ≤ p + 40 ∧ Rd w' r q ∧ Kept r w w' := by
  have hr := h.lt
  have hr1 : w.heap.size + 1 ≠ r := by omega
  have hp1 : p ≤ 10000 := by omega
  obtain ⟨W0, hW0⟩ : ∃ W0, W0 = w.alloc (.cells #[] 36) := ⟨_, rfl⟩
  have hs0 : W0.heap.size = w.heap.size + 1 := by rw [hW0]; simp
  have HO0 : Hid (OwnE W0 w.heap.size (.slice (some ⟨w.heap.size, 0, none⟩) 0 0) []) := by rw [hW0]; exact OwnE.made w (Nat.le_refl _)
  have HK0 : Hid (Kept r w W0) := by rw [hW0]; exact Kept.alloc w _
  have HR0 := hidR (h.below (hW0 ▸ (Below.refl _ w).alloc (Nat.le_refl _) _ : Below w.heap.size w W0))
  have HL1 := hidR (LstI.new (fun z => decide (0 ≤ z ∧ z ≤ 12)) W0 [3, 5, 8, 2, 1, 0, 12] 3 (by decide))
  rw [hs0] at HL1
  clear h
  go_enter Tryz.func29, Tryz.ntmps29
  go_wp2_with fail
  rw [← hW0]
  clear hW0
  refine (num_P (fun z => decide (0 ≤ z ∧ z ≤ 12)) _ r p (w.heap.size + 1) 7 7 (by decide) (by decide) hp1 hr1 HL1.out (HR0.out.below ((Below.refl _ _).alloc (Nat.le_refl _) _))).mono ?_
  rintro e w1 ⟨k0, rfl, hk, hR, hK⟩
  have HR1 := hidR hR
  have HK1 := hidR ((HK0.out.trans (Kept.alloc W0 _)).trans hK)
  have HO1 := hidR ((HO0.out.kept hr (Kept.alloc W0 _)).kept hr hK).lieB
  have hk' := of_decide_eq_true hk
  obtain ⟨n0, rfl⟩ := Int.eq_ofNat_of_zero_le hk'.1
  have hn0 : n0 ≤ 12 := by omega
  clear hR hK hk HL1 HO0 HK0 HR0 hk'
  go_wp2_with fail
  go_loopw [3, 4] (fun v iv wl => ∃ (k : Nat) (es : List E) (q : Nat), iv = .int .i64 k ∧ k ≤ 12 ∧ q + 3 * k ≤ p + 40 ∧ Hid (layB es = true) ∧ Hid (DrnP es) ∧ Hid (LieB wl w.heap.size v es) ∧ Hid (Rd wl r q) ∧ Hid (Kept r w wl)) (fun _ iv _ => (RowKit.intOf iv).toNat)
  case atStart => exact ⟨n0, [], p + 1, rfl, hn0, by omega, by rfl, (fun e he => by cases he), HO1, HR1, HK1⟩
  case round =>
    obtain ⟨k, es, q, rfl, hk, hq, HY0, HD, HL, HR, HK⟩ := hrel
    have hes : es.length ≤ 32 := by
      have := HY0.out
      unfold layB at this
      rw [Bool.and_eq_true] at this
      exact of_decide_eq_true this.2
    by_cases h0 : 0 < k
    · have h0' : (0 : Int) < (k : Int) := by omega
      go_wp2_with fail
      refine (l1Path_P pthP (by decide +kernel) _ r q (by omega) HR.out).mono ?_
      rintro e w2 ⟨s, rfl, hs, hR, hK⟩
      have hs16 := okP_size (pth_ok hs)
      have HR2 := hidR hR
      have HK2 := hidR (HK.out.trans hK)
      have HL2 := hidR (HL.out.kept hr hK)
      have hr2 := hR.lt
      clear hR hK HR HK HL
      go_wp2_with fail
      refine (num_P (fun z => decide (1 ≤ z ∧ z ≤ 4)) _ r (q + 1) w2.heap.size 6 6 (by decide) (by decide) (by omega) (by omega) (LstI.new (fun z => decide (1 ≤ z ∧ z ≤ 4)) w2 [1, 2, 3, 4, 1, 3] 3 (by decide)) (HR2.out.below ((Below.refl _ _).alloc (Nat.le_refl _) _))).mono ?_
      rintro e w3 ⟨z, rfl, hz, hR, hK⟩
      have hz' := of_decide_eq_true hz
      have HR3 := hidR hR
      have HK3 := hidR ((HK2.out.trans (Kept.alloc w2 _)).trans hK)
      have HL3 := hidR ((HL2.out.kept hr (Kept.alloc w2 _)).kept hr hK)
      have hr3 := hR.lt
      have hw3 := HK3.out.2.2.2.1
      clear hR hK HR2 HK2 HL2 hz
      obtain ⟨W4, hW4⟩ : ∃ W4, W4 = w3.alloc (.cells #[.string s, .int .i64 z, .string ⟨#[]⟩] 36) := ⟨_, rfl⟩
      have BX4 : Box3 W4 w3.heap.size (.string s) (.int .i64 z) (.string ⟨#[]⟩) := by rw [hW4]; exact Box3.new _ _ _ _ _
      have hB4 : Below w3.heap.size w3 W4 := by rw [hW4]; exact (Below.refl _ _).alloc (Nat.le_refl _) _
      have HR4 := hidR (HR3.out.below hB4)
      have HK4 := hidR (HK3.out.trans (Kept.of_below hB4))
      have HL4 := hidR (HL3.out.below hB4)
      have HB4 := hidR BX4
      have HW4 := hidR hW4
      obtain ⟨m0, m1, m2, n0, n1, n2⟩ := BX4
      have HK34 := hidR (Kept.of_below (r := r) hB4)
      clear hB4 HR3 HK3
      by_cases hz1 : z = 1
      · subst hz1
        go_wp2_with fail
        rw [← HW4.out]
        clear hW4 HW4
        refine (l2Some_any _ r (q + 1 + 1) (by omega) HR4.out).mono ?_
        rintro e w5 ⟨x, rfl, hx, hR, hK⟩
        have hx16 := okS_size hx
        have BX5 : Box3 w5 w3.heap.size (.string s) (.int .i64 1) (.string ⟨#[]⟩) := HB4.out.keptD hK (by omega)
        have HBX := hidR (BX5.put2 (.string x))
        have HKo := hidR (Kn.other (Kn.step (n := w.heap.size) HK4.out (Nat.le_refl _) hK) (Nat.le_refl _) hw3 (Kept.setCell (r := w3.heap.size) w5 2 (.string x))).kept
        have HRo := hidR (hR.keep (Kept.setCell (r := w3.heap.size) w5 2 (.string x)) (by omega))
        have HLo := hidR (HL3.out.kn hr (Kn.other (Kn.step (Kn.step (Kn.refl w3.heap.size r w3) (Nat.le_refl _) HK34.out) (Nat.le_refl _) hK) (Nat.le_refl _) (Nat.le_refl _) (Kept.setCell (r := w3.heap.size) w5 2 (.string x))))
        obtain ⟨W6, hW6⟩ : ∃ W6, W6 = w5.setCell ⟨w3.heap.size, 2, none⟩ (.string x) := ⟨_, rfl⟩
        rw [← hW6] at HBX HKo HRo HLo
        have HW6 := hidR hW6
        obtain ⟨m0, m1, m2, n0, n1, n2⟩ := BX5
        clear hR hK HK4 HR4 HL4 HB4 hW6 HL3 HK34
        obtain ⟨a, g, o, cap, rfl, ha, hE, hcap, hgb⟩ := HLo.out
        have HPu := hidR (l3Put_any W6 a g o cap es s 1 x (by omega) hcap ha hE)
        have hpl := put_len es ⟨s, 1, x⟩
        have HD3 := hidR (HD.out.put (e := ⟨s, 1, x⟩) ⟨hs, hx16⟩)
        have hwo := HKo.out.2.2.2.1
        have HLq : Hid (LieB W6 w.heap.size (.slice a es.length cap) es) := ⟨_, g, o, cap, rfl, ha, hE, hcap, hgb⟩
        clear ha hE hgb
        obtain ⟨m0, m1, m2, n0, n1, n2⟩ := HBX.out
        go_wp2_with fail
        rw [← HW6.out]
        refine HPu.out.mono ?_
        rintro e w7 ⟨v7, rfl, ho7, hB7⟩
        obtain ⟨a7, g7, cap7, e7, ha7, hE7, hcap7, hgb7⟩ := ho7.at
        subst e7
        have HE7 := hidR hE7
        have HA7 := hidR ha7
        have HR7 := hidR (HRo.out.below hB7)
        have HK7 := hidR (HKo.out.trans (Kept.of_below hB7))
        have HBX7 := hidR (HBX.out.below hB7)
        have HLq7 := hidR (HLq.out.below hB7)
        have HL7 : Hid (LieB w7 w.heap.size (.slice a7 (putE es ⟨s, 1, x⟩).length cap7) (putE es ⟨s, 1, x⟩)) := ⟨_, g7, 0, cap7, rfl, ha7, hE7, hcap7, fun h => Nat.le_trans hwo (hgb7 h)⟩
        have hw7 := HK7.out.2.2.2.1
        have hzz : ∀ e ∈ putE es ⟨s, 1, x⟩, e.p.size ≤ 16777216 ∧ e.x.size ≤ 16777216 := fun e he => ⟨by have := okP_size (pth_ok (HD3.out e he).1); omega, by have := (HD3.out e he).2; omega⟩
        have HOK := hidR (sLayerOk_any w7 a7 g7 0 cap7 (putE es ⟨s, 1, x⟩) (by omega) hcap7 hzz HA7.out HE7.out)
        clear ho7 hB7 ha7 hE7 hgb7 m0 m1 m2 n0 n1 n2 hzz HBX HPu HRo HKo HLo
        cases hly : layB (putE es ⟨s, 1, x⟩) with
        | true =>
          rw [hly] at HOK
          have HY := hidR hly
          go_wp2_with fail
          refine HOK.out.mono ?_
          rintro e w8 ⟨rfl, hB8⟩
          have HR8 := hidR (HR7.out.below hB8)
          have HK8 := hidR (HK7.out.trans (Kept.of_below hB8))
          have HL8 := hidR (HL7.out.below hB8)
          clear hB8 HR7 HK7 HL7
          go_wp2
          go_roundw
          case rel => exact ⟨k - 1, _, (q + 1 + 1 + 1), by go_num, by omega, by omega, HY, HD3, HL8, HR8, HK8⟩
          case measure => simp [RowKit.intOf]; omega
        | false =>
          rw [hly] at HOK
          clear hly
          go_wp2_with fail
          refine HOK.out.mono ?_
          rintro e w8 ⟨rfl, hB8⟩
          have HR8 := hidR (HR7.out.below hB8)
          have HK8 := hidR (HK7.out.trans (Kept.of_below hB8))
          have HL8 := hidR (HL7.out.below hB8)
          have HLq8 := hidR (HLq7.out.below hB8)
          have hw8 := HK8.out.2.2.2.1
          obtain ⟨m0, m1, m2, n0, n1, n2⟩ := HBX7.out.below hB8
          clear hB8 HR7 HK7 HL7
          go_wp2_with fail
          refine (l3Ups_any (s.size + 1) _ w.heap.size _ _ s (Nat.lt_succ_self _) hs HD3.out (by omega) (by omega) HL8.out).mono ?_
          rintro e w9 ⟨v9, es9, rfl, hL9, hD9, hl9, hB9⟩
          obtain ⟨a9, g9, o9, cap9, rfl, ha9, hE9, hcap9, hgb9⟩ := hL9
          have HR9 := hidR (HR8.out.below hB9)
          have HK9 := hidR (HK8.out.trans (Kept.of_below hB9))
          have HLq9 := hidR (HLq8.out.below hB9)
          have HL9 : Hid (LieB w9 w.heap.size (.slice a9 es9.length cap9) es9) := ⟨_, g9, o9, cap9, rfl, ha9, hE9, hcap9, hgb9⟩
          have HD9 := hidR hD9
          have HOK9 := hidR (sLayerOk_any w9 a9 g9 o9 cap9 es9 (by omega) hcap9 (fun e he => ⟨by have := okP_size (pth_ok (hD9 e he).1); omega, by have := (hD9 e he).2; omega⟩) ha9 hE9)
          clear ha9 hE9 hgb9 hB9 hD9 HR8 HK8 HL8 HLq8 m0 m1 m2 n0 n1 n2
          cases hl9y : layB es9 with
          | true =>
            rw [hl9y] at HOK9
            have HY := hidR hl9y
            go_wp2_with fail
            refine HOK9.out.mono ?_
            rintro e w10 ⟨rfl, hB10⟩
            have HR10 := hidR (HR9.out.below hB10)
            have HK10 := hidR (HK9.out.trans (Kept.of_below hB10))
            have HL10 := hidR (HL9.out.below hB10)
            clear hB10 HR9 HK9 HL9
            go_wp2
            go_roundw
            case rel => exact ⟨k - 1, _, (q + 1 + 1 + 1), by go_num, by omega, by omega, HY, HD9, HL10, HR10, HK10⟩
            case measure => simp [RowKit.intOf]; omega
          | false =>
            rw [hl9y] at HOK9
            go_wp2_with fail
            refine HOK9.out.mono ?_
            rintro e w10 ⟨rfl, hB10⟩
            have HR10 := hidR (HR9.out.below hB10)
            have HK10 := hidR (HK9.out.trans (Kept.of_below hB10))
            have HL10 := hidR (HLq9.out.below hB10)
            clear hB10 HR9 HK9 HL9
            go_wp2
            go_roundw
            case rel => exact ⟨k - 1, _, (q + 1 + 1 + 1), by go_num, by omega, by omega, HY0, HD, HL10, HR10, HK10⟩
            case measure => simp [RowKit.intOf]; omega
      · have hz1' : (z == 1) = false := by rw [beq_eq_false_iff_ne]; exact hz1
        have HBX := HB4
        have HKo := HK4
        have HRo := HR4
        have HLo := HL4
        obtain ⟨a, g, o, cap, rfl, ha, hE, hcap, hgb⟩ := HLo.out
        have HPu := hidR (l3Put_any W4 a g o cap es s z ⟨#[]⟩ (by omega) hcap ha hE)
        have hpl := put_len es ⟨s, z, ⟨#[]⟩⟩
        have HD3 := hidR (HD.out.put (e := ⟨s, z, ⟨#[]⟩⟩) ⟨hs, Nat.zero_le _⟩)
        have hwo := HKo.out.2.2.2.1
        have HLq : Hid (LieB W4 w.heap.size (.slice a es.length cap) es) := ⟨_, g, o, cap, rfl, ha, hE, hcap, hgb⟩
        clear ha hE hgb
        obtain ⟨m0, m1, m2, n0, n1, n2⟩ := HBX.out
        go_wp2_with fail
        rw [← HW4.out]
        refine HPu.out.mono ?_
        rintro e w7 ⟨v7, rfl, ho7, hB7⟩
        obtain ⟨a7, g7, cap7, e7, ha7, hE7, hcap7, hgb7⟩ := ho7.at
        subst e7
        have HE7 := hidR hE7
        have HA7 := hidR ha7
        have HR7 := hidR (HRo.out.below hB7)
        have HK7 := hidR (HKo.out.trans (Kept.of_below hB7))
        have HBX7 := hidR (HBX.out.below hB7)
        have HLq7 := hidR (HLq.out.below hB7)
        have HL7 : Hid (LieB w7 w.heap.size (.slice a7 (putE es ⟨s, z, ⟨#[]⟩⟩).length cap7) (putE es ⟨s, z, ⟨#[]⟩⟩)) := ⟨_, g7, 0, cap7, rfl, ha7, hE7, hcap7, fun h => Nat.le_trans hwo (hgb7 h)⟩
        have hw7 := HK7.out.2.2.2.1
        have hzz : ∀ e ∈ putE es ⟨s, z, ⟨#[]⟩⟩, e.p.size ≤ 16777216 ∧ e.x.size ≤ 16777216 := fun e he => ⟨by have := okP_size (pth_ok (HD3.out e he).1); omega, by have := (HD3.out e he).2; omega⟩
        have HOK := hidR (sLayerOk_any w7 a7 g7 0 cap7 (putE es ⟨s, z, ⟨#[]⟩⟩) (by omega) hcap7 hzz HA7.out HE7.out)
        clear ho7 hB7 ha7 hE7 hgb7 m0 m1 m2 n0 n1 n2 hzz HBX HPu HRo HKo HLo
        cases hly : layB (putE es ⟨s, z, ⟨#[]⟩⟩) with
        | true =>
          rw [hly] at HOK
          have HY := hidR hly
          go_wp2_with fail
          refine HOK.out.mono ?_
          rintro e w8 ⟨rfl, hB8⟩
          have HR8 := hidR (HR7.out.below hB8)
          have HK8 := hidR (HK7.out.trans (Kept.of_below hB8))
          have HL8 := hidR (HL7.out.below hB8)
          clear hB8 HR7 HK7 HL7
          go_wp2
          go_roundw
          case rel => exact ⟨k - 1, _, (q + 1 + 1), by go_num, by omega, by omega, HY, HD3, HL8, HR8, HK8⟩
          case measure => simp [RowKit.intOf]; omega
        | false =>
          rw [hly] at HOK
          clear hly
          go_wp2_with fail
          refine HOK.out.mono ?_
          rintro e w8 ⟨rfl, hB8⟩
          have HR8 := hidR (HR7.out.below hB8)
          have HK8 := hidR (HK7.out.trans (Kept.of_below hB8))
          have HL8 := hidR (HL7.out.below hB8)
          have HLq8 := hidR (HLq7.out.below hB8)
          have hw8 := HK8.out.2.2.2.1
          obtain ⟨m0, m1, m2, n0, n1, n2⟩ := HBX7.out.below hB8
          clear hB8 HR7 HK7 HL7
          go_wp2_with fail
          refine (l3Ups_any (s.size + 1) _ w.heap.size _ _ s (Nat.lt_succ_self _) hs HD3.out (by omega) (by omega) HL8.out).mono ?_
          rintro e w9 ⟨v9, es9, rfl, hL9, hD9, hl9, hB9⟩
          obtain ⟨a9, g9, o9, cap9, rfl, ha9, hE9, hcap9, hgb9⟩ := hL9
          have HR9 := hidR (HR8.out.below hB9)
          have HK9 := hidR (HK8.out.trans (Kept.of_below hB9))
          have HLq9 := hidR (HLq8.out.below hB9)
          have HL9 : Hid (LieB w9 w.heap.size (.slice a9 es9.length cap9) es9) := ⟨_, g9, o9, cap9, rfl, ha9, hE9, hcap9, hgb9⟩
          have HD9 := hidR hD9
          have HOK9 := hidR (sLayerOk_any w9 a9 g9 o9 cap9 es9 (by omega) hcap9 (fun e he => ⟨by have := okP_size (pth_ok (hD9 e he).1); omega, by have := (hD9 e he).2; omega⟩) ha9 hE9)
          clear ha9 hE9 hgb9 hB9 hD9 HR8 HK8 HL8 HLq8 m0 m1 m2 n0 n1 n2
          cases hl9y : layB es9 with
          | true =>
            rw [hl9y] at HOK9
            have HY := hidR hl9y
            go_wp2_with fail
            refine HOK9.out.mono ?_
            rintro e w10 ⟨rfl, hB10⟩
            have HR10 := hidR (HR9.out.below hB10)
            have HK10 := hidR (HK9.out.trans (Kept.of_below hB10))
            have HL10 := hidR (HL9.out.below hB10)
            clear hB10 HR9 HK9 HL9
            go_wp2
            go_roundw
            case rel => exact ⟨k - 1, _, (q + 1 + 1), by go_num, by omega, by omega, HY, HD9, HL10, HR10, HK10⟩
            case measure => simp [RowKit.intOf]; omega
          | false =>
            rw [hl9y] at HOK9
            go_wp2_with fail
            refine HOK9.out.mono ?_
            rintro e w10 ⟨rfl, hB10⟩
            have HR10 := hidR (HR9.out.below hB10)
            have HK10 := hidR (HK9.out.trans (Kept.of_below hB10))
            have HL10 := hidR (HLq9.out.below hB10)
            clear hB10 HR9 HK9 HL9
            go_wp2
            go_roundw
            case rel => exact ⟨k - 1, _, (q + 1 + 1), by go_num, by omega, by omega, HY0, HD, HL10, HR10, HK10⟩
            case measure => simp [RowKit.intOf]; omega
    · have hk0 : k = 0 := by omega
      subst hk0
      go_wp2
      go_ret
      exact ⟨_, es, q, rfl, HY0.out, HD.out, HL.out, by omega, HR.out, HK.out⟩
end Go.Proofs.YtkjpmngohocmlaaGreatDoor.Mk

/-
  The walk of the model's draw that bends a layer, whatever the code.
-/
namespace Go.Proofs.YtkjpmngohocmlaaGreatDoor.Mk
open Go.RowKit Go.Lib

set_option maxHeartbeats 2000000 in
set_option maxRecDepth 100000 in
theorem l3Bent_any (w : World) (r p base n : Nat) (v : Value) (es : List E) (hp : p ≤ 9000) (_hrb : r < base) (hbw : base ≤ w.heap.size) (hL : LieB w base v es) (hS : Drn n es) (hn : n ≤ 60) (h : Rd w r p) :
    Calls Tryz.prog 28 #[.pointer (some ⟨r, 0, none⟩), v] w fun e w' => ∃ (v' : Value) (es' : List E) (q : Nat), e = .returned v' ∧ LieB w' base v' es' ∧ Drn (n + 1) es' ∧ q ≤ p + 3 ∧ Rd w' r q ∧ Kept r w w' := by
  have hr := h.lt
  obtain ⟨a, g, o, cap, rfl, ha, hE, hcap, hgb⟩ := hL
  have hlen := hS.1
  have HS := hidR hS
  have HA := hidR ha
  have HB0 := hidR ((Below.refl w.heap.size w).alloc (Nat.le_refl _) (.cells #[] 36))
  have HE := hidR (hE.below HB0.out)
  have HR0 := hidR h
  clear hE ha hgb hS h
  go_enter Tryz.func28, Tryz.ntmps28
  go_wp2_with (first
    | (at_builtin; refine wpE_append rfl _ _ rfl w.heap.size (.slice (some ⟨w.heap.size, 0, none⟩) 0 0) [] rfl (OwnE.made w (Nat.le_refl _)) _ _ g o es es.length rfl rfl HA.out HE.out ?cc1 ?cc2 ?_)
    | fail)
  case cc1 => show 0 + _ ≤ _; omega
  case cc2 => exact HB0.out.size
  intro v5 w5 ho5 hg5
  have HB5 := hidR (HB0.out.grown hg5 HB0.out.size (fun q hq => (World.ownsRow.lt (OwnE.made w (base := w.heap.size) (Nat.le_refl _)) q hq).1))
  have HO5 : Hid (OwnE w5 w.heap.size v5 es) := ho5
  have HR5 := hidR (HR0.out.below HB5.out)
  have hw5 := HB5.out.size
  clear ho5 hg5
  obtain ⟨a5, g5, cap5, rfl, ha5, hE5, hcap5, hgb5⟩ := HO5.out.at
  by_cases h0 : es.length = 0
  · go_wp2
    go_ret
    exact ⟨_, es, _, rfl, ⟨_, g5, 0, cap5, rfl, ha5, hE5, hcap5, fun h => by omega⟩, ⟨Nat.le_succ_of_le HS.out.1, HS.out.2⟩, Nat.le_add_right _ _, HR5.out, Kept.of_below HB5.out⟩
  · have h0' : ((es.length : Int) == 0) = false := by rw [beq_eq_false_iff_ne]; omega
    obtain rfl := ha5 (by omega)
    have hgb5 := hgb5 (by omega)
    have HG : Hid (0 < es.length → g5 ≠ r) := fun _ => by omega
    have HE5 := hidR hE5
    clear hE5 ha5
    go_wp2_with fail
    refine (pick_any _ r p _ (by omega) (by omega) (by omega) HR5.out).mono ?_
    rintro e w6 ⟨jj, rfl, jj0, jj1, hR, hK⟩
    obtain ⟨i, rfl⟩ := Int.eq_ofNat_of_zero_le jj0
    have hi : i < es.length := by omega
    have HR6 := hidR hR
    have HK6 := hidR ((Kept.of_below (r := r) HB5.out).trans hK)
    have HO6 := hidR (HO5.out.kept hr hK)
    have HE6 := hidR (HE5.out.kept hK HG.out)
    clear hR hK HR5 HB5 HO5 HE5
    go_wp2_with fail
    refine (pick_any _ r (p + 1) _ (by decide) (by decide) (by omega) HR6.out).mono ?_
    rintro e w7 ⟨j, rfl, j0, j1, hR, hK⟩
    have HR7 := hidR hR
    have HK7 := hidR (HK6.out.trans hK)
    have HO7 := hidR (HO6.out.kept hr hK)
    have HE7 := hidR (HE6.out.kept hK HG.out)
    have hw7 := HK7.out.2.2.2.1
    have hrw7 := hR.lt
    clear hR hK HR6 HK6 HO6 HE6
    have hj : j = 0 ∨ j = 1 ∨ j = 2 ∨ j = 3 ∨ j = 4 ∨ j = 5 ∨ (6 ≤ j ∧ (j == 0) = false ∧ (j == 1) = false ∧ (j == 2) = false ∧ (j == 3) = false ∧ (j == 4) = false ∧ (j == 5) = false) := by
      by_cases h6 : 6 ≤ j
      · exact .inr (.inr (.inr (.inr (.inr (.inr ⟨h6, by rw [beq_eq_false_iff_ne]; omega, by rw [beq_eq_false_iff_ne]; omega, by rw [beq_eq_false_iff_ne]; omega, by rw [beq_eq_false_iff_ne]; omega, by rw [beq_eq_false_iff_ne]; omega, by rw [beq_eq_false_iff_ne]; omega⟩)))))
      · omega
    rcases hj with rfl | rfl | rfl | rfl | rfl | rfl | ⟨hj6, n0, n1, n2, n3, n4, n5⟩
    · go_wp2_with fail
      refine (num_P (fun _ => true) _ r (p + 1 + 1) w7.heap.size 5 5 (by decide) (by decide) (by omega) (by omega) (LstI.new (fun _ => true) w7 [0, 5, -1, 3, 4] 3 (by decide)) (HR7.out.below ((Below.refl _ w7).alloc (Nat.le_refl _) _))).mono ?_
      rintro e w8 ⟨z, rfl, hz, hR, hK⟩
      have hK' := (Kept.alloc w7 _).trans hK
      have HO8 := hidR (HO7.out.kept hr hK')
      obtain ⟨c0, c1, c2⟩ := HE7.out.kept hK' HG.out i hi
      rw [Nat.zero_add] at c0 c1 c2
      have f0 := HO8.out.unfrozen rfl
      have HK8 := hidR ((Kn.step HK7.out (Nat.le_refl _) hK').other (Nat.le_refl _) hgb5 (Kept.setCell (r := g5) w8 (i * 3 + 1) (.int .i64 z)))
      have HR8 := hidR (hR.keep (Kept.setCell (r := g5) w8 (i * 3 + 1) (.int .i64 z)) (by omega))
      have HE8 := hidR ((HE7.out.kept hK' HG.out).set1 hi z)
      rw [Nat.zero_add] at HE8
      have HS8 := hidR (drn_set (k := i) HS.out ⟨es[i].p, z, es[i].x⟩ (HS.out.2 es[i] (List.getElem_mem _)))
      clear hR hK hK' HK7 HR7 HE7 HO7
      go_wp2
      go_ret
      exact ⟨_, es.set i ⟨es[i].p, z, es[i].x⟩, _, rfl, ⟨_, g5, 0, cap5, by rw [List.length_set]; rfl, fun _ => rfl, HE8.out, by rw [List.length_set]; exact hcap5, fun _ => by omega⟩, ⟨Nat.le_succ_of_le HS8.out.1, HS8.out.2⟩, by omega, HR8.out, HK8.out⟩
    · go_wp2_with fail
      refine (of_P okP _ r (p + 1 + 1) w7.heap.size 4 4 (by decide) (by decide) (by omega) (by omega) (LstP.new okP w7 [⟨#[47]⟩, ⟨#[47, 65]⟩, ⟨#[47, 99, 47, 99]⟩, ⟨#[47, 97, 47, 98, 47, 99, 47, 100]⟩] 9 (by decide +kernel)) (HR7.out.below ((Below.refl _ w7).alloc (Nat.le_refl _) _))).mono ?_
      rintro e w8 ⟨z, rfl, hz, hR, hK⟩
      have hK' := (Kept.alloc w7 _).trans hK
      have HO8 := hidR (HO7.out.kept hr hK')
      obtain ⟨c0, c1, c2⟩ := HE7.out.kept hK' HG.out i hi
      rw [Nat.zero_add] at c0 c1 c2
      have f0 := HO8.out.unfrozen rfl
      have HK8 := hidR ((Kn.step HK7.out (Nat.le_refl _) hK').other (Nat.le_refl _) hgb5 (Kept.setCell (r := g5) w8 (i * 3) (.string z)))
      have HR8 := hidR (hR.keep (Kept.setCell (r := g5) w8 (i * 3) (.string z)) (by omega))
      have HE8 := hidR ((HE7.out.kept hK' HG.out).set0 hi z)
      rw [Nat.zero_add] at HE8
      have HS8 := hidR (drn_set (k := i) HS.out ⟨z, es[i].d, es[i].x⟩ ⟨hz, (HS.out.2 es[i] (List.getElem_mem _)).2⟩)
      clear hR hK hK' HK7 HR7 HE7 HO7
      go_wp2
      go_ret
      exact ⟨_, es.set i ⟨z, es[i].d, es[i].x⟩, _, rfl, ⟨_, g5, 0, cap5, by rw [List.length_set]; rfl, fun _ => rfl, HE8.out, by rw [List.length_set]; exact hcap5, fun _ => by omega⟩, ⟨Nat.le_succ_of_le HS8.out.1, HS8.out.2⟩, by omega, HR8.out, HK8.out⟩
    · go_wp2_with fail
      refine (of_P okS _ r (p + 1 + 1) w7.heap.size 3 3 (by decide) (by decide) (by omega) (by omega) (LstP.new okS w7 [⟨#[113]⟩, ⟨#[65]⟩, ⟨#[97, 98, 99, 100, 101, 102, 103]⟩] 9 (by decide +kernel)) (HR7.out.below ((Below.refl _ w7).alloc (Nat.le_refl _) _))).mono ?_
      rintro e w8 ⟨z, rfl, hz, hR, hK⟩
      have hK' := (Kept.alloc w7 _).trans hK
      have HO8 := hidR (HO7.out.kept hr hK')
      obtain ⟨c0, c1, c2⟩ := HE7.out.kept hK' HG.out i hi
      rw [Nat.zero_add] at c0 c1 c2
      have f0 := HO8.out.unfrozen rfl
      have HK8 := hidR ((Kn.step HK7.out (Nat.le_refl _) hK').other (Nat.le_refl _) hgb5 (Kept.setCell (r := g5) w8 (i * 3 + 2) (.string z)))
      have HR8 := hidR (hR.keep (Kept.setCell (r := g5) w8 (i * 3 + 2) (.string z)) (by omega))
      have HE8 := hidR ((HE7.out.kept hK' HG.out).set2 hi z)
      rw [Nat.zero_add] at HE8
      have HS8 := hidR (drn_set (k := i) HS.out ⟨es[i].p, es[i].d, z⟩ ⟨(HS.out.2 es[i] (List.getElem_mem _)).1, okS_size hz⟩)
      clear hR hK hK' HK7 HR7 HE7 HO7
      go_wp2
      go_ret
      exact ⟨_, es.set i ⟨es[i].p, es[i].d, z⟩, _, rfl, ⟨_, g5, 0, cap5, by rw [List.length_set]; rfl, fun _ => rfl, HE8.out, by rw [List.length_set]; exact hcap5, fun _ => by omega⟩, ⟨Nat.le_succ_of_le HS8.out.1, HS8.out.2⟩, by omega, HR8.out, HK8.out⟩
    · obtain ⟨c0, c1, c2⟩ := HE7.out i hi
      rw [Nat.zero_add] at c0 c1 c2
      go_wp2_with (at_builtin; refine wpE_append rfl _ _ rfl w.heap.size (.slice (some ⟨g5, 0, none⟩) es.length cap5) es rfl (World.ownsRow.alloc HO7.out _) _ _ w7.heap.size 0 [es[i]] 1 rfl rfl (fun _ => rfl) (ents_new _ _) ?cd1 ?cd2 ?_)
      case cd1 => simp; omega
      case cd2 => simp; omega
      intro v8 w8 ho8 hg8
      have hBa : Below w7.heap.size w7 (w7.alloc (.cells #[.string es[i].p, .int .i64 es[i].d, .string es[i].x] 36)) := (Below.refl _ w7).alloc (Nat.le_refl _) _
      have hk8 : Kept g5 (w7.alloc (.cells #[.string es[i].p, .int .i64 es[i].d, .string es[i].x] 36)) w8 := ⟨hg8.os, hg8.tape, hg8.output, hg8.size, fun b hb hne => hg8.block b hb (fun q => hne (by simp [Value.ownBlock] at q; first | exact q | exact q.symm))⟩
      have HK8 := hidR (Kn.other (Kn.step (n := w.heap.size) HK7.out (Nat.le_refl _) (Kept.alloc w7 _)) (Nat.le_refl _) hgb5 hk8)
      have HR8 := hidR ((HR7.out.below hBa).keep hk8 (by omega))
      clear hk8 hBa
      have HO8 : Hid (OwnE w8 w.heap.size v8 (es ++ [es[i]])) := ho8
      have HS8 : Hid (Drn (n + 1) (es ++ [es[i]])) := ⟨by rw [List.length_append]; have := HS.out.1; simp; omega, fun e he => by
        rcases List.mem_append.1 he with q | q
        · exact HS.out.2 e q
        · rw [List.mem_singleton.1 q]; exact HS.out.2 _ (List.getElem_mem _)⟩
      clear hg8 ho8
      go_wp2
      go_ret
      exact ⟨_, es ++ [es[i]], _, rfl, HO8.out.lieB.lower hbw, HS8.out, by omega, HR8.out, HK8.out⟩
    · have HD := hidR (ents_drop HE7.out 3 1 (.inl rfl))
      have HSd : Hid (Drn (n + 1) (es.drop 1)) := ⟨by rw [List.length_drop]; have := HS.out.1; omega, fun e he => HS.out.2 e (List.mem_of_mem_drop he)⟩
      by_cases h1 : cap5 ≤ 1
      · have h1' : cap5 = 1 := by omega
        subst h1'
        have HD2 : Hid (es.drop 1 = []) := List.drop_eq_nil_of_le (by omega)
        go_wp2
        go_ret
        exact ⟨_, es.drop 1, _, rfl, ⟨some ⟨g5, 0, none⟩, g5, 3, 0, by rw [HD2.out]; rfl, fun h => absurd h (by rw [HD2.out]; simp), HD.out, by rw [HD2.out]; simp, fun h => absurd h (by rw [HD2.out]; simp)⟩, HSd.out, by omega, HR7.out, HK7.out⟩
      · go_wp2
        go_ret
        exact ⟨_, es.drop 1, _, rfl, ⟨some ⟨g5, 3, none⟩, g5, 3, cap5 - 1, by rw [List.length_drop]; rfl, fun _ => rfl, HD.out, by rw [List.length_drop]; omega, fun _ => by omega⟩, HSd.out, by omega, HR7.out, HK7.out⟩
    · go_wp2_with (at_builtin; refine wpE_append rfl _ _ rfl w.heap.size (.slice (some ⟨g5, 0, none⟩) es.length cap5) es rfl (World.ownsRow.alloc HO7.out _) _ _ w7.heap.size 0 [⟨⟨#[47, 122, 122, 47, 122]⟩, 1, ⟨#[]⟩⟩] 1 rfl rfl (fun _ => rfl) (ents_new _ ⟨⟨#[47, 122, 122, 47, 122]⟩, 1, ⟨#[]⟩⟩) ?cd1 ?cd2 ?_)
      case cd1 => simp; omega
      case cd2 => simp; omega
      intro v8 w8 ho8 hg8
      have hBa : Below w7.heap.size w7 (w7.alloc (.cells #[.string ⟨#[47, 122, 122, 47, 122]⟩, .int .i64 1, .string ⟨#[]⟩] 36)) := (Below.refl _ w7).alloc (Nat.le_refl _) _
      have hk8 : Kept g5 (w7.alloc (.cells #[.string ⟨#[47, 122, 122, 47, 122]⟩, .int .i64 1, .string ⟨#[]⟩] 36)) w8 := ⟨hg8.os, hg8.tape, hg8.output, hg8.size, fun b hb hne => hg8.block b hb (fun q => hne (by simp [Value.ownBlock] at q; first | exact q | exact q.symm))⟩
      have HK8 := hidR (Kn.other (Kn.step (n := w.heap.size) HK7.out (Nat.le_refl _) (Kept.alloc w7 _)) (Nat.le_refl _) hgb5 hk8)
      have HR8 := hidR ((HR7.out.below hBa).keep hk8 (by omega))
      clear hk8 hBa
      have HO8 : Hid (OwnE w8 w.heap.size v8 (es ++ [⟨⟨#[47, 122, 122, 47, 122]⟩, 1, ⟨#[]⟩⟩])) := ho8
      have HS8 : Hid (Drn (n + 1) (es ++ [⟨⟨#[47, 122, 122, 47, 122]⟩, 1, ⟨#[]⟩⟩])) := ⟨by rw [List.length_append]; have := HS.out.1; simp; omega, fun e he => by
        rcases List.mem_append.1 he with q | q
        · exact HS.out.2 e q
        · rw [List.mem_singleton.1 q]; exact ⟨by decide +kernel, Nat.zero_le _⟩⟩
      clear hg8 ho8
      go_wp2
      go_ret
      exact ⟨_, es ++ [(⟨⟨#[47, 122, 122, 47, 122]⟩, 1, ⟨#[]⟩⟩ : E)], _, rfl, HO8.out.lieB.lower hbw, HS8.out, by omega, HR8.out, HK8.out⟩
    · go_wp2
      go_ret
      exact ⟨_, es, _, rfl, ⟨_, g5, 0, cap5, rfl, fun _ => rfl, HE7.out, hcap5, fun _ => by omega⟩, ⟨Nat.le_succ_of_le HS.out.1, HS.out.2⟩, by omega, HR7.out, HK7.out⟩
end Go.Proofs.YtkjpmngohocmlaaGreatDoor.Mk
