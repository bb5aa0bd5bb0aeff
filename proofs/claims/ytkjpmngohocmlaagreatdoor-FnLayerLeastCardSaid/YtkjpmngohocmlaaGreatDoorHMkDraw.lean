/-
  The walks of the model's draws of a layer, whatever the code.
-/
import Derived.Test.YtkjpmngohocmlaaGreatDoorHPk30
import Derived.Test.YtkjpmngohocmlaaGreatDoorHPk22
import Derived.Test.YtkjpmngohocmlaaGreatDoorHPk07
namespace Go.Proofs.YtkjpmngohocmlaaGreatDoor.Mk
open Go.RowKit Go.Lib

theorem lieL {w : World} {base : Nat} {v : Value} {es : List E} (h : LieB w base v es) : ∃ a g o cap, v = .slice a es.length cap ∧ (0 < es.length → a = some ⟨g, o, none⟩) ∧ Ents w g o es ∧ es.length ≤ cap := by
  obtain ⟨a, g, o, cap, h1, h2, h3, h4, _⟩ := h
  exact ⟨a, g, o, cap, h1, h2, h3, h4⟩

theorem LieB.kn {w w' : World} {base r : Nat} {v : Value} {es : List E} (h : LieB w base v es) (hr : r < base) (k : Kn w.heap.size r w w') : LieB w' base v es := by
  obtain ⟨a, g, o, cap, h1, h2, h3, h4, h5⟩ := h
  refine ⟨a, g, o, cap, h1, h2, fun i hi => ?_, h4, h5⟩
  obtain ⟨c0, c1, c2⟩ := h3 i hi
  have hg : g ≠ r := by have := h5 (by omega); omega
  have hl : g < w.heap.size := World.block_lt_of_cell? w ⟨g, _, none⟩ c0
  have hh := k.2.2.2.2 g hl hg
  exact ⟨(World.cell?_of_block (w := w) (a := ⟨g, _, none⟩) hh).trans c0, (World.cell?_of_block (w := w) (a := ⟨g, _, none⟩) hh).trans c1, (World.cell?_of_block (w := w) (a := ⟨g, _, none⟩) hh).trans c2⟩
theorem Box3.keptD {W W' : World} {b r : Nat} {u v x : Value} (h : Box3 W b u v x) (k : Kept r W W') (hb : b ≠ r) : Box3 W' b u v x := by
  have hh := k.2.2.2.2 b h.lt hb
  exact ⟨(World.cell?_of_block (w := W) (a := ⟨b, _, none⟩) hh).trans h.c0, (World.cell?_of_block (w := W) (a := ⟨b, _, none⟩) hh).trans h.c1, (World.cell?_of_block (w := W) (a := ⟨b, _, none⟩) hh).trans h.c2, (World.frozen?_of_block (w := W) (a := ⟨b, _, none⟩) hh).trans h.f0, (World.frozen?_of_block (w := W) (a := ⟨b, _, none⟩) hh).trans h.f1, (World.frozen?_of_block (w := W) (a := ⟨b, _, none⟩) hh).trans h.f2⟩
theorem Box3.put2 {W : World} {b : Nat} {u v x : Value} (h : Box3 W b u v x) (y : Value) : Box3 (W.setCell ⟨b, 2, none⟩ y) b u v y :=
  ⟨(cell_ne' _ _ _ _ _ (by decide)).trans h.c0, (cell_ne' _ _ _ _ _ (by decide)).trans h.c1, cell_eq' _ h.c2, by rw [World.frozen?_setCell]; exact h.f0, by rw [World.frozen?_setCell]; exact h.f1, by rw [World.frozen?_setCell]; exact h.f2⟩

set_option maxHeartbeats 1000000 in
set_option maxRecDepth 100000 in
theorem l3Ups_any : ∀ (n : Nat) (w : World) (base : Nat) (v : Value) (es : List E) (s : ByteArray), s.size < n → pthP s = true → DrnP es → es.length + s.size ≤ 2000 → base ≤ w.heap.size → LieB w base v es →
    Calls Tryz.prog 73 #[v, .string s] w fun e w' => ∃ (v' : Value) (es' : List E), e = .returned v' ∧ LieB w' base v' es' ∧ DrnP es' ∧ es'.length ≤ es.length + s.size ∧ Below w.heap.size w w'
  | 0, _, _, _, _, _, h, _, _, _, _, _ => by omega
  | n + 1, w, base, v, es, s, hn, hp, hD, hl, hb, hL => by
    have hpb := pth_path hp
    have hlt := up_lt hpb
    have hs16 := okP_size (pth_ok hp)
    have hu := pth_up hp
    obtain ⟨a, g, o, cap, rfl, ha, hE, hcap, hgb⟩ := hL
    have HE := hidE hE
    have HA := hidE ha
    have HD := hidE hD
    have HG := hidE hgb
    clear hE ha hD hgb
    go_enter Tryz.func73, Tryz.ntmps73
    go_wp2_with fail
    refine (sPathUp_any s (by omega) _).mono ?_
    rintro e w1 ⟨rfl, hB1⟩
    have HB1 := hidE hB1
    have HE1 := hidE (HE.out.below hB1)
    clear hB1
    rcases hu with hr | hu
    · have hr2 : (upS s).toList = [47] := by rw [hr, Lib.toList_data]
      have hr3 : ((upS s).toList == [47]) = true := by rw [hr2]; rfl
      go_wp2
      go_ret
      exact ⟨_, es, rfl, ⟨_, g, o, cap, rfl, HA.out, HE1.out, hcap, HG.out⟩, HD.out, by omega, HB1.out⟩
    · have hr2 : ¬ (upS s).toList = [47] := fun q => by
        have : upS s = ⟨#[47]⟩ := (isRoot_iff _).1 (by unfold isRoot; rw [q]; rfl)
        rw [this] at hu
        have := pth_path hu
        rw [root_no_path] at this; cases this
      have hr3 : ((upS s).toList == [47]) = false := by rw [beq_eq_false_iff_ne]; exact hr2
      have HKi := hidE (l3Kind_any w1 a g o cap es (upS s) (by omega) HA.out HE1.out)
      have hw1 := HB1.out.size
      by_cases hk : kindM es (upS s) = 0
      · rw [hk] at HKi
        have HPu := hidE (l3Put_any w1 a g o cap es (upS s) 2 ⟨#[]⟩ (by omega) hcap HA.out HE1.out)
        have hpl := put_len es ⟨upS s, 2, ⟨#[]⟩⟩
        have HD2 := hidE (HD.out.put (e := ⟨upS s, 2, ⟨#[]⟩⟩) ⟨hu, Nat.zero_le _⟩)
        go_wp2_with (first | (go_at_call 91; refine HKi.out.mono ?_; rintro e w2 ⟨rfl, rfl⟩) | (go_at_call 72; refine HPu.out.mono ?_; rintro e w3 ⟨v3, rfl, ho3, hB3⟩) | (go_at_call 73; refine (l3Ups_any n _ base v3 _ (upS s) (by omega) hu HD2.out (by omega) (Nat.le_trans hb (Nat.le_trans hw1 hB3.size)) (ho3.lieB.lower (Nat.le_trans hb hw1))).mono ?_; rintro e w4 ⟨v4, es4, rfl, hL4, hD4, hl4, hB4⟩) | fail)
        go_ret
        exact ⟨_, es4, rfl, hL4, hD4, by omega, tBelow (tBelow HB1.out hB3) hB4⟩
      · have hk' : (kindM es (upS s) == 0) = false := by rw [beq_eq_false_iff_ne]; exact hk
        have HL1 : Hid (LieB w1 base (.slice a es.length cap) es) := ⟨_, g, o, cap, rfl, HA.out, HE1.out, hcap, HG.out⟩
        go_wp2_with (first | (go_at_call 91; refine HKi.out.mono ?_; rintro e w2 ⟨rfl, rfl⟩) | (go_at_call 73; refine (l3Ups_any n _ base _ es (upS s) (by omega) hu HD.out (by omega) (Nat.le_trans hb hw1) HL1.out).mono ?_; rintro e w4 ⟨v4, es4, rfl, hL4, hD4, hl4, hB4⟩) | fail)
        go_ret
        exact ⟨_, es4, rfl, hL4, hD4, by omega, tBelow HB1.out hB4⟩

set_option maxHeartbeats 2000000 in
set_option maxRecDepth 100000 in
theorem l3Layer_any (w : World) (r p : Nat) (hp : p ≤ 5000) (h : Rd w r p) :
    Calls Tryz.prog 29 #[.pointer (some ⟨r, 0, none⟩)] w fun e w' => ∃ (v : Value) (es : List E) (q : Nat), e = .returned v ∧ layB es = true ∧ DrnP es ∧ LieB w' w.heap.size v es ∧ q ≤ p + 40 ∧ Rd w' r q ∧ Kept r w w' := by
  have hr := h.lt
  have hr1 : w.heap.size + 1 ≠ r := by omega
  have hp1 : p ≤ 10000 := by omega
  obtain ⟨W0, hW0⟩ : ∃ W0, W0 = w.alloc (.cells #[] 36) := ⟨_, rfl⟩
  have hs0 : W0.heap.size = w.heap.size + 1 := by rw [hW0]; simp
  have HO0 : Hid (OwnE W0 w.heap.size (.slice (some ⟨w.heap.size, 0, none⟩) 0 0) []) := by rw [hW0]; exact OwnE.made w (Nat.le_refl _)
  have HK0 : Hid (Kept r w W0) := by rw [hW0]; exact Kept.alloc w _
  have HR0 := hidR (h.below (hW0 ▸ (Below.refl _ w).alloc (Nat.le_refl _) _ : Below w.heap.size w W0))
  have HL1 := hidR (LstI.new (fun z => decide (0 ≤ z ∧ z ≤ 12)) W0 [3, 5, 8, 2, 1, 0, 12] 3 (by decide))
  rw [hs0] at HL1
  clear h
  go_enter Tryz.func29, Tryz.ntmps29
  go_wp2_with fail
  rw [← hW0]
  clear hW0
  refine (num_P (fun z => decide (0 ≤ z ∧ z ≤ 12)) _ r p (w.heap.size + 1) 7 7 (by decide) (by decide) hp1 hr1 HL1.out (HR0.out.below ((Below.refl _ _).alloc (Nat.le_refl _) _))).mono ?_
  rintro e w1 ⟨k0, rfl, hk, hR, hK⟩
  have HR1 := hidR hR
  have HK1 := hidR ((HK0.out.trans (Kept.alloc W0 _)).trans hK)
  have HO1 := hidR ((HO0.out.kept hr (Kept.alloc W0 _)).kept hr hK).lieB
  have hk' := of_decide_eq_true hk
  obtain ⟨n0, rfl⟩ := Int.eq_ofNat_of_zero_le hk'.1
  have hn0 : n0 ≤ 12 := by omega
  clear hR hK hk HL1 HO0 HK0 HR0 hk'
  go_wp2_with fail
  go_loopw [3, 4] (fun v iv wl => ∃ (k : Nat) (es : List E) (q : Nat), iv = .int .i64 k ∧ k ≤ 12 ∧ q + 3 * k ≤ p + 40 ∧ Hid (layB es = true) ∧ Hid (DrnP es) ∧ Hid (LieB wl w.heap.size v es) ∧ Hid (Rd wl r q) ∧ Hid (Kept r w wl)) (fun _ iv _ => (RowKit.intOf iv).toNat)
  case atStart => exact ⟨n0, [], p + 1, rfl, hn0, by omega, by rfl, (fun e he => by cases he), HO1, HR1, HK1⟩
  case round =>
    obtain ⟨k, es, q, rfl, hk, hq, HY0, HD, HL, HR, HK⟩ := hrel
    have hes : es.length ≤ 32 := by
      have := HY0.out
      unfold layB at this
      rw [Bool.and_eq_true] at this
      exact of_decide_eq_true this.2
    by_cases h0 : 0 < k
    · have h0' : (0 : Int) < (k : Int) := by omega
      go_wp2_with fail
      refine (l1Path_P pthP (by decide +kernel) _ r q (by omega) HR.out).mono ?_
      rintro e w2 ⟨s, rfl, hs, hR, hK⟩
      have hs16 := okP_size (pth_ok hs)
      have HR2 := hidR hR
      have HK2 := hidR (HK.out.trans hK)
      have HL2 := hidR (HL.out.kept hr hK)
      have hr2 := hR.lt
      clear hR hK HR HK HL
      go_wp2_with fail
      refine (num_P (fun z => decide (1 ≤ z ∧ z ≤ 4)) _ r (q + 1) w2.heap.size 6 6 (by decide) (by decide) (by omega) (by omega) (LstI.new (fun z => decide (1 ≤ z ∧ z ≤ 4)) w2 [1, 2, 3, 4, 1, 3] 3 (by decide)) (HR2.out.below ((Below.refl _ _).alloc (Nat.le_refl _) _))).mono ?_
      rintro e w3 ⟨z, rfl, hz, hR, hK⟩
      have hz' := of_decide_eq_true hz
      have HR3 := hidR hR
      have HK3 := hidR ((HK2.out.trans (Kept.alloc w2 _)).trans hK)
      have HL3 := hidR ((HL2.out.kept hr (Kept.alloc w2 _)).kept hr hK)
      have hr3 := hR.lt
      have hw3 := HK3.out.2.2.2.1
      clear hR hK HR2 HK2 HL2 hz
      obtain ⟨W4, hW4⟩ : ∃ W4, W4 = w3.alloc (.cells #[.string s, .int .i64 z, .string ⟨#[]⟩] 36) := ⟨_, rfl⟩
      have BX4 : Box3 W4 w3.heap.size (.string s) (.int .i64 z) (.string ⟨#[]⟩) := by rw [hW4]; exact Box3.new _ _ _ _ _
      have hB4 : Below w3.heap.size w3 W4 := by rw [hW4]; exact (Below.refl _ _).alloc (Nat.le_refl _) _
      have HR4 := hidR (HR3.out.below hB4)
      have HK4 := hidR (HK3.out.trans (Kept.of_below hB4))
      have HL4 := hidR (HL3.out.below hB4)
      have HB4 := hidR BX4
      have HW4 := hidR hW4
      obtain ⟨m0, m1, m2, n0, n1, n2⟩ := BX4
      have HK34 := hidR (Kept.of_below (r := r) hB4)
      clear hB4 HR3 HK3
      by_cases hz1 : z = 1
      · subst hz1
        go_wp2_with fail
        rw [← HW4.out]
        clear hW4 HW4
        refine (l2Some_any _ r (q + 1 + 1) (by omega) HR4.out).mono ?_
        rintro e w5 ⟨x, rfl, hx, hR, hK⟩
        have hx16 := okS_size hx
        have BX5 : Box3 w5 w3.heap.size (.string s) (.int .i64 1) (.string ⟨#[]⟩) := HB4.out.keptD hK (by omega)
        have HBX := hidR (BX5.put2 (.string x))
        have HKo := hidR (Kn.other (Kn.step (n := w.heap.size) HK4.out (Nat.le_refl _) hK) (Nat.le_refl _) hw3 (Kept.setCell (r := w3.heap.size) w5 2 (.string x))).kept
        have HRo := hidR (hR.keep (Kept.setCell (r := w3.heap.size) w5 2 (.string x)) (by omega))
        have HLo := hidR (HL3.out.kn hr (Kn.other (Kn.step (Kn.step (Kn.refl w3.heap.size r w3) (Nat.le_refl _) HK34.out) (Nat.le_refl _) hK) (Nat.le_refl _) (Nat.le_refl _) (Kept.setCell (r := w3.heap.size) w5 2 (.string x))))
        obtain ⟨W6, hW6⟩ : ∃ W6, W6 = w5.setCell ⟨w3.heap.size, 2, none⟩ (.string x) := ⟨_, rfl⟩
        rw [← hW6] at HBX HKo HRo HLo
        have HW6 := hidR hW6
        obtain ⟨m0, m1, m2, n0, n1, n2⟩ := BX5
        clear hR hK HK4 HR4 HL4 HB4 hW6 HL3 HK34
        obtain ⟨a, g, o, cap, rfl, ha, hE, hcap, hgb⟩ := HLo.out
        have HPu := hidR (l3Put_any W6 a g o cap es s 1 x (by omega) hcap ha hE)
        have hpl := put_len es ⟨s, 1, x⟩
        have HD3 := hidR (HD.out.put (e := ⟨s, 1, x⟩) ⟨hs, hx16⟩)
        have hwo := HKo.out.2.2.2.1
        have HLq : Hid (LieB W6 w.heap.size (.slice a es.length cap) es) := ⟨_, g, o, cap, rfl, ha, hE, hcap, hgb⟩
        clear ha hE hgb
        obtain ⟨m0, m1, m2, n0, n1, n2⟩ := HBX.out
        go_wp2_with fail
        rw [← HW6.out]
        refine HPu.out.mono ?_
        rintro e w7 ⟨v7, rfl, ho7, hB7⟩
        obtain ⟨a7, g7, cap7, e7, ha7, hE7, hcap7, hgb7⟩ := ho7.at
        subst e7
        have HE7 := hidR hE7
        have HA7 := hidR ha7
        have HR7 := hidR (HRo.out.below hB7)
        have HK7 := hidR (HKo.out.trans (Kept.of_below hB7))
        have HBX7 := hidR (HBX.out.below hB7)
        have HLq7 := hidR (HLq.out.below hB7)
        have HL7 : Hid (LieB w7 w.heap.size (.slice a7 (putE es ⟨s, 1, x⟩).length cap7) (putE es ⟨s, 1, x⟩)) := ⟨_, g7, 0, cap7, rfl, ha7, hE7, hcap7, fun h => Nat.le_trans hwo (hgb7 h)⟩
        have hw7 := HK7.out.2.2.2.1
        have hzz : ∀ e ∈ putE es ⟨s, 1, x⟩, e.p.size ≤ 16777216 ∧ e.x.size ≤ 16777216 := fun e he => ⟨by have := okP_size (pth_ok (HD3.out e he).1); omega, by have := (HD3.out e he).2; omega⟩
        have HOK := hidR (sLayerOk_any w7 a7 g7 0 cap7 (putE es ⟨s, 1, x⟩) (by omega) hcap7 hzz HA7.out HE7.out)
        clear ho7 hB7 ha7 hE7 hgb7 m0 m1 m2 n0 n1 n2 hzz HBX HPu HRo HKo HLo
        cases hly : layB (putE es ⟨s, 1, x⟩) with
        | true =>
          rw [hly] at HOK
          have HY := hidR hly
          go_wp2_with fail
          refine HOK.out.mono ?_
          rintro e w8 ⟨rfl, hB8⟩
          have HR8 := hidR (HR7.out.below hB8)
          have HK8 := hidR (HK7.out.trans (Kept.of_below hB8))
          have HL8 := hidR (HL7.out.below hB8)
          clear hB8 HR7 HK7 HL7
          go_wp2
          go_roundw
          case rel => exact ⟨k - 1, _, (q + 1 + 1 + 1), by go_num, by omega, by omega, HY, HD3, HL8, HR8, HK8⟩
          case measure => simp [RowKit.intOf]; omega
        | false =>
          rw [hly] at HOK
          clear hly
          go_wp2_with fail
          refine HOK.out.mono ?_
          rintro e w8 ⟨rfl, hB8⟩
          have HR8 := hidR (HR7.out.below hB8)
          have HK8 := hidR (HK7.out.trans (Kept.of_below hB8))
          have HL8 := hidR (HL7.out.below hB8)
          have HLq8 := hidR (HLq7.out.below hB8)
          have hw8 := HK8.out.2.2.2.1
          obtain ⟨m0, m1, m2, n0, n1, n2⟩ := HBX7.out.below hB8
          clear hB8 HR7 HK7 HL7
          go_wp2_with fail
          refine (l3Ups_any (s.size + 1) _ w.heap.size _ _ s (Nat.lt_succ_self _) hs HD3.out (by omega) (by omega) HL8.out).mono ?_
          rintro e w9 ⟨v9, es9, rfl, hL9, hD9, hl9, hB9⟩
          obtain ⟨a9, g9, o9, cap9, rfl, ha9, hE9, hcap9, hgb9⟩ := hL9
          have HR9 := hidR (HR8.out.below hB9)
          have HK9 := hidR (HK8.out.trans (Kept.of_below hB9))
          have HLq9 := hidR (HLq8.out.below hB9)
          have HL9 : Hid (LieB w9 w.heap.size (.slice a9 es9.length cap9) es9) := ⟨_, g9, o9, cap9, rfl, ha9, hE9, hcap9, hgb9⟩
          have HD9 := hidR hD9
          have HOK9 := hidR (sLayerOk_any w9 a9 g9 o9 cap9 es9 (by omega) hcap9 (fun e he => ⟨by have := okP_size (pth_ok (hD9 e he).1); omega, by have := (hD9 e he).2; omega⟩) ha9 hE9)
          clear ha9 hE9 hgb9 hB9 hD9 HR8 HK8 HL8 HLq8 m0 m1 m2 n0 n1 n2
          cases hl9y : layB es9 with
          | true =>
            rw [hl9y] at HOK9
            have HY := hidR hl9y
            go_wp2_with fail
            refine HOK9.out.mono ?_
            rintro e w10 ⟨rfl, hB10⟩
            have HR10 := hidR (HR9.out.below hB10)
            have HK10 := hidR (HK9.out.trans (Kept.of_below hB10))
            have HL10 := hidR (HL9.out.below hB10)
            clear hB10 HR9 HK9 HL9
            go_wp2
            go_roundw
            case rel => exact ⟨k - 1, _, (q + 1 + 1 + 1), by go_num, by omega, by omega, HY, HD9, HL10, HR10, HK10⟩
            case measure => simp [RowKit.intOf]; omega
          | false =>
            rw [hl9y] at HOK9
            go_wp2_with fail
            refine HOK9.out.mono ?_
            rintro e w10 ⟨rfl, hB10⟩
            have HR10 := hidR (HR9.out.below hB10)
            have HK10 := hidR (HK9.out.trans (Kept.of_below hB10))
            have HL10 := hidR (HLq9.out.below hB10)
            clear hB10 HR9 HK9 HL9
            go_wp2
            go_roundw
            case rel => exact ⟨k - 1, _, (q + 1 + 1 + 1), by go_num, by omega, by omega, HY0, HD, HL10, HR10, HK10⟩
            case measure => simp [RowKit.intOf]; omega
      · have hz1' : (z == 1) = false := by rw [beq_eq_false_iff_ne]; exact hz1
        have HBX := HB4
        have HKo := HK4
        have HRo := HR4
        have HLo := HL4
        obtain ⟨a, g, o, cap, rfl, ha, hE, hcap, hgb⟩ := HLo.out
        have HPu := hidR (l3Put_any W4 a g o cap es s z ⟨#[]⟩ (by omega) hcap ha hE)
        have hpl := put_len es ⟨s, z, ⟨#[]⟩⟩
        have HD3 := hidR (HD.out.put (e := ⟨s, z, ⟨#[]⟩⟩) ⟨hs, Nat.zero_le _⟩)
        have hwo := HKo.out.2.2.2.1
        have HLq : Hid (LieB W4 w.heap.size (.slice a es.length cap) es) := ⟨_, g, o, cap, rfl, ha, hE, hcap, hgb⟩
        clear ha hE hgb
        obtain ⟨m0, m1, m2, n0, n1, n2⟩ := HBX.out
        go_wp2_with fail
        rw [← HW4.out]
        refine HPu.out.mono ?_
        rintro e w7 ⟨v7, rfl, ho7, hB7⟩
        obtain ⟨a7, g7, cap7, e7, ha7, hE7, hcap7, hgb7⟩ := ho7.at
        subst e7
        have HE7 := hidR hE7
        have HA7 := hidR ha7
        have HR7 := hidR (HRo.out.below hB7)
        have HK7 := hidR (HKo.out.trans (Kept.of_below hB7))
        have HBX7 := hidR (HBX.out.below hB7)
        have HLq7 := hidR (HLq.out.below hB7)
        have HL7 : Hid (LieB w7 w.heap.size (.slice a7 (putE es ⟨s, z, ⟨#[]⟩⟩).length cap7) (putE es ⟨s, z, ⟨#[]⟩⟩)) := ⟨_, g7, 0, cap7, rfl, ha7, hE7, hcap7, fun h => Nat.le_trans hwo (hgb7 h)⟩
        have hw7 := HK7.out.2.2.2.1
        have hzz : ∀ e ∈ putE es ⟨s, z, ⟨#[]⟩⟩, e.p.size ≤ 16777216 ∧ e.x.size ≤ 16777216 := fun e he => ⟨by have := okP_size (pth_ok (HD3.out e he).1); omega, by have := (HD3.out e he).2; omega⟩
        have HOK := hidR (sLayerOk_any w7 a7 g7 0 cap7 (putE es ⟨s, z, ⟨#[]⟩⟩) (by omega) hcap7 hzz HA7.out HE7.out)
        clear ho7 hB7 ha7 hE7 hgb7 m0 m1 m2 n0 n1 n2 hzz HBX HPu HRo HKo HLo
        cases hly : layB (putE es ⟨s, z, ⟨#[]⟩⟩) with
        | true =>
          rw [hly] at HOK
          have HY := hidR hly
          go_wp2_with fail
          refine HOK.out.mono ?_
          rintro e w8 ⟨rfl, hB8⟩
          have HR8 := hidR (HR7.out.below hB8)
          have HK8 := hidR (HK7.out.trans (Kept.of_below hB8))
          have HL8 := hidR (HL7.out.below hB8)
          clear hB8 HR7 HK7 HL7
          go_wp2
          go_roundw
          case rel => exact ⟨k - 1, _, (q + 1 + 1), by go_num, by omega, by omega, HY, HD3, HL8, HR8, HK8⟩
          case measure => simp [RowKit.intOf]; omega
        | false =>
          rw [hly] at HOK
          clear hly
          go_wp2_with fail
          refine HOK.out.mono ?_
          rintro e w8 ⟨rfl, hB8⟩
          have HR8 := hidR (HR7.out.below hB8)
          have HK8 := hidR (HK7.out.trans (Kept.of_below hB8))
          have HL8 := hidR (HL7.out.below hB8)
          have HLq8 := hidR (HLq7.out.below hB8)
          have hw8 := HK8.out.2.2.2.1
          obtain ⟨m0, m1, m2, n0, n1, n2⟩ := HBX7.out.below hB8
          clear hB8 HR7 HK7 HL7
          go_wp2_with fail
          refine (l3Ups_any (s.size + 1) _ w.heap.size _ _ s (Nat.lt_succ_self _) hs HD3.out (by omega) (by omega) HL8.out).mono ?_
          rintro e w9 ⟨v9, es9, rfl, hL9, hD9, hl9, hB9⟩
          obtain ⟨a9, g9, o9, cap9, rfl, ha9, hE9, hcap9, hgb9⟩ := hL9
          have HR9 := hidR (HR8.out.below hB9)
          have HK9 := hidR (HK8.out.trans (Kept.of_below hB9))
          have HLq9 := hidR (HLq8.out.below hB9)
          have HL9 : Hid (LieB w9 w.heap.size (.slice a9 es9.length cap9) es9) := ⟨_, g9, o9, cap9, rfl, ha9, hE9, hcap9, hgb9⟩
          have HD9 := hidR hD9
          have HOK9 := hidR (sLayerOk_any w9 a9 g9 o9 cap9 es9 (by omega) hcap9 (fun e he => ⟨by have := okP_size (pth_ok (hD9 e he).1); omega, by have := (hD9 e he).2; omega⟩) ha9 hE9)
          clear ha9 hE9 hgb9 hB9 hD9 HR8 HK8 HL8 HLq8 m0 m1 m2 n0 n1 n2
          cases hl9y : layB es9 with
          | true =>
            rw [hl9y] at HOK9
            have HY := hidR hl9y
            go_wp2_with fail
            refine HOK9.out.mono ?_
            rintro e w10 ⟨rfl, hB10⟩
            have HR10 := hidR (HR9.out.below hB10)
            have HK10 := hidR (HK9.out.trans (Kept.of_below hB10))
            have HL10 := hidR (HL9.out.below hB10)
            clear hB10 HR9 HK9 HL9
            go_wp2
            go_roundw
            case rel => exact ⟨k - 1, _, (q + 1 + 1), by go_num, by omega, by omega, HY, HD9, HL10, HR10, HK10⟩
            case measure => simp [RowKit.intOf]; omega
          | false =>
            rw [hl9y] at HOK9
            go_wp2_with fail
            refine HOK9.out.mono ?_
            rintro e w10 ⟨rfl, hB10⟩
            have HR10 := hidR (HR9.out.below hB10)
            have HK10 := hidR (HK9.out.trans (Kept.of_below hB10))
            have HL10 := hidR (HLq9.out.below hB10)
            clear hB10 HR9 HK9 HL9
            go_wp2
            go_roundw
            case rel => exact ⟨k - 1, _, (q + 1 + 1), by go_num, by omega, by omega, HY0, HD, HL10, HR10, HK10⟩
            case measure => simp [RowKit.intOf]; omega
    · have hk0 : k = 0 := by omega
      subst hk0
      go_wp2
      go_ret
      exact ⟨_, es, q, rfl, HY0.out, HD.out, HL.out, by omega, HR.out, HK.out⟩
end Go.Proofs.YtkjpmngohocmlaaGreatDoor.Mk
