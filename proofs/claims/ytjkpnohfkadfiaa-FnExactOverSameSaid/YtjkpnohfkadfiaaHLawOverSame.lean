/-
  The walk of the law FnExactOverSame, out of the contracts.
-/
import Derived.Deep.RegionHeld3
import Derived.Test.YtjkpnohfkadfiaaHOvSame
namespace Go.Proofs.Ytjkpnohfkadfiaa.Ov
open Go.RowKit Go.Lib Go.Sort

theorem Sz.mono {n m : Nat} {x : O} (h : Sz n x) (hn : n ≤ m) : Sz m x :=
  ⟨Nat.le_trans h.b0 hn, fun e he => ⟨Nat.le_trans (h.b1 e he).1 hn, Nat.le_trans (h.b1 e he).2 hn⟩, Nat.le_trans h.l0 hn, fun l hl => ⟨Nat.le_trans (h.l1 l hl).1 hn, fun e he => ⟨Nat.le_trans ((h.l1 l hl).2 e he).1 hn, Nat.le_trans ((h.l1 l hl).2 e he).2 hn⟩⟩, Nat.le_trans h.u0 hn, fun e he => ⟨Nat.le_trans (h.u1 e he).1 hn, Nat.le_trans (h.u1 e he).2 hn⟩⟩
theorem sameO_self (x : O) : (sameES x.b x.b && (sameSS x.l x.l && Mk.sameES x.u x.u)) = true := by
  rw [sameES_self, sameSS_self, Mk.sameES_self]; rfl

set_option maxHeartbeats 2000000 in
set_option maxRecDepth 100000 in
theorem walk_fnExactOverSame (v v' : Value) (x y : O) (w : World) (hS : Sz maxLen x) (hS' : Sz maxLen y) (hA : Arg w v x) (hA' : Arg w v' y) :
    Calls Try.prog 3 #[v, v'] w fun r w' => r = .returned (.bool true) ∧ Below w.heap.size w w' := by
  have HA := hidE hA
  have HA' := hidE hA'
  have HS := hidE hS
  have HS' := hidE hS'
  obtain ⟨a0, g0, o0, c0, a1, g1, o1, c1, a2, g2, o2, c2, rfl, -⟩ := hA.ex
  obtain ⟨a0', g0', o0', c0', a1', g1', o1', c1', a2', g2', o2', c2', rfl, -⟩ := hA'.ex
  clear hA hA' hS hS'
  have BX := (C3.new w (.slice a0 x.b.length c0) (.slice a1 x.l.length c1) (.slice a2 x.u.length c2) 26).on (.cells #[.slice a0' y.b.length c0', .slice a1' y.l.length c1', .slice a2' y.u.length c2'] 26)
  have BY := C3.new (w.alloc (.cells #[.slice a0 x.b.length c0, .slice a1 x.l.length c1, .slice a2 x.u.length c2] 26)) (.slice a0' y.b.length c0') (.slice a1' y.l.length c1') (.slice a2' y.u.length c2') 26
  simp only [World.size_alloc] at BY
  obtain ⟨W0, hW0⟩ : ∃ W0, W0 = (w.alloc (.cells #[.slice a0 x.b.length c0, .slice a1 x.l.length c1, .slice a2 x.u.length c2] 26)).alloc (.cells #[.slice a0' y.b.length c0', .slice a1' y.l.length c1', .slice a2' y.u.length c2'] 26) := ⟨_, rfl⟩
  have hB0 : Below w.heap.size w W0 := by rw [hW0]; exact bA (bA (Below.refl _ w) _) _
  rw [← hW0] at BX BY
  have HB0 := hidE hB0
  have HX_0 := hidE BX
  have HY_0 := hidE BY
  have HA_0 := hidE (HA.out.below hB0)
  have HC_0 := hidE (HA'.out.below hB0)
  clear BX BY hB0 HA HA'
  go_enter Try.func3, Try.ntmps3
  go_wp2_with fail
  rw [← hW0]
  clear hW0
  refine (szOver_any _ _ x _ (by omega) (by omega) HS.out HA_0.out).mono ?_
  rintro e w1 ⟨r1, rfl, p1, q1, t1, hB⟩
  have HB1 := hidE (B3 HB0.out hB)
  have HX_1 := hidE (HX_0.out.below hB)
  have HY_1 := hidE (HY_0.out.below hB)
  have HA_1 := hidE (HA_0.out.below hB)
  have HC_1 := hidE (HC_0.out.below hB)
  have HT1 := hidE t1
  clear t1
  clear hB HB0 HX_0 HY_0 HA_0 HC_0
  by_cases hr1 : 0 ≤ r1
  · have HZ1 := hidE (HT1.out hr1)
    obtain ⟨k0, k1, k2, -, -, -⟩ := HX_1.out
    obtain ⟨l0, l1, l2, -, -, -⟩ := HY_1.out
    go_wp2_with fail
    refine (szOver_any _ _ y _ hr1 (by omega) HS'.out HC_1.out).mono ?_
    rintro e w2 ⟨r2, rfl, p2, q2, t2, hB⟩
    have HB2 := hidE (B3 HB1.out hB)
    have HX_2 := hidE (HX_1.out.below hB)
    have HY_2 := hidE (HY_1.out.below hB)
    have HA_2 := hidE (HA_1.out.below hB)
    have HC_2 := hidE (HC_1.out.below hB)
    have HT2 := hidE t2
    clear t2
    clear hB HB1 HX_1 HY_1 HA_1 HC_1
    by_cases hr2 : 0 ≤ r2
    · have HZ2 := hidE (HT2.out hr2)
      clear k0 k1 k2 l0 l1 l2
      obtain ⟨k0, k1, k2, -, -, -⟩ := HX_2.out
      obtain ⟨l0, l1, l2, -, -, -⟩ := HY_2.out
      clear k0 k1 k2 l0 l1 l2
      have AS : Hid (∀ W', Below w2.heap.size w2 W' → (W'.cell? ⟨w.heap.size, 0, none⟩ = some (.slice a0 x.b.length c0) ∧ W'.cell? ⟨w.heap.size, 1, none⟩ = some (.slice a1 x.l.length c1) ∧ W'.cell? ⟨w.heap.size, 2, none⟩ = some (.slice a2 x.u.length c2) ∧ W'.cell? ⟨w.heap.size + 1, 0, none⟩ = some (.slice a0' y.b.length c0') ∧ W'.cell? ⟨w.heap.size + 1, 1, none⟩ = some (.slice a1' y.l.length c1') ∧ W'.cell? ⟨w.heap.size + 1, 2, none⟩ = some (.slice a2' y.u.length c2'))) := fun W' hW => ⟨(HX_2.out.below hW).c0, (HX_2.out.below hW).c1, (HX_2.out.below hW).c2, (HY_2.out.below hW).c0, (HY_2.out.below hW).c1, (HY_2.out.below hW).c2⟩
      have AA : Hid (∀ W', Below w2.heap.size w2 W' → Arg W' (.agg #[.slice a0 x.b.length c0, .slice a1 x.l.length c1, .slice a2 x.u.length c2]) x) := fun W' hW => HA_2.out.below hW
      have AC : Hid (∀ W', Below w2.heap.size w2 W' → Arg W' (.agg #[.slice a0' y.b.length c0', .slice a1' y.l.length c1', .slice a2' y.u.length c2']) y) := fun W' hW => HC_2.out.below hW
      go_wp2
      go_region_held3 (fun W' => W'.cell? ⟨w.heap.size, 0, none⟩ = some (.slice a0 x.b.length c0) ∧ W'.cell? ⟨w.heap.size, 1, none⟩ = some (.slice a1 x.l.length c1) ∧ W'.cell? ⟨w.heap.size, 2, none⟩ = some (.slice a2 x.u.length c2) ∧ W'.cell? ⟨w.heap.size + 1, 0, none⟩ = some (.slice a0' y.b.length c0') ∧ W'.cell? ⟨w.heap.size + 1, 1, none⟩ = some (.slice a1' y.l.length c1') ∧ W'.cell? ⟨w.heap.size + 1, 2, none⟩ = some (.slice a2' y.u.length c2'))
        ((refine AS.out _ ?_; repeat (first | exact Below.refl _ _ | refine B3 ?_ hB5 | refine B3 ?_ hB4 | refine B3 ?_ hB3 | apply Below.drew)))
        (first | (go_at_call 8; have _hq := HP; clear _hq; refine (toOver_any _ _ y HZ2.out (AC.out _ (by repeat (first | exact Below.refl _ _ | refine B3 ?_ hB5 | refine B3 ?_ hB4 | refine B3 ?_ hB3 | apply Below.drew)))).mono ?_; rintro e w4 ⟨vQ, rfl, hQ, hB4⟩; have HQ := hidE hQ; obtain ⟨qa0, _, _, qc0, qa1, _, _, qc1, qa2, _, _, qc2, rfl, -⟩ := hQ.ex; clear hQ) | (go_at_call 8; refine (toOver_any _ _ x HZ1.out (AA.out _ (by repeat (first | exact Below.refl _ _ | refine B3 ?_ hB5 | refine B3 ?_ hB4 | refine B3 ?_ hB3 | apply Below.drew)))).mono ?_; rintro e w3 ⟨vP, rfl, hP, hB3⟩; have HP := hidE hP; obtain ⟨pa0, _, _, pc0, pa1, _, _, pc1, pa2, _, _, pc2, rfl, -⟩ := hP.ex; clear hP) | (go_at_call 7; refine (sOverSame_any _ _ _ x y HZ1.out HZ2.out (HP.out.below hB4) HQ.out).mono ?_; rintro e w5 ⟨rfl, hB5⟩))
      have hB25 : Below w2.heap.size w2 w5 := B3 (B3 (B3 (Below.refl _ w2).drew hB3) hB4) hB5
      have HB5 := hidE (B3 HB2.out hB25)
      have HX_5 := hidE (HX_2.out.below hB25)
      have HY_5 := hidE (HY_2.out.below hB25)
      have HA_5 := hidE (HA_2.out.below hB25)
      have HC_5 := hidE (HC_2.out.below hB25)
      clear hB25 hB3 hB4 hB5 HB2 HX_2 HY_2 HA_2 HC_2 AS AA AC HP HQ
      obtain ⟨k0, k1, k2, -, -, -⟩ := HX_5.out
      obtain ⟨l0, l1, l2, -, -, -⟩ := HY_5.out
      go_wp2_with fail
      refine (toOver_any _ _ x HZ1.out HA_5.out).mono ?_
      rintro e w6 ⟨vHM, rfl, hN, hB⟩
      have HB6 := hidE (B3 HB5.out hB)
      have HX_6 := hidE (HX_5.out.below hB)
      have HY_6 := hidE (HY_5.out.below hB)
      have HA_6 := hidE (HA_5.out.below hB)
      have HC_6 := hidE (HC_5.out.below hB)
      have HM_6 := hidE hN
      obtain ⟨p0HM, _, _, q0HM, p1HM, _, _, q1HM, p2HM, _, _, q2HM, rfl, -⟩ := hN.ex
      clear hN
      clear hB HB5 HX_5 HY_5 HA_5 HC_5
      clear k0 k1 k2 l0 l1 l2
      have BM := C3.new w6 (.slice p0HM x.b.length q0HM) (.slice p1HM x.l.length q1HM) (.slice p2HM x.u.length q2HM) 33
      obtain ⟨w7, hw7⟩ : ∃ w7, w7 = w6.alloc (.cells #[.slice p0HM x.b.length q0HM, .slice p1HM x.l.length q1HM, .slice p2HM x.u.length q2HM] 33) := ⟨_, rfl⟩
      rw [← hw7] at BM
      have hB : Below w6.heap.size w6 w7 := by rw [hw7]; exact bA (Below.refl _ _) _
      have HB7 := hidE (B3 HB6.out hB)
      have HX_7 := hidE (HX_6.out.below hB)
      have HY_7 := hidE (HY_6.out.below hB)
      have HA_7 := hidE (HA_6.out.below hB)
      have HC_7 := hidE (HC_6.out.below hB)
      have HM_7 := hidE (HM_6.out.below hB)
      have KM_7 := hidE BM
      have HW7 := hidE hw7
      obtain ⟨k0, k1, k2, -, -, -⟩ := HX_7.out
      obtain ⟨l0, l1, l2, -, -, -⟩ := HY_7.out
      rw [hw7] at k0 k1 k2 l0 l1 l2
      clear hB BM hw7 HB6 HX_6 HY_6 HA_6 HC_6 HM_6
      go_wp2_with fail
      rw [← HW7.out]
      clear HW7 k0 k1 k2 l0 l1 l2
      refine (toOver_any _ _ y HZ2.out HC_7.out).mono ?_
      rintro e w8 ⟨vHK, rfl, hN, hB⟩
      have HB8 := hidE (B3 HB7.out hB)
      have HX_8 := hidE (HX_7.out.below hB)
      have HY_8 := hidE (HY_7.out.below hB)
      have HA_8 := hidE (HA_7.out.below hB)
      have HC_8 := hidE (HC_7.out.below hB)
      have HM_8 := hidE (HM_7.out.below hB)
      have KM_8 := hidE (KM_7.out.below hB)
      have HK_8 := hidE hN
      obtain ⟨p0HK, _, _, q0HK, p1HK, _, _, q1HK, p2HK, _, _, q2HK, rfl, -⟩ := hN.ex
      clear hN hB HB7 HX_7 HY_7 HA_7 HC_7 HM_7 KM_7
      have BM := C3.new w8 (.slice p0HK y.b.length q0HK) (.slice p1HK y.l.length q1HK) (.slice p2HK y.u.length q2HK) 33
      obtain ⟨w9, hw9⟩ : ∃ w9, w9 = w8.alloc (.cells #[.slice p0HK y.b.length q0HK, .slice p1HK y.l.length q1HK, .slice p2HK y.u.length q2HK] 33) := ⟨_, rfl⟩
      rw [← hw9] at BM
      have hB : Below w8.heap.size w8 w9 := by rw [hw9]; exact bA (Below.refl _ _) _
      have HB9 := hidE (B3 HB8.out hB)
      have HX_9 := hidE (HX_8.out.below hB)
      have HY_9 := hidE (HY_8.out.below hB)
      have HA_9 := hidE (HA_8.out.below hB)
      have HC_9 := hidE (HC_8.out.below hB)
      have HM_9 := hidE (HM_8.out.below hB)
      have KM_9 := hidE (KM_8.out.below hB)
      have HK_9 := hidE (HK_8.out.below hB)
      have KN_9 := hidE BM
      have HW9 := hidE hw9
      obtain ⟨k0, k1, k2, -, -, -⟩ := KM_9.out
      obtain ⟨l0, l1, l2, -, -, -⟩ := KN_9.out
      rw [hw9] at k0 k1 k2 l0 l1 l2
      clear hB BM hw9 HB8 HX_8 HY_8 HA_8 HC_8 HM_8 KM_8 HK_8
      go_wp2_with fail
      rw [← HW9.out]
      clear HW9 k0 k1 k2 l0 l1 l2
      refine (iOverSame_any _ _ _ x y HZ1.out HZ2.out HM_9.out HK_9.out).mono ?_
      rintro e w10 ⟨rfl, hB⟩
      have HB10 := hidE (B3 HB9.out hB)
      have HX_10 := hidE (HX_9.out.below hB)
      have HY_10 := hidE (HY_9.out.below hB)
      have HA_10 := hidE (HA_9.out.below hB)
      have HC_10 := hidE (HC_9.out.below hB)
      have HM_10 := hidE (HM_9.out.below hB)
      have KM_10 := hidE (KM_9.out.below hB)
      have HK_10 := hidE (HK_9.out.below hB)
      have KN_10 := hidE (KN_9.out.below hB)
      clear hB HB9 HX_9 HY_9 HA_9 HC_9 HM_9 KM_9 HK_9 KN_9
      obtain ⟨bs, hbs⟩ : ∃ bs, samO x y = bs := ⟨_, rfl⟩
      rw [hbs]
      clear hbs
      have hq : (bs != bs) = false := by simp
      have AS : Hid (∀ W', Below w10.heap.size w10 W' → (W'.cell? ⟨w6.heap.size, 0, none⟩ = some (.slice p0HM x.b.length q0HM) ∧ W'.cell? ⟨w6.heap.size, 1, none⟩ = some (.slice p1HM x.l.length q1HM) ∧ W'.cell? ⟨w6.heap.size, 2, none⟩ = some (.slice p2HM x.u.length q2HM) ∧ W'.cell? ⟨w.heap.size, 0, none⟩ = some (.slice a0 x.b.length c0) ∧ W'.cell? ⟨w.heap.size, 1, none⟩ = some (.slice a1 x.l.length c1) ∧ W'.cell? ⟨w.heap.size, 2, none⟩ = some (.slice a2 x.u.length c2))) := fun W' hW => ⟨(KM_10.out.below hW).c0, (KM_10.out.below hW).c1, (KM_10.out.below hW).c2, (HX_10.out.below hW).c0, (HX_10.out.below hW).c1, (HX_10.out.below hW).c2⟩
      have AA : Hid (∀ W', Below w10.heap.size w10 W' → Arg W' (.agg #[.slice a0 x.b.length c0, .slice a1 x.l.length c1, .slice a2 x.u.length c2]) x) := fun W' hW => HA_10.out.below hW
      have AM : Hid (∀ W', Below w10.heap.size w10 W' → Arg W' (.agg #[.slice p0HM x.b.length q0HM, .slice p1HM x.l.length q1HM, .slice p2HM x.u.length q2HM]) x) := fun W' hW => HM_10.out.below hW
      go_wp2
      go_region_held3 (fun W' => W'.cell? ⟨w6.heap.size, 0, none⟩ = some (.slice p0HM x.b.length q0HM) ∧ W'.cell? ⟨w6.heap.size, 1, none⟩ = some (.slice p1HM x.l.length q1HM) ∧ W'.cell? ⟨w6.heap.size, 2, none⟩ = some (.slice p2HM x.u.length q2HM) ∧ W'.cell? ⟨w.heap.size, 0, none⟩ = some (.slice a0 x.b.length c0) ∧ W'.cell? ⟨w.heap.size, 1, none⟩ = some (.slice a1 x.l.length c1) ∧ W'.cell? ⟨w.heap.size, 2, none⟩ = some (.slice a2 x.u.length c2))
        ((refine AS.out _ ?_; repeat (first | exact Below.refl _ _ | refine B3 ?_ hB4 | refine B3 ?_ hB3 | apply Below.drew)))
        (first | (go_at_call 8; refine (toOver_any _ _ x HZ1.out (AA.out _ (by repeat (first | exact Below.refl _ _ | refine B3 ?_ hB4 | refine B3 ?_ hB3 | apply Below.drew)))).mono ?_; rintro e w3 ⟨vP, rfl, hP, hB3⟩; have HP := hidE hP; obtain ⟨pa0, _, _, pc0, pa1, _, _, pc1, pa2, _, _, pc2, rfl, -⟩ := hP.ex; clear hP) | (go_at_call 10; refine (eqOver_any _ _ _ x x (HZ1.out.mono (by decide)) (HZ1.out.mono (by decide)) (AM.out _ (by repeat (first | exact Below.refl _ _ | refine B3 ?_ hB4 | refine B3 ?_ hB3 | apply Below.drew))) HP.out).mono ?_; rintro e w11 ⟨rfl, hB4⟩; rw [sameO_self]))
      have hBk : Below w10.heap.size w10 w11 := B3 (B3 (Below.refl _ w10).drew hB3) hB4
      have HB11 := hidE (B3 HB10.out hBk)
      have HX_11 := hidE (HX_10.out.below hBk)
      have HY_11 := hidE (HY_10.out.below hBk)
      have HA_11 := hidE (HA_10.out.below hBk)
      have HC_11 := hidE (HC_10.out.below hBk)
      have HM_11 := hidE (HM_10.out.below hBk)
      have KM_11 := hidE (KM_10.out.below hBk)
      have HK_11 := hidE (HK_10.out.below hBk)
      have KN_11 := hidE (KN_10.out.below hBk)
      clear hBk hB3 hB4 HB10 AS AA AM HP HX_10 HY_10 HA_10 HC_10 HM_10 KM_10 HK_10 KN_10
      have AS : Hid (∀ W', Below w11.heap.size w11 W' → (W'.cell? ⟨w8.heap.size, 0, none⟩ = some (.slice p0HK y.b.length q0HK) ∧ W'.cell? ⟨w8.heap.size, 1, none⟩ = some (.slice p1HK y.l.length q1HK) ∧ W'.cell? ⟨w8.heap.size, 2, none⟩ = some (.slice p2HK y.u.length q2HK) ∧ W'.cell? ⟨w.heap.size + 1, 0, none⟩ = some (.slice a0' y.b.length c0') ∧ W'.cell? ⟨w.heap.size + 1, 1, none⟩ = some (.slice a1' y.l.length c1') ∧ W'.cell? ⟨w.heap.size + 1, 2, none⟩ = some (.slice a2' y.u.length c2'))) := fun W' hW => ⟨(KN_11.out.below hW).c0, (KN_11.out.below hW).c1, (KN_11.out.below hW).c2, (HY_11.out.below hW).c0, (HY_11.out.below hW).c1, (HY_11.out.below hW).c2⟩
      have AA : Hid (∀ W', Below w11.heap.size w11 W' → Arg W' (.agg #[.slice a0' y.b.length c0', .slice a1' y.l.length c1', .slice a2' y.u.length c2']) y) := fun W' hW => HC_11.out.below hW
      have AM : Hid (∀ W', Below w11.heap.size w11 W' → Arg W' (.agg #[.slice p0HK y.b.length q0HK, .slice p1HK y.l.length q1HK, .slice p2HK y.u.length q2HK]) y) := fun W' hW => HK_11.out.below hW
      go_wp2
      go_region_held3 (fun W' => W'.cell? ⟨w8.heap.size, 0, none⟩ = some (.slice p0HK y.b.length q0HK) ∧ W'.cell? ⟨w8.heap.size, 1, none⟩ = some (.slice p1HK y.l.length q1HK) ∧ W'.cell? ⟨w8.heap.size, 2, none⟩ = some (.slice p2HK y.u.length q2HK) ∧ W'.cell? ⟨w.heap.size + 1, 0, none⟩ = some (.slice a0' y.b.length c0') ∧ W'.cell? ⟨w.heap.size + 1, 1, none⟩ = some (.slice a1' y.l.length c1') ∧ W'.cell? ⟨w.heap.size + 1, 2, none⟩ = some (.slice a2' y.u.length c2'))
        ((refine AS.out _ ?_; repeat (first | exact Below.refl _ _ | refine B3 ?_ hB4 | refine B3 ?_ hB3 | apply Below.drew)))
        (first | (go_at_call 8; refine (toOver_any _ _ y HZ2.out (AA.out _ (by repeat (first | exact Below.refl _ _ | refine B3 ?_ hB4 | refine B3 ?_ hB3 | apply Below.drew)))).mono ?_; rintro e w3 ⟨vP, rfl, hP, hB3⟩; have HP := hidE hP; obtain ⟨pa0, _, _, pc0, pa1, _, _, pc1, pa2, _, _, pc2, rfl, -⟩ := hP.ex; clear hP) | (go_at_call 10; refine (eqOver_any _ _ _ y y (HZ2.out.mono (by decide)) (HZ2.out.mono (by decide)) (AM.out _ (by repeat (first | exact Below.refl _ _ | refine B3 ?_ hB4 | refine B3 ?_ hB3 | apply Below.drew))) HP.out).mono ?_; rintro e w12 ⟨rfl, hB4⟩; rw [sameO_self]))
      have hBk : Below w11.heap.size w11 w12 := B3 (B3 (Below.refl _ w11).drew hB3) hB4
      have HB12 := hidE (B3 HB11.out hBk)
      have HX_12 := hidE (HX_11.out.below hBk)
      have HY_12 := hidE (HY_11.out.below hBk)
      have HA_12 := hidE (HA_11.out.below hBk)
      have HC_12 := hidE (HC_11.out.below hBk)
      have HM_12 := hidE (HM_11.out.below hBk)
      have KM_12 := hidE (KM_11.out.below hBk)
      have HK_12 := hidE (HK_11.out.below hBk)
      have KN_12 := hidE (KN_11.out.below hBk)
      clear hBk hB3 hB4 HB11 AS AA AM HP HX_11 HY_11 HA_11 HC_11 HM_11 KM_11 HK_11 KN_11
      go_wp2
      go_ret
      exact ⟨rfl, HB12.out⟩
    · go_wp2
      go_ret
      exact ⟨rfl, HB2.out⟩
  · go_wp2
    go_ret
    exact ⟨rfl, HB1.out⟩
end Go.Proofs.Ytjkpnohfkadfiaa.Ov
