import Derived.Test.YtoaipphccjkphaaDoorHDrawDo
namespace Go.Proofs.YtoaipphccjkphaaDoor
open Go.RowKit Go.Lib
theorem Small.le {m n : Nat} {es : List E} (h : Small m es) (k : m ≤ n) : Small n es := ⟨Nat.le_trans h.1 k, h.2⟩
set_option maxHeartbeats 1000000 in
set_option maxRecDepth 100000 in
theorem l8Near_any (w : World) (r p base : Nat) (v : Value) (es : List E) (hp : p ≤ 8000) (hr : r < base) (hbw : base ≤ w.heap.size) (hT : treeE es = true) (hO : OwnE w base v es) (h : Rd w r p) :
  Calls Tryd.prog 42 #[.pointer (some ⟨r, 0, none⟩), v] w fun e w' => ∃ (v' : Value) (es' : List E) (q : Nat), e = .returned v' ∧ treeE es' = true ∧ OwnE w' base v' es' ∧ q ≤ p + 33 ∧ Rd w' r q ∧ Kept r w w' := by
 have HR0 := hidR h; have HT0 := hidR hT; have HO0 := hidR hO; clear h hT hO; go_enter Tryd.func42, Tryd.ntmps42
 go_wp2_with fail
 refine (pick_any _ r p _ (by decide) (by decide) (by omega) HR0.out).mono ?_; rintro e w1 ⟨j, rfl, j0, j1, hR, hK⟩; obtain ⟨n0, rfl⟩ := Int.eq_ofNat_of_zero_le j0; have hn0 : n0 ≤ 4 := by omega
 have HR1 := hidR hR; have HK1 := hidR hK; have HO1 := hidR (HO0.out.kept hr hK); have hw1 : w.heap.size ≤ w1.heap.size := hK.2.2.2.1; clear hR hK j0 j1 HR0 HO0; go_wp2_with fail
 go_loopw [1, 5] (fun v iv wl => ∃ (k : Nat) (fs : List E) (q : Nat), iv = .int .i64 k ∧ k ≤ 4 ∧ q + 8 * k ≤ p + 33 ∧ Hid (treeE fs = true) ∧ Hid (OwnE wl base v fs) ∧ Hid (Rd wl r q) ∧ Hid (Kept r w wl)) (fun _ iv _ => (RowKit.intOf iv).toNat)
 case atStart => exact ⟨n0, es, p + 1, rfl, hn0, by omega, HT0, HO1, HR1, HK1⟩
 case round =>
  clear HT0 HO1 HR1 HK1; obtain ⟨k, fs, q, rfl, hk, hq, HT, HO, HR, HK⟩ := hrel; have hwr : w.heap.size ≤ wr.heap.size := HK.out.2.2.2.1; by_cases h0 : 0 < k
  ·
   have h0' : (0 : Int) < (k : Int) := by omega
   obtain ⟨a4, g4, cap4, rfl, ha4, hE4, hcap4, hgb4⟩ := HO.out.at; have HE := hidR hE4; have HA4 := hidR ha4; have HG : Hid (0 < fs.length → g4 ≠ r) := fun h => by have := hgb4 h; omega
   clear hE4 ha4 hgb4; obtain ⟨hlen, hsz⟩ := tree_sizes HT.out; have HZ := hidR hsz; clear hsz; go_wp2_with fail
   refine (l2Op_any _ r q a4 g4 0 cap4 fs (by omega) (by omega) HA4.out HE.out (fun e he => (HZ.out e he).1) HG.out HR.out).mono ?_; rintro e w5 ⟨ok, op, ot, ox, q5, rfl, z1, z2, z3, hq5, hR, hK⟩; have z2' := okS_size z2; have HR5 := hidR hR; have HK5 := hidR (HK.out.trans hK); have HE5 := hidR (HE.out.kept hK HG.out); have hw5 : wr.heap.size ≤ w5.heap.size := hK.2.2.2.1; clear hR hK HR HK HO HE z2; go_wp2_with fail
   refine (sTreeDo_any _ a4 g4 0 cap4 fs ok op ot ox (by omega) hcap4 (by omega) (by omega) (by omega) (fun e he => ⟨by have := (HZ.out e he).1; omega, by have := (HZ.out e he).2; omega⟩) HA4.out HE5.out).mono ?_; rintro e w6 ⟨v, rfl, ho6, hB6⟩; have HR6 := hidR (HR5.out.below hB6); have HK6 := hidR (HK5.out.trans (Kept.of_below hB6)); have HO6 := hidR (ho6.lower (base' := base) (by omega)); have HT6 := hidR (do_tree (q := ⟨ok, op, ot, ox⟩) HT.out); clear ho6 hB6 HR5 HK5 HE5; go_wp2
   go_roundw
   case rel => exact ⟨k - 1, _, q5, by go_num, by omega, by omega, HT6, HO6, HR6, HK6⟩
   case measure => simp [RowKit.intOf]; omega
  ·
   have hk0 : k = 0 := by omega
   subst hk0; clear h0; go_wp2
   go_ret
   exact ⟨_, fs, q, rfl, HT.out, HO.out, by omega, HR.out, HK.out⟩
set_option maxHeartbeats 2000000 in
set_option maxRecDepth 100000 in
theorem l8Some_any (w : World) (r p : Nat) (hp : p ≤ 1000) (h : Rd w r p) :
  Calls Tryd.prog 20 #[.pointer (some ⟨r, 0, none⟩)] w fun e w' => ∃ (v1 v2 v3 : Value) (t a b : List E) (q : Nat), e = .returned (.tuple #[v1, v2, v3]) ∧ LieB w' w.heap.size v1 t ∧ Small 20 t ∧ LieB w' w.heap.size v2 a ∧ Small 20 a ∧ LieB w' w.heap.size v3 b ∧ Small 20 b ∧ q ≤ p + 1000 ∧ Rd w' r q ∧ Kept r w w' := by
 have hr := h.lt; have HR0 := hidR h; clear h; go_enter Tryd.func20, Tryd.ntmps20
 go_wp2_with fail
 refine (l2Tree_any _ r p (by omega) HR0.out).mono ?_; rintro e w1 ⟨v1, es, q1, rfl, ht, ho, hq1, hR, hK⟩; have HR1 := hidR hR; have HK1 := hidR hK; have HO1 := hidR ho; have HT := hidR ht; have hw1 : w.heap.size ≤ w1.heap.size := hK.2.2.2.1; clear hR hK ho ht HR0; go_wp2_with fail
 refine (l8Near_any _ r q1 w.heap.size v1 es (by omega) hr hw1 HT.out HO1.out HR1.out).mono ?_; rintro e w2 ⟨v2, fs, q2, rfl, ht, ho, hq2, hR, hK⟩; have HR2 := hidR hR; have HO2 := hidR (HO1.out.kept hr hK); have HK2 := hidR (HK1.out.trans hK); have HA2 := hidR ho; have HTa := hidR ht; have hw2 : w1.heap.size ≤ w2.heap.size := hK.2.2.2.1; clear hR hK ho ht HR1 HK1 HO1; go_wp2_with fail
 refine (l8Near_any _ r q2 w.heap.size v1 es (by omega) hr (by omega) HT.out HO2.out HR2.out).mono ?_; rintro e w3 ⟨v3, gs, q3, rfl, ht, ho, hq3, hR, hK⟩; have HR3 := hidR hR; have HO3 := hidR (HO2.out.kept hr hK); have HA3 := hidR (HA2.out.kept hr hK); have HK3 := hidR (HK2.out.trans hK); have HB3 := hidR ho; have HTb := hidR ht; have hw3 : w2.heap.size ≤ w3.heap.size := hK.2.2.2.1; clear hR hK ho ht HR2 HK2 HO2 HA2; go_wp2_with fail
 refine (pick_any _ r q3 _ (by decide) (by decide) (by omega) HR3.out).mono ?_; rintro e w4 ⟨j, rfl, j0, j1, hR, hK⟩; have HR4 := hidR hR; have HO4 := hidR (HO3.out.kept hr hK); have HA4 := hidR (HA3.out.kept hr hK); have HB4 := hidR (HB3.out.kept hr hK); have HK4 := hidR (HK3.out.trans hK); have hw4 : w3.heap.size ≤ w4.heap.size := hK.2.2.2.1; clear hR hK HR3 HK3 HO3 HA3 HB3; have HTz := hidR (small_tree HT.out); have HAz := hidR (small_tree HTa.out); have HBz := hidR (small_tree HTb.out); have hl1 := HTz.out.1; have hl2 := HAz.out.1; have hl3 := HBz.out.1; obtain ⟨at1, gt1, ct1, rfl, hat, hEt, hct, hgt⟩ := HO4.out.at; obtain ⟨aa1, ga1, ca1, rfl, haa, hEa, hca, hga⟩ := HA4.out.at; obtain ⟨ab1, gb1, cb1, rfl, hab, hEb, hcb, hgb⟩ := HB4.out.at; have HEt := hidR hEt; have HEa := hidR hEa; have HEb := hidR hEb; have HAt := hidR hat; have HAa := hidR haa; have HAb := hidR hab; clear hEt hEa hEb hat haa hab; have hjs : j = 0 ∨ j = 1 ∨ j = 2 ∨ (3 ≤ j ∧ j ≤ 10) ∨ 11 ≤ j := by omega
 rcases hjs with rfl | rfl | rfl | hj | hj
 ·
  go_wp2
  exact bodyPost_ret (v := .tuple #[.slice at1 es.length ct1, .slice ab1 gs.length cb1, .slice ab1 gs.length cb1]) (by simp [results, Tryd.results20, go_sem]) rfl ⟨_, _, _, es, gs, gs, q3 + 1, rfl, HO4.out.lieB, HTz.out.le (by decide), HB4.out.lieB, HBz.out.le (by decide), HB4.out.lieB, HBz.out.le (by decide), by omega, HR4.out, HK4.out⟩
 ·
  go_wp2_with fail
  refine (l2Tree_any _ r (q3 + 1) (by omega) HR4.out).mono ?_; rintro e w5 ⟨v5, hs, q5, rfl, ht, ho, hq5, hR, hK⟩; have HL5 := hidR (ho.lower (base' := w.heap.size) (by omega)).lieB; have HZ5 := hidR (small_tree ht); have HR5 := hidR hR; have HK5 := hidR (HK4.out.trans hK); have HO5 := hidR (HO4.out.kept hr hK).lieB; have HA5 := hidR (HA4.out.kept hr hK).lieB; clear ht ho hR hK; go_wp2
  exact bodyPost_ret (v := .tuple #[.slice at1 es.length ct1, .slice aa1 fs.length ca1, v5]) (by simp [results, Tryd.results20, go_sem]) rfl ⟨_, _, _, es, fs, hs, q5, rfl, HO5.out, HTz.out.le (by decide), HA5.out, HAz.out.le (by decide), HL5.out, HZ5.out.le (by decide), by omega, HR5.out, HK5.out⟩
 ·
  go_wp2_with fail
  refine (l2Bent_any _ r (q3 + 1) w.heap.size 16 _ gs (by omega) hr (by omega) HB4.out.lieB HBz.out (by decide) HR4.out).mono ?_; rintro e w5 ⟨v5, h5, q5, rfl, hL, hS, hq5, hR, hK⟩; have HL5 := hidR hL; have HS5 := hidR hS; have HR5 := hidR hR; have HK5 := hidR (HK4.out.trans hK); have HO5 := hidR (HO4.out.kept hr hK); have HA5 := hidR (HA4.out.kept hr hK); have hw5 : w4.heap.size ≤ w5.heap.size := hK.2.2.2.1; clear hL hS hR hK; go_wp2_with fail
  refine (l2Bent_any _ r q5 w.heap.size 17 _ h5 (by omega) hr (by omega) HL5.out HS5.out (by decide) HR5.out).mono ?_; rintro e w6 ⟨v6, h6, q6, rfl, hL, hS, hq6, hR, hK⟩; have HL6 := hidR hL; have HS6 := hidR hS; have HR6 := hidR hR; have HK6 := hidR (HK5.out.trans hK); have HO6 := hidR (HO5.out.kept hr hK); have HA6 := hidR (HA5.out.kept hr hK); have hw6 : w5.heap.size ≤ w6.heap.size := hK.2.2.2.1; clear hL hS hR hK; go_wp2_with fail
  refine (l2Bent_any _ r q6 w.heap.size 18 _ h6 (by omega) hr (by omega) HL6.out HS6.out (by decide) HR6.out).mono ?_; rintro e w7 ⟨v7, h7, q7, rfl, hL, hS, hq7, hR, hK⟩; have HL7 := hidR hL; have HS7 := hidR hS; have HR7 := hidR hR; have HK7 := hidR (HK6.out.trans hK); have HO7 := hidR (HO6.out.kept hr hK).lieB; have HA7 := hidR (HA6.out.kept hr hK).lieB; clear hL hS hR hK; go_wp2
  exact bodyPost_ret (v := .tuple #[.slice at1 es.length ct1, .slice aa1 fs.length ca1, v7]) (by simp [results, Tryd.results20, go_sem]) rfl ⟨_, _, _, es, fs, h7, q7, rfl, HO7.out, HTz.out.le (by decide), HA7.out, HAz.out.le (by decide), HL7.out, HS7.out.le (by decide), by omega, HR7.out, HK7.out⟩
 ·
  have hj' : j = 3 ∨ j = 4 ∨ j = 5 ∨ j = 6 ∨ j = 7 ∨ j = 8 ∨ j = 9 ∨ j = 10 := by omega
  have hn1 : es.length ≤ 100000 := by omega
  rcases hj' with rfl | rfl | rfl | rfl | rfl | rfl | rfl | rfl
  all_goals
   by_cases h0 : 0 < es.length
   ·
    have h0' : (0 : Int) < (es.length : Int) := by omega
    obtain rfl := HAt.out h0; go_wp2_with fail
    refine (pick_any _ r (q3 + 1) _ (by omega) (by omega) (by omega) HR4.out).mono ?_; rintro e w5 ⟨i, rfl, i0, i1, hR, hK⟩; obtain ⟨m, rfl⟩ := Int.eq_ofNat_of_zero_le i0; have hm : m < es.length := by omega
    have HR5 := hidR hR; have HK5 := hidR (HK4.out.trans hK); have HO5 := hidR (HO4.out.kept hr hK); have HEa5 := hidR (HEa.out.kept hK (fun h => by have := hga h; omega)); have HEb5 := hidR (HEb.out.kept hK (fun h => by have := hgb h; omega)); have hw5 : w4.heap.size ≤ w5.heap.size := hK.2.2.2.1; obtain ⟨c0, -, -⟩ := (HEt.out.kept hK (fun h => by have := hgt h; omega)) m hm; rw [Nat.zero_add] at c0; have hps : es[m].p.size ≤ 16777216 := by have := (HTz.out.2 es[m] (List.getElem_mem hm)).1; omega
    clear hR hK; go_wp2_with fail
    refine (sTreeDo_any _ aa1 ga1 0 ca1 fs 2 es[m].p ⟨#[]⟩ ⟨#[49]⟩ (by omega) hca hps (by decide) (by decide) (fun e he => ⟨by have := (HAz.out.2 e he).1; omega, by have := (HAz.out.2 e he).2; omega⟩) HAa.out HEa5.out).mono ?_; rintro e w6 ⟨v6, rfl, ho6, hB6⟩; have HR6 := hidR (HR5.out.below hB6); have HK6 := hidR (HK5.out.trans (Kept.of_below hB6)); have HO6 := hidR (HO5.out.below hB6); have HE6 := hidR (HEb5.out.below hB6); have HA6 := hidR (ho6.lower (base' := w.heap.size) (by omega)); have HTz6 := hidR (small_tree (do_tree (q := ⟨2, es[m].p, ⟨#[]⟩, ⟨#[49]⟩⟩) HTa.out)); have hw6 := hB6.size; clear ho6 hB6; go_wp2_with fail
    refine (num_P (fun _ => true) _ r (q3 + 1 + 1) w6.heap.size 3 3 (by decide) (by decide) (by omega) (by have := HR6.out.lt; omega) (LstI.new (fun _ => true) w6 [2, 2, 3] 3 (by decide)) (HR6.out.below ((Below.refl _ w6).alloc (Nat.le_refl _) _))).mono ?_; rintro e w7 ⟨z, rfl, -, hR, hK⟩; have hA : Kept r w6 (w6.alloc (.cells #[.int .i64 2, .int .i64 2, .int .i64 3] 3)) := Kept.alloc w6 _; have HR7 := hidR hR; have HK7 := hidR ((HK6.out.trans hA).trans hK); have HO7 := hidR ((HO6.out.kept hr hA).kept hr hK); have HA7 := hidR ((HA6.out.kept hr hA).kept hr hK); have HE7 := hidR ((HE6.out.kept hA (fun h => by have := hgb h; omega)).kept hK (fun h => by have := hgb h; omega)); have hw7 : w6.heap.size ≤ w7.heap.size := Nat.le_trans hA.2.2.2.1 hK.2.2.2.1; clear hR hK hA HR6 HK6 HO6 HE6 HA6; go_wp2_with fail
    refine (sTreeDo_any _ ab1 gb1 0 cb1 gs z es[m].p ⟨#[]⟩ ⟨#[]⟩ (by omega) hcb hps (by decide) (by decide) (fun e he => ⟨by have := (HBz.out.2 e he).1; omega, by have := (HBz.out.2 e he).2; omega⟩) HAb.out HE7.out).mono ?_; rintro e w8 ⟨v8, rfl, ho8, hB8⟩; have HR8 := hidR (HR7.out.below hB8); have HK8 := hidR (HK7.out.trans (Kept.of_below hB8)); have HO8 := hidR (HO7.out.below hB8).lieB; have HA8 := hidR (HA7.out.below hB8).lieB; have HB8 := hidR (ho8.lower (base' := w.heap.size) (by omega)).lieB; have HTz8 := hidR (small_tree (do_tree (q := ⟨z, es[m].p, ⟨#[]⟩, ⟨#[]⟩⟩) HTb.out)); clear ho8 hB8; go_wp2
    exact bodyPost_ret (v := .tuple #[.slice (some ⟨gt1, 0, none⟩) es.length ct1, v6, v8]) (by simp [results, Tryd.results20, go_sem]) rfl ⟨_, _, _, es, _, _, (q3 + 1 + 1) + 1, rfl, HO8.out, HTz.out.le (by decide), HA8.out, HTz6.out.le (by decide), HB8.out, HTz8.out.le (by decide), by omega, HR8.out, HK8.out⟩
   ·
    have h0' : ¬ (0 : Int) < (es.length : Int) := by omega
    go_wp2_with fail
    refine (sTreeDo_any _ aa1 ga1 0 ca1 fs 2 ⟨#[47, 99]⟩ ⟨#[]⟩ ⟨#[49]⟩ (by omega) hca (by decide) (by decide) (by decide) (fun e he => ⟨by have := (HAz.out.2 e he).1; omega, by have := (HAz.out.2 e he).2; omega⟩) HAa.out HEa.out).mono ?_; rintro e w6 ⟨v6, rfl, ho6, hB6⟩; have HR6 := hidR (HR4.out.below hB6); have HK6 := hidR (HK4.out.trans (Kept.of_below hB6)); have HO6 := hidR (HO4.out.below hB6); have HE6 := hidR (HEb.out.below hB6); have HA6 := hidR (ho6.lower (base' := w.heap.size) (by omega)); have HTz6 := hidR (small_tree (do_tree (q := ⟨2, ⟨#[47, 99]⟩, ⟨#[]⟩, ⟨#[49]⟩⟩) HTa.out)); have hw6 := hB6.size; clear ho6 hB6; go_wp2_with fail
    refine (num_P (fun _ => true) _ r (q3 + 1) w6.heap.size 3 3 (by decide) (by decide) (by omega) (by have := HR6.out.lt; omega) (LstI.new (fun _ => true) w6 [2, 2, 3] 3 (by decide)) (HR6.out.below ((Below.refl _ w6).alloc (Nat.le_refl _) _))).mono ?_; rintro e w7 ⟨z, rfl, -, hR, hK⟩; have hA : Kept r w6 (w6.alloc (.cells #[.int .i64 2, .int .i64 2, .int .i64 3] 3)) := Kept.alloc w6 _; have HR7 := hidR hR; have HK7 := hidR ((HK6.out.trans hA).trans hK); have HO7 := hidR ((HO6.out.kept hr hA).kept hr hK); have HA7 := hidR ((HA6.out.kept hr hA).kept hr hK); have HE7 := hidR ((HE6.out.kept hA (fun h => by have := hgb h; omega)).kept hK (fun h => by have := hgb h; omega)); have hw7 : w6.heap.size ≤ w7.heap.size := Nat.le_trans hA.2.2.2.1 hK.2.2.2.1; clear hR hK hA HR6 HK6 HO6 HE6 HA6; go_wp2_with fail
    refine (sTreeDo_any _ ab1 gb1 0 cb1 gs z ⟨#[47, 99]⟩ ⟨#[]⟩ ⟨#[]⟩ (by omega) hcb (by decide) (by decide) (by decide) (fun e he => ⟨by have := (HBz.out.2 e he).1; omega, by have := (HBz.out.2 e he).2; omega⟩) HAb.out HE7.out).mono ?_; rintro e w8 ⟨v8, rfl, ho8, hB8⟩; have HR8 := hidR (HR7.out.below hB8); have HK8 := hidR (HK7.out.trans (Kept.of_below hB8)); have HO8 := hidR (HO7.out.below hB8).lieB; have HA8 := hidR (HA7.out.below hB8).lieB; have HB8 := hidR (ho8.lower (base' := w.heap.size) (by omega)).lieB; have HTz8 := hidR (small_tree (do_tree (q := ⟨z, ⟨#[47, 99]⟩, ⟨#[]⟩, ⟨#[]⟩⟩) HTb.out)); clear ho8 hB8; go_wp2
    exact bodyPost_ret (v := .tuple #[.slice at1 es.length ct1, v6, v8]) (by simp [results, Tryd.results20, go_sem]) rfl ⟨_, _, _, es, _, _, (q3 + 1) + 1, rfl, HO8.out, HTz.out.le (by decide), HA8.out, HTz6.out.le (by decide), HB8.out, HTz8.out.le (by decide), by omega, HR8.out, HK8.out⟩
 ·
  have n0 : (j == 0) = false := by rw [beq_eq_false_iff_ne]; omega
  have n1 : (j == 1) = false := by rw [beq_eq_false_iff_ne]; omega
  have n2 : (j == 2) = false := by rw [beq_eq_false_iff_ne]; omega
  have n3 : (j == 3) = false := by rw [beq_eq_false_iff_ne]; omega
  have n4 : (j == 4) = false := by rw [beq_eq_false_iff_ne]; omega
  have n5 : (j == 5) = false := by rw [beq_eq_false_iff_ne]; omega
  have n6 : (j == 6) = false := by rw [beq_eq_false_iff_ne]; omega
  have n7 : (j == 7) = false := by rw [beq_eq_false_iff_ne]; omega
  have n8 : (j == 8) = false := by rw [beq_eq_false_iff_ne]; omega
  have n9 : (j == 9) = false := by rw [beq_eq_false_iff_ne]; omega
  have n10 : (j == 10) = false := by rw [beq_eq_false_iff_ne]; omega
  go_wp2
  exact bodyPost_ret (v := .tuple #[.slice at1 es.length ct1, .slice aa1 fs.length ca1, .slice ab1 gs.length cb1]) (by simp [results, Tryd.results20, go_sem]) rfl ⟨_, _, _, es, fs, gs, q3 + 1, rfl, HO4.out.lieB, HTz.out.le (by decide), HA4.out.lieB, HAz.out.le (by decide), HB4.out.lieB, HBz.out.le (by decide), by omega, HR4.out, HK4.out⟩
end Go.Proofs.YtoaipphccjkphaaDoor
