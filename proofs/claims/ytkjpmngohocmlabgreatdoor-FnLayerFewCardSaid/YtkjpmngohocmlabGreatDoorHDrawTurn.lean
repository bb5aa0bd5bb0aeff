/-
  The walk of the model's draw of two trees, whatever the code.
-/
import Derived.Test.YtkjpmngohocmlabGreatDoorHPk31
namespace Go.Proofs.YtkjpmngohocmlabGreatDoor
open Go.RowKit Go.Lib

set_option maxHeartbeats 1000000 in
set_option maxRecDepth 100000 in
theorem DrawTreeTurned_any (w : World) (a : Option Addr) (len cap : Nat) (hl : len ≤ 1048576) (h : Cod w a len cap) :
    Calls Tryz.prog 23 #[.slice a len cap] w fun e w' => ∃ (v v' : Value) (es fs : List E), e = .returned (.tuple #[v, v']) ∧ LieB w' w.heap.size v es ∧ Small 17 es ∧ LieB w' w.heap.size v' fs ∧ Small 17 fs ∧ Below w.heap.size w w' := by
  have HC := hidR h
  clear h
  go_enter Tryz.func23, Tryz.ntmps23
  go_wp2_with fail
  refine (l10Open_any _ a len cap hl HC.out).mono ?_
  rintro e w1 ⟨rfl, hR1, hB1⟩
  have HR1 := hidR hR1
  have HB1 := hidR hB1
  have hr := hR1.lt
  clear hR1 hB1 HC
  go_wp2_with fail
  refine (l2Tree_any _ w.heap.size 0 (by omega) HR1.out).mono ?_
  rintro e w2 ⟨v2, es, q2, rfl, ht2, ho2, hq2, hR2, hK2⟩
  have HR2 := hidR hR2
  have HB2 := hidR (HB1.out.trans (hK2.below (Nat.le_refl _) (Nat.le_of_lt hr)))
  have HO2 := hidR ho2
  have HT2 := hidR ht2
  have hw2 : w1.heap.size ≤ w2.heap.size := hK2.2.2.2.1
  clear hR2 hK2 ho2 ht2 HR1 HB1
  go_wp2_with fail
  refine (pick_any _ w.heap.size q2 _ (by decide) (by decide) (by omega) HR2.out).mono ?_
  rintro e w3 ⟨j, rfl, j0, j1, hR3, hK3⟩
  obtain ⟨n0, rfl⟩ := Int.eq_ofNat_of_zero_le j0
  have hn0 : n0 ≤ 4 := by omega
  have HR3 := hidR hR3
  have HB3 := hidR (HB2.out.trans (hK3.below (Nat.le_refl _) (by omega)))
  have HO3 := hidR (HO2.out.kept hr hK3)
  have hw3 : w2.heap.size ≤ w3.heap.size := hK3.2.2.2.1
  clear hR3 hK3 HR2 HB2 HO2 j0 j1
  go_wp2_with fail
  go_loopw [6, 7] (fun v iv wl => ∃ (k : Nat) (fs : List E) (q : Nat), iv = .int .i64 k ∧ k ≤ 4 ∧ q + 8 * k ≤ 300 ∧ Hid (treeE fs = true) ∧ Hid (OwnE wl w1.heap.size v fs) ∧ Hid (OwnE wl w1.heap.size v2 es) ∧ Hid (Rd wl w.heap.size q) ∧ Hid (Below w.heap.size w wl) ∧ w2.heap.size ≤ wl.heap.size) (fun _ iv _ => (RowKit.intOf iv).toNat)
  case atStart => exact ⟨n0, es, q2 + 1, rfl, hn0, by omega, HT2, HO3, HO3, HR3, HB3, hw3⟩
  case round =>
    clear HR3 HB3 HO3
    obtain ⟨k, fs, q, rfl, hk, hq, HT, HO, HA, HR, HB, hwr⟩ := hrel
    by_cases h0 : 0 < k
    · have h0' : (0 : Int) < (k : Int) := by omega
      obtain ⟨a4, g4, cap4, rfl, ha4, hE4, hcap4, hgb4⟩ := HO.out.at
      have HE := hidR hE4
      have HA4 := hidR ha4
      have HG : Hid (0 < fs.length → g4 ≠ w.heap.size) := fun h => by have := hgb4 h; omega
      clear hE4 ha4 hgb4
      obtain ⟨hlen, hsz⟩ := tree_sizes HT.out
      have HZ := hidR hsz
      clear hsz
      go_wp2_with fail
      refine (l2Op_any _ w.heap.size q a4 g4 0 cap4 fs (by omega) (by omega) HA4.out HE.out (fun e he => (HZ.out e he).1) HG.out HR.out).mono ?_
      rintro e w5 ⟨ok, op, ot, ox, q5, rfl, z1, z2, z3, hq5, hR, hK⟩
      have z2' := okS_size z2
      have HR5 := hidR hR
      have HB5 := hidR (HB.out.trans (hK.below (Nat.le_refl _) (by omega)))
      have HA5 := hidR (HA.out.kept hr hK)
      have HE5 := hidR (HE.out.kept hK HG.out)
      have hw5 : wr.heap.size ≤ w5.heap.size := hK.2.2.2.1
      clear hR hK HR HB HO HE HA z2
      go_wp2_with fail
      refine (sTreeDo_any _ a4 g4 0 cap4 fs ok op ot ox (by omega) hcap4 (by omega) (by omega) (by omega) (fun e he => ⟨by have := (HZ.out e he).1; omega, by have := (HZ.out e he).2; omega⟩) HA4.out HE5.out).mono ?_
      rintro e w6 ⟨v, rfl, ho6, hB6⟩
      have HR6 := hidR (HR5.out.below hB6)
      have HB6 := hidR (B3' HB5.out hB6)
      have HO6 := hidR (ho6.lower (base' := w1.heap.size) (by omega))
      have HA6 := hidR (HA5.out.below hB6)
      have HT6 := hidR (do_tree (q := ⟨ok, op, ot, ox⟩) HT.out)
      have hw6 := hB6.size
      clear ho6 hB6 HR5 HB5 HE5 HA5
      go_wp2
      go_roundw
      case rel => exact ⟨k - 1, _, q5, by go_num, by omega, by omega, HT6, HO6, HA6, HR6, HB6, by omega⟩
      case measure => simp [RowKit.intOf]; omega
    · have hk0 : k = 0 := by omega
      subst hk0
      clear h0
      go_wp2_with fail
      refine (pick_any _ w.heap.size q _ (by decide) (by decide) (by omega) HR.out).mono ?_
      rintro e w5 ⟨j, rfl, j0, j1, hR, hK⟩
      have HR5 := hidR hR
      have HB5 := hidR (HB.out.trans (hK.below (Nat.le_refl _) (by omega)))
      have HO5 := hidR (HO.out.kept hr hK)
      have HA5 := hidR (HA.out.kept hr hK)
      have hw5 : wr.heap.size ≤ w5.heap.size := hK.2.2.2.1
      clear hR hK HR HB HO HA
      have fin : ∀ (W : World) (v : Value) (gs : List E) (qq : Nat), Hid (OwnE W w1.heap.size v gs) → Hid (treeE gs = true) → Hid (OwnE W w1.heap.size v2 es) → Hid (Rd W w.heap.size qq) → Hid (Below w.heap.size w W) → w1.heap.size ≤ W.heap.size → qq ≤ 800 → Calls Tryz.prog 48 #[.pointer (some ⟨w.heap.size, 0, none⟩), v] W fun e W' => ∃ v' gs', e = .returned v' ∧ LieB W' w.heap.size v' gs' ∧ Small 17 gs' ∧ LieB W' w.heap.size v2 es ∧ Below w.heap.size w W' := by
        intro W v gs qq HO HT HA HR HB hw hqq
        refine (l2Bent_any W w.heap.size qq w1.heap.size 16 v gs (by omega) hr hw HO.out.lieB (small_tree HT.out) (by decide) HR.out).mono ?_
        rintro e W' ⟨v', gs', q', rfl, hL, hS, _, _, hK⟩
        exact ⟨v', gs', rfl, hL.lower (Nat.le_of_lt hr), hS, ((HA.out.kept hr hK).lieB).lower (Nat.le_of_lt hr), HB.out.trans (hK.below (Nat.le_refl _) (by omega))⟩
      by_cases hj : j = 0
      · subst hj
        go_wp2_with fail
        refine (l2Tree_any _ w.heap.size (q + 1) (by omega) HR5.out).mono ?_
        rintro e w6 ⟨v6, es6, q6, rfl, ht6, ho6, hq6, hR6, hK6⟩
        have HR6 := hidR hR6
        have HB6 := hidR (HB5.out.trans (hK6.below (Nat.le_refl _) (by omega)))
        have HO6 := hidR (ho6.lower (base' := w1.heap.size) (by omega))
        have HA6 := hidR (HA5.out.kept hr hK6)
        have HT6 := hidR ht6
        have hw6 : w5.heap.size ≤ w6.heap.size := hK6.2.2.2.1
        clear hR6 hK6 ho6 ht6 HR5 HB5 HO5 HA5
        go_wp2_with fail
        refine (fin _ v6 es6 q6 HO6 HT6 HA6 HR6 HB6 (by omega) (by omega)).mono ?_
        rintro e w7 ⟨v7, gs7, rfl, hL7, hS7, hL8, hB7⟩
        have HL7 := hidR hL7
        have HL8 := hidR hL8
        have HS7 := hidR hS7
        have HB7 := hidR hB7
        clear hL7 hL8 hS7 hB7 fin
        go_wp2
        go_ret2
        exact ⟨_, _, _, _, rfl, HL8.out, ⟨Nat.le_succ_of_le (small_tree HT2.out).1, (small_tree HT2.out).2⟩, HL7.out, HS7.out, HB7.out⟩
      · have hj' : (j == 0) = false := by rw [beq_eq_false_iff_ne]; exact hj
        go_wp2_with fail
        refine (fin _ _ fs (q + 1) HO5 HT HA5 HR5 HB5 (by omega) (by omega)).mono ?_
        rintro e w7 ⟨v7, gs7, rfl, hL7, hS7, hL8, hB7⟩
        have HL7 := hidR hL7
        have HL8 := hidR hL8
        have HS7 := hidR hS7
        have HB7 := hidR hB7
        clear hL7 hL8 hS7 hB7 fin
        go_wp2
        go_ret2
        exact ⟨_, _, _, _, rfl, HL8.out, ⟨Nat.le_succ_of_le (small_tree HT2.out).1, (small_tree HT2.out).2⟩, HL7.out, HS7.out, HB7.out⟩
end Go.Proofs.YtkjpmngohocmlabGreatDoor
