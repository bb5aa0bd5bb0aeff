/-
  The walk of the model's draw of three paths.
-/
import Derived.Test.YtgbchekmojjckabDraw
namespace Go.Proofs.Ytgbchekmojjckab
open Go.RowKit Go.Lib

set_option maxHeartbeats 1000000 in
theorem DrawPathMove_any (w : World) (a : Option Addr) (len cap : Nat) (hl : len ≤ 1048576) (h : Cod w a len cap) :
    Calls Try.prog 4 #[.slice a len cap] w fun e w' => ∃ s f t : ByteArray, e = .returned (.tuple #[.string s, .string f, .string t]) ∧ s.size ≤ 64 ∧ f.size ≤ 64 ∧ t.size ≤ 64 ∧ Below w.heap.size w w' := by
  go_enter Try.func4, Try.ntmps4
  go_wp2_with fail
  refine (l10Open_any _ a len cap hl h).mono ?_
  rintro e w1 ⟨rfl, hR1, hB1⟩
  have HR1 := hidR hR1
  have HB1 := hidR hB1
  have hz := hB1.size
  clear hR1 hB1 h
  go_wp2_with fail
  refine (l1Text_any _ w.heap.size 0 (by omega) HR1.out).mono ?_
  rintro e w2 ⟨s, rfl, hs, hR2, hK2⟩
  have HR2 := hidR hR2
  have HB2 := hidR (HB1.out.trans (hK2.below (Nat.le_refl _) hz))
  have hz2 := hK2.2.2.2.1
  clear hR2 hK2 HR1 HB1
  go_wp2_with fail
  refine (l1Text_any _ w.heap.size (0 + 2) (by omega) HR2.out).mono ?_
  rintro e w3 ⟨f, rfl, hf, hR3, hK3⟩
  have HR3 := hidR hR3
  have HB3 := hidR (HB2.out.trans (hK3.below (Nat.le_refl _) (by omega)))
  have hz3 := hK3.2.2.2.1
  clear hR3 hK3 HR2 HB2
  go_wp2_with fail
  refine (pick_any _ w.heap.size (0 + 2 + 2) _ (by omega) (by omega) (by omega) HR3.out).mono ?_
  rintro e w4 ⟨j, rfl, j0, j1, hR4, hK4⟩
  have HR4 := hidR hR4
  have HB4 := hidR (HB3.out.trans (hK4.below (Nat.le_refl _) (by omega)))
  have hz4 := hK4.2.2.2.1
  clear hR4 hK4 HR3 HB3
  have hu1 := upS_size s
  have hj : j = 0 ∨ j = 1 := by omega
  rcases hj with rfl | rfl
  · cases hp : pathB s with
    | true =>
      go_wp2_with fail
      refine (sOk_any s (by omega) _).mono ?_
      rintro e w5 ⟨rfl, hB5⟩
      have HR5 := hidR (HR4.out.below hB5)
      have HB5 := hidR (HB4.out.trans (hB5.mono (by omega)))
      have hz5 := hB5.size
      clear hB5 HR4 HB4
      go_wp2_with fail
      refine (sPathUp_any s (by omega) _).mono ?_
      rintro e w6 ⟨rfl, hB6⟩
      have HR6 := hidR (HR5.out.below hB6)
      have HB6 := hidR (HB5.out.trans (hB6.mono (by omega)))
      have hz6 := hB6.size
      clear hB6 HR5 HB5
      go_wp2_with fail
      refine (l1Text_any _ w.heap.size (0 + 2 + 2 + 1) (by omega) HR6.out).mono ?_
      rintro e w7 ⟨t, rfl, ht, _, hK7⟩
      have HB7 := hidR (HB6.out.trans (hK7.below (Nat.le_refl _) (by omega)))
      clear hK7 HR6 HB6
      go_wp2
      go_ret3
      exact ⟨_, _, _, rfl, by omega, by omega, by omega, HB7.out⟩
    | false =>
      go_wp2_with fail
      refine (sOk_any s (by omega) _).mono ?_
      rintro e w5 ⟨rfl, hB5⟩
      have HR5 := hidR (HR4.out.below hB5)
      have HB5 := hidR (HB4.out.trans (hB5.mono (by omega)))
      have hz5 := hB5.size
      clear hB5 HR4 HB4
      go_wp2_with fail
      refine (l1Text_any _ w.heap.size (0 + 2 + 2 + 1) (by omega) HR5.out).mono ?_
      rintro e w7 ⟨t, rfl, ht, _, hK7⟩
      have HB7 := hidR (HB5.out.trans (hK7.below (Nat.le_refl _) (by omega)))
      clear hK7 HR5 HB5
      go_wp2
      go_ret3
      exact ⟨_, _, _, rfl, by omega, by omega, by omega, HB7.out⟩
  · go_wp2_with fail
    refine (l1Text_any _ w.heap.size (0 + 2 + 2 + 1) (by omega) HR4.out).mono ?_
    rintro e w7 ⟨t, rfl, ht, _, hK7⟩
    have HB7 := hidR (HB4.out.trans (hK7.below (Nat.le_refl _) (by omega)))
    clear hK7 HR4 HB4
    go_wp2
    go_ret3
    exact ⟨_, _, _, rfl, by omega, by omega, by omega, HB7.out⟩
end Go.Proofs.Ytgbchekmojjckab
