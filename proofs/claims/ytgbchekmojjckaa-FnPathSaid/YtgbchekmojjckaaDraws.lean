/-
  The walks of the model's draws of paths.
-/
import Derived.Test.YtgbchekmojjckaaDraw
namespace Go.Proofs.Ytgbchekmojjckaa
open Go.RowKit Go.Lib

set_option maxHeartbeats 400000 in
theorem DrawPathUp_any (w : World) (a : Option Addr) (len cap : Nat) (hl : len ≤ 1048576) (h : Cod w a len cap) :
    Calls Try.prog 9 #[.slice a len cap] w fun e w' => ∃ s : ByteArray, e = .returned (.string s) ∧ s.size ≤ 64 ∧ Below w.heap.size w w' := by
  go_enter Try.func9, Try.ntmps9
  go_wp2_with fail
  refine (l10Open_any _ a len cap hl h).mono ?_
  rintro e w1 ⟨rfl, hR1, hB1⟩
  have HR1 := hidR hR1
  have HB1 := hidR hB1
  have hz := hB1.size
  clear hR1 hB1 h
  go_wp2_with fail
  refine (l1Text_any _ w.heap.size 0 (by omega) HR1.out).mono ?_
  rintro e w2 ⟨s, rfl, hs, _, hK2⟩
  have HB2 := hidR (HB1.out.trans (hK2.below (Nat.le_refl _) hz))
  clear hK2 HR1 HB1
  go_wp2
  go_ret
  exact ⟨s, rfl, by omega, HB2.out⟩

set_option maxHeartbeats 400000 in
theorem DrawPathLevels_any (w : World) (a : Option Addr) (len cap : Nat) (hl : len ≤ 1048576) (h : Cod w a len cap) :
    Calls Try.prog 27 #[.slice a len cap] w fun e w' => ∃ s : ByteArray, e = .returned (.string s) ∧ s.size ≤ 64 ∧ Below w.heap.size w w' := by
  go_enter Try.func27, Try.ntmps27
  go_wp2_with fail
  refine (l10Open_any _ a len cap hl h).mono ?_
  rintro e w1 ⟨rfl, hR1, hB1⟩
  have HR1 := hidR hR1
  have HB1 := hidR hB1
  have hz := hB1.size
  clear hR1 hB1 h
  go_wp2_with fail
  refine (l1Text_any _ w.heap.size 0 (by omega) HR1.out).mono ?_
  rintro e w2 ⟨s, rfl, hs, _, hK2⟩
  have HB2 := hidR (HB1.out.trans (hK2.below (Nat.le_refl _) hz))
  clear hK2 HR1 HB1
  go_wp2
  go_ret
  exact ⟨s, rfl, by omega, HB2.out⟩

set_option maxHeartbeats 400000 in
theorem DrawPathJoin_any (w : World) (a : Option Addr) (len cap : Nat) (hl : len ≤ 1048576) (h : Cod w a len cap) :
    Calls Try.prog 20 #[.slice a len cap] w fun e w' => ∃ s t : ByteArray, e = .returned (.tuple #[.string s, .string t]) ∧ s.size ≤ 64 ∧ t.size ≤ 64 ∧ Below w.heap.size w w' := by
  go_enter Try.func20, Try.ntmps20
  go_wp2_with fail
  refine (l10Open_any _ a len cap hl h).mono ?_
  rintro e w1 ⟨rfl, hR1, hB1⟩
  have HR1 := hidR hR1
  have HB1 := hidR hB1
  have hz := hB1.size
  clear hR1 hB1 h
  go_wp2_with fail
  refine (l1Text_any _ w.heap.size 0 (by omega) HR1.out).mono ?_
  rintro e w2 ⟨s, rfl, hs, hR2, hK2⟩
  have HR2 := hidR hR2
  have HB2 := hidR (HB1.out.trans (hK2.below (Nat.le_refl _) hz))
  have hr2 := hR2.lt
  clear hR2 hK2 HR1 HB1
  go_wp2_with fail
  have hb : Below w2.heap.size w2 (w2.alloc (.cells ([⟨#[97]⟩, ⟨#[98]⟩, ⟨#[97, 98, 99]⟩, ⟨#[99]⟩, ⟨#[]⟩, ⟨#[97, 98, 99, 100]⟩, ⟨#[65]⟩, ⟨#[97, 47, 98]⟩, ⟨#[122, 122]⟩].map Value.string).toArray 9)) := (Below.refl _ w2).alloc (Nat.le_refl _) _
  refine (of_any _ w.heap.size (0 + 2) w2.heap.size 9 9 (by omega) (by omega) (by omega) (by omega) (Lst.new w2 [⟨#[97]⟩, ⟨#[98]⟩, ⟨#[97, 98, 99]⟩, ⟨#[99]⟩, ⟨#[]⟩, ⟨#[97, 98, 99, 100]⟩, ⟨#[65]⟩, ⟨#[97, 47, 98]⟩, ⟨#[122, 122]⟩] 9 (all_short _ (by decide))) (HR2.out.below hb)).mono ?_
  rintro e w3 ⟨t, rfl, ht, _, hK3⟩
  have HB3 := hidR (HB2.out.trans ((hb.mono (Nat.le_of_lt hr2)).trans (hK3.below (Nat.le_refl _) (Nat.le_trans (Nat.le_of_lt hr2) hb.size))))
  clear hK3 HR2 HB2 hb
  go_wp2
  go_ret2
  exact ⟨s, t, rfl, by omega, by omega, HB3.out⟩

set_option maxHeartbeats 800000 in
theorem DrawPathUnder_any (w : World) (a : Option Addr) (len cap : Nat) (hl : len ≤ 1048576) (h : Cod w a len cap) :
    Calls Try.prog 22 #[.slice a len cap] w fun e w' => ∃ s t : ByteArray, e = .returned (.tuple #[.string s, .string t]) ∧ s.size ≤ 64 ∧ t.size ≤ 64 ∧ Below w.heap.size w w' := by
  go_enter Try.func22, Try.ntmps22
  go_wp2_with fail
  refine (l10Open_any _ a len cap hl h).mono ?_
  rintro e w1 ⟨rfl, hR1, hB1⟩
  have HR1 := hidR hR1
  have HB1 := hidR hB1
  have hz := hB1.size
  clear hR1 hB1 h
  go_wp2_with fail
  refine (l1Text_any _ w.heap.size 0 (by omega) HR1.out).mono ?_
  rintro e w2 ⟨s, rfl, hs, hR2, hK2⟩
  have HR2 := hidR hR2
  have HB2 := hidR (HB1.out.trans (hK2.below (Nat.le_refl _) hz))
  have hz2 := hK2.2.2.2.1
  clear hR2 hK2 HR1 HB1
  go_wp2_with fail
  refine (pick_any _ w.heap.size (0 + 2) _ (by omega) (by omega) (by omega) HR2.out).mono ?_
  rintro e w3 ⟨j, rfl, j0, j1, hR3, hK3⟩
  have HR3 := hidR hR3
  have HB3 := hidR (HB2.out.trans (hK3.below (Nat.le_refl _) (by omega)))
  have hz3 := hK3.2.2.2.1
  clear hR3 hK3 HR2 HB2
  have hu1 := upS_size s
  have hu2 := upS_size (upS s)
  have hj : j = 0 ∨ j = 1 ∨ j = 2 := by omega
  rcases hj with rfl | rfl | rfl
  · go_wp2_with fail
    refine (sPathUp_any s (by omega) _).mono ?_
    rintro e w4 ⟨rfl, hB4⟩
    have HB4 := hidR (HB3.out.trans (hB4.mono (by omega)))
    clear hB4 HB3
    go_wp2
    go_ret2
    exact ⟨_, _, rfl, by omega, by omega, HB4.out⟩
  · go_wp2_with fail
    refine (sPathUp_any s (by omega) _).mono ?_
    rintro e w4 ⟨rfl, hB4⟩
    have HB4 := hidR (HB3.out.trans (hB4.mono (by omega)))
    have hz4 := hB4.size
    clear hB4 HB3
    go_wp2_with fail
    refine (sPathUp_any (upS s) (by omega) _).mono ?_
    rintro e w5 ⟨rfl, hB5⟩
    have HB5 := hidR (HB4.out.trans (hB5.mono (by omega)))
    clear hB5 HB4
    go_wp2
    go_ret2
    exact ⟨_, _, rfl, by omega, by omega, HB5.out⟩
  · go_wp2_with fail
    refine (l1Text_any _ w.heap.size (0 + 2 + 1) (by omega) HR3.out).mono ?_
    rintro e w4 ⟨t, rfl, ht, _, hK4⟩
    have HB4 := hidR (HB3.out.trans (hK4.below (Nat.le_refl _) (by omega)))
    clear hK4 HB3
    go_wp2
    go_ret2
    exact ⟨_, _, rfl, by omega, by omega, HB4.out⟩
end Go.Proofs.Ytgbchekmojjckaa
