/-
  The walks of the model's draws of two layers, nearly one, and of a bent one, whatever the code.
-/
import Derived.Test.YtlgahgnjifhbhaaHMkDrawH
namespace Go.Proofs.Ytlgahgnjifhbhaa.Mk
open Go.RowKit Go.Lib

set_option maxHeartbeats 1000000 in
set_option maxRecDepth 100000 in
theorem DrawLayerOk_any (w : World) (a : Option Addr) (len cap : Nat) (hl : len ≤ 1048576) (h : Cod w a len cap) :
    Calls Try.prog 10 #[.slice a len cap] w fun e w' => ∃ (v : Value) (es : List E), e = .returned v ∧ LieB w' w.heap.size v es ∧ Drn 34 es ∧ Below w.heap.size w w' := by
  have HC := hidR h
  clear h
  go_enter Try.func10, Try.ntmps10
  go_wp2_with fail
  refine (l10Open_any _ a len cap hl HC.out).mono ?_
  rintro e w1 ⟨rfl, hR1, hB1⟩
  have HR1 := hidR hR1
  have HB1 := hidR hB1
  have hr := hR1.lt
  clear hR1 hB1 HC
  go_wp2_with fail
  refine (l3Layer_any _ w.heap.size 0 (by omega) HR1.out).mono ?_
  rintro e w2 ⟨v2, es2, q2, rfl, ht2, hd2, hl2, hq2, hR2, hK2⟩
  have HR2 := hidR hR2
  have HB2 := hidR (HB1.out.trans (hK2.below (Nat.le_refl _) (Nat.le_of_lt hr)))
  have HL2 := hidR hl2
  have HS2 := hidR (hd2.drn (layB_len ht2))
  have hw2 : w1.heap.size ≤ w2.heap.size := hK2.2.2.2.1
  clear hR2 hK2 hl2 ht2 hd2 HR1 HB1
  go_wp2_with fail
  refine (l3Bent_any _ w.heap.size q2 w1.heap.size 32 v2 es2 (by omega) hr hw2 HL2.out HS2.out (by decide) HR2.out).mono ?_
  rintro e w3 ⟨v3, es3, q3, rfl, hL3, hS3, hq3, hR3, hK3⟩
  have HR3 := hidR hR3
  have HB3 := hidR (HB2.out.trans (hK3.below (Nat.le_refl _) (by omega)))
  have HS3 := hidR hS3
  have HL3 := hidR hL3
  have hw3 : w2.heap.size ≤ w3.heap.size := hK3.2.2.2.1
  clear hR3 hK3 hS3 hL3 HR2 HB2 HL2 HS2
  go_wp2_with fail
  refine (l3Bent_any _ w.heap.size q3 w1.heap.size 33 v3 es3 (by omega) hr (by omega) HL3.out HS3.out (by decide) HR3.out).mono ?_
  rintro e w4 ⟨v4, es4, q4, rfl, hL4, hS4, hq4, hR4, hK4⟩
  have HB4 := hidR (HB3.out.trans (hK4.below (Nat.le_refl _) (by omega)))
  have HS4 := hidR hS4
  have HL4 := hidR (hL4.lower (Nat.le_of_lt hr))
  clear hR4 hK4 hS4 hL4 HR3 HB3 HL3 HS3
  go_wp2
  go_ret
  exact ⟨_, es4, rfl, HL4.out, HS4.out, HB4.out⟩

set_option maxHeartbeats 1000000 in
set_option maxRecDepth 100000 in
theorem DrawLayerSame_any (w : World) (a : Option Addr) (len cap : Nat) (hl : len ≤ 1048576) (h : Cod w a len cap) :
    Calls Try.prog 9 #[.slice a len cap] w fun e w' => ∃ (v v' : Value) (es fs : List E), e = .returned (.tuple #[v, v']) ∧ LieB w' w.heap.size v es ∧ LieB w' w.heap.size v' fs ∧ Drn 32 es ∧ Drn 36 fs ∧ Below w.heap.size w w' := by
  have HC := hidR h
  clear h
  go_enter Try.func9, Try.ntmps9
  go_wp2_with fail
  refine (l10Open_any _ a len cap hl HC.out).mono ?_
  rintro e w1 ⟨rfl, hR1, hB1⟩
  have HR1 := hidR hR1
  have HB1 := hidR hB1
  have hr := hR1.lt
  clear hR1 hB1 HC
  go_wp2_with fail
  refine (l3Layer_any _ w.heap.size 0 (by omega) HR1.out).mono ?_
  rintro e w2 ⟨v2, es2, q2, rfl, ht2, hd2, hl2, hq2, hR2, hK2⟩
  have HR2 := hidR hR2
  have HB2 := hidR (HB1.out.trans (hK2.below (Nat.le_refl _) (Nat.le_of_lt hr)))
  have HL2 := hidR hl2
  have HS2 := hidR (hd2.drn (layB_len ht2))
  have hw2 : w1.heap.size ≤ w2.heap.size := hK2.2.2.2.1
  clear hR2 hK2 hl2 ht2 hd2 HR1 HB1
  go_wp2_with fail
  refine (l3Bent_any _ w.heap.size q2 w1.heap.size 32 v2 es2 (by omega) hr hw2 HL2.out HS2.out (by decide) HR2.out).mono ?_
  rintro e w3 ⟨v3, es3, q3, rfl, hL3, hS3, hq3, hR3, hK3⟩
  have HR3 := hidR hR3
  have HB3 := hidR (HB2.out.trans (hK3.below (Nat.le_refl _) (by omega)))
  have HS3 := hidR hS3
  have HL3 := hidR hL3
  have HQ3 := hidR (HL2.out.kept hr hK3)
  have hw3 : w2.heap.size ≤ w3.heap.size := hK3.2.2.2.1
  clear hR3 hK3 hS3 hL3 HR2 HB2
  go_wp2_with fail
  refine (l3Bent_any _ w.heap.size q3 w1.heap.size 33 v3 es3 (by omega) hr (by omega) HL3.out HS3.out (by decide) HR3.out).mono ?_
  rintro e w4 ⟨v4, es4, q4, rfl, hL4, hS4, hq4, hR4, hK4⟩
  have HR4 := hidR hR4
  have HB4 := hidR (HB3.out.trans (hK4.below (Nat.le_refl _) (by omega)))
  have HS4 := hidR hS4
  have HL4 := hidR hL4
  have HQ4 := hidR (HQ3.out.kept hr hK4)
  have hw4 : w3.heap.size ≤ w4.heap.size := hK4.2.2.2.1
  clear hR4 hK4 hS4 hL4 HR3 HB3
  go_wp2_with fail
  refine (l3Bent_any _ w.heap.size q4 w1.heap.size 34 v4 es4 (by omega) hr (by omega) HL4.out HS4.out (by decide) HR4.out).mono ?_
  rintro e w5 ⟨v5, es5, q5, rfl, hL5, hS5, hq5, hR5, hK5⟩
  have HR5 := hidR hR5
  have HB5 := hidR (HB4.out.trans (hK5.below (Nat.le_refl _) (by omega)))
  have HS5 := hidR hS5
  have HL5 := hidR hL5
  have HQ5 := hidR (HQ4.out.kept hr hK5)
  have hw5 : w4.heap.size ≤ w5.heap.size := hK5.2.2.2.1
  clear hR5 hK5 hS5 hL5 HR4 HB4
  go_wp2_with fail
  refine (l3Bent_any _ w.heap.size q5 w1.heap.size 35 v5 es5 (by omega) hr (by omega) HL5.out HS5.out (by decide) HR5.out).mono ?_
  rintro e w6 ⟨v6, es6, q6, rfl, hL6, hS6, hq6, hR6, hK6⟩
  have HR6 := hidR hR6
  have HB6 := hidR (HB5.out.trans (hK6.below (Nat.le_refl _) (by omega)))
  have HS6 := hidR hS6
  have HL6 := hidR hL6
  have HQ6 := hidR (HQ5.out.kept hr hK6)
  have hw6 : w5.heap.size ≤ w6.heap.size := hK6.2.2.2.1
  clear hR6 hK6 hS6 hL6 HR5 HB5
  go_wp2
  go_ret2
  exact ⟨v2, v6, es2, es6, rfl, HQ6.out.lower (Nat.le_of_lt hr), HL6.out.lower (Nat.le_of_lt hr), HS2.out, HS6.out, HB6.out⟩
end Go.Proofs.Ytlgahgnjifhbhaa.Mk
