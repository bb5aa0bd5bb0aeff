/-
  The walks of the model's draws of trees that may be bent, and of what may be done, whatever the code.
-/
import Derived.Test.YtbcogekeoklddaaDoorHPk07
import Derived.Test.YtbcogekeoklddaaDoorHDrawTreeQ
import Derived.Test.YtbcogekeoklddaaDoorHDrawBentQ
namespace Go.Proofs.YtbcogekeoklddaaDoor
open Go.RowKit Go.Lib

theorem smallQ_small {n : Nat} {es : List E} (h : SmallQ nzz n es) : Small n es := ⟨h.1, fun e he => ⟨by
  have := (h.2 e he).1
  unfold nzz at this; rw [Bool.and_eq_true] at this; exact of_decide_eq_true this.1, (h.2 e he).2⟩⟩
set_option maxHeartbeats 1000000 in
set_option maxRecDepth 100000 in
theorem DrawTreeOk_Q (w : World) (a : Option Addr) (len cap : Nat) (hl : len ≤ 1048576) (h : Cod w a len cap) :
    Calls Tryd.prog 13 #[.slice a len cap] w fun e w' => ∃ (v : Value) (es : List E), e = .returned v ∧ LieB w' w.heap.size v es ∧ SmallQ nzz 18 es ∧ Below w.heap.size w w' := by
  have HC := hidR h
  clear h
  go_enter Tryd.func13, Tryd.ntmps13
  go_wp2_with fail
  refine (l10Open_any _ a len cap hl HC.out).mono ?_
  rintro e w1 ⟨rfl, hR1, hB1⟩
  have HR1 := hidR hR1
  have HB1 := hidR hB1
  have hr := hR1.lt
  clear hR1 hB1 HC
  go_wp2_with fail
  refine (l2Tree_Q _ w.heap.size 0 (by omega) HR1.out).mono ?_
  rintro e w2 ⟨v2, es2, q2, rfl, ht2, hz2, ho2, hq2, hR2, hK2⟩
  have HR2 := hidR hR2
  have HB2 := hidR (HB1.out.trans (hK2.below (Nat.le_refl _) (Nat.le_of_lt hr)))
  have HL2 := hidR ho2.lieB
  have HS2 : Hid (SmallQ nzz 16 es2) := ⟨(tree_sizes ht2).1, fun e he => ⟨hz2 e he, ((tree_sizes ht2).2 e he).2⟩⟩
  have hw2 : w1.heap.size ≤ w2.heap.size := hK2.2.2.2.1
  clear hR2 hK2 ho2 ht2 hz2 HR1 HB1
  go_wp2_with fail
  refine (l2Bent_Q nzz (by decide +kernel) _ w.heap.size q2 w1.heap.size 16 v2 es2 (by omega) hr hw2 HL2.out HS2.out (by decide) HR2.out).mono ?_
  rintro e w3 ⟨v3, es3, q3, rfl, hL3, hS3, hq3, hR3, hK3⟩
  have HR3 := hidR hR3
  have HB3 := hidR (HB2.out.trans (hK3.below (Nat.le_refl _) (by omega)))
  have HS3 := hidR hS3
  have HL3 := hidR hL3
  have hw3 : w2.heap.size ≤ w3.heap.size := hK3.2.2.2.1
  clear hR3 hK3 hS3 hL3 HR2 HB2 HL2 HS2
  go_wp2_with fail
  refine (l2Bent_Q nzz (by decide +kernel) _ w.heap.size q3 w1.heap.size 17 v3 es3 (by omega) hr (by omega) HL3.out HS3.out (by decide) HR3.out).mono ?_
  rintro e w4 ⟨v4, es4, q4, rfl, hL4, hS4, hq4, hR4, hK4⟩
  have HB4 := hidR (HB3.out.trans (hK4.below (Nat.le_refl _) (by omega)))
  have HS4 := hidR hS4
  have HL4 := hidR (hL4.lower (Nat.le_of_lt hr))
  clear hR4 hK4 hS4 hL4 HR3 HB3 HL3 HS3
  go_wp2
  go_ret
  exact ⟨_, es4, rfl, HL4.out, HS4.out, HB4.out⟩

set_option maxHeartbeats 1000000 in
set_option maxRecDepth 100000 in
theorem DrawTreeSame_any (w : World) (a : Option Addr) (len cap : Nat) (hl : len ≤ 1048576) (h : Cod w a len cap) :
    Calls Tryd.prog 12 #[.slice a len cap] w fun e w' => ∃ (v v' : Value) (es fs : List E), e = .returned (.tuple #[v, v']) ∧ LieB w' w.heap.size v es ∧ Small 16 es ∧ LieB w' w.heap.size v' fs ∧ Small 20 fs ∧ Below w.heap.size w w' := by
  have HC := hidR h
  clear h
  go_enter Tryd.func12, Tryd.ntmps12
  go_wp2_with fail
  refine (l10Open_any _ a len cap hl HC.out).mono ?_
  rintro e w1 ⟨rfl, hR1, hB1⟩
  have HR1 := hidR hR1
  have HB1 := hidR hB1
  have hr := hR1.lt
  clear hR1 hB1 HC
  go_wp2_with fail
  refine (l2Tree_any _ w.heap.size 0 (by omega) HR1.out).mono ?_
  rintro e w2 ⟨v2, es2, q2, rfl, ht2, ho2, hq2, hR2, hK2⟩
  have HR2 := hidR hR2
  have HB2 := hidR (HB1.out.trans (hK2.below (Nat.le_refl _) (Nat.le_of_lt hr)))
  have HL2 := hidR ho2.lieB
  have HS2 := hidR (small_tree ht2)
  have hw2 : w1.heap.size ≤ w2.heap.size := hK2.2.2.2.1
  clear hR2 hK2 ho2 ht2 HR1 HB1
  go_wp2_with fail
  refine (l2Bent_any _ w.heap.size q2 w1.heap.size 16 v2 es2 (by omega) hr (by omega) HL2.out HS2.out (by decide) HR2.out).mono ?_
  rintro e w3 ⟨v3, es3, q3, rfl, hL, hS, hq3, hR, hK⟩
  have HR3 := hidR hR
  have HB3 := hidR (HB2.out.trans (hK.below (Nat.le_refl _) (by omega)))
  have HS3 := hidR hS
  have HM3 := hidR hL
  replace HL2 := hidR (HL2.out.kept hr hK)
  have hw3 : w2.heap.size ≤ w3.heap.size := hK.2.2.2.1
  clear hR hK hS hL
  go_wp2_with fail
  refine (l2Bent_any _ w.heap.size q3 w1.heap.size 17 v3 es3 (by omega) hr (by omega) HM3.out HS3.out (by decide) HR3.out).mono ?_
  rintro e w4 ⟨v4, es4, q4, rfl, hL, hS, hq4, hR, hK⟩
  have HR4 := hidR hR
  have HB4 := hidR (HB3.out.trans (hK.below (Nat.le_refl _) (by omega)))
  have HS4 := hidR hS
  have HM4 := hidR hL
  replace HL2 := hidR (HL2.out.kept hr hK)
  have hw4 : w3.heap.size ≤ w4.heap.size := hK.2.2.2.1
  clear hR hK hS hL
  go_wp2_with fail
  refine (l2Bent_any _ w.heap.size q4 w1.heap.size 18 v4 es4 (by omega) hr (by omega) HM4.out HS4.out (by decide) HR4.out).mono ?_
  rintro e w5 ⟨v5, es5, q5, rfl, hL, hS, hq5, hR, hK⟩
  have HR5 := hidR hR
  have HB5 := hidR (HB4.out.trans (hK.below (Nat.le_refl _) (by omega)))
  have HS5 := hidR hS
  have HM5 := hidR hL
  replace HL2 := hidR (HL2.out.kept hr hK)
  have hw5 : w4.heap.size ≤ w5.heap.size := hK.2.2.2.1
  clear hR hK hS hL
  go_wp2_with fail
  refine (l2Bent_any _ w.heap.size q5 w1.heap.size 19 v5 es5 (by omega) hr (by omega) HM5.out HS5.out (by decide) HR5.out).mono ?_
  rintro e w6 ⟨v6, es6, q6, rfl, hL, hS, hq6, hR, hK⟩
  have HR6 := hidR hR
  have HB6 := hidR (HB5.out.trans (hK.below (Nat.le_refl _) (by omega)))
  have HS6 := hidR hS
  have HM6 := hidR hL
  replace HL2 := hidR (HL2.out.kept hr hK)
  have hw6 : w5.heap.size ≤ w6.heap.size := hK.2.2.2.1
  clear hR hK hS hL
  go_wp2
  go_ret2
  exact ⟨_, _, es2, es6, rfl, HL2.out.lower (Nat.le_of_lt hr), HS2.out, HM6.out.lower (Nat.le_of_lt hr), HS6.out, HB6.out⟩
end Go.Proofs.YtbcogekeoklddaaDoor
