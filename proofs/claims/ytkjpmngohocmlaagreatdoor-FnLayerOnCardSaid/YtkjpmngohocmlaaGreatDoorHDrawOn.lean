/-
  The walk of the model's draw of a layer and a tree, whatever the code.
-/
import Derived.Test.YtkjpmngohocmlaaGreatDoorHPk30
import Derived.Test.YtkjpmngohocmlaaGreatDoorHDrawBent
import Derived.Test.YtkjpmngohocmlaaGreatDoorHPk05
import Derived.Test.YtkjpmngohocmlaaGreatDoorHMkDrawH
namespace Go.Proofs.YtkjpmngohocmlaaGreatDoor.Ly
open Go.RowKit Go.Lib

set_option maxHeartbeats 1000000 in
set_option maxRecDepth 100000 in
theorem DrawLayerOn_any (w : World) (a : Option Addr) (len cap : Nat) (hl : len ≤ 1048576) (h : Cod w a len cap) :
    Calls Tryz.prog 9 #[.slice a len cap] w fun e w' => ∃ (v v' : Value) (es : List Mk.E) (fs : List E), e = .returned (.tuple #[v, v']) ∧ Mk.LieB w' w.heap.size v es ∧ Mk.Drn 33 es ∧ LieB w' w.heap.size v' fs ∧ Small 17 fs ∧ Below w.heap.size w w' := by
  have HC := hidR h
  clear h
  go_enter Tryz.func9, Tryz.ntmps9
  go_wp2_with fail
  refine (l10Open_any _ a len cap hl HC.out).mono ?_
  rintro e w1 ⟨rfl, hR1, hB1⟩
  have HR1 := hidR hR1
  have HB1 := hidR hB1
  have hr := hR1.lt
  clear hR1 hB1 HC
  go_wp2_with fail
  refine (Mk.l3Layer_any _ w.heap.size 0 (by omega) HR1.out).mono ?_
  rintro e w2 ⟨v2, es2, q2, rfl, ht2, hd2, hl2, hq2, hR2, hK2⟩
  have HR2 := hidR hR2
  have HB2 := hidR (HB1.out.trans (hK2.below (Nat.le_refl _) (Nat.le_of_lt hr)))
  have HL2 := hidR hl2
  have HS2 := hidR (hd2.drn (Mk.layB_len ht2))
  have hw2 : w1.heap.size ≤ w2.heap.size := hK2.2.2.2.1
  clear hR2 hK2 hl2 ht2 hd2 HR1 HB1
  go_wp2_with fail
  refine (Mk.l3Bent_any _ w.heap.size q2 w1.heap.size 32 v2 es2 (by omega) hr hw2 HL2.out HS2.out (by decide) HR2.out).mono ?_
  rintro e w3 ⟨v3, es3, q3, rfl, hL3, hS3, hq3, hR3, hK3⟩
  have HR3 := hidR hR3
  have HB3 := hidR (HB2.out.trans (hK3.below (Nat.le_refl _) (by omega)))
  have HS3 := hidR hS3
  have HL3 := hidR hL3
  have hw3 : w2.heap.size ≤ w3.heap.size := hK3.2.2.2.1
  clear hR3 hK3 hS3 hL3 HR2 HB2 HL2 HS2
  go_wp2_with fail
  refine (l2Tree_any _ w.heap.size q3 (by omega) HR3.out).mono ?_
  rintro e w4 ⟨v4, es4, q4, rfl, ht4, ho4, hq4, hR4, hK4⟩
  have HR4 := hidR hR4
  have HB4 := hidR (HB3.out.trans (hK4.below (Nat.le_refl _) (by omega)))
  have HQ4 := hidR (HL3.out.kept hr hK4)
  have HL4 := hidR ((ho4.lower (base' := w1.heap.size) (by omega)).lieB)
  have HS4 : Hid (Small 16 es4) := tree_sizes ht4
  have hw4 : w3.heap.size ≤ w4.heap.size := hK4.2.2.2.1
  clear hR4 hK4 ho4 ht4 HR3 HB3 HL3
  go_wp2_with fail
  refine (l2Bent_any _ w.heap.size q4 w1.heap.size 16 v4 es4 (by omega) hr (by omega) HL4.out HS4.out (by decide) HR4.out).mono ?_
  rintro e w5 ⟨v5, es5, q5, rfl, hL5, hS5, hq5, hR5, hK5⟩
  have HB5 := hidR (HB4.out.trans (hK5.below (Nat.le_refl _) (by omega)))
  have HS5 := hidR hS5
  have HL5 := hidR hL5
  have HQ5 := hidR (HQ4.out.kept hr hK5)
  clear hR5 hK5 hS5 hL5 HR4 HB4 HL4 HQ4
  go_wp2
  go_ret2
  exact ⟨v3, v5, es3, es5, rfl, HQ5.out.lower (Nat.le_of_lt hr), HS3.out, HL5.out.lower (Nat.le_of_lt hr), HS5.out, HB5.out⟩
end Go.Proofs.YtkjpmngohocmlaaGreatDoor.Ly
