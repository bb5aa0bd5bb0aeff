/-
  The walk of the model's draw of a layer that may be bent.
-/
import Derived.Test.YtgkfhcpegdlejaaGreatDoorHPk29
namespace Go.Proofs.YtgkfhcpegdlejaaGreatDoor.Mk
open Go.RowKit Go.Lib

theorem layB_len {es : List E} (h : layB es = true) : es.length ≤ 32 := by
  unfold layB at h
  rw [Bool.and_eq_true] at h
  exact of_decide_eq_true h.2
set_option maxHeartbeats 1000000 in
set_option maxRecDepth 100000 in
theorem DrawLayerOk_any (w : World) (a : Option Addr) (len cap : Nat) (hl : len ≤ 1048576) (h : Cod w a len cap) :
    Calls Tryz.prog 24 #[.slice a len cap] w fun e w' => ∃ (v : Value) (es : List E), e = .returned v ∧ LieB w' w.heap.size v es ∧ Drn 34 es ∧ Below w.heap.size w w' := by
  have HC := hidR h
  clear h
  go_enter Tryz.func24, Tryz.ntmps24
  go_wp2_with fail
  refine (l10Open_any _ a len cap hl HC.out).mono ?_
  rintro e w1 ⟨rfl, hR1, hB1⟩
  have HR1 := hidR hR1
  have HB1 := hidR hB1
  have hr := hR1.lt
  clear hR1 hB1 HC
  go_wp2_with fail
  refine (l3Layer_any _ w.heap.size 0 (by omega) HR1.out).mono ?_
  rintro e w2 ⟨v2, es2, q2, rfl, ht2, hd2, hl2, hq2, hR2, hK2⟩
  have HR2 := hidR hR2
  have HB2 := hidR (HB1.out.trans (hK2.below (Nat.le_refl _) (Nat.le_of_lt hr)))
  have HL2 := hidR hl2
  have HS2 := hidR (hd2.drn (layB_len ht2))
  have hw2 : w1.heap.size ≤ w2.heap.size := hK2.2.2.2.1
  clear hR2 hK2 hl2 ht2 hd2 HR1 HB1
  go_wp2_with fail
  refine (l3Bent_any _ w.heap.size q2 w1.heap.size 32 v2 es2 (by omega) hr hw2 HL2.out HS2.out (by decide) HR2.out).mono ?_
  rintro e w3 ⟨v3, es3, q3, rfl, hL3, hS3, hq3, hR3, hK3⟩
  have HR3 := hidR hR3
  have HB3 := hidR (HB2.out.trans (hK3.below (Nat.le_refl _) (by omega)))
  have HS3 := hidR hS3
  have HL3 := hidR hL3
  have hw3 : w2.heap.size ≤ w3.heap.size := hK3.2.2.2.1
  clear hR3 hK3 hS3 hL3 HR2 HB2 HL2 HS2
  go_wp2_with fail
  refine (l3Bent_any _ w.heap.size q3 w1.heap.size 33 v3 es3 (by omega) hr (by omega) HL3.out HS3.out (by decide) HR3.out).mono ?_
  rintro e w4 ⟨v4, es4, q4, rfl, hL4, hS4, hq4, hR4, hK4⟩
  have HB4 := hidR (HB3.out.trans (hK4.below (Nat.le_refl _) (by omega)))
  have HS4 := hidR hS4
  have HL4 := hidR (hL4.lower (Nat.le_of_lt hr))
  clear hR4 hK4 hS4 hL4 HR3 HB3 HL3 HS3
  go_wp2
  go_ret
  exact ⟨_, es4, rfl, HL4.out, HS4.out, HB4.out⟩
end Go.Proofs.YtgkfhcpegdlejaaGreatDoor.Mk
