/-
  The walk of the model's draw of what may be done, whatever the code.
-/
import Derived.Test.YtbcogekeoklddaaDoorHPk07
namespace Go.Proofs.YtbcogekeoklddaaDoor
open Go.RowKit Go.Lib

set_option maxHeartbeats 1000000 in
set_option maxRecDepth 100000 in
theorem DrawOpOk_any (w : World) (a : Option Addr) (len cap : Nat) (hl : len ≤ 1048576) (h : Cod w a len cap) :
    Calls Tryd.prog 14 #[.slice a len cap] w fun e w' => ∃ (k : Int) (p t x : ByteArray), e = .returned (.agg #[.int .i64 k, .string p, .string t, .string x]) ∧ p.size ≤ 16 ∧ t.size ≤ 16 ∧ x.size ≤ 16 ∧ Below w.heap.size w w' := by
  obtain ⟨W0, hW0⟩ : ∃ W0, W0 = w.alloc (.cells #[.int .i64 0, .string ⟨#[]⟩, .string ⟨#[]⟩, .string ⟨#[]⟩] 38) := ⟨_, rfl⟩
  have hs0 : W0.heap.size = w.heap.size + 1 := by rw [hW0]; simp
  have HY0 : Hid (Bx W0 w.heap.size 0 ⟨#[]⟩ ⟨#[]⟩ ⟨#[]⟩) := by rw [hW0]; exact Bx.new w 0 ⟨#[]⟩ ⟨#[]⟩ ⟨#[]⟩ 38
  have HB0 : Hid (Below w.heap.size w W0) := by rw [hW0]; exact (Below.refl _ w).alloc (Nat.le_refl _) _
  have HC := hidR (h.below HB0.out)
  have HS0 := hidR hs0
  clear h hs0
  go_enter Tryd.func14, Tryd.ntmps14
  go_wp2_with fail
  rw [← hW0]
  clear hW0
  refine (l10Open_any _ a len cap hl HC.out).mono ?_
  rintro e w1 ⟨rfl, hR1, hB1⟩
  have HR1 := hidR hR1
  have HB1 := hidR hB1
  have hr := hR1.lt
  clear hR1 hB1 HC
  have hBa : Below w1.heap.size w1 (w1.alloc (.cells #[] 31)) := (Below.refl _ _).alloc (Nat.le_refl _) _
  have HR2 := hidR (HR1.out.below hBa)
  have HB2 := hidR (B3' HB1.out hBa)
  have hz2 := hBa.size
  clear hBa
  go_wp2_with fail
  refine (l2Op_any _ W0.heap.size 0 _ w1.heap.size 0 0 [] (by omega) (by simp) (fun h => absurd h (by simp)) (fun i hi => absurd hi (by simp)) (fun e he => absurd he (by simp)) (fun h => absurd h (by simp)) HR2.out).mono ?_
  rintro e w4 ⟨k, p, t, x, q4, rfl, z1, z2, z3, hq4, hR4, hK4⟩
  have HB4 := hidR (HB2.out.trans (hK4.below (Nat.le_refl _) (by omega)))
  have HZ := hidR (okS_size z2)
  clear hR4 hK4 HB2 z2
  obtain ⟨y0, y1, y2, y3, f0, f1, f2, f3⟩ := HY0.out.below HB4.out (by have := HS0.out; omega)
  go_wp2
  refine fin4B (C := bodyPost Tryd.prog Tryd.f14 _ _ _) (HY0.out.below HB4.out (by have := HS0.out; omega)) (B3' HB0.out HB4.out) (Nat.le_refl _) ?_
  intro Wf hf hBf _
  obtain ⟨s0, s1, s2, s3, -, -, -, -⟩ := hf
  exact bodyPost_ret (v := .agg #[.int .i64 k, .string p, .string t, .string x]) (by simp [results, Tryd.results14, go_sem, s0, s1, s2, s3]) rfl ⟨k, p, t, x, rfl, z1, HZ.out, z3, hBf⟩
end Go.Proofs.YtbcogekeoklddaaDoor
