/-
  The walk of the model's MergeAt.
-/
import Derived.Test.YtenlibefdefjmaaDoorHMgAt
namespace Go.Proofs.YtenlibefdefjmaaDoor.Mg
open Go.RowKit Go.Lib

set_option maxHeartbeats 2000000 in
set_option maxRecDepth 100000 in
theorem sMergeAt_any (w : World) (v1 v2 v3 : Value) (t a b : List E) (s : ByteArray) (h1 : Row w v1 t) (h2 : Row w v2 a) (h3 : Row w v3 b) :
    Calls Tryd.prog 5 #[v1, v2, v3, .string s] w fun r w' => r = .returned (.tuple #[encE (atE t a b s).1, .bool (atE t a b s).2.1, .bool (atE t a b s).2.2]) ∧ Below w.heap.size w w' := by
  obtain ⟨W0, hW0⟩ : ∃ W0, w.alloc (.cells #[.string ⟨#[]⟩, .bool false, .string ⟨#[]⟩] 25) = W0 := ⟨_, rfl⟩
  have hb0 : Below w.heap.size w W0 := by rw [← hW0]; exact (Below.refl _ w).alloc (Nat.le_refl _) _
  have HW0 := hidE hW0
  have HB := hidE hb0
  have HR := hidE (sl8Right_any W0 v1 v2 v3 t a b (h1.below hb0) (h2.below hb0) (h3.below hb0))
  have HA := hidE (fun (W : World) (h : Below W0.heap.size W0 W) => sl8At_any W v1 v2 v3 t a b s ((h1.below hb0).below h) ((h2.below hb0).below h) ((h3.below hb0).below h))
  clear h1 h2 h3 hb0
  cases ht : trees3 t a b with
  | false =>
    rw [atE_no ht]
    rw [ht] at HR
    go_enter Tryd.func5, Tryd.ntmps5
    go_wp2_with fail
    refine HR.out.mono ?_
    rintro e w1 ⟨rfl, hB1⟩
    obtain ⟨⟨r0, r1, r2⟩, f0, f1, f2⟩ := box3c (W := w1) (by rw [HW0.out]; exact hB1)
    have HBV := hidE (B3G HB.out hB1)
    clear hB1 HB
    go_wp2
    refine atSet3 (C := bodyPost Tryd.prog Tryd.f5 _ _ _) r0 r1 r2 HBV.out (Nat.le_refl _) ?_
    intro Wf s0 s1 s2 hBf
    exact bodyPost_ret (v := .tuple #[encE noneE, .bool false, .bool false]) (by simp [results, Tryd.results5, go_sem, s0, s1, s2, noneE]) rfl ⟨rfl, hBf⟩
  | true =>
    rw [atE_yes ht]
    rw [ht] at HR
    obtain ⟨⟨⟨p, d, x⟩, b1, b2⟩, hm⟩ : ∃ m, at3 (getE t s) (getE a s) (getE b s) = m := ⟨_, rfl⟩
    rw [hm] at HA ⊢
    go_enter Tryd.func5, Tryd.ntmps5
    go_wp2_with fail
    refine HR.out.mono ?_
    rintro e w1 ⟨rfl, hB1⟩
    have HB1 := hidE hB1
    clear hB1
    go_wp2_with fail
    refine (HA.out _ HB1.out).mono ?_
    rintro e w2 ⟨rfl, hB2⟩
    have hB3 := B3G HB1.out hB2
    obtain ⟨⟨r0, r1, r2⟩, f0, f1, f2⟩ := box3c (W := w2) (by rw [HW0.out]; exact hB3)
    have HBV := hidE (B3G HB.out hB3)
    clear hB2 hB3 HB HB1
    go_wp2
    refine atSet3 (C := bodyPost Tryd.prog Tryd.f5 _ _ _) r0 r1 r2 HBV.out (Nat.le_refl _) ?_
    intro Wf s0 s1 s2 hBf
    exact bodyPost_ret (v := .tuple #[encE ⟨p, d, x⟩, .bool b1, .bool b2]) (by simp [results, Tryd.results5, go_sem, s0, s1, s2]) rfl ⟨rfl, hBf⟩
end Go.Proofs.YtenlibefdefjmaaDoor.Mg
