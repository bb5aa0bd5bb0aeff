/-
  The walk of the law FnExactOpOk, out of the contracts.
-/
import Derived.Test.YtdddcfpnflmohaaLawOp
import Derived.Test.YtdddcfpnflmohaaOpOkI
namespace Go.Proofs.Ytdddcfpnflmohaa
open Go.RowKit Go.Lib

theorem fit_op (k : Int) (p t x : ByteArray) : (pathB p && fitB k t x) = opB ⟨k, p, t, x⟩ := by
  have hem : ∀ s : ByteArray, emB s = true → dataB s = true := fun s h => by
    have : s = ⟨#[]⟩ := toList_inj ((emB_yes h).trans (by rw [Lib.toList_data]))
    rw [this]; rfl
  have hex : ∀ s, emptyB s = emB s := fun _ => rfl
  unfold opB fitB
  simp only [hex]
  by_cases h1 : k = 1
  · subst h1
    cases hx : emB x with
    | false => simp
    | true => simp [hem x hx]
  · by_cases h2 : k = 2
    · subst h2; simp
    · by_cases h3 : k = 3
      · subst h3
        cases hx : emB x with
        | false => simp
        | true => simp [hem x hx]
      · by_cases h4 : k = 4
        · subst h4
          cases hx : emB x with
          | false => simp
          | true => simp [hem x hx]
        · by_cases h5 : k = 5
          · subst h5; simp
          · have : ¬ (1 ≤ k ∧ k ≤ 5) := by omega
            simp only [h1, h2, h3, h4, h5, if_false, Bool.and_false]
            rw [decide_eq_false this]; rfl
theorem B3O {a b c : World} (h : Below a.heap.size a b) (k : Below b.heap.size b c) : Below a.heap.size a c := h.trans (k.mono h.size)

set_option maxHeartbeats 800000 in
set_option maxRecDepth 100000 in
theorem walk_fnExactOpOk (k : Int) (p t x : ByteArray) (w : World) (hp : p.size ≤ maxLen) (ht : t.size ≤ maxLen) (hx : x.size ≤ maxLen) :
    Calls Try.prog 4 #[.agg #[.int .i64 k, .string p, .string t, .string x]] w fun r w' => r = .returned (.bool true) ∧ Below w.heap.size w w' := by
  have hB0 : Below w.heap.size w (w.alloc (.cells #[.int .i64 k, .string p, .string t, .string x] 29)) := (Below.refl _ w).alloc (Nat.le_refl _) _
  have HB0 := hidE hB0
  clear hB0
  go_enter Try.func4, Try.ntmps4
  go_wp2_with fail
  refine (szOp_any _ k p t x _ (by omega) (by omega) hp ht hx).mono ?_
  rintro e w1 ⟨r, rfl, r1, r2, r3, hB1⟩
  obtain ⟨c0, c1, c2, c3⟩ := box4i hB1
  have HK1 := hidE hB1
  have HR := hidE r3
  clear hB1 r3
  by_cases hr : 0 ≤ r
  · obtain ⟨l1, l2, l3⟩ := HR.out hr
    clear HR
    go_wp2_with fail
    refine (toOp_any _ k p t x).mono ?_
    rintro e w2 ⟨rfl, hB2⟩
    have HK2 := hidE (B3O HK1.out hB2)
    clear hB2 HK1 c0 c1 c2 c3
    go_wp2_with fail
    refine (sOpOk_any _ k p t x (by omega) (by omega) (by omega)).mono ?_
    rintro e w3 ⟨rfl, hB3⟩
    have HK3 := hidE (B3O HK2.out hB3)
    obtain ⟨c0, c1, c2, c3⟩ := box4i HK3.out
    clear hB3 HK2
    go_wp2_with fail
    refine (toOp_any _ k p t x).mono ?_
    rintro e w4 ⟨rfl, hB4⟩
    have HK4 := hidE (B3O HK3.out hB4)
    clear hB4 HK3 c0 c1 c2 c3
    go_wp2_with fail
    refine (iOpOk_any _ k p t x (by omega) (by omega)).mono ?_
    rintro e w5 ⟨rfl, hB5⟩
    rw [fit_op]
    have HK5 := hidE (B3O HK4.out hB5)
    clear hB5 HK4
    cases ho : opB ⟨k, p, t, x⟩ with
    | true =>
      go_wp2
      go_ret
      exact ⟨rfl, HB0.out.trans (HK5.out.mono (by simp))⟩
    | false =>
      go_wp2
      go_ret
      exact ⟨rfl, HB0.out.trans (HK5.out.mono (by simp))⟩
  · go_wp2
    go_ret
    exact ⟨rfl, HB0.out.trans (HK1.out.mono (by simp))⟩
end Go.Proofs.Ytdddcfpnflmohaa
