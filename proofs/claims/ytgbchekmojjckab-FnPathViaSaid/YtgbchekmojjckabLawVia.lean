/-
  The walk of the law FnPathVia, out of the contracts.
-/
import Derived.Test.YtgbchekmojjckabUnderI
import Derived.Test.YtgbchekmojjckabMove
import Derived.Test.YtgbchekmojjckabDrawM
import Derived.Test.YtgbchekmojjckabFacts2
namespace Go.Proofs.Ytgbchekmojjckab
open Go.RowKit Go.Lib

set_option maxHeartbeats 2000000 in
set_option maxRecDepth 100000 in
theorem walk_fnPathVia (a : Option Addr) (len cap : Nat) (zs : List Int) (a' : Option Addr) (len' cap' : Nat) (zs' : List Int) (w : World) (hw : IsRow .u8 w a len cap zs) (hw' : IsRow .u8 w a' len' cap' zs') :
    Calls Try.prog 3 #[.slice a len cap, .slice a' len' cap'] w fun e w' => e = .returned (.bool true) ∧ Below w.heap.size w w' := by
  have hC := hidR hw.cod
  have hC' := hidR hw'.cod
  clear hw hw'
  by_cases hl : len ≤ 1048576
  · by_cases hl' : len' ≤ 1048576
    · go_enter Try.func3, Try.ntmps3
      go_wp2_with fail
      refine (DrawPathMove_any _ a len cap hl hC.out).mono ?_
      rintro e w1 ⟨s, f, t, rfl, hs, hf, ht, hB1⟩
      have hC2 := hidR (hC'.out.below hB1)
      have HB1 := hidR hB1
      clear hB1 hC hC'
      go_wp2_with fail
      refine (DrawPathMove_any _ a' len' cap' hl' hC2.out).mono ?_
      rintro e w2 ⟨s', f', v, rfl, hs', hf', hv, hB2⟩
      replace HB1 := hidR (B3 HB1.out hB2)
      clear hB2 hC2
      have z1 := movS_size s f v
      cases h1 : movOk s f v with
      | false =>
        cases k0 : movOk s f t with
        | false =>
          go_wp2_with (first
        | (go_at_call 5; refine (iPathMove_any _ _ _ (by omega) (by omega) (by omega) _).mono ?_; rintro e wn ⟨rfl, hBn⟩; replace HB1 := hidR (B3 HB1.out hBn); clear hBn)
        | (go_at_call 6; refine (sPathMove_any _ _ _ (by omega) (by omega) (by omega) _).mono ?_; rintro e wn ⟨rfl, hBn⟩; replace HB1 := hidR (B3 HB1.out hBn); clear hBn)
        | (go_at_call 7; refine (iPathUnder_any _ _ (by omega) (by omega) _).mono ?_; rintro e wn ⟨rfl, hBn⟩; replace HB1 := hidR (B3 HB1.out hBn); clear hBn))
          go_ret
          exact ⟨rfl, HB1.out⟩
        | true =>
          go_wp2_with (first
        | (go_at_call 5; refine (iPathMove_any _ _ _ (by omega) (by omega) (by omega) _).mono ?_; rintro e wn ⟨rfl, hBn⟩; replace HB1 := hidR (B3 HB1.out hBn); clear hBn)
        | (go_at_call 6; refine (sPathMove_any _ _ _ (by omega) (by omega) (by omega) _).mono ?_; rintro e wn ⟨rfl, hBn⟩; replace HB1 := hidR (B3 HB1.out hBn); clear hBn)
        | (go_at_call 7; refine (iPathUnder_any _ _ (by omega) (by omega) _).mono ?_; rintro e wn ⟨rfl, hBn⟩; replace HB1 := hidR (B3 HB1.out hBn); clear hBn))
          go_ret
          exact ⟨rfl, HB1.out⟩
      | true =>
        obtain ⟨ha, _⟩ := movOk_parts h1
        obtain ⟨a1, a2, a3⟩ := movAll_parts ha
        have hu := hit_under a1 a2
        cases hh : movHit s f with
        | false =>
          rw [hh] at hu
          have hu' := hu.symm
          rw [Bool.or_eq_false_iff] at hu'
          obtain ⟨k1, k2⟩ := hu'
          clear hu ha
          cases k0 : movOk s f t with
          | false =>
            go_wp2_with (first
        | (go_at_call 5; refine (iPathMove_any _ _ _ (by omega) (by omega) (by omega) _).mono ?_; rintro e wn ⟨rfl, hBn⟩; replace HB1 := hidR (B3 HB1.out hBn); clear hBn)
        | (go_at_call 6; refine (sPathMove_any _ _ _ (by omega) (by omega) (by omega) _).mono ?_; rintro e wn ⟨rfl, hBn⟩; replace HB1 := hidR (B3 HB1.out hBn); clear hBn)
        | (go_at_call 7; refine (iPathUnder_any _ _ (by omega) (by omega) _).mono ?_; rintro e wn ⟨rfl, hBn⟩; replace HB1 := hidR (B3 HB1.out hBn); clear hBn))
            go_ret
            exact ⟨rfl, HB1.out⟩
          | true =>
            go_wp2_with (first
        | (go_at_call 5; refine (iPathMove_any _ _ _ (by omega) (by omega) (by omega) _).mono ?_; rintro e wn ⟨rfl, hBn⟩; replace HB1 := hidR (B3 HB1.out hBn); clear hBn)
        | (go_at_call 6; refine (sPathMove_any _ _ _ (by omega) (by omega) (by omega) _).mono ?_; rintro e wn ⟨rfl, hBn⟩; replace HB1 := hidR (B3 HB1.out hBn); clear hBn)
        | (go_at_call 7; refine (iPathUnder_any _ _ (by omega) (by omega) _).mono ?_; rintro e wn ⟨rfl, hBn⟩; replace HB1 := hidR (B3 HB1.out hBn); clear hBn))
            go_ret
            exact ⟨rfl, HB1.out⟩
        | true =>
          obtain ⟨e1, e2⟩ := movS_yes h1 hh
          obtain ⟨b1, b2⟩ := mov_via t h1 hh
          have zz : (movX s f v).size ≤ s.size + v.size := by rw [← e1]; exact z1
          cases k1 : (s.toList == f.toList) with
          | true =>
            clear hu ha
            cases k0 : movOk s f t with
            | false =>
              rw [k0] at b1
              go_wp2_with (first
        | (go_at_call 5; refine (iPathMove_any _ _ _ (by omega) (by omega) (by omega) _).mono ?_; rintro e wn ⟨rfl, hBn⟩; replace HB1 := hidR (B3 HB1.out hBn); clear hBn)
        | (go_at_call 6; refine (sPathMove_any _ _ _ (by omega) (by omega) (by omega) _).mono ?_; rintro e wn ⟨rfl, hBn⟩; replace HB1 := hidR (B3 HB1.out hBn); clear hBn)
        | (go_at_call 7; refine (iPathUnder_any _ _ (by omega) (by omega) _).mono ?_; rintro e wn ⟨rfl, hBn⟩; replace HB1 := hidR (B3 HB1.out hBn); clear hBn))
              go_ret
              exact ⟨rfl, HB1.out⟩
            | true =>
              rw [k0] at b1
              go_wp2_with (first
        | (go_at_call 5; refine (iPathMove_any _ _ _ (by omega) (by omega) (by omega) _).mono ?_; rintro e wn ⟨rfl, hBn⟩; replace HB1 := hidR (B3 HB1.out hBn); clear hBn)
        | (go_at_call 6; refine (sPathMove_any _ _ _ (by omega) (by omega) (by omega) _).mono ?_; rintro e wn ⟨rfl, hBn⟩; replace HB1 := hidR (B3 HB1.out hBn); clear hBn)
        | (go_at_call 7; refine (iPathUnder_any _ _ (by omega) (by omega) _).mono ?_; rintro e wn ⟨rfl, hBn⟩; replace HB1 := hidR (B3 HB1.out hBn); clear hBn))
              go_ret
              exact ⟨rfl, HB1.out⟩
          | false =>
            rw [hh, k1, Bool.false_or] at hu
            have hu' := hu.symm
            clear hu ha
            cases k0 : movOk s f t with
            | false =>
              rw [k0] at b1
              go_wp2_with (first
        | (go_at_call 5; refine (iPathMove_any _ _ _ (by omega) (by omega) (by omega) _).mono ?_; rintro e wn ⟨rfl, hBn⟩; replace HB1 := hidR (B3 HB1.out hBn); clear hBn)
        | (go_at_call 6; refine (sPathMove_any _ _ _ (by omega) (by omega) (by omega) _).mono ?_; rintro e wn ⟨rfl, hBn⟩; replace HB1 := hidR (B3 HB1.out hBn); clear hBn)
        | (go_at_call 7; refine (iPathUnder_any _ _ (by omega) (by omega) _).mono ?_; rintro e wn ⟨rfl, hBn⟩; replace HB1 := hidR (B3 HB1.out hBn); clear hBn))
              go_ret
              exact ⟨rfl, HB1.out⟩
            | true =>
              rw [k0] at b1
              go_wp2_with (first
        | (go_at_call 5; refine (iPathMove_any _ _ _ (by omega) (by omega) (by omega) _).mono ?_; rintro e wn ⟨rfl, hBn⟩; replace HB1 := hidR (B3 HB1.out hBn); clear hBn)
        | (go_at_call 6; refine (sPathMove_any _ _ _ (by omega) (by omega) (by omega) _).mono ?_; rintro e wn ⟨rfl, hBn⟩; replace HB1 := hidR (B3 HB1.out hBn); clear hBn)
        | (go_at_call 7; refine (iPathUnder_any _ _ (by omega) (by omega) _).mono ?_; rintro e wn ⟨rfl, hBn⟩; replace HB1 := hidR (B3 HB1.out hBn); clear hBn))
              go_ret
              exact ⟨rfl, HB1.out⟩
    · go_enter Try.func3, Try.ntmps3
      go_wp2
      go_ret
      exact ⟨rfl, Below.refl _ _⟩
  · go_enter Try.func3, Try.ntmps3
    go_wp2
    go_ret
    exact ⟨rfl, Below.refl _ _⟩
end Go.Proofs.Ytgbchekmojjckab
