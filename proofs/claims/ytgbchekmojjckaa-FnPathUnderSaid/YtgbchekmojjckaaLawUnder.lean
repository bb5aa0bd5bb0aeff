/-
  The walk of the law FnPathUnder, out of the contracts.
-/
import Derived.Test.YtgbchekmojjckaaTop
import Derived.Test.YtgbchekmojjckaaDraws
namespace Go.Proofs.Ytgbchekmojjckaa
open Go.RowKit Go.Lib

set_option maxHeartbeats 2000000 in
set_option maxRecDepth 100000 in
theorem walk_fnPathUnder (a : Option Addr) (len cap : Nat) (zs : List Int) (a' : Option Addr) (len' cap' : Nat) (zs' : List Int) (w : World) (hw : IsRow .u8 w a len cap zs) (hw' : IsRow .u8 w a' len' cap' zs') :
    Calls Try.prog 5 #[.slice a len cap, .slice a' len' cap'] w fun e w' => e = .returned (.bool true) ∧ Below w.heap.size w w' := by
  have hC := hidR hw.cod
  have hC' := hidR hw'.cod
  clear hw hw'
  by_cases hl : len ≤ 1048576
  · by_cases hl' : len' ≤ 1048576
    · go_enter Try.func5, Try.ntmps5
      go_wp2_with fail
      refine (DrawPathUnder_any _ a len cap hl hC.out).mono ?_
      rintro e w1 ⟨p, q, rfl, hp', hq', hB1⟩
      have hC2 := hidR (hC'.out.below hB1)
      have HB1 := hidR hB1
      clear hB1 hC hC'
      go_wp2_with fail
      refine (DrawPathUnder_any _ a' len' cap' hl' hC2.out).mono ?_
      rintro e w2 ⟨c, c', rfl, hc, hc', hB2⟩
      replace HB1 := hidR (B3 HB1.out hB2)
      clear hB2 hC2
      have z1 := upS_size p
      have zr : (⟨#[47]⟩ : ByteArray).size ≤ 64 := by decide
      cases hp : pathB p with
      | false =>
        have e1 : underI p q = false := by rw [underI_eq, hp]; rfl
        go_wp2_with (first
        | (go_at_call 19; refine (iPathUnder_any _ _ (by omega) (by omega) _).mono ?_; rintro e wn ⟨rfl, hBn⟩; replace HB1 := hidR (B3 HB1.out hBn); clear hBn)
        | (go_at_call 23; refine (sPathUnder_any _ _ (by omega) (by omega) _).mono ?_; rintro e wn ⟨rfl, hBn⟩; replace HB1 := hidR (B3 HB1.out hBn); clear hBn)
        | (go_at_call 14; refine (iPathOk_any _ (by omega) _).mono ?_; rintro e wn ⟨rfl, hBn⟩; replace HB1 := hidR (B3 HB1.out hBn); clear hBn)
        | (go_at_call 15; refine (sOk_any _ (by omega) _).mono ?_; rintro e wn ⟨rfl, hBn⟩; replace HB1 := hidR (B3 HB1.out hBn); clear hBn)
        | (go_at_call 10; refine (iPathUp_any _ (by omega) _).mono ?_; rintro e wn ⟨rfl, hBn⟩; replace HB1 := hidR (B3 HB1.out hBn); clear hBn))
        go_ret
        exact ⟨rfl, HB1.out⟩
      | true =>
        have e0 := under_root hp
        have eu := under_up (b := q) hp
        cases hx : underI p q with
        | true =>
          have e1 := under_anti hx
          rw [hx] at eu
          cases k1 : (q.toList == (upS p).toList) with
          | true =>
            cases k2 : underI q c with
            | true =>
              have e2 := under_trans hx k2
              clear eu
              go_wp2_with (first
        | (go_at_call 19; refine (iPathUnder_any _ _ (by omega) (by omega) _).mono ?_; rintro e wn ⟨rfl, hBn⟩; replace HB1 := hidR (B3 HB1.out hBn); clear hBn)
        | (go_at_call 23; refine (sPathUnder_any _ _ (by omega) (by omega) _).mono ?_; rintro e wn ⟨rfl, hBn⟩; replace HB1 := hidR (B3 HB1.out hBn); clear hBn)
        | (go_at_call 14; refine (iPathOk_any _ (by omega) _).mono ?_; rintro e wn ⟨rfl, hBn⟩; replace HB1 := hidR (B3 HB1.out hBn); clear hBn)
        | (go_at_call 15; refine (sOk_any _ (by omega) _).mono ?_; rintro e wn ⟨rfl, hBn⟩; replace HB1 := hidR (B3 HB1.out hBn); clear hBn)
        | (go_at_call 10; refine (iPathUp_any _ (by omega) _).mono ?_; rintro e wn ⟨rfl, hBn⟩; replace HB1 := hidR (B3 HB1.out hBn); clear hBn))
              go_ret
              exact ⟨rfl, HB1.out⟩
            | false =>
              clear eu
              go_wp2_with (first
        | (go_at_call 19; refine (iPathUnder_any _ _ (by omega) (by omega) _).mono ?_; rintro e wn ⟨rfl, hBn⟩; replace HB1 := hidR (B3 HB1.out hBn); clear hBn)
        | (go_at_call 23; refine (sPathUnder_any _ _ (by omega) (by omega) _).mono ?_; rintro e wn ⟨rfl, hBn⟩; replace HB1 := hidR (B3 HB1.out hBn); clear hBn)
        | (go_at_call 14; refine (iPathOk_any _ (by omega) _).mono ?_; rintro e wn ⟨rfl, hBn⟩; replace HB1 := hidR (B3 HB1.out hBn); clear hBn)
        | (go_at_call 15; refine (sOk_any _ (by omega) _).mono ?_; rintro e wn ⟨rfl, hBn⟩; replace HB1 := hidR (B3 HB1.out hBn); clear hBn)
        | (go_at_call 10; refine (iPathUp_any _ (by omega) _).mono ?_; rintro e wn ⟨rfl, hBn⟩; replace HB1 := hidR (B3 HB1.out hBn); clear hBn))
              go_ret
              exact ⟨rfl, HB1.out⟩
          | false =>
            have e3 : underI (upS p) q = true := by
              rcases eu.1 rfl with r | r
              · rw [r, beq_self_eq_true] at k1; cases k1
              · exact r
            cases k2 : underI q c with
            | true =>
              have e2 := under_trans hx k2
              clear eu
              go_wp2_with (first
        | (go_at_call 19; refine (iPathUnder_any _ _ (by omega) (by omega) _).mono ?_; rintro e wn ⟨rfl, hBn⟩; replace HB1 := hidR (B3 HB1.out hBn); clear hBn)
        | (go_at_call 23; refine (sPathUnder_any _ _ (by omega) (by omega) _).mono ?_; rintro e wn ⟨rfl, hBn⟩; replace HB1 := hidR (B3 HB1.out hBn); clear hBn)
        | (go_at_call 14; refine (iPathOk_any _ (by omega) _).mono ?_; rintro e wn ⟨rfl, hBn⟩; replace HB1 := hidR (B3 HB1.out hBn); clear hBn)
        | (go_at_call 15; refine (sOk_any _ (by omega) _).mono ?_; rintro e wn ⟨rfl, hBn⟩; replace HB1 := hidR (B3 HB1.out hBn); clear hBn)
        | (go_at_call 10; refine (iPathUp_any _ (by omega) _).mono ?_; rintro e wn ⟨rfl, hBn⟩; replace HB1 := hidR (B3 HB1.out hBn); clear hBn))
              go_ret
              exact ⟨rfl, HB1.out⟩
            | false =>
              clear eu
              go_wp2_with (first
        | (go_at_call 19; refine (iPathUnder_any _ _ (by omega) (by omega) _).mono ?_; rintro e wn ⟨rfl, hBn⟩; replace HB1 := hidR (B3 HB1.out hBn); clear hBn)
        | (go_at_call 23; refine (sPathUnder_any _ _ (by omega) (by omega) _).mono ?_; rintro e wn ⟨rfl, hBn⟩; replace HB1 := hidR (B3 HB1.out hBn); clear hBn)
        | (go_at_call 14; refine (iPathOk_any _ (by omega) _).mono ?_; rintro e wn ⟨rfl, hBn⟩; replace HB1 := hidR (B3 HB1.out hBn); clear hBn)
        | (go_at_call 15; refine (sOk_any _ (by omega) _).mono ?_; rintro e wn ⟨rfl, hBn⟩; replace HB1 := hidR (B3 HB1.out hBn); clear hBn)
        | (go_at_call 10; refine (iPathUp_any _ (by omega) _).mono ?_; rintro e wn ⟨rfl, hBn⟩; replace HB1 := hidR (B3 HB1.out hBn); clear hBn))
              go_ret
              exact ⟨rfl, HB1.out⟩
        | false =>
          have k1 : (q.toList == (upS p).toList) = false := by
            rw [beq_eq_false_iff_ne]; intro r
            rw [eu.2 (.inl (toList_inj r))] at hx; cases hx
          have e3 : underI (upS p) q = false := by
            cases r : underI (upS p) q with
            | false => rfl
            | true => rw [eu.2 (.inr r)] at hx; cases hx
          clear eu
          go_wp2_with (first
        | (go_at_call 19; refine (iPathUnder_any _ _ (by omega) (by omega) _).mono ?_; rintro e wn ⟨rfl, hBn⟩; replace HB1 := hidR (B3 HB1.out hBn); clear hBn)
        | (go_at_call 23; refine (sPathUnder_any _ _ (by omega) (by omega) _).mono ?_; rintro e wn ⟨rfl, hBn⟩; replace HB1 := hidR (B3 HB1.out hBn); clear hBn)
        | (go_at_call 14; refine (iPathOk_any _ (by omega) _).mono ?_; rintro e wn ⟨rfl, hBn⟩; replace HB1 := hidR (B3 HB1.out hBn); clear hBn)
        | (go_at_call 15; refine (sOk_any _ (by omega) _).mono ?_; rintro e wn ⟨rfl, hBn⟩; replace HB1 := hidR (B3 HB1.out hBn); clear hBn)
        | (go_at_call 10; refine (iPathUp_any _ (by omega) _).mono ?_; rintro e wn ⟨rfl, hBn⟩; replace HB1 := hidR (B3 HB1.out hBn); clear hBn))
          go_ret
          exact ⟨rfl, HB1.out⟩
    · go_enter Try.func5, Try.ntmps5
      go_wp2
      go_ret
      exact ⟨rfl, Below.refl _ _⟩
  · go_enter Try.func5, Try.ntmps5
    go_wp2
    go_ret
    exact ⟨rfl, Below.refl _ _⟩
end Go.Proofs.Ytgbchekmojjckaa
