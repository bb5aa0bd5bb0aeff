/-
  The walk of the law FnPathOrder, out of the contracts.
-/
import Derived.Test.YtgbchekmojjckaaTop
import Derived.Test.YtgbchekmojjckaaDraws
import Derived.Test.YtgbchekmojjckaaOrder
namespace Go.Proofs.Ytgbchekmojjckaa
open Go.RowKit Go.Lib

set_option maxHeartbeats 2000000 in
set_option maxRecDepth 100000 in
theorem walk_fnPathOrder (a : Option Addr) (len cap : Nat) (zs : List Int) (a' : Option Addr) (len' cap' : Nat) (zs' : List Int) (w : World) (hw : IsRow .u8 w a len cap zs) (hw' : IsRow .u8 w a' len' cap' zs') :
    Calls Try.prog 7 #[.slice a len cap, .slice a' len' cap'] w fun e w' => e = .returned (.bool true) ∧ Below w.heap.size w w' := by
  have hC := hidR hw.cod
  have hC' := hidR hw'.cod
  clear hw hw'
  by_cases hl : len ≤ 1048576
  · by_cases hl' : len' ≤ 1048576
    · go_enter Try.func7, Try.ntmps7
      go_wp2_with fail
      refine (DrawPathUnder_any _ a len cap hl hC.out).mono ?_
      rintro e w1 ⟨p, q, rfl, hp', hq', hB1⟩
      have hC2 := hidR (hC'.out.below hB1)
      have HB1 := hidR hB1
      clear hB1 hC hC'
      go_wp2_with fail
      refine (DrawPathUnder_any _ a' len' cap' hl' hC2.out).mono ?_
      rintro e w2 ⟨c, c', rfl, hc, hc', hB2⟩
      replace HB1 := hidR (B3 HB1.out hB2)
      clear hB2 hC2
      cases hp : pathB p with
      | false =>
        go_wp2_with (first
        | (go_at_call 19; refine (iPathUnder_any _ _ (by omega) (by omega) _).mono ?_; rintro e wn ⟨rfl, hBn⟩; replace HB1 := hidR (B3 HB1.out hBn); clear hBn)
        | (go_at_call 23; refine (sPathUnder_any _ _ (by omega) (by omega) _).mono ?_; rintro e wn ⟨rfl, hBn⟩; replace HB1 := hidR (B3 HB1.out hBn); clear hBn)
        | (go_at_call 14; refine (iPathOk_any _ (by omega) _).mono ?_; rintro e wn ⟨rfl, hBn⟩; replace HB1 := hidR (B3 HB1.out hBn); clear hBn)
        | (go_at_call 15; refine (sOk_any _ (by omega) _).mono ?_; rintro e wn ⟨rfl, hBn⟩; replace HB1 := hidR (B3 HB1.out hBn); clear hBn))
        go_ret
        exact ⟨rfl, HB1.out⟩
      | true =>
        cases hq : pathB q with
        | false =>
          go_wp2_with (first
        | (go_at_call 19; refine (iPathUnder_any _ _ (by omega) (by omega) _).mono ?_; rintro e wn ⟨rfl, hBn⟩; replace HB1 := hidR (B3 HB1.out hBn); clear hBn)
        | (go_at_call 23; refine (sPathUnder_any _ _ (by omega) (by omega) _).mono ?_; rintro e wn ⟨rfl, hBn⟩; replace HB1 := hidR (B3 HB1.out hBn); clear hBn)
        | (go_at_call 14; refine (iPathOk_any _ (by omega) _).mono ?_; rintro e wn ⟨rfl, hBn⟩; replace HB1 := hidR (B3 HB1.out hBn); clear hBn)
        | (go_at_call 15; refine (sOk_any _ (by omega) _).mono ?_; rintro e wn ⟨rfl, hBn⟩; replace HB1 := hidR (B3 HB1.out hBn); clear hBn))
          go_ret
          exact ⟨rfl, HB1.out⟩
        | true =>
          cases hc0 : pathB c with
          | false =>
            go_wp2_with (first
        | (go_at_call 19; refine (iPathUnder_any _ _ (by omega) (by omega) _).mono ?_; rintro e wn ⟨rfl, hBn⟩; replace HB1 := hidR (B3 HB1.out hBn); clear hBn)
        | (go_at_call 23; refine (sPathUnder_any _ _ (by omega) (by omega) _).mono ?_; rintro e wn ⟨rfl, hBn⟩; replace HB1 := hidR (B3 HB1.out hBn); clear hBn)
        | (go_at_call 14; refine (iPathOk_any _ (by omega) _).mono ?_; rintro e wn ⟨rfl, hBn⟩; replace HB1 := hidR (B3 HB1.out hBn); clear hBn)
        | (go_at_call 15; refine (sOk_any _ (by omega) _).mono ?_; rintro e wn ⟨rfl, hBn⟩; replace HB1 := hidR (B3 HB1.out hBn); clear hBn))
            go_ret
            exact ⟨rfl, HB1.out⟩
          | true =>
            cases hx : underI p q with
            | false =>
              go_wp2_with (first
        | (go_at_call 19; refine (iPathUnder_any _ _ (by omega) (by omega) _).mono ?_; rintro e wn ⟨rfl, hBn⟩; replace HB1 := hidR (B3 HB1.out hBn); clear hBn)
        | (go_at_call 23; refine (sPathUnder_any _ _ (by omega) (by omega) _).mono ?_; rintro e wn ⟨rfl, hBn⟩; replace HB1 := hidR (B3 HB1.out hBn); clear hBn)
        | (go_at_call 14; refine (iPathOk_any _ (by omega) _).mono ?_; rintro e wn ⟨rfl, hBn⟩; replace HB1 := hidR (B3 HB1.out hBn); clear hBn)
        | (go_at_call 15; refine (sOk_any _ (by omega) _).mono ?_; rintro e wn ⟨rfl, hBn⟩; replace HB1 := hidR (B3 HB1.out hBn); clear hBn))
              go_ret
              exact ⟨rfl, HB1.out⟩
            | true =>
              have e1 := order_up hq hx
              have HO := hidR (order_between (c := c) hq hc0 hx)
              cases k1 : Op.bytesLess c.toList q.toList with
              | true =>
                go_wp2_with (first
        | (go_at_call 19; refine (iPathUnder_any _ _ (by omega) (by omega) _).mono ?_; rintro e wn ⟨rfl, hBn⟩; replace HB1 := hidR (B3 HB1.out hBn); clear hBn)
        | (go_at_call 23; refine (sPathUnder_any _ _ (by omega) (by omega) _).mono ?_; rintro e wn ⟨rfl, hBn⟩; replace HB1 := hidR (B3 HB1.out hBn); clear hBn)
        | (go_at_call 14; refine (iPathOk_any _ (by omega) _).mono ?_; rintro e wn ⟨rfl, hBn⟩; replace HB1 := hidR (B3 HB1.out hBn); clear hBn)
        | (go_at_call 15; refine (sOk_any _ (by omega) _).mono ?_; rintro e wn ⟨rfl, hBn⟩; replace HB1 := hidR (B3 HB1.out hBn); clear hBn))
                go_ret
                exact ⟨rfl, HB1.out⟩
              | false =>
                cases k2 : (c.toList == q.toList) with
                | true =>
                  go_wp2_with (first
        | (go_at_call 19; refine (iPathUnder_any _ _ (by omega) (by omega) _).mono ?_; rintro e wn ⟨rfl, hBn⟩; replace HB1 := hidR (B3 HB1.out hBn); clear hBn)
        | (go_at_call 23; refine (sPathUnder_any _ _ (by omega) (by omega) _).mono ?_; rintro e wn ⟨rfl, hBn⟩; replace HB1 := hidR (B3 HB1.out hBn); clear hBn)
        | (go_at_call 14; refine (iPathOk_any _ (by omega) _).mono ?_; rintro e wn ⟨rfl, hBn⟩; replace HB1 := hidR (B3 HB1.out hBn); clear hBn)
        | (go_at_call 15; refine (sOk_any _ (by omega) _).mono ?_; rintro e wn ⟨rfl, hBn⟩; replace HB1 := hidR (B3 HB1.out hBn); clear hBn))
                  go_ret
                  exact ⟨rfl, HB1.out⟩
                | false =>
                  cases k3 : Op.bytesLess c.toList p.toList with
                  | false =>
                    go_wp2_with (first
        | (go_at_call 19; refine (iPathUnder_any _ _ (by omega) (by omega) _).mono ?_; rintro e wn ⟨rfl, hBn⟩; replace HB1 := hidR (B3 HB1.out hBn); clear hBn)
        | (go_at_call 23; refine (sPathUnder_any _ _ (by omega) (by omega) _).mono ?_; rintro e wn ⟨rfl, hBn⟩; replace HB1 := hidR (B3 HB1.out hBn); clear hBn)
        | (go_at_call 14; refine (iPathOk_any _ (by omega) _).mono ?_; rintro e wn ⟨rfl, hBn⟩; replace HB1 := hidR (B3 HB1.out hBn); clear hBn)
        | (go_at_call 15; refine (sOk_any _ (by omega) _).mono ?_; rintro e wn ⟨rfl, hBn⟩; replace HB1 := hidR (B3 HB1.out hBn); clear hBn))
                    go_ret
                    exact ⟨rfl, HB1.out⟩
                  | true =>
                    have e2 := HO.out k1 (fun r => by rw [r, beq_self_eq_true] at k2; cases k2) k3
                    go_wp2_with (first
        | (go_at_call 19; refine (iPathUnder_any _ _ (by omega) (by omega) _).mono ?_; rintro e wn ⟨rfl, hBn⟩; replace HB1 := hidR (B3 HB1.out hBn); clear hBn)
        | (go_at_call 23; refine (sPathUnder_any _ _ (by omega) (by omega) _).mono ?_; rintro e wn ⟨rfl, hBn⟩; replace HB1 := hidR (B3 HB1.out hBn); clear hBn)
        | (go_at_call 14; refine (iPathOk_any _ (by omega) _).mono ?_; rintro e wn ⟨rfl, hBn⟩; replace HB1 := hidR (B3 HB1.out hBn); clear hBn)
        | (go_at_call 15; refine (sOk_any _ (by omega) _).mono ?_; rintro e wn ⟨rfl, hBn⟩; replace HB1 := hidR (B3 HB1.out hBn); clear hBn))
                    go_ret
                    exact ⟨rfl, HB1.out⟩
    · go_enter Try.func7, Try.ntmps7
      go_wp2
      go_ret
      exact ⟨rfl, Below.refl _ _⟩
  · go_enter Try.func7, Try.ntmps7
    go_wp2
    go_ret
    exact ⟨rfl, Below.refl _ _⟩
end Go.Proofs.Ytgbchekmojjckaa
