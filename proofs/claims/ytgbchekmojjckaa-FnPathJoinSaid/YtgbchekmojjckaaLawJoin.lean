/-
  The walk of the law FnPathJoin, out of the contracts.
-/
import Derived.Test.YtgbchekmojjckaaTop
import Derived.Test.YtgbchekmojjckaaSpec3
import Derived.Test.YtgbchekmojjckaaDraws
namespace Go.Proofs.Ytgbchekmojjckaa
open Go.RowKit Go.Lib

set_option maxHeartbeats 2000000 in
set_option maxRecDepth 100000 in
theorem walk_fnPathJoin (a : Option Addr) (len cap : Nat) (zs : List Int) (a' : Option Addr) (len' cap' : Nat) (zs' : List Int) (w : World) (hw : IsRow .u8 w a len cap zs) (hw' : IsRow .u8 w a' len' cap' zs') :
    Calls Try.prog 4 #[.slice a len cap, .slice a' len' cap'] w fun e w' => e = .returned (.bool true) ∧ Below w.heap.size w w' := by
  have hC := hidR hw.cod
  have hC' := hidR hw'.cod
  clear hw hw'
  by_cases hl : len ≤ 1048576
  · by_cases hl' : len' ≤ 1048576
    · go_enter Try.func4, Try.ntmps4
      go_wp2_with fail
      refine (DrawPathJoin_any _ a len cap hl hC.out).mono ?_
      rintro e w1 ⟨d, n, rfl, hd, hn, hB1⟩
      have hC2 := hidR (hC'.out.below hB1)
      have HB1 := hidR hB1
      clear hB1 hC hC'
      go_wp2_with fail
      refine (DrawPathJoin_any _ a' len' cap' hl' hC2.out).mono ?_
      rintro e w2 ⟨d', n', rfl, hd', hn', hB2⟩
      replace HB1 := hidR (B3 HB1.out hB2)
      clear hB2 hC2
      have z1 := joinS_size d n
      have z2 := joinS_size d' n'
      cases h1 : joinOk d n with
      | false =>
        have e1 : joinS d n = ⟨#[]⟩ := by unfold joinS; rw [h1]; rfl
        clear z1 z2
        go_wp2_with (first
        | (go_at_call 18; refine (iPathJoin_any _ _ (by omega) (by omega) _).mono ?_; rintro e wn ⟨rfl, hBn⟩; replace HB1 := hidR (B3 HB1.out hBn); clear hBn)
        | (go_at_call 21; refine (sPathJoin_any _ _ (by omega) (by omega) _).mono ?_; rintro e wn ⟨rfl, hBn⟩; replace HB1 := hidR (B3 HB1.out hBn); clear hBn)
        | (go_at_call 10; refine (iPathUp_any _ (by omega) _).mono ?_; rintro e wn ⟨rfl, hBn⟩; replace HB1 := hidR (B3 HB1.out hBn); clear hBn)
        | (go_at_call 11; refine (iPathName_any _ (by omega) _).mono ?_; rintro e wn ⟨rfl, hBn⟩; replace HB1 := hidR (B3 HB1.out hBn); clear hBn))
        go_ret
        exact ⟨rfl, HB1.out⟩
      | true =>
        have e0 := (join_parts h1).2.2.2
        have e1 : upS (joinS d n) = d := by rw [e0]; exact (join_up h1).1
        have e2 : nmS (joinS d n) = n := by rw [e0]; exact (join_up h1).2
        clear e0
        cases h2 : joinOk d' n' with
        | false =>
          go_wp2_with (first
        | (go_at_call 18; refine (iPathJoin_any _ _ (by omega) (by omega) _).mono ?_; rintro e wn ⟨rfl, hBn⟩; replace HB1 := hidR (B3 HB1.out hBn); clear hBn)
        | (go_at_call 21; refine (sPathJoin_any _ _ (by omega) (by omega) _).mono ?_; rintro e wn ⟨rfl, hBn⟩; replace HB1 := hidR (B3 HB1.out hBn); clear hBn)
        | (go_at_call 10; refine (iPathUp_any _ (by omega) _).mono ?_; rintro e wn ⟨rfl, hBn⟩; replace HB1 := hidR (B3 HB1.out hBn); clear hBn)
        | (go_at_call 11; refine (iPathName_any _ (by omega) _).mono ?_; rintro e wn ⟨rfl, hBn⟩; replace HB1 := hidR (B3 HB1.out hBn); clear hBn))
          go_ret
          exact ⟨rfl, HB1.out⟩
        | true =>
          have hi := join_inj h1 h2
          cases k1 : (d'.toList == d.toList) with
          | true =>
            obtain rfl := toList_inj (beq_iff_eq.1 k1)
            cases k2 : (n'.toList == n.toList) with
            | true =>
              obtain rfl := toList_inj (beq_iff_eq.1 k2)
              clear hi k1 k2 z2 h2
              go_wp2_with (first
        | (go_at_call 18; refine (iPathJoin_any _ _ (by omega) (by omega) _).mono ?_; rintro e wn ⟨rfl, hBn⟩; replace HB1 := hidR (B3 HB1.out hBn); clear hBn)
        | (go_at_call 21; refine (sPathJoin_any _ _ (by omega) (by omega) _).mono ?_; rintro e wn ⟨rfl, hBn⟩; replace HB1 := hidR (B3 HB1.out hBn); clear hBn)
        | (go_at_call 10; refine (iPathUp_any _ (by omega) _).mono ?_; rintro e wn ⟨rfl, hBn⟩; replace HB1 := hidR (B3 HB1.out hBn); clear hBn)
        | (go_at_call 11; refine (iPathName_any _ (by omega) _).mono ?_; rintro e wn ⟨rfl, hBn⟩; replace HB1 := hidR (B3 HB1.out hBn); clear hBn))
              go_ret
              exact ⟨rfl, HB1.out⟩
            | false =>
              have k3 : ((joinS d' n').toList == (joinS d' n).toList) = false := by
                rw [beq_eq_false_iff_ne]; intro q
                have := (hi.1 (toList_inj q)).2
                rw [this, beq_self_eq_true] at k2; cases k2
              clear hi k1
              go_wp2_with (first
        | (go_at_call 18; refine (iPathJoin_any _ _ (by omega) (by omega) _).mono ?_; rintro e wn ⟨rfl, hBn⟩; replace HB1 := hidR (B3 HB1.out hBn); clear hBn)
        | (go_at_call 21; refine (sPathJoin_any _ _ (by omega) (by omega) _).mono ?_; rintro e wn ⟨rfl, hBn⟩; replace HB1 := hidR (B3 HB1.out hBn); clear hBn)
        | (go_at_call 10; refine (iPathUp_any _ (by omega) _).mono ?_; rintro e wn ⟨rfl, hBn⟩; replace HB1 := hidR (B3 HB1.out hBn); clear hBn)
        | (go_at_call 11; refine (iPathName_any _ (by omega) _).mono ?_; rintro e wn ⟨rfl, hBn⟩; replace HB1 := hidR (B3 HB1.out hBn); clear hBn))
              go_ret
              exact ⟨rfl, HB1.out⟩
          | false =>
            have k3 : ((joinS d' n').toList == (joinS d n).toList) = false := by
              rw [beq_eq_false_iff_ne]; intro q
              have := (hi.1 (toList_inj q)).1
              rw [this, beq_self_eq_true] at k1; cases k1
            clear hi
            go_wp2_with (first
        | (go_at_call 18; refine (iPathJoin_any _ _ (by omega) (by omega) _).mono ?_; rintro e wn ⟨rfl, hBn⟩; replace HB1 := hidR (B3 HB1.out hBn); clear hBn)
        | (go_at_call 21; refine (sPathJoin_any _ _ (by omega) (by omega) _).mono ?_; rintro e wn ⟨rfl, hBn⟩; replace HB1 := hidR (B3 HB1.out hBn); clear hBn)
        | (go_at_call 10; refine (iPathUp_any _ (by omega) _).mono ?_; rintro e wn ⟨rfl, hBn⟩; replace HB1 := hidR (B3 HB1.out hBn); clear hBn)
        | (go_at_call 11; refine (iPathName_any _ (by omega) _).mono ?_; rintro e wn ⟨rfl, hBn⟩; replace HB1 := hidR (B3 HB1.out hBn); clear hBn))
            go_ret
            exact ⟨rfl, HB1.out⟩
    · go_enter Try.func4, Try.ntmps4
      go_wp2
      go_ret
      exact ⟨rfl, Below.refl _ _⟩
  · go_enter Try.func4, Try.ntmps4
    go_wp2
    go_ret
    exact ⟨rfl, Below.refl _ _⟩
end Go.Proofs.Ytgbchekmojjckaa
