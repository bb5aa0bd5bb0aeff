/-
  The walk of the law FnPath, out of the contracts.
-/
import Derived.Test.YtgbchekmojjckaaTop
import Derived.Test.YtgbchekmojjckaaDraws
namespace Go.Proofs.Ytgbchekmojjckaa
open Go.RowKit Go.Lib

set_option maxHeartbeats 1000000 in
set_option maxRecDepth 100000 in
theorem walk_fnPath (a : Option Addr) (len cap : Nat) (zs : List Int) (w : World) (hw : IsRow .u8 w a len cap zs) :
    Calls Try.prog 3 #[.slice a len cap] w fun e w' => e = .returned (.bool true) ∧ Below w.heap.size w w' := by
  have hC := hidR hw.cod
  clear hw
  by_cases hl : len ≤ 1048576
  · go_enter Try.func3, Try.ntmps3
    go_wp2_with fail
    refine (DrawPathUp_any _ a len cap hl hC.out).mono ?_
    rintro e w1 ⟨s, rfl, hs, hB1⟩
    have HB1 := hidR hB1
    clear hB1 hC
    have hu := upS_size s
    have hn := nmS_size s
    cases hb : pathB s with
    | false =>
      have e1 := upS_no hb
      have e2 := nmS_no hb
      have e3 := levS_no hb
      clear hu hn
      go_wp2_with (first
        | (go_at_call 10; refine (iPathUp_any _ (by omega) _).mono ?_; rintro e wn ⟨rfl, hBn⟩; replace HB1 := hidR (B3 HB1.out hBn); clear hBn)
        | (go_at_call 11; refine (iPathName_any _ (by omega) _).mono ?_; rintro e wn ⟨rfl, hBn⟩; replace HB1 := hidR (B3 HB1.out hBn); clear hBn)
        | (go_at_call 12; refine (sPathUp_any _ (by omega) _).mono ?_; rintro e wn ⟨rfl, hBn⟩; replace HB1 := hidR (B3 HB1.out hBn); clear hBn)
        | (go_at_call 13; refine (sPathName_any _ (by omega) _).mono ?_; rintro e wn ⟨rfl, hBn⟩; replace HB1 := hidR (B3 HB1.out hBn); clear hBn)
        | (go_at_call 14; refine (iPathOk_any _ (by omega) _).mono ?_; rintro e wn ⟨rfl, hBn⟩; replace HB1 := hidR (B3 HB1.out hBn); clear hBn)
        | (go_at_call 15; refine (sOk_any _ (by omega) _).mono ?_; rintro e wn ⟨rfl, hBn⟩; replace HB1 := hidR (B3 HB1.out hBn); clear hBn)
        | (go_at_call 16; refine (iPathLevels_any _ (by omega) _).mono ?_; rintro e wn ⟨rfl, hBn⟩; replace HB1 := hidR (B3 HB1.out hBn); clear hBn)
        | (go_at_call 17; refine (sPathLevels_any _ (by omega) _).mono ?_; rintro e wn ⟨rfl, hBn⟩; replace HB1 := hidR (B3 HB1.out hBn); clear hBn))
      go_ret
      exact ⟨rfl, HB1.out⟩
    | true =>
      have e1 := (up_joinOk hb).1
      have e2 := (up_joinOk hb).2
      have e3 := up_under hb
      have e4 := (up_facts hb).2.2.2
      have e5 := under_self s
      have e6 := levS_range (upS s)
      go_wp2_with (first
        | (go_at_call 10; refine (iPathUp_any _ (by omega) _).mono ?_; rintro e wn ⟨rfl, hBn⟩; replace HB1 := hidR (B3 HB1.out hBn); clear hBn)
        | (go_at_call 11; refine (iPathName_any _ (by omega) _).mono ?_; rintro e wn ⟨rfl, hBn⟩; replace HB1 := hidR (B3 HB1.out hBn); clear hBn)
        | (go_at_call 12; refine (sPathUp_any _ (by omega) _).mono ?_; rintro e wn ⟨rfl, hBn⟩; replace HB1 := hidR (B3 HB1.out hBn); clear hBn)
        | (go_at_call 13; refine (sPathName_any _ (by omega) _).mono ?_; rintro e wn ⟨rfl, hBn⟩; replace HB1 := hidR (B3 HB1.out hBn); clear hBn)
        | (go_at_call 14; refine (iPathOk_any _ (by omega) _).mono ?_; rintro e wn ⟨rfl, hBn⟩; replace HB1 := hidR (B3 HB1.out hBn); clear hBn)
        | (go_at_call 15; refine (sOk_any _ (by omega) _).mono ?_; rintro e wn ⟨rfl, hBn⟩; replace HB1 := hidR (B3 HB1.out hBn); clear hBn)
        | (go_at_call 16; refine (iPathLevels_any _ (by omega) _).mono ?_; rintro e wn ⟨rfl, hBn⟩; replace HB1 := hidR (B3 HB1.out hBn); clear hBn)
        | (go_at_call 17; refine (sPathLevels_any _ (by omega) _).mono ?_; rintro e wn ⟨rfl, hBn⟩; replace HB1 := hidR (B3 HB1.out hBn); clear hBn)
        | (go_at_call 18; refine (iPathJoin_any _ _ (by omega) (by omega) _).mono ?_; rintro e wn ⟨rfl, hBn⟩; replace HB1 := hidR (B3 HB1.out hBn); clear hBn)
        | (go_at_call 19; refine (iPathUnder_any _ _ (by omega) (by omega) _).mono ?_; rintro e wn ⟨rfl, hBn⟩; replace HB1 := hidR (B3 HB1.out hBn); clear hBn))
      go_ret
      exact ⟨rfl, HB1.out⟩
  · go_enter Try.func3, Try.ntmps3
    go_wp2
    go_ret
    exact ⟨rfl, Below.refl _ _⟩
end Go.Proofs.Ytgbchekmojjckaa
