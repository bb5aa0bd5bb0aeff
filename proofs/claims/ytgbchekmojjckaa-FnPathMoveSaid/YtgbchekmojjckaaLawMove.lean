/-
  The walk of the law FnPathMove, out of the contracts.
-/
import Derived.Test.YtgbchekmojjckaaTop
import Derived.Test.YtgbchekmojjckaaMove
import Derived.Test.YtgbchekmojjckaaDrawM
namespace Go.Proofs.Ytgbchekmojjckaa
open Go.RowKit Go.Lib

set_option maxHeartbeats 1000000 in
set_option maxRecDepth 100000 in
theorem walk_fnPathMove (a : Option Addr) (len cap : Nat) (zs : List Int) (w : World) (hw : IsRow .u8 w a len cap zs) :
    Calls Try.prog 6 #[.slice a len cap] w fun e w' => e = .returned (.bool true) ∧ Below w.heap.size w w' := by
  have hC := hidR hw.cod
  clear hw
  by_cases hl : len ≤ 1048576
  · go_enter Try.func6, Try.ntmps6
    go_wp2_with fail
    refine (DrawPathMove_any _ a len cap hl hC.out).mono ?_
    rintro e w1 ⟨s, f, t, rfl, hs, hf, ht, hB1⟩
    have HB1 := hidR hB1
    clear hB1 hC
    have z1 := movS_size s f t
    cases h1 : movOk s f t with
    | false =>
      have e1 := movS_no h1
      go_wp2_with (first
        | (go_at_call 25; refine (iPathMove_any _ _ _ (by omega) (by omega) (by omega) _).mono ?_; rintro e wn ⟨rfl, hBn⟩; replace HB1 := hidR (B3 HB1.out hBn); clear hBn)
        | (go_at_call 26; refine (sPathMove_any _ _ _ (by omega) (by omega) (by omega) _).mono ?_; rintro e wn ⟨rfl, hBn⟩; replace HB1 := hidR (B3 HB1.out hBn); clear hBn)
        | (go_at_call 19; refine (iPathUnder_any _ _ (by omega) (by omega) _).mono ?_; rintro e wn ⟨rfl, hBn⟩; replace HB1 := hidR (B3 HB1.out hBn); clear hBn)
        | (go_at_call 11; refine (iPathName_any _ (by omega) _).mono ?_; rintro e wn ⟨rfl, hBn⟩; replace HB1 := hidR (B3 HB1.out hBn); clear hBn))
      go_ret
      exact ⟨rfl, HB1.out⟩
    | true =>
      obtain ⟨ha, _⟩ := movOk_parts h1
      obtain ⟨a1, a2, a3⟩ := movAll_parts ha
      have hu := hit_under a1 a2
      cases hh : movHit s f with
      | false =>
        rw [hh] at hu
        have hu' := hu.symm
        rw [Bool.or_eq_false_iff] at hu'
        obtain ⟨k1, k2⟩ := hu'
        have e1 := movS_stay ha hh
        clear hu ha
        go_wp2_with (first
        | (go_at_call 25; refine (iPathMove_any _ _ _ (by omega) (by omega) (by omega) _).mono ?_; rintro e wn ⟨rfl, hBn⟩; replace HB1 := hidR (B3 HB1.out hBn); clear hBn)
        | (go_at_call 26; refine (sPathMove_any _ _ _ (by omega) (by omega) (by omega) _).mono ?_; rintro e wn ⟨rfl, hBn⟩; replace HB1 := hidR (B3 HB1.out hBn); clear hBn)
        | (go_at_call 19; refine (iPathUnder_any _ _ (by omega) (by omega) _).mono ?_; rintro e wn ⟨rfl, hBn⟩; replace HB1 := hidR (B3 HB1.out hBn); clear hBn)
        | (go_at_call 11; refine (iPathName_any _ (by omega) _).mono ?_; rintro e wn ⟨rfl, hBn⟩; replace HB1 := hidR (B3 HB1.out hBn); clear hBn))
        go_ret
        exact ⟨rfl, HB1.out⟩
      | true =>
        obtain ⟨e1, e2⟩ := movS_yes h1 hh
        obtain ⟨b1, b2⟩ := mov_back h1 hh
        have hsame := moved_same t hh
        have zz : (movX s f t).size ≤ s.size + t.size := by rw [← e1]; exact z1
        cases k1 : (s.toList == f.toList) with
        | true =>
          have k2 : ((movX s f t).toList == t.toList) = true := by
            rw [beq_iff_eq, hsame.2 (toList_inj (beq_iff_eq.1 k1))]
          clear hu hsame ha
          go_wp2_with (first
        | (go_at_call 25; refine (iPathMove_any _ _ _ (by omega) (by omega) (by omega) _).mono ?_; rintro e wn ⟨rfl, hBn⟩; replace HB1 := hidR (B3 HB1.out hBn); clear hBn)
        | (go_at_call 26; refine (sPathMove_any _ _ _ (by omega) (by omega) (by omega) _).mono ?_; rintro e wn ⟨rfl, hBn⟩; replace HB1 := hidR (B3 HB1.out hBn); clear hBn)
        | (go_at_call 19; refine (iPathUnder_any _ _ (by omega) (by omega) _).mono ?_; rintro e wn ⟨rfl, hBn⟩; replace HB1 := hidR (B3 HB1.out hBn); clear hBn)
        | (go_at_call 11; refine (iPathName_any _ (by omega) _).mono ?_; rintro e wn ⟨rfl, hBn⟩; replace HB1 := hidR (B3 HB1.out hBn); clear hBn))
          go_ret
          exact ⟨rfl, HB1.out⟩
        | false =>
          rw [hh, k1, Bool.false_or] at hu
          have hu' := hu.symm
          have k2 : ((movX s f t).toList == t.toList) = false := by
            rw [beq_eq_false_iff_ne]; intro r
            rw [hsame.1 (toList_inj r), beq_self_eq_true] at k1; cases k1
          have hpre : Pre s f := by
            have := ((underI_iff s f).1 hu').2.2; rw [stem_path a2] at this; exact this
          have k3 : underI (movX s f t) t = true := by
            rw [underI_iff, stem_path a3]
            refine ⟨stemOk_path a3, e2, ?_⟩
            rcases (hit_iff _ _).1 (moved_hit (t := t) hh) with r | r
            · rw [r, beq_self_eq_true] at k2; cases k2
            · exact r
          have k4 := moved_name a1 e2 hpre
          clear hu hsame ha hpre
          go_wp2_with (first
        | (go_at_call 25; refine (iPathMove_any _ _ _ (by omega) (by omega) (by omega) _).mono ?_; rintro e wn ⟨rfl, hBn⟩; replace HB1 := hidR (B3 HB1.out hBn); clear hBn)
        | (go_at_call 26; refine (sPathMove_any _ _ _ (by omega) (by omega) (by omega) _).mono ?_; rintro e wn ⟨rfl, hBn⟩; replace HB1 := hidR (B3 HB1.out hBn); clear hBn)
        | (go_at_call 19; refine (iPathUnder_any _ _ (by omega) (by omega) _).mono ?_; rintro e wn ⟨rfl, hBn⟩; replace HB1 := hidR (B3 HB1.out hBn); clear hBn)
        | (go_at_call 11; refine (iPathName_any _ (by omega) _).mono ?_; rintro e wn ⟨rfl, hBn⟩; replace HB1 := hidR (B3 HB1.out hBn); clear hBn))
          go_ret
          exact ⟨rfl, HB1.out⟩
  · go_enter Try.func6, Try.ntmps6
    go_wp2
    go_ret
    exact ⟨rfl, Below.refl _ _⟩
end Go.Proofs.Ytgbchekmojjckaa
