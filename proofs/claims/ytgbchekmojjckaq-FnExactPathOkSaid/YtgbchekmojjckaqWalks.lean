/-
  The walks of the laws, out of the contracts.
-/
import Derived.Test.YtgbchekmojjckaqOk
import Derived.Test.YtgbchekmojjckaqSpec
namespace Go.Proofs.Ytgbchekmojjckaq
open Go.RowKit Go.Lib

theorem iPathOk_any (s : ByteArray) (hs : s.size ≤ 4611686018427387904) (w : World) :
    Calls Try.prog 10 #[.string s] w fun e w' => e = .returned (.bool (pathB s)) ∧ Below w.heap.size w w' := by
  go_enter Try.func10, Try.ntmps10
  go_wp2_with (go_at_call 23; refine (ok_any _ hs _).mono ?_; rintro e w' ⟨rfl, hB⟩)
  go_ret
  exact ⟨rfl, hB⟩

theorem walk_fnExactPathOk (s : ByteArray) (_hs : s.size ≤ maxLen) (w : World) :
    Calls Try.prog 3 #[.string s] w fun e w' => e = .returned (.bool true) ∧ Below w.heap.size w w' := by
  by_cases h : s.size ≤ 1048576
  · have he := specOk_eq s
    cases hb : pathB s with
    | true =>
      rw [hb] at he
      go_enter Try.func3, Try.ntmps3
      go_wp2_with (first | (go_at_call 9; refine (sPathOk_any _ _ (by omega)).mono ?_; rintro e w1 ⟨rfl, hB1⟩) | (go_at_call 10; refine (iPathOk_any _ (by omega) _).mono ?_; rintro e w2 ⟨rfl, hB2⟩))
      go_ret
      exact ⟨rfl, hB1.trans (hB2.mono hB1.size)⟩
    | false =>
      rw [hb] at he
      go_enter Try.func3, Try.ntmps3
      go_wp2_with (first | (go_at_call 9; refine (sPathOk_any _ _ (by omega)).mono ?_; rintro e w1 ⟨rfl, hB1⟩) | (go_at_call 10; refine (iPathOk_any _ (by omega) _).mono ?_; rintro e w2 ⟨rfl, hB2⟩))
      go_ret
      exact ⟨rfl, hB1.trans (hB2.mono hB1.size)⟩
  · go_enter Try.func3, Try.ntmps3
    go_wp2
    go_ret
    exact ⟨rfl, Below.refl _ _⟩
end Go.Proofs.Ytgbchekmojjckaq
