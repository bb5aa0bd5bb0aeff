/-
  The walks of the program's own functions: a fresh copy, a path or nothing, and what begins with another text.
-/
import Derived.Test.YtgbchekmojjckabOk
import Derived.Test.YtgbchekmojjckabClone
namespace Go.Proofs.Ytgbchekmojjckab
open Go.RowKit Go.Shelf Go.Lib

theorem ret_int {k : IntKind} {a b : Int} (h : a = b) : Ending.returned (.int k a) = .returned (.int k b) := by rw [h]
theorem ret_str {a b : ByteArray} (h : a = b) : Ending.returned (.string a) = .returned (.string b) := by rw [h]

theorem fresh_any (s : ByteArray) (hs : s.size ≤ 281474976710656) (w : World) :
    Calls Try.prog 15 #[.string s] w fun e w' => e = .returned (.string s) ∧ Below w.heap.size w w' := by
  go_enter Try.func15, Try.ntmps15
  go_wp2_with (first | (go_at_call 31; refine (sClone_any _ _ hs).mono ?_; rintro e w' ⟨rfl, hB⟩) | go_in)
  go_ret
  exact ⟨rfl, hB⟩

theorem ret_two {a b : ByteArray} {c d : Bool} (h : a = b) (k : c = d) : Ending.returned (.tuple #[.string a, .bool c]) = .returned (.tuple #[.string b, .bool d]) := by rw [h, k]

theorem ifOk_any (s : ByteArray) (hs : s.size ≤ 67108864) (w : World) :
    Calls Try.prog 16 #[.string s] w fun e w' => e = .returned (.tuple #[.string (ifS s), .bool (pathB s)]) ∧ Below w.heap.size w w' := by
  cases hb : pathB s with
  | true =>
    go_enter Try.func16, Try.ntmps16
    go_wp2_with (first | (go_at_call 13; refine (ok_any _ (by omega) _).mono ?_; rintro e w1 ⟨rfl, hB1⟩) | (go_at_call 15; refine (fresh_any _ (by omega) _).mono ?_; rintro e w2 ⟨rfl, hB2⟩))
    go_ret2
    exact ⟨ret_two (by unfold ifS; rw [hb, if_pos rfl]) rfl, hB1.trans (hB2.mono hB1.size)⟩
  | false =>
    go_enter Try.func16, Try.ntmps16
    go_wp2_with (first | (go_at_call 13; refine (ok_any _ (by omega) _).mono ?_; rintro e w1 ⟨rfl, hB1⟩))
    go_ret2
    exact ⟨ret_two (by unfold ifS; rw [hb]; rfl) rfl, hB1⟩

theorem sHasPrefix_any (s x : ByteArray) (_hs : s.size ≤ 67108864) (_hx : x.size ≤ 67108864) (w : World) :
    Calls Try.prog 30 #[.string s, .string x] w fun e w' => e = .returned (.bool (preB s x)) ∧ w' = w := by
  by_cases h : x.size ≤ s.size
  · go_enter Try.func30, Try.ntmps30
    go_wp2
    go_ret
    exact ⟨ret_bool (by unfold preB; rw [decide_eq_true h]; rfl), rfl⟩
  · go_enter Try.func30, Try.ntmps30
    go_wp2
    go_ret
    exact ⟨ret_bool (by unfold preB; rw [decide_eq_false h]; rfl), rfl⟩

theorem below_any (s x : ByteArray) (hs : s.size ≤ 16777216) (hx : x.size ≤ 16777216) (w : World) :
    Calls Try.prog 14 #[.string s, .string x] w fun e w' => e = .returned (.bool (preB s (x ++ ⟨#[47]⟩))) ∧ w' = w := by
  have hz : (x ++ ⟨#[47]⟩ : ByteArray).size ≤ 67108864 := by rw [ByteArray.size_append]; show x.size + 1 ≤ _; omega
  go_enter Try.func14, Try.ntmps14
  go_wp2_with (first | (go_at_call 30; refine (sHasPrefix_any _ _ (by omega) hz _).mono ?_; rintro e w' ⟨rfl, rfl⟩) | go_in)
  go_ret
  exact ⟨rfl, rfl⟩

end Go.Proofs.Ytgbchekmojjckab
