/-
  The walks of the program's own: what begins with another text.
-/
import Derived.Test.YtngjcdlgfcgfoaaGreatDoorPk02
import Derived.Test.YtngjcdlgfcgfoaaGreatDoorPk36
namespace Go.Proofs.YtngjcdlgfcgfoaaGreatDoor
open Go.RowKit Go.Shelf Go.Lib


theorem sHasPrefix_any (s x : ByteArray) (_hs : s.size ≤ 67108864) (_hx : x.size ≤ 67108864) (w : World) :
    Calls Tryz.prog 132 #[.string s, .string x] w fun e w' => e = .returned (.bool (preB s x)) ∧ w' = w := by
  by_cases h : x.size ≤ s.size
  · go_enter Tryz.func132, Tryz.ntmps132
    go_wp2
    go_ret
    exact ⟨ret_bool (by unfold preB; rw [decide_eq_true h]; rfl), rfl⟩
  · go_enter Tryz.func132, Tryz.ntmps132
    go_wp2
    go_ret
    exact ⟨ret_bool (by unfold preB; rw [decide_eq_false h]; rfl), rfl⟩

theorem strBelow_any (s x : ByteArray) (hs : s.size ≤ 16777216) (hx : x.size ≤ 16777216) (w : World) :
    Calls Tryz.prog 130 #[.string s, .string x] w fun e w' => e = .returned (.bool (preB s (x ++ ⟨#[47]⟩))) ∧ w' = w := by
  have hz : (x ++ ⟨#[47]⟩ : ByteArray).size ≤ 67108864 := by rw [ByteArray.size_append]; show x.size + 1 ≤ _; omega
  go_enter Tryz.func130, Tryz.ntmps130
  go_wp2_with (first | (go_at_call 132; refine (sHasPrefix_any _ _ (by omega) hz _).mono ?_; rintro e w' ⟨rfl, rfl⟩) | go_in)
  go_ret
  exact ⟨rfl, rfl⟩

end Go.Proofs.YtngjcdlgfcgfoaaGreatDoor

/-
  The walk of the program's own PathUnder.
-/
namespace Go.Proofs.YtngjcdlgfcgfoaaGreatDoor
open Go.RowKit Go.Shelf Go.Lib

set_option maxHeartbeats 400000 in
theorem iPathUnder_any (s d : ByteArray) (hs : s.size ≤ 16777216) (hd : d.size ≤ 16777216) (w : World) :
    Calls Tryz.prog 128 #[.string s, .string d] w fun e w' => e = .returned (.bool (underI s d)) ∧ Below w.heap.size w w' := by
  have hz0 : (stemS d).size ≤ 16777216 := by unfold stemS; split; exact Nat.zero_le _; exact hd
  cases h1 : stemOk d with
  | false =>
    go_enter Tryz.func128, Tryz.ntmps128
    go_wp2_with (first | (go_at_call 129; refine (stem_any _ (by omega) _).mono ?_; rintro e w1 ⟨rfl, hB1⟩))
    go_ret
    exact ⟨ret_bool (by unfold underI; rw [h1]; rfl), hB1⟩
  | true =>
    cases h2 : pathB s with
    | false =>
      go_enter Tryz.func128, Tryz.ntmps128
      go_wp2_with (first | (go_at_call 129; refine (stem_any _ (by omega) _).mono ?_; rintro e w1 ⟨rfl, hB1⟩) | (go_at_call 63; refine (ok_any _ (by omega) _).mono ?_; rintro e w2 ⟨rfl, hB2⟩))
      go_ret
      exact ⟨ret_bool (by unfold underI; rw [h1, h2]; rfl), hB1.trans (hB2.mono hB1.size)⟩
    | true =>
      go_enter Tryz.func128, Tryz.ntmps128
      go_wp2_with (first | (go_at_call 129; refine (stem_any _ (by omega) _).mono ?_; rintro e w1 ⟨rfl, hB1⟩) | (go_at_call 63; refine (ok_any _ (by omega) _).mono ?_; rintro e w2 ⟨rfl, hB2⟩) | (go_at_call 130; refine (strBelow_any _ _ (by omega) hz0 _).mono ?_; rintro e w3 ⟨rfl, rfl⟩))
      go_ret
      exact ⟨ret_bool (by unfold underI; rw [h1, h2]; rfl), hB1.trans (hB2.mono hB1.size)⟩
end Go.Proofs.YtngjcdlgfcgfoaaGreatDoor
