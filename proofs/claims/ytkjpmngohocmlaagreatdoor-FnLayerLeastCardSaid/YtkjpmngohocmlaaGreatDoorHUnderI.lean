/-
  The walk of the program's own PathUnder.
-/
import Derived.Test.YtkjpmngohocmlaaGreatDoorHStem
import Derived.Test.YtkjpmngohocmlaaGreatDoorHPref
namespace Go.Proofs.YtkjpmngohocmlaaGreatDoor
open Go.RowKit Go.Shelf Go.Lib

set_option maxHeartbeats 400000 in
theorem iPathUnder_any (s d : ByteArray) (hs : s.size ≤ 16777216) (hd : d.size ≤ 16777216) (w : World) :
    Calls Tryz.prog 18 #[.string s, .string d] w fun e w' => e = .returned (.bool (underI s d)) ∧ Below w.heap.size w w' := by
  have hz0 : (stemS d).size ≤ 16777216 := by unfold stemS; split; exact Nat.zero_le _; exact hd
  cases h1 : stemOk d with
  | false =>
    go_enter Tryz.func18, Tryz.ntmps18
    go_wp2_with (first | (go_at_call 48; refine (stem_any _ (by omega) _).mono ?_; rintro e w1 ⟨rfl, hB1⟩))
    go_ret
    exact ⟨ret_bool (by unfold underI; rw [h1]; rfl), hB1⟩
  | true =>
    cases h2 : pathB s with
    | false =>
      go_enter Tryz.func18, Tryz.ntmps18
      go_wp2_with (first | (go_at_call 48; refine (stem_any _ (by omega) _).mono ?_; rintro e w1 ⟨rfl, hB1⟩) | (go_at_call 49; refine (ok_any _ (by omega) _).mono ?_; rintro e w2 ⟨rfl, hB2⟩))
      go_ret
      exact ⟨ret_bool (by unfold underI; rw [h1, h2]; rfl), hB1.trans (hB2.mono hB1.size)⟩
    | true =>
      go_enter Tryz.func18, Tryz.ntmps18
      go_wp2_with (first | (go_at_call 48; refine (stem_any _ (by omega) _).mono ?_; rintro e w1 ⟨rfl, hB1⟩) | (go_at_call 49; refine (ok_any _ (by omega) _).mono ?_; rintro e w2 ⟨rfl, hB2⟩) | (go_at_call 50; refine (strBelow_any _ _ (by omega) hz0 _).mono ?_; rintro e w3 ⟨rfl, rfl⟩))
      go_ret
      exact ⟨ret_bool (by unfold underI; rw [h1, h2]; rfl), hB1.trans (hB2.mono hB1.size)⟩
end Go.Proofs.YtkjpmngohocmlaaGreatDoor
