/-
  The walks of the program's own: what begins with another text.
-/
import Derived.Test.YtkjpmngohocmlaaGreatDoorHFresh
namespace Go.Proofs.YtkjpmngohocmlaaGreatDoor
open Go.RowKit Go.Shelf Go.Lib


theorem sHasPrefix_any (s x : ByteArray) (_hs : s.size ≤ 67108864) (_hx : x.size ≤ 67108864) (w : World) :
    Calls Tryz.prog 135 #[.string s, .string x] w fun e w' => e = .returned (.bool (preB s x)) ∧ w' = w := by
  by_cases h : x.size ≤ s.size
  · go_enter Tryz.func135, Tryz.ntmps135
    go_wp2
    go_ret
    exact ⟨ret_bool (by unfold preB; rw [decide_eq_true h]; rfl), rfl⟩
  · go_enter Tryz.func135, Tryz.ntmps135
    go_wp2
    go_ret
    exact ⟨ret_bool (by unfold preB; rw [decide_eq_false h]; rfl), rfl⟩

theorem strBelow_any (s x : ByteArray) (hs : s.size ≤ 16777216) (hx : x.size ≤ 16777216) (w : World) :
    Calls Tryz.prog 50 #[.string s, .string x] w fun e w' => e = .returned (.bool (preB s (x ++ ⟨#[47]⟩))) ∧ w' = w := by
  have hz : (x ++ ⟨#[47]⟩ : ByteArray).size ≤ 67108864 := by rw [ByteArray.size_append]; show x.size + 1 ≤ _; omega
  go_enter Tryz.func50, Tryz.ntmps50
  go_wp2_with (first | (go_at_call 135; refine (sHasPrefix_any _ _ (by omega) hz _).mono ?_; rintro e w' ⟨rfl, rfl⟩) | go_in)
  go_ret
  exact ⟨rfl, rfl⟩

end Go.Proofs.YtkjpmngohocmlaaGreatDoor
