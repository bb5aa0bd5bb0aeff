/-
  The walk of the model's PathName.
-/
import Derived.Test.YtlobdnnhpaklgaaGreatDoorHPk19
namespace Go.Proofs.YtlobdnnhpaklgaaGreatDoor
open Go.RowKit Go.Lib

set_option maxHeartbeats 400000 in
theorem sPathName_any (s : ByteArray) (hs : s.size ≤ 16777216) (w : World) :
    Calls Tryz.prog 125 #[.string s] w fun e w' => e = .returned (.string (nmS s)) ∧ Below w.heap.size w w' := by
  cases hb : pathB s with
  | true =>
    have hh := (pathB_head s hb).1
    have hle := slashF_le s (s.size - 1)
    have HL : Hid (lastS s = (slashF s (s.size - 1) : Nat)) := lastS_slash s hb
    have HZ : Hid (∀ W : World, Calls Tryz.prog 88 #[.string s] W _) := fun W => l1Slash_any s (by omega) hs W
    obtain ⟨k, hk⟩ : ∃ k, slashF s (s.size - 1) = k := ⟨_, rfl⟩
    rw [hk] at hle HL HZ
    clear hk
    go_enter Tryz.func125, Tryz.ntmps125
    go_wp2_with (first | (go_at_call 46; refine (sOk_any _ (by omega) _).mono ?_; rintro e w1 ⟨rfl, hB1⟩) | (go_at_call 88; refine (HZ.out _).mono ?_; rintro e w2 ⟨rfl, rfl⟩))
    go_ret
    exact ⟨ret_str' (by unfold nmS; rw [hb, if_pos rfl, HL.out]; rfl), hB1⟩
  | false =>
    go_enter Tryz.func125, Tryz.ntmps125
    go_wp2_with (first | (go_at_call 46; refine (sOk_any _ (by omega) _).mono ?_; rintro e w1 ⟨rfl, hB1⟩))
    go_ret
    exact ⟨ret_str' (by unfold nmS; rw [hb]; rfl), hB1⟩
end Go.Proofs.YtlobdnnhpaklgaaGreatDoor
