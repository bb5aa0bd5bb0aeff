/-
  The walk of the program's own: a path, or nothing.
-/
import Derived.Test.YtbcogekeoklddaaGreatDoorHFresh
namespace Go.Proofs.YtbcogekeoklddaaGreatDoor
open Go.RowKit Go.Shelf Go.Lib


theorem ifOk_any (s : ByteArray) (hs : s.size ≤ 67108864) (w : World) :
    Calls Tryz.prog 50 #[.string s] w fun e w' => e = .returned (.tuple #[.string (ifS s), .bool (pathB s)]) ∧ Below w.heap.size w w' := by
  cases hb : pathB s with
  | true =>
    go_enter Tryz.func50, Tryz.ntmps50
    go_wp2_with (first | (go_at_call 47; refine (ok_any _ (by omega) _).mono ?_; rintro e w1 ⟨rfl, hB1⟩) | (go_at_call 49; refine (fresh_any _ (by omega) _).mono ?_; rintro e w2 ⟨rfl, hB2⟩))
    go_ret2
    exact ⟨ret_two (by unfold ifS; rw [hb, if_pos rfl]) rfl, hB1.trans (hB2.mono hB1.size)⟩
  | false =>
    go_enter Tryz.func50, Tryz.ntmps50
    go_wp2_with (first | (go_at_call 47; refine (ok_any _ (by omega) _).mono ?_; rintro e w1 ⟨rfl, hB1⟩))
    go_ret2
    exact ⟨ret_two (by unfold ifS; rw [hb]; rfl) rfl, hB1⟩

end Go.Proofs.YtbcogekeoklddaaGreatDoor
