/-
  The walk of the program's own PathOk.
-/
import Derived.Test.YtbcogekeoklddaaGreatDoorHOk
namespace Go.Proofs.YtbcogekeoklddaaGreatDoor
open Go.RowKit Go.Shelf Go.Lib

theorem pOk_any (s : ByteArray) (hs : s.size ≤ 16777216) (w : World) :
    Calls Tryz.prog 22 #[.string s] w fun e w' => e = .returned (.bool (pathB s)) ∧ Below w.heap.size w w' := by
  go_enter Tryz.func22, Tryz.ntmps22
  go_wp2_with (go_at_call 47; refine (ok_any _ (by omega) _).mono ?_; rintro e w1 ⟨rfl, hB1⟩)
  go_ret
  exact ⟨rfl, hB1⟩
end Go.Proofs.YtbcogekeoklddaaGreatDoor
