/-
  The walk of the program's own PathOk.
-/
import Derived.Test.YtfbfmckfmdodlaaDoorHPk06
namespace Go.Proofs.YtfbfmckfmdodlaaDoor
open Go.RowKit Go.Shelf Go.Lib

theorem pOk_any (s : ByteArray) (hs : s.size ≤ 16777216) (w : World) :
    Calls Tryd.prog 60 #[.string s] w fun e w' => e = .returned (.bool (pathB s)) ∧ Below w.heap.size w w' := by
  go_enter Tryd.func60, Tryd.ntmps60
  go_wp2_with (go_at_call 75; refine (ok_any _ (by omega) _).mono ?_; rintro e w1 ⟨rfl, hB1⟩)
  go_ret
  exact ⟨rfl, hB1⟩
end Go.Proofs.YtfbfmckfmdodlaaDoor
