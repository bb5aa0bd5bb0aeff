/-
  The walk of the program's own PathOk.
-/
import Derived.Test.YtmfjdafkgkjidaaDoorHOk
namespace Go.Proofs.YtmfjdafkgkjidaaDoor
open Go.RowKit Go.Shelf Go.Lib

theorem pOk_any (s : ByteArray) (hs : s.size ≤ 16777216) (w : World) :
    Calls Tryd.prog 52 #[.string s] w fun e w' => e = .returned (.bool (pathB s)) ∧ Below w.heap.size w w' := by
  go_enter Tryd.func52, Tryd.ntmps52
  go_wp2_with (go_at_call 66; refine (ok_any _ (by omega) _).mono ?_; rintro e w1 ⟨rfl, hB1⟩)
  go_ret
  exact ⟨rfl, hB1⟩
end Go.Proofs.YtmfjdafkgkjidaaDoor
