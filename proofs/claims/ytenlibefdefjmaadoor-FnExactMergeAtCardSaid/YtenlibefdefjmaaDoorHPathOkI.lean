/-
  The walk of the program's own PathOk.
-/
import Derived.Test.YtenlibefdefjmaaDoorHPk02
namespace Go.Proofs.YtenlibefdefjmaaDoor
open Go.RowKit Go.Shelf Go.Lib

theorem pOk_any (s : ByteArray) (hs : s.size ≤ 16777216) (w : World) :
    Calls Tryd.prog 39 #[.string s] w fun e w' => e = .returned (.bool (pathB s)) ∧ Below w.heap.size w w' := by
  go_enter Tryd.func39, Tryd.ntmps39
  go_wp2_with (go_at_call 35; refine (ok_any _ (by omega) _).mono ?_; rintro e w1 ⟨rfl, hB1⟩)
  go_ret
  exact ⟨rfl, hB1⟩
end Go.Proofs.YtenlibefdefjmaaDoor
