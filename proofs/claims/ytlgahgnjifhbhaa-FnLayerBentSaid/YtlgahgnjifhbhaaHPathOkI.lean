/-
  The walk of the program's own PathOk.
-/
import Derived.Test.YtlgahgnjifhbhaaHOk
namespace Go.Proofs.Ytlgahgnjifhbhaa
open Go.RowKit Go.Shelf Go.Lib

theorem pOk_any (s : ByteArray) (hs : s.size ≤ 16777216) (w : World) :
    Calls Try.prog 60 #[.string s] w fun e w' => e = .returned (.bool (pathB s)) ∧ Below w.heap.size w w' := by
  go_enter Try.func60, Try.ntmps60
  go_wp2_with (go_at_call 24; refine (ok_any _ (by omega) _).mono ?_; rintro e w1 ⟨rfl, hB1⟩)
  go_ret
  exact ⟨rfl, hB1⟩
end Go.Proofs.Ytlgahgnjifhbhaa
