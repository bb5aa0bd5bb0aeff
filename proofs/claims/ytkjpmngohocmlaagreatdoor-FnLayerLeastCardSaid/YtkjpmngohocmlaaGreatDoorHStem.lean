/-
  The walk of what all that is below a path or the root begins with.
-/
import Derived.Test.YtkjpmngohocmlaaGreatDoorHFresh
namespace Go.Proofs.YtkjpmngohocmlaaGreatDoor
open Go.RowKit Go.Shelf Go.Lib

/-- What all that is below a path or the root begins with. -/
theorem stem_any (s : ByteArray) (hs : s.size ≤ 16777216) (w : World) :
    Calls Tryz.prog 48 #[.string s] w fun e w' => e = .returned (.tuple #[.string (stemS s), .bool (stemOk s)]) ∧ Below w.heap.size w w' := by
  cases hr : (s.toList == [47]) with
  | true =>
    go_enter Tryz.func48, Tryz.ntmps48
    go_wp2
    go_ret2
    exact ⟨ret_two (by unfold stemS isRoot; rw [hr]; rfl) (by unfold stemOk isRoot; rw [hr]; rfl), Below.refl _ _⟩
  | false =>
    go_enter Tryz.func48, Tryz.ntmps48
    go_wp2_with (go_at_call 49; refine (ok_any _ (by omega) _).mono ?_; rintro e w' ⟨rfl, hB⟩)
    go_ret2
    exact ⟨ret_two (by unfold stemS isRoot; rw [hr]; rfl) (by unfold stemOk isRoot; rw [hr]; rfl), hB⟩
end Go.Proofs.YtkjpmngohocmlaaGreatDoor
