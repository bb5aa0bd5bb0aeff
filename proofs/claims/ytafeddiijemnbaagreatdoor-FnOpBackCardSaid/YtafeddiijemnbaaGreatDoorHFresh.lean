import Derived.Test.YtafeddiijemnbaaGreatDoorHPk02
import Derived.Test.YtafeddiijemnbaaGreatDoorHClone
namespace Go.Proofs.YtafeddiijemnbaaGreatDoor
open Go.RowKit Go.Shelf Go.Lib
theorem ret_str {a b : ByteArray} (h : a = b) : Ending.returned (.string a) = .returned (.string b) := by rw [h]
theorem fresh_any (s : ByteArray) (hs : s.size ≤ 281474976710656) (w : World) :
  Calls Tryz.prog 72 #[.string s] w fun e w' => e = .returned (.string s) ∧ Below w.heap.size w w' := by
 go_enter Tryz.func72, Tryz.ntmps72
 go_wp2_with (first | (go_at_call 54; refine (sClone_any _ _ hs).mono ?_; rintro e w' ⟨rfl, hB⟩) | go_in)
 go_ret
 exact ⟨rfl, hB⟩
theorem ret_two {a b : ByteArray} {c d : Bool} (h : a = b) (k : c = d) : Ending.returned (.tuple #[.string a, .bool c]) = .returned (.tuple #[.string b, .bool d]) := by rw [h, k]
end Go.Proofs.YtafeddiijemnbaaGreatDoor
