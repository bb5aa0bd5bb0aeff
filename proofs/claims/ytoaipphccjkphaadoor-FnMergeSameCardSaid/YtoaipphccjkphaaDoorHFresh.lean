import Derived.Test.YtoaipphccjkphaaDoorHPk02
import Derived.Test.YtoaipphccjkphaaDoorHClone
namespace Go.Proofs.YtoaipphccjkphaaDoor
open Go.RowKit Go.Shelf Go.Lib
theorem ret_str {a b : ByteArray} (h : a = b) : Ending.returned (.string a) = .returned (.string b) := by rw [h]
theorem fresh_any (s : ByteArray) (hs : s.size ≤ 281474976710656) (w : World) :
  Calls Tryd.prog 86 #[.string s] w fun e w' => e = .returned (.string s) ∧ Below w.heap.size w w' := by
 go_enter Tryd.func86, Tryd.ntmps86
 go_wp2_with (first | (go_at_call 58; refine (sClone_any _ _ hs).mono ?_; rintro e w' ⟨rfl, hB⟩) | go_in)
 go_ret
 exact ⟨rfl, hB⟩
end Go.Proofs.YtoaipphccjkphaaDoor
