/-
  The walks of the model's functions: PathOk in the program's words, and what a right path is below.
-/
import Derived.Test.YtgbchekmojjckabSpec
namespace Go.Proofs.Ytgbchekmojjckab
open Go.RowKit Go.Lib

theorem ret_int' {k : IntKind} {a b : Int} (h : a = b) : Ending.returned (.int k a) = .returned (.int k b) := by rw [h]
theorem ret_str' {a b : ByteArray} (h : a = b) : Ending.returned (.string a) = .returned (.string b) := by rw [h]
theorem ret_two' {a b : ByteArray} {c d : Bool} (h : a = b) (k : c = d) : Ending.returned (.tuple #[.string a, .bool c]) = .returned (.tuple #[.string b, .bool d]) := by rw [h, k]

/-- The model's PathOk, in the words of the program's. -/
theorem sOk_any (s : ByteArray) (hm : s.size ≤ 67108864) (w : World) :
    Calls Try.prog 11 #[.string s] w fun e w' => e = .returned (.bool (pathB s)) ∧ Below w.heap.size w w' := by
  rw [← specOk_eq]; exact sPathOk_any s w (by omega)

set_option maxHeartbeats 400000 in
theorem l1Under_any (s d : ByteArray) (_hs : s.size ≤ 16777216) (hd : d.size ≤ 16777216) (w : World) :
    Calls Try.prog 17 #[.string s, .string d] w fun e w' => e = .returned (.bool (underL s d)) ∧ w' = w := by
  cases hr : (d.toList == [47]) with
  | true =>
    go_enter Try.func17, Try.ntmps17
    go_wp2
    go_ret
    exact ⟨ret_bool' (by unfold underL isRoot; rw [hr]; rfl), rfl⟩
  | false =>
    by_cases hlt : d.size < s.size
    · cases hp : ((s.extract 0 d.size).toList == d.toList) with
      | true =>
        go_enter Try.func17, Try.ntmps17
        go_wp2
        go_ret
        exact ⟨ret_bool' (by unfold underL isRoot; rw [hr, if_neg (by decide), decide_eq_true hlt, hp, get_plus s d.size hlt]; exact (byte_eq _).symm), rfl⟩
      | false =>
        go_enter Try.func17, Try.ntmps17
        go_wp2
        go_ret
        exact ⟨ret_bool' (by unfold underL isRoot; rw [hr, if_neg (by decide), decide_eq_true hlt, hp]; rfl), rfl⟩
    · go_enter Try.func17, Try.ntmps17
      go_wp2
      go_ret
      exact ⟨ret_bool' (by unfold underL isRoot; rw [hr, if_neg (by decide), decide_eq_false hlt]; rfl), rfl⟩

end Go.Proofs.Ytgbchekmojjckab
