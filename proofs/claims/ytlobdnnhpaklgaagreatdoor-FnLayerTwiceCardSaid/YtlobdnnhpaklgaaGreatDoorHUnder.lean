/-
  The walk of what the model says of a right path below another.
-/
import Derived.Test.YtlobdnnhpaklgaaGreatDoorHPk19
namespace Go.Proofs.YtlobdnnhpaklgaaGreatDoor
open Go.RowKit Go.Lib

set_option maxHeartbeats 400000 in
theorem l1Under_any (s d : ByteArray) (_hs : s.size ≤ 16777216) (hd : d.size ≤ 16777216) (w : World) :
    Calls Tryz.prog 86 #[.string s, .string d] w fun e w' => e = .returned (.bool (underL s d)) ∧ w' = w := by
  cases hr : (d.toList == [47]) with
  | true =>
    go_enter Tryz.func86, Tryz.ntmps86
    go_wp2
    go_ret
    exact ⟨ret_bool' (by unfold underL isRoot; rw [hr]; rfl), rfl⟩
  | false =>
    by_cases hlt : d.size < s.size
    · cases hp : ((s.extract 0 d.size).toList == d.toList) with
      | true =>
        go_enter Tryz.func86, Tryz.ntmps86
        go_wp2
        go_ret
        exact ⟨ret_bool' (by unfold underL isRoot; rw [hr, if_neg (by decide), decide_eq_true hlt, hp, get_plus s d.size hlt]; exact (byte_eq _).symm), rfl⟩
      | false =>
        go_enter Tryz.func86, Tryz.ntmps86
        go_wp2
        go_ret
        exact ⟨ret_bool' (by unfold underL isRoot; rw [hr, if_neg (by decide), decide_eq_true hlt, hp]; rfl), rfl⟩
    · go_enter Tryz.func86, Tryz.ntmps86
      go_wp2
      go_ret
      exact ⟨ret_bool' (by unfold underL isRoot; rw [hr, if_neg (by decide), decide_eq_false hlt]; rfl), rfl⟩

end Go.Proofs.YtlobdnnhpaklgaaGreatDoor
