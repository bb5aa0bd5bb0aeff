import Derived.Test.YtoaipphccjkphaaDoorHPk16
namespace Go.Proofs.YtoaipphccjkphaaDoor
open Go.RowKit Go.Lib
attribute [local go_sem] eq_ent guard_ent
theorem same_len : ∀ (es fs : List E), es.length ≠ fs.length → sameT es fs = false
 | [], [], h => absurd rfl h
 | [], _ :: _, _ => rfl
 | _ :: _, [], _ => rfl
 | e :: r, f :: q, h => by
  unfold sameT; rw [same_len r q (fun e => h (by simp [e])), Bool.and_false]
theorem below_draws' {B : Nat} {a w : World} (h : Below B a w) (n : Nat) : Below B a (w.drewN n) := h.trans ⟨rfl, rfl, rfl, Nat.le_refl _, fun _ _ => rfl⟩
end Go.Proofs.YtoaipphccjkphaaDoor
