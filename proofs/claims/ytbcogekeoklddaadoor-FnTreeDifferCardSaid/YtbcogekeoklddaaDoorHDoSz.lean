/-
  Plain facts: what is done to a list of short texts is one.
-/
import Derived.Test.YtbcogekeoklddaaDoorHPk06
import Derived.Test.YtbcogekeoklddaaDoorHDoneR
namespace Go.Proofs.YtbcogekeoklddaaDoor
open Go.Lib

theorem do_lens (es : List E) (k : Int) (p t x : ByteArray) : (doE es ⟨k, p, t, x⟩).length ≤ 16 ∧ ∀ e ∈ doE es ⟨k, p, t, x⟩, e.p.size ≤ 16 ∧ e.x.size ≤ 16 := by
  cases h : treeE es with
  | true => exact tree_sizes (do_tree h)
  | false =>
    have : doE es ⟨k, p, t, x⟩ = [] := by unfold doE; rw [h]; rfl
    rw [this]; exact ⟨Nat.zero_le _, fun e he => by cases he⟩
theorem sameT_refl : ∀ es : List E, sameT es es = true
  | [] => rfl
  | e :: r => by
    unfold sameT
    rw [sameT_refl r, (sameT1_iff e e).2 rfl]; rfl
theorem sameT_eq : ∀ {es fs : List E}, sameT es fs = true → es = fs
  | [], [], _ => rfl
  | e :: r, f :: q, h => by
    unfold sameT at h
    rw [Bool.and_eq_true] at h
    rw [(sameT1_iff e f).1 h.1, sameT_eq h.2]
  | [], _ :: _, h => by cases h
  | _ :: _, [], h => by cases h
end Go.Proofs.YtbcogekeoklddaaDoor
