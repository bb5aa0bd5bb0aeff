/-
  The walk of the model's draw of a layer and a text, whatever the code.
-/
import Derived.Test.YtkjpmngohocmlaaGreatDoorHPk30
namespace Go.Proofs.YtkjpmngohocmlaaGreatDoor.Mk
open Go.RowKit Go.Lib

theorem layB_len {es : List E} (h : layB es = true) : es.length ≤ 32 := by
  unfold layB at h
  rw [Bool.and_eq_true] at h
  exact of_decide_eq_true h.2

end Go.Proofs.YtkjpmngohocmlaaGreatDoor.Mk
