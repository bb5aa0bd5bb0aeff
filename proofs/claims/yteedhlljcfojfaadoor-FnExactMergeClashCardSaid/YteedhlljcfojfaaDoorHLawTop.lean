/-
  What the exact laws have in common.
-/
import Derived.Test.YteedhlljcfojfaaDoorHOpenEnts
namespace Go.Proofs.YteedhlljcfojfaaDoor
open Go.RowKit Go.Lib

theorem sameES_self (es : List E) : sameES es es = true := by
  unfold sameES
  rw [decide_eq_true rfl, Bool.true_and, List.all_eq_true]
  intro i hi
  rw [List.getElem?_eq_getElem (List.mem_range.1 hi)]
  exact (sameE_iff _ _).2 rfl

theorem B3E {a b c : World} (h : Below a.heap.size a b) (k : Below b.heap.size b c) : Below a.heap.size a c := h.trans (k.mono h.size)

end Go.Proofs.YteedhlljcfojfaaDoor
