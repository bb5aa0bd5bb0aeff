/-
  The walk of the law FnExactEntText, out of the contracts.
-/
import Derived.Test.YtfbfmckfmdodlaaDoorHPk10
import Derived.Test.YtfbfmckfmdodlaaDoorHLawEnts
namespace Go.Proofs.YtfbfmckfmdodlaaDoor
open Go.RowKit Go.Lib

theorem B3T {a b c : World} (h : Below a.heap.size a b) (k : Below b.heap.size b c) : Below a.heap.size a c := h.trans (k.mono h.size)
theorem box3t {w w' : World} {a b c : Value} {T : TypeId} (h : Below (w.alloc (.cells #[a, b, c] T)).heap.size (w.alloc (.cells #[a, b, c] T)) w') :
    w'.cell? ⟨w.heap.size, 0, none⟩ = some a ∧ w'.cell? ⟨w.heap.size, 1, none⟩ = some b ∧ w'.cell? ⟨w.heap.size, 2, none⟩ = some c := by
  have hl : w.heap.size < (w.alloc (.cells #[a, b, c] T)).heap.size := by simp
  exact ⟨(h.cell (p := ⟨w.heap.size, 0, none⟩) hl).trans (by simp), (h.cell (p := ⟨w.heap.size, 1, none⟩) hl).trans (by simp), (h.cell (p := ⟨w.heap.size, 2, none⟩) hl).trans (by simp)⟩

end Go.Proofs.YtfbfmckfmdodlaaDoor
