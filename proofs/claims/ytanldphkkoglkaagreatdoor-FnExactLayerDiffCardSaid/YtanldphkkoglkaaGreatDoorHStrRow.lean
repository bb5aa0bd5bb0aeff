/-
  Lists of texts, as they lie in memory.
-/
import Derived.Test.YtanldphkkoglkaaGreatDoorHDrawDo
namespace Go.Proofs.YtanldphkkoglkaaGreatDoor
open Go.RowKit Go.Lib

/-- The texts lie in the block g. -/
def StrB (w : World) (g : Nat) (xs : List ByteArray) : Prop := ∀ i (h : i < xs.length), w.cell? ⟨g, i, none⟩ = some (.string xs[i])
theorem StrB.below {w w' : World} {g : Nat} {xs : List ByteArray} (h : StrB w g xs) (hb : Below w.heap.size w w') : StrB w' g xs := fun i hi =>
  (hb.cell (p := ⟨g, i, none⟩) (cell_ltR (h i hi))).trans (h i hi)
theorem StrB.of_row {w : World} {base : Nat} {v : Value} {xs : List ByteArray} (h : w.ownsRow base 9 1 v xs.length (xs.map Value.string)) :
    ∃ a g cap, v = .slice a xs.length cap ∧ (0 < xs.length → a = some ⟨g, 0, none⟩) ∧ StrB w g xs := by
  have hc := fun (g : Nat) (hg : v.ownBlock = some g) => World.ownsRow.cells h hg
  obtain ⟨_, ⟨rfl, e0⟩ | ⟨g, cap, cur, rfl, _, _, hcap, _⟩⟩ := h
  · exact ⟨none, 0, 0, by rw [e0], fun h => by omega, fun i hi => by omega⟩
  · refine ⟨_, g, cap, rfl, fun _ => rfl, fun i hi => ?_⟩
    have := hc g rfl i (.string xs[i]) (by rw [List.getElem?_map, List.getElem?_eq_getElem hi]; rfl)
    rw [add0, Nat.zero_add] at this
    exact this
end Go.Proofs.YtanldphkkoglkaaGreatDoor
