/-
  The walk of the model's Turned.
-/
import Derived.Test.YteedhlljcfojfaaDoorHPk12
import Derived.Test.YteedhlljcfojfaaDoorHPk16
namespace Go.Proofs.YteedhlljcfojfaaDoor
open Go.RowKit Go.Lib
attribute [local go_sem] eq_ent guard_ent

/-- A list of entries lies somewhere. -/
def Lies (w : World) (v : Value) (es : List E) : Prop := ∃ b g o c, v = .slice b es.length c ∧ (0 < es.length → b = some ⟨g, o, none⟩) ∧ Ents w g o es ∧ es.length ≤ c
theorem OwnE.lies {w : World} {base : Nat} {v : Value} {es : List E} (h : OwnE w base v es) : Lies w v es := by
  obtain ⟨a, g, cap, e, ha, hE, hc⟩ := h.ents
  exact ⟨a, g, 0, cap, e, ha, hE, hc⟩
theorem rowlow {w : World} {base base' : Nat} {e : TypeId} {size : Nat} {v : Value} {n : Nat} {xs : List Value} (h : w.ownsRow base e size v n xs) (hb : base' ≤ base) : w.ownsRow base' e size v n xs := by
  obtain ⟨h1, h2 | ⟨g, cap, cur, e1, e2, e3⟩⟩ := h
  · exact ⟨h1, .inl h2⟩
  · exact ⟨h1, .inr ⟨g, cap, cur, e1, Nat.le_trans hb e2, e3⟩⟩
theorem rowkeep {w w' : World} {base : Nat} {e : TypeId} {size : Nat} {v : Value} {n : Nat} {xs : List Value} (h : w.ownsRow base e size v n xs) (hb : Below w.heap.size w w') : w'.ownsRow base e size v n xs :=
  h.kept (row := none) ⟨hb.os, hb.tape, hb.output, hb.size, fun b hb' _ => hb.block b hb'⟩ (by
    cases hob : v.ownBlock with
    | none => exact .inl rfl
    | some q => exact .inr (by simp))
theorem boxT {w w' : World} {a b c : Value} {T : TypeId} (h : Below (w.alloc (.cells #[a, b, c] T)).heap.size (w.alloc (.cells #[a, b, c] T)) w') :
    w'.cell? ⟨w.heap.size, 0, none⟩ = some a ∧ w'.cell? ⟨w.heap.size, 1, none⟩ = some b ∧ w'.cell? ⟨w.heap.size, 2, none⟩ = some c := box3 h

end Go.Proofs.YteedhlljcfojfaaDoor

/-
  Lists of texts, as they lie in memory.
-/
namespace Go.Proofs.YteedhlljcfojfaaDoor
open Go.RowKit Go.Lib

/-- The texts lie in the block g. -/
def StrB (w : World) (g : Nat) (xs : List ByteArray) : Prop := ∀ i (h : i < xs.length), w.cell? ⟨g, i, none⟩ = some (.string xs[i])
theorem StrB.below {w w' : World} {g : Nat} {xs : List ByteArray} (h : StrB w g xs) (hb : Below w.heap.size w w') : StrB w' g xs := fun i hi =>
  (hb.cell (p := ⟨g, i, none⟩) (World.block_lt_of_cell? w ⟨g, i, none⟩ (h i hi))).trans (h i hi)
theorem StrB.of_row {w : World} {base : Nat} {v : Value} {xs : List ByteArray} (h : w.ownsRow base 9 1 v xs.length (xs.map Value.string)) :
    ∃ a g cap, v = .slice a xs.length cap ∧ (0 < xs.length → a = some ⟨g, 0, none⟩) ∧ StrB w g xs := by
  have hc := fun (g : Nat) (hg : v.ownBlock = some g) => World.ownsRow.cells h hg
  obtain ⟨_, ⟨rfl, e0⟩ | ⟨g, cap, cur, rfl, _, _, hcap, _⟩⟩ := h
  · exact ⟨none, 0, 0, by rw [e0], fun h => by omega, fun i hi => by omega⟩
  · refine ⟨_, g, cap, rfl, fun _ => rfl, fun i hi => ?_⟩
    have := hc g rfl i (.string xs[i]) (by rw [List.getElem?_map, List.getElem?_eq_getElem hi]; rfl)
    rw [add0, Nat.zero_add] at this
    exact this
end Go.Proofs.YteedhlljcfojfaaDoor
