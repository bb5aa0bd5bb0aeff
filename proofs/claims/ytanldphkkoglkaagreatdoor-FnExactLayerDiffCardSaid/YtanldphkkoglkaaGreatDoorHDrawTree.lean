/-
  The walk of the model's draw of a tree, whatever the code.
-/
import Derived.Laws.IdiomStrings
import Derived.Test.YtanldphkkoglkaaGreatDoorHDrawOp
import Derived.Test.YtanldphkkoglkaaGreatDoorHPk05
namespace Go.Proofs.YtanldphkkoglkaaGreatDoor
open Go.RowKit Go.Lib

theorem OwnE.at {w : World} {base : Nat} {v : Value} {es : List E} (h : OwnE w base v es) :
    ∃ a g cap, v = .slice a es.length cap ∧ (0 < es.length → a = some ⟨g, 0, none⟩) ∧ Ents w g 0 es ∧ es.length ≤ cap ∧ (0 < es.length → base ≤ g) := by
  obtain ⟨a, g, cap, e1, e2, e3, e4⟩ := h.ents
  refine ⟨a, g, cap, e1, e2, e3, e4, fun h0 => ?_⟩
  obtain ⟨_, ⟨_, e0⟩ | ⟨g', cap', cur, e5, hb, _⟩⟩ := h
  · omega
  · rw [e1, e2 h0] at e5
    cases e5
    exact hb
theorem OwnE.kept {w w' : World} {base r : Nat} {v : Value} {es : List E} (h : OwnE w base v es) (hr : r < base) (k : Kept r w w') : OwnE w' base v es :=
  World.ownsRow.kept (row := some r) h ⟨k.1, k.2.1, k.2.2.1, k.2.2.2.1, fun b hb hne => k.2.2.2.2 b hb (fun q => hne (by rw [q]))⟩ (by
    cases hob : v.ownBlock with
    | none => exact .inl rfl
    | some q => 
      right
      intro hq
      obtain ⟨_, ⟨e0, _⟩ | ⟨g', cap', cur, e5, hb, _⟩⟩ := h
      · rw [e0] at hob; cases hob
      · rw [e5] at hob
        have : g' = q := Option.some.inj hob
        have := Option.some.inj hq
        omega)

end Go.Proofs.YtanldphkkoglkaaGreatDoor
