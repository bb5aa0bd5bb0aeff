/-
  Four cells of a block are set, one behind the other.
-/
import Derived.Test.YtenlibefdefjmaaDoorHMgRow
import Derived.Test.YtenlibefdefjmaaDoorHPk07
namespace Go.Proofs.YtenlibefdefjmaaDoor.Mg
open Go.RowKit Go.Lib

theorem atSet4 {W w : World} {n b : Nat} {p q r t u v x y : Value} {C : World → Prop} (h0 : W.cell? ⟨b, 0, none⟩ = some p) (h1 : W.cell? ⟨b, 1, none⟩ = some q) (h2 : W.cell? ⟨b, 2, none⟩ = some r) (h3 : W.cell? ⟨b, 3, none⟩ = some t) (hB : Below n w W) (hb : n ≤ b)
    (k : ∀ Wf, Wf.cell? ⟨b, 0, none⟩ = some u → Wf.cell? ⟨b, 1, none⟩ = some v → Wf.cell? ⟨b, 2, none⟩ = some x → Wf.cell? ⟨b, 3, none⟩ = some y → Below n w Wf → C Wf) :
    C ((((W.setCell ⟨b, 0, none⟩ u).setCell ⟨b, 1, none⟩ v).setCell ⟨b, 2, none⟩ x).setCell ⟨b, 3, none⟩ y) := by
  refine k _ ?_ ?_ ?_ ?_ ((((hB.setCell (p := ⟨b, 0, none⟩) hb _).setCell (p := ⟨b, 1, none⟩) hb _).setCell (p := ⟨b, 2, none⟩) hb _).setCell (p := ⟨b, 3, none⟩) hb _)
  all_goals
    repeat (first
      | (rw [World.cell?_setCell_same' _ _ _ (by rw [World.cell?_setCell_other _ _ _ _ (by simp), World.cell?_setCell_other _ _ _ _ (by simp), World.cell?_setCell_other _ _ _ _ (by simp)]; simp [*])])
      | (rw [World.cell?_setCell_same' _ _ _ (by rw [World.cell?_setCell_other _ _ _ _ (by simp), World.cell?_setCell_other _ _ _ _ (by simp)]; simp [*])])
      | (rw [World.cell?_setCell_same' _ _ _ (by rw [World.cell?_setCell_other _ _ _ _ (by simp)]; simp [*])])
      | (rw [World.cell?_setCell_same' _ _ _ (by simp [*])])
      | (rw [World.cell?_setCell_other _ _ _ _ (by simp)]))
end Go.Proofs.YtenlibefdefjmaaDoor.Mg
