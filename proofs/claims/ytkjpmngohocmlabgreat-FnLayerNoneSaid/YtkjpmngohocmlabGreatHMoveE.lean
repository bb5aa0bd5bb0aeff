/-
  The walk of the model's Move.
-/
import Derived.Test.YtkjpmngohocmlabGreatHPk04
import Derived.Test.YtkjpmngohocmlabGreatHPk03
namespace Go.Proofs.YtkjpmngohocmlabGreat
open Go.RowKit Go.Lib

theorem cell_ne' (w : World) (g i j : Nat) (v : Value) (h : i ≠ j) : (w.setCell ⟨g, i, none⟩ v).cell? ⟨g, j, none⟩ = w.cell? ⟨g, j, none⟩ := World.cell?_setCell_other _ _ _ _ (fun q => by have e := congrArg Addr.off q; dsimp only at e; omega)
theorem cell_eq' {w : World} {g i : Nat} {u : Value} (v : Value) (h : w.cell? ⟨g, i, none⟩ = some u) : (w.setCell ⟨g, i, none⟩ v).cell? ⟨g, i, none⟩ = some v := World.cell?_setCell_same' _ _ _ (by rw [h]; rfl)

end Go.Proofs.YtkjpmngohocmlabGreat
