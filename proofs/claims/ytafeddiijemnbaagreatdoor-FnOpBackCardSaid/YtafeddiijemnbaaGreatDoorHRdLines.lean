import Derived.Test.YtafeddiijemnbaaGreatDoorHRdAdd
import Derived.Test.YtafeddiijemnbaaGreatDoorHPk05
import Derived.Test.YtafeddiijemnbaaGreatDoorHPk01
import Derived.RangeFuncOwn
import Derived.Deep.LoopGhost
import Derived.WalkMore
import Derived.BigQuiet
import Derived.Deep.QuietTactic
namespace Go.Proofs.YtafeddiijemnbaaGreatDoor
open Go.RowKit Go.Lib
theorem cell_off (w : World) (b i j : Nat) (v : Value) (h : i ≠ j) : (w.setCell ⟨b, i, none⟩ v).cell? ⟨b, j, none⟩ = w.cell? ⟨b, j, none⟩ := World.cell?_setCell_other _ _ _ _ (fun q => by have e := congrArg Addr.off q; dsimp only at e; omega)
theorem set4_rules {w : World} {b : Nat} {c0 c1 c2 c3 : Value} {T : TypeId} (h : w.heap[b]? = some (.cells #[c0, c1, c2, c3] T (0, 0))) :
  (w.cell? ⟨b, 0, none⟩ = some c0 ∧ w.frozen? ⟨b, 0, none⟩ = false) ∧ (∀ u, (w.setCell ⟨b, 0, none⟩ u).cell? ⟨b, 1, none⟩ = some c1 ∧ (w.setCell ⟨b, 0, none⟩ u).frozen? ⟨b, 1, none⟩ = false) ∧
  (∀ u x, ((w.setCell ⟨b, 0, none⟩ u).setCell ⟨b, 1, none⟩ x).cell? ⟨b, 2, none⟩ = some c2 ∧ ((w.setCell ⟨b, 0, none⟩ u).setCell ⟨b, 1, none⟩ x).frozen? ⟨b, 2, none⟩ = false) ∧
  (∀ u x y, (((w.setCell ⟨b, 0, none⟩ u).setCell ⟨b, 1, none⟩ x).setCell ⟨b, 2, none⟩ y).cell? ⟨b, 3, none⟩ = some c3 ∧ (((w.setCell ⟨b, 0, none⟩ u).setCell ⟨b, 1, none⟩ x).setCell ⟨b, 2, none⟩ y).frozen? ⟨b, 3, none⟩ = false) := by
 have hf : ∀ j, w.frozen? ⟨b, j, none⟩ = false := fun j => by simp [World.frozen?, h]
 have hc : ∀ j, w.cell? ⟨b, j, none⟩ = #[c0, c1, c2, c3][j]? := fun j => cell_of_row w b j _ _ _ h; refine ⟨⟨hc 0, hf 0⟩, fun u => ⟨?_, ?_⟩, fun u x => ⟨?_, ?_⟩, fun u x y => ⟨?_, ?_⟩⟩
 ·
  rw [cell_off _ _ _ _ _ (by omega)]; exact hc 1
 ·
  rw [World.frozen?_setCell]; exact hf 1
 ·
  rw [cell_off _ _ _ _ _ (by omega), cell_off _ _ _ _ _ (by omega)]; exact hc 2
 ·
  rw [World.frozen?_setCell, World.frozen?_setCell]; exact hf 2
 ·
  rw [cell_off _ _ _ _ _ (by omega), cell_off _ _ _ _ _ (by omega), cell_off _ _ _ _ _ (by omega)]; exact hc 3
 ·
  rw [World.frozen?_setCell, World.frozen?_setCell, World.frozen?_setCell]; exact hf 3
theorem set4_is {w : World} {b : Nat} {c0 c1 c2 c3 : Value} {T : TypeId} (h : w.heap[b]? = some (.cells #[c0, c1, c2, c3] T (0, 0))) (u x y z : Value) :
  OnlyB b w ((((w.setCell ⟨b, 0, none⟩ u).setCell ⟨b, 1, none⟩ x).setCell ⟨b, 2, none⟩ y).setCell ⟨b, 3, none⟩ z) ∧ ((((w.setCell ⟨b, 0, none⟩ u).setCell ⟨b, 1, none⟩ x).setCell ⟨b, 2, none⟩ y).setCell ⟨b, 3, none⟩ z).heap[b]? = some (.cells #[u, x, y, z] T (0, 0)) := by
 rw [setCell_eq_setRow w b 0 _ T (0, 0) u h]; have h1 := setRow_heap w b _ (#[c0, c1, c2, c3].setIfInBounds 0 u) T (0, 0) h; rw [setCell_eq_setRow _ b 1 _ T (0, 0) x h1]; have h2 := setRow_heap _ b _ ((#[c0, c1, c2, c3].setIfInBounds 0 u).setIfInBounds 1 x) T (0, 0) h1; rw [setCell_eq_setRow _ b 2 _ T (0, 0) y h2]; have h3 := setRow_heap _ b _ (((#[c0, c1, c2, c3].setIfInBounds 0 u).setIfInBounds 1 x).setIfInBounds 2 y) T (0, 0) h2; rw [setCell_eq_setRow _ b 3 _ T (0, 0) z h3]; exact ⟨(((OnlyB.setRow b w _).trans (OnlyB.setRow b _ _)).trans (OnlyB.setRow b _ _)).trans (OnlyB.setRow b _ _), setRow_heap _ b _ _ T (0, 0) h3⟩
end Go.Proofs.YtafeddiijemnbaaGreatDoor
