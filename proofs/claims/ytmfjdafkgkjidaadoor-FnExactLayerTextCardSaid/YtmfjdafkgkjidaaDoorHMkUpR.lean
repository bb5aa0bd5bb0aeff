/-
  What the rounds over what is above a path keep.
-/
import Derived.Test.YtmfjdafkgkjidaaDoorHMkUp
namespace Go.Proofs.YtmfjdafkgkjidaaDoor.Mk
open Go.RowKit Go.Shelf Go.Lib

theorem ups_small {s x : ByteArray} (h : x ∈ ups s) : pathB x = true ∧ x.size ≤ s.size := by
  obtain ⟨_, h2, h3⟩ := (mem_ups _ s x (Nat.le_refl _)).1 h
  refine ⟨h2, ?_⟩
  rcases h3 with rfl | h3
  · exact Nat.le_refl _
  · have := ((underI_iff _ _).1 h3).2.2.1
    rw [stem_path h2] at this; omega
theorem keeps_of_below {W W' : World} (h : Below W.heap.size W W') : KeepsOthers W W' := ⟨h.size, fun k _ hk _ => (h.block k (Array.getElem?_eq_some_iff.1 hk).1).trans hk⟩
theorem Box2.kept {W W' : World} {row : Option Nat} {b : Nat} {u v : Value} (h : Box2 W b u v) (hg : W.grownBy W' row) (hr : ∀ r, row = some r → ∃ o : Obj, W.heap[r]? = some o ∧ o.isCells = false) : Box2 W' b u v :=
  ⟨cell_kept h.c0 hg hr, cell_kept h.c1 hg hr, (frozen_kept h.c0 hg hr).trans h.f0, (frozen_kept h.c1 hg hr).trans h.f1⟩
/-- What a round finds: the answer's box with what it holds, and the layer's box. -/
structure RSt (b : Nat) (A : ByteArray → Nat) (v : Bool) (W : World) : Prop where
  r : W.cell? ⟨b + 1, 0, none⟩ = some (.bool v)
  rf : W.frozen? ⟨b + 1, 0, none⟩ = false
  bx : Box2 W b (.iface 123 (.agg #[])) (.map (some (A ⟨#[47]⟩)))
theorem RSt.below {b : Nat} {A : ByteArray → Nat} {v : Bool} {W W' : World} (h : RSt b A v W) (hB : Below W.heap.size W W') : RSt b A v W' :=
  ⟨(hB.cell (p := ⟨b + 1, 0, none⟩) (World.block_lt_of_cell? W ⟨b + 1, 0, none⟩ h.r)).trans h.r, (hB.frozen (p := ⟨b + 1, 0, none⟩) (World.block_lt_of_cell? W ⟨b + 1, 0, none⟩ h.r)).trans h.rf, h.bx.below hB⟩
theorem RSt.kept {b : Nat} {A : ByteArray → Nat} {v : Bool} {W W' : World} {row : Option Nat} (h : RSt b A v W) (hg : W.grownBy W' row) (hr : ∀ r, row = some r → ∃ o : Obj, W.heap[r]? = some o ∧ o.isCells = false) : RSt b A v W' :=
  ⟨cell_kept h.r hg hr, (frozen_kept h.r hg hr).trans h.rf, h.bx.kept hg hr⟩
theorem RSt.set {b : Nat} {A : ByteArray → Nat} {v : Bool} {W : World} (h : RSt b A v W) (u : Bool) : RSt b A u (W.setCell ⟨b + 1, 0, none⟩ (.bool u)) :=
  ⟨World.cell?_setCell_same' _ _ _ (by rw [h.r]; rfl), by rw [World.frozen?_setCell]; exact h.rf, ⟨(cell_other _ _ _ _ _ (by simp)).trans h.bx.c0, (cell_other _ _ _ _ _ (by simp)).trans h.bx.c1, by rw [World.frozen?_setCell]; exact h.bx.f0, by rw [World.frozen?_setCell]; exact h.bx.f1⟩⟩
theorem any_snoc {α : Type} (f : α → Bool) (xs : List α) (x : α) : (xs ++ [x]).any f = (xs.any f || f x) := by simp
theorem any_pre {α : Type} {f : α → Bool} {xs ys : List α} (h : xs <+: ys) (k : xs.any f = true) : ys.any f = true := by
  obtain ⟨r, rfl⟩ := h
  rw [List.any_append, k]; rfl
end Go.Proofs.YtmfjdafkgkjidaaDoor.Mk
