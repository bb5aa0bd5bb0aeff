/-
  The walk of the model's draw that bends a tree, whatever the code.
-/
import Derived.Test.YtanldphkkoglkaaGreatDoorHDrawTree
namespace Go.Proofs.YtanldphkkoglkaaGreatDoor
open Go.RowKit Go.Lib

/-- A list of entries lies somewhere at base or behind. -/
def LieB (w : World) (base : Nat) (v : Value) (es : List E) : Prop := ∃ a g o cap, v = .slice a es.length cap ∧ (0 < es.length → a = some ⟨g, o, none⟩) ∧ Ents w g o es ∧ es.length ≤ cap ∧ (0 < es.length → base ≤ g)
/-- A list of at most n entries with short texts. -/
def Small (n : Nat) (es : List E) : Prop := es.length ≤ n ∧ ∀ e ∈ es, e.p.size ≤ 16 ∧ e.x.size ≤ 16
theorem OwnE.lieB {w : World} {base : Nat} {v : Value} {es : List E} (h : OwnE w base v es) : LieB w base v es := by
  obtain ⟨a, g, cap, h1, h2, h3, h4, h5⟩ := h.at
  exact ⟨a, g, 0, cap, h1, h2, h3, h4, h5⟩
theorem LieB.kept {w w' : World} {base r : Nat} {v : Value} {es : List E} (h : LieB w base v es) (hr : r < base) (k : Kept r w w') : LieB w' base v es := by
  obtain ⟨a, g, o, cap, h1, h2, h3, h4, h5⟩ := h
  exact ⟨a, g, o, cap, h1, h2, h3.kept k (fun q => by have := h5 q; omega), h4, h5⟩
theorem LieB.below {w w' : World} {base : Nat} {v : Value} {es : List E} (h : LieB w base v es) (k : Below w.heap.size w w') : LieB w' base v es := by
  obtain ⟨a, g, o, cap, h1, h2, h3, h4, h5⟩ := h
  exact ⟨a, g, o, cap, h1, h2, h3.below k, h4, h5⟩
theorem LieB.lower {w : World} {base b : Nat} {v : Value} {es : List E} (h : LieB w base v es) (hb : b ≤ base) : LieB w b v es := by
  obtain ⟨a, g, o, cap, h1, h2, h3, h4, h5⟩ := h
  exact ⟨a, g, o, cap, h1, h2, h3, h4, fun q => Nat.le_trans hb (h5 q)⟩
theorem OwnE.unfrozen {w : World} {base : Nat} {a : Option Addr} {n cap : Nat} {es : List E} (h : OwnE w base (.slice a n cap) es) {g : Nat} (hg : a = some ⟨g, 0, none⟩) (i : Nat) : w.frozen? ⟨g, i, none⟩ = false := by
  obtain ⟨_, ⟨e0, _⟩ | ⟨g', cap', cur, e5, _, hh, _⟩⟩ := h
  · rw [hg] at e0; cases e0
  · rw [hg] at e5
    cases e5
    unfold World.frozen?
    rw [hh]; simp
theorem small_set {n k : Nat} {es : List E} (h : Small n es) (e : E) (he : e.p.size ≤ 16 ∧ e.x.size ≤ 16) : Small n (es.set k e) := by
  refine ⟨by rw [List.length_set]; exact h.1, fun f hf => ?_⟩
  rcases List.mem_or_eq_of_mem_set hf with q | q
  · exact h.2 f q
  · rw [q]; exact he
theorem Ents.set0 {w : World} {g o k : Nat} {es : List E} (h : Ents w g o es) (hk : k < es.length) (z : ByteArray) : Ents (w.setCell ⟨g, o + k * 3, none⟩ (.string z)) g o (es.set k ⟨z, es[k].d, es[k].x⟩) := by
  intro i hi
  rw [List.length_set] at hi
  obtain ⟨c0, c1, c2⟩ := h i hi
  by_cases hik : k = i
  · subst hik
    simp only [List.getElem_set_self]
    exact ⟨cell_eq' _ c0, (cell_ne' _ _ _ _ _ (by omega)).trans c1, (cell_ne' _ _ _ _ _ (by omega)).trans c2⟩
  · rw [List.getElem_set_ne hik]
    exact ⟨(cell_ne' _ _ _ _ _ (by omega)).trans c0, (cell_ne' _ _ _ _ _ (by omega)).trans c1, (cell_ne' _ _ _ _ _ (by omega)).trans c2⟩
theorem Ents.set1 {w : World} {g o k : Nat} {es : List E} (h : Ents w g o es) (hk : k < es.length) (z : Bool) : Ents (w.setCell ⟨g, o + k * 3 + 1, none⟩ (.bool z)) g o (es.set k ⟨es[k].p, z, es[k].x⟩) := by
  intro i hi
  rw [List.length_set] at hi
  obtain ⟨c0, c1, c2⟩ := h i hi
  by_cases hik : k = i
  · subst hik
    simp only [List.getElem_set_self]
    exact ⟨(cell_ne' _ _ _ _ _ (by omega)).trans c0, cell_eq' _ c1, (cell_ne' _ _ _ _ _ (by omega)).trans c2⟩
  · rw [List.getElem_set_ne hik]
    exact ⟨(cell_ne' _ _ _ _ _ (by omega)).trans c0, (cell_ne' _ _ _ _ _ (by omega)).trans c1, (cell_ne' _ _ _ _ _ (by omega)).trans c2⟩
theorem Ents.set2 {w : World} {g o k : Nat} {es : List E} (h : Ents w g o es) (hk : k < es.length) (z : ByteArray) : Ents (w.setCell ⟨g, o + k * 3 + 2, none⟩ (.string z)) g o (es.set k ⟨es[k].p, es[k].d, z⟩) := by
  intro i hi
  rw [List.length_set] at hi
  obtain ⟨c0, c1, c2⟩ := h i hi
  by_cases hik : k = i
  · subst hik
    simp only [List.getElem_set_self]
    exact ⟨(cell_ne' _ _ _ _ _ (by omega)).trans c0, (cell_ne' _ _ _ _ _ (by omega)).trans c1, cell_eq' _ c2⟩
  · rw [List.getElem_set_ne hik]
    exact ⟨(cell_ne' _ _ _ _ _ (by omega)).trans c0, (cell_ne' _ _ _ _ _ (by omega)).trans c1, (cell_ne' _ _ _ _ _ (by omega)).trans c2⟩

end Go.Proofs.YtanldphkkoglkaaGreatDoor
