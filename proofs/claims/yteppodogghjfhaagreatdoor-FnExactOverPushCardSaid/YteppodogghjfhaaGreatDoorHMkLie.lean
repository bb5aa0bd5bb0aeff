import Derived.Test.YteppodogghjfhaaGreatDoorHPk26
import Derived.Test.YteppodogghjfhaaGreatDoorHPk10
import Derived.Test.YteppodogghjfhaaGreatDoorHPk05
namespace Go.Proofs.YteppodogghjfhaaGreatDoor.Mk
open Go.RowKit Go.Lib
theorem cell_ne' (w : World) (g i j : Nat) (v : Value) (h : i ≠ j) : (w.setCell ⟨g, i, none⟩ v).cell? ⟨g, j, none⟩ = w.cell? ⟨g, j, none⟩ := World.cell?_setCell_other _ _ _ _ (fun q => by have e := congrArg Addr.off q; dsimp only at e; omega)
theorem cell_eq' {w : World} {g i : Nat} {u : Value} (v : Value) (h : w.cell? ⟨g, i, none⟩ = some u) : (w.setCell ⟨g, i, none⟩ v).cell? ⟨g, i, none⟩ = some v :=
 World.cell?_setCell_same' _ _ _ (by rw [h]; rfl)
theorem Ents.kept {w w' : World} {g o b : Nat} {es : List E} (h : Ents w g o es) (k : Kept b w w') (hb : 0 < es.length → g ≠ b) : Ents w' g o es := fun i hi => by
 obtain ⟨c0, c1, c2⟩ := h i hi; exact ⟨k.cell (hb (by omega)) c0, k.cell (hb (by omega)) c1, k.cell (hb (by omega)) c2⟩
theorem OwnE.at {w : World} {base : Nat} {v : Value} {es : List E} (h : OwnE w base v es) :
  ∃ a g cap, v = .slice a es.length cap ∧ (0 < es.length → a = some ⟨g, 0, none⟩) ∧ Ents w g 0 es ∧ es.length ≤ cap ∧ (0 < es.length → base ≤ g) := by
 obtain ⟨a, g, cap, e1, e2, e3, e4⟩ := h.ents; refine ⟨a, g, cap, e1, e2, e3, e4, fun h0 => ?_⟩; obtain ⟨_, ⟨_, e0⟩ | ⟨g', cap', cur, e5, hb, _⟩⟩ := h
 ·
  omega
 ·
  rw [e1, e2 h0] at e5; cases e5; exact hb
theorem OwnE.kept {w w' : World} {base r : Nat} {v : Value} {es : List E} (h : OwnE w base v es) (hr : r < base) (k : Kept r w w') : OwnE w' base v es :=
 World.ownsRow.kept (row := some r) h ⟨k.1, k.2.1, k.2.2.1, k.2.2.2.1, fun b hb hne => k.2.2.2.2 b hb (fun q => hne (by rw [q]))⟩ (by
  cases hob : v.ownBlock with
  | none => exact .inl rfl
  | some q => 
   right
   intro hq; obtain ⟨_, ⟨e0, _⟩ | ⟨g', cap', cur, e5, hb, _⟩⟩ := h
   ·
    rw [e0] at hob; cases hob
   ·
    rw [e5] at hob; have : g' = q := Option.some.inj hob; have := Option.some.inj hq
    omega)
def LieB (w : World) (base : Nat) (v : Value) (es : List E) : Prop := ∃ a g o cap, v = .slice a es.length cap ∧ (0 < es.length → a = some ⟨g, o, none⟩) ∧ Ents w g o es ∧ es.length ≤ cap ∧ (0 < es.length → base ≤ g)
theorem OwnE.lieB {w : World} {base : Nat} {v : Value} {es : List E} (h : OwnE w base v es) : LieB w base v es := by
 obtain ⟨a, g, cap, h1, h2, h3, h4, h5⟩ := h.at; exact ⟨a, g, 0, cap, h1, h2, h3, h4, h5⟩
theorem LieB.kept {w w' : World} {base r : Nat} {v : Value} {es : List E} (h : LieB w base v es) (hr : r < base) (k : Kept r w w') : LieB w' base v es := by
 obtain ⟨a, g, o, cap, h1, h2, h3, h4, h5⟩ := h; exact ⟨a, g, o, cap, h1, h2, h3.kept k (fun q => by have := h5 q; omega), h4, h5⟩
theorem LieB.below {w w' : World} {base : Nat} {v : Value} {es : List E} (h : LieB w base v es) (k : Below w.heap.size w w') : LieB w' base v es := by
 obtain ⟨a, g, o, cap, h1, h2, h3, h4, h5⟩ := h; exact ⟨a, g, o, cap, h1, h2, h3.below k, h4, h5⟩
theorem LieB.lower {w : World} {base b : Nat} {v : Value} {es : List E} (h : LieB w base v es) (hb : b ≤ base) : LieB w b v es := by
 obtain ⟨a, g, o, cap, h1, h2, h3, h4, h5⟩ := h; exact ⟨a, g, o, cap, h1, h2, h3, h4, fun q => Nat.le_trans hb (h5 q)⟩
theorem Ents.set2 {w : World} {g o k : Nat} {es : List E} (h : Ents w g o es) (hk : k < es.length) (z : ByteArray) : Ents (w.setCell ⟨g, o + k * 3 + 2, none⟩ (.string z)) g o (es.set k ⟨es[k].p, es[k].d, z⟩) := by
 intro i hi; rw [List.length_set] at hi; obtain ⟨c0, c1, c2⟩ := h i hi; by_cases hik : k = i
 ·
  subst hik; simp only [List.getElem_set_self]; exact ⟨(cell_ne' _ _ _ _ _ (by omega)).trans c0, (cell_ne' _ _ _ _ _ (by omega)).trans c1, cell_eq' _ c2⟩
 ·
  rw [List.getElem_set_ne hik]; exact ⟨(cell_ne' _ _ _ _ _ (by omega)).trans c0, (cell_ne' _ _ _ _ _ (by omega)).trans c1, (cell_ne' _ _ _ _ _ (by omega)).trans c2⟩
theorem put_mem {es : List E} {e f : E} (h : f ∈ putE es e) : f = e ∨ f ∈ es := by
 unfold putE at h; rcases List.mem_append.1 h with h | h
 ·
  rcases List.mem_append.1 h with h | h
  ·
   exact .inr (List.takeWhile_subset _ h)
  ·
   exact .inl (List.mem_singleton.1 h)
 ·
  right
  have hd : ∀ g ∈ es.dropWhile (ltP e), g ∈ es := fun g hg => List.dropWhile_subset _ hg
  revert h
  generalize es.dropWhile (ltP e) = r at hd
  intro h; cases r with
  | nil => cases h
  | cons g r =>
   change f ∈ (if (g.p.toList == e.p.toList) = true then r else g :: r) at h
   split at h
   ·
    exact hd f (List.mem_cons_of_mem _ h)
   ·
    exact hd f h
theorem put_len (es : List E) (e : E) : (putE es e).length ≤ es.length + 1 := by
 unfold putE; rw [List.length_append, List.length_append]; have h1 := rest_len e (es.dropWhile (ltP e)); have h2 := congrArg List.length (List.takeWhile_append_dropWhile (p := ltP e) (l := es)); rw [List.length_append] at h2; simp only [List.length_singleton]; omega
end Go.Proofs.YteppodogghjfhaaGreatDoor.Mk
