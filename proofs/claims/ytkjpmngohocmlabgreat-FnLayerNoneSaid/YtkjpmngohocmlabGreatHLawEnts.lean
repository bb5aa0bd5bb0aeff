/-
  The walks of what the exact laws do with lists of entries: their sizes, a copy of the other type, and whether two are the same.
-/
import Derived.Laws.MakeOwn
import Derived.Laws.ResultCell
import Derived.Lib.QuietBelow
import Derived.Test.YtkjpmngohocmlabGreatHWalkBase
namespace Go.Proofs.YtkjpmngohocmlabGreat
open Go.RowKit Go.Lib Go.Sort

/-- There is room for so many cells in a block. -/
def Room (w : World) (g n : Nat) : Prop := ∀ i, i < n → (∃ v, w.cell? ⟨g, i, none⟩ = some v) ∧ w.frozen? ⟨g, i, none⟩ = false
theorem Room.below {w w' : World} {g n : Nat} (h : Room w g n) (hb : Below w.heap.size w w') : Room w' g n := fun i hi => by
  obtain ⟨⟨v, hv⟩, hf⟩ := h i hi
  have lt : g < w.heap.size := World.block_lt_of_cell? w ⟨g, i, none⟩ hv
  exact ⟨⟨v, (hb.cell (p := ⟨g, i, none⟩) lt).trans hv⟩, (hb.frozen (p := ⟨g, i, none⟩) lt).trans hf⟩
theorem Room.set {w : World} {g n : Nat} (h : Room w g n) (b j : Nat) (v : Value) : Room (w.setCell ⟨b, j, none⟩ v) g n := fun i hi => by
  obtain ⟨⟨u, hu⟩, hf⟩ := h i hi
  obtain ⟨u', hu'⟩ := cell?_setCell_some (w := w) (p := ⟨b, j, none⟩) (x := v) (q := ⟨g, i, none⟩) (v := u) hu
  exact ⟨⟨u', hu'⟩, by rw [World.frozen?_setCell]; exact hf⟩

theorem cell_ne (w : World) (g i j : Nat) (v : Value) (h : i ≠ j) : (w.setCell ⟨g, i, none⟩ v).cell? ⟨g, j, none⟩ = w.cell? ⟨g, j, none⟩ := World.cell?_setCell_other _ _ _ _ (fun q => by have e := congrArg Addr.off q; dsimp only at e; omega)
theorem cell_eq {w : World} {g i : Nat} {u : Value} (v : Value) (h : w.cell? ⟨g, i, none⟩ = some u) : (w.setCell ⟨g, i, none⟩ v).cell? ⟨g, i, none⟩ = some v := World.cell?_setCell_same' _ _ _ (by rw [h]; rfl)
/-- One entry more is written behind those that lie there. -/
theorem Ents.put {w : World} {g k : Nat} {es : List E} (hk : k < es.length) (h : Ents w g 0 (es.take k)) {v0 v1 v2 : Value} (e0 : w.cell? ⟨g, k * 3, none⟩ = some v0) (e1 : w.cell? ⟨g, k * 3 + 1, none⟩ = some v1) (e2 : w.cell? ⟨g, k * 3 + 2, none⟩ = some v2) :
    Ents (((w.setCell ⟨g, k * 3, none⟩ (.string es[k].p)).setCell ⟨g, k * 3 + 1, none⟩ (.bool es[k].d)).setCell ⟨g, k * 3 + 2, none⟩ (.string es[k].x)) g 0 (es.take (k + 1)) := by
  intro i hi
  rw [List.length_take] at hi
  rw [List.getElem_take]
  by_cases e : i = k
  · subst e
    refine ⟨?_, ?_, ?_⟩
    · rw [Nat.zero_add, cell_ne _ _ _ _ _ (by omega), cell_ne _ _ _ _ _ (by omega)]; exact cell_eq _ e0
    · rw [Nat.zero_add, cell_ne _ _ _ _ _ (by omega)]; exact cell_eq _ ((cell_ne _ _ _ _ _ (by omega)).trans e1)
    · rw [Nat.zero_add]; exact cell_eq _ ((cell_ne _ _ _ _ _ (by omega)).trans ((cell_ne _ _ _ _ _ (by omega)).trans e2))
  · have hlt : i < k := by omega
    obtain ⟨q0, q1, q2⟩ := h i (by rw [List.length_take]; omega)
    rw [List.getElem_take] at q0 q1 q2
    rw [Nat.zero_add] at *
    refine ⟨?_, ?_, ?_⟩
    · rw [cell_ne _ _ _ _ _ (by omega), cell_ne _ _ _ _ _ (by omega), cell_ne _ _ _ _ _ (by omega)]; exact q0
    · rw [cell_ne _ _ _ _ _ (by omega), cell_ne _ _ _ _ _ (by omega), cell_ne _ _ _ _ _ (by omega)]; exact q1
    · rw [cell_ne _ _ _ _ _ (by omega), cell_ne _ _ _ _ _ (by omega), cell_ne _ _ _ _ _ (by omega)]; exact q2

def sameE (e f : E) : Bool := (e.p.toList == f.p.toList) && ((e.d == f.d) && (e.x.toList == f.x.toList))
def sameES (es fs : List E) : Bool := decide (es.length = fs.length) && (List.range es.length).all (fun i => match es[i]?, fs[i]? with | some e, some f => sameE e f | _, _ => true)
theorem sameE_iff (e f : E) : sameE e f = true ↔ e = f := by
  unfold sameE
  rw [Bool.and_eq_true, Bool.and_eq_true, beq_iff_eq, beq_iff_eq, beq_iff_eq]
  constructor
  · rintro ⟨h1, h2, h3⟩
    cases e; cases f
    simp only [E.mk.injEq]
    exact ⟨toList_inj h1, h2, toList_inj h3⟩
  · rintro rfl; exact ⟨rfl, rfl, rfl⟩

theorem sameES_no {es fs : List E} {i : Nat} (hl : es.length = fs.length) (h : i < es.length) (hb : sameE es[i] (fs[i]'(by omega)) = false) : false = sameES es fs := by
  unfold sameES
  have : (List.range es.length).all (fun i => match es[i]?, fs[i]? with | some e, some f => sameE e f | _, _ => true) = false := by
    rw [List.all_eq_false]
    refine ⟨i, List.mem_range.2 h, ?_⟩
    rw [List.getElem?_eq_getElem h, List.getElem?_eq_getElem (by omega)]
    simp [hb]
  rw [this, Bool.and_false]

end Go.Proofs.YtkjpmngohocmlabGreat
