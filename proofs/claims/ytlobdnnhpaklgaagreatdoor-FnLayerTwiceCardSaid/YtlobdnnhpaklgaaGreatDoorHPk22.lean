/-
  The walks of the exact laws' marks in lists of entries.
-/
import Derived.Lib.QuietBelow
import Derived.Test.YtlobdnnhpaklgaaGreatDoorHPk20
import Derived.Test.YtlobdnnhpaklgaaGreatDoorHPk21
namespace Go.Proofs.YtlobdnnhpaklgaaGreatDoor
open Go.RowKit Go.Lib Go.Sort

/-- The entries that the marks make, from the number k on. -/
def markE (k : Nat) : E := ⟨markS k, (((k : Int) + 1) % 3 == 0), markS (k + 2)⟩
def markEs (n k : Nat) : List E := (List.range n).map (fun i => markE (k + i * 3))

/-- Nothing but the block g has turned. -/
def But (g : Nat) (w w' : World) : Prop := w'.os = w.os ∧ w'.tape = w.tape ∧ w'.output = w.output ∧ w.heap.size ≤ w'.heap.size ∧ ∀ b, b < w.heap.size → b ≠ g → w'.heap[b]? = w.heap[b]?
theorem But.refl (g : Nat) (w : World) : But g w w := ⟨rfl, rfl, rfl, Nat.le_refl _, fun _ _ _ => rfl⟩
theorem But.trans {r : Nat} {a b c : World} (h : But r a b) (k : But r b c) : But r a c :=
  ⟨k.1.trans h.1, k.2.1.trans h.2.1, k.2.2.1.trans h.2.2.1, Nat.le_trans h.2.2.2.1 k.2.2.2.1, fun x hx hr => (k.2.2.2.2 x (Nat.lt_of_lt_of_le hx h.2.2.2.1) hr).trans (h.2.2.2.2 x hx hr)⟩
theorem But.of_below {r : Nat} {w w' : World} (h : RowKit.Below w.heap.size w w') : But r w w' := ⟨h.os, h.tape, h.output, h.size, fun b hb _ => h.block b hb⟩
theorem But.set (r : Nat) (w : World) (i : Nat) (v : Value) : But r w (w.setCell ⟨r, i, none⟩ v) := by
  have h : RowKit.Below r w (w.setCell ⟨r, i, none⟩ v) := (RowKit.Below.refl r w).setCell (p := ⟨r, i, none⟩) (Nat.le_refl _) v
  exact ⟨h.os, h.tape, h.output, h.size, fun b hb hne => Below.heap_setCell w ⟨r, i, none⟩ v b hne⟩

theorem ents_set {w : World} {g : Nat} {es : List E} (h : Ents w g 0 es) (i : Nat) (hi : es.length * 3 ≤ i) (v : Value) : Ents (w.setCell ⟨g, i, none⟩ v) g 0 es := by
  intro j hj
  obtain ⟨c0, c1, c2⟩ := h j hj
  exact ⟨(cell_ne w g i _ v (by omega)).trans c0, (cell_ne w g i _ v (by omega)).trans c1, (cell_ne w g i _ v (by omega)).trans c2⟩
theorem ents_snoc {w : World} {g : Nat} {es : List E} {e : E} (h : Ents w g 0 es) (c0 : w.cell? ⟨g, es.length * 3, none⟩ = some (.string e.p)) (c1 : w.cell? ⟨g, es.length * 3 + 1, none⟩ = some (.bool e.d)) (c2 : w.cell? ⟨g, es.length * 3 + 2, none⟩ = some (.string e.x)) : Ents w g 0 (es ++ [e]) := by
  intro j hj
  by_cases hlt : j < es.length
  · rw [List.getElem_append_left hlt]; exact h j hlt
  · have : j = es.length := by simp at hj; omega
    subst this
    simp only [Nat.zero_add]
    rw [List.getElem_append_right (Nat.le_refl _)]
    simpa using ⟨c0, c1, c2⟩
theorem marks_len (n k : Nat) : (markEs n k).length = n := by unfold markEs; simp
theorem marks_succ (n k : Nat) : markEs (n + 1) k = markEs n k ++ [markE (k + n * 3)] := by unfold markEs; rw [List.range_succ, List.map_append]; rfl

end Go.Proofs.YtlobdnnhpaklgaaGreatDoor

/-
  What the exact laws know of rows of entries that a function has told.
-/
namespace Go.Proofs.YtlobdnnhpaklgaaGreatDoor
open Go.RowKit Go.Lib

theorem Ents.but {w w' : World} {g o r : Nat} {es : List E} (h : Ents w g o es) (hb : But r w w') (hne : 0 < es.length → g ≠ r) : Ents w' g o es := fun i hi => by
  obtain ⟨c0, c1, c2⟩ := h i hi
  have lt := World.block_lt_of_cell? w ⟨g, o + i * 3, none⟩ c0
  have hh := hb.2.2.2.2 g lt (hne (by omega))
  exact ⟨(World.cell?_of_block (w := w) (a := ⟨g, _, none⟩) hh).trans c0, (World.cell?_of_block (w := w) (a := ⟨g, _, none⟩) hh).trans c1, (World.cell?_of_block (w := w) (a := ⟨g, _, none⟩) hh).trans c2⟩
theorem Room.butE {w w' : World} {g n r : Nat} (h : Room w g n) (hb : But r w w') (hne : 0 < n → g ≠ r) : Room w' g n := fun i hi => by
  obtain ⟨⟨v, hv⟩, hf⟩ := h i hi
  have lt := World.block_lt_of_cell? w ⟨g, i, none⟩ hv
  have hh := hb.2.2.2.2 g lt (hne (by omega))
  exact ⟨⟨v, (World.cell?_of_block (w := w) (a := ⟨g, i, none⟩) hh).trans hv⟩, (World.frozen?_of_block (w := w) (a := ⟨g, i, none⟩) hh).trans hf⟩
theorem But.belowE {r n : Nat} {w w0 w' : World} (h : But r w w') (hB : Below n w0 w) (hn : n ≤ w.heap.size) (hr : n ≤ r) : Below n w0 w' :=
  hB.trans ⟨h.1, h.2.1, h.2.2.1, h.2.2.2.1, fun k hk => h.2.2.2.2 k (by omega) (by omega)⟩
/-- A row of entries that is owned: where it lies, and that it may be written. -/
theorem row_entsE {w : World} {base : Nat} {v : Value} {es : List E} (h : OwnE w base v es) :
    ∃ a g cap, v = .slice a es.length cap ∧ (0 < es.length → a = some ⟨g, 0, none⟩) ∧ Ents w g 0 es ∧ Room w g (es.length * 3) ∧ base ≤ g := by
  have hc := fun (g : Nat) (hg : v.ownBlock = some g) => World.ownsRow.cells h hg
  obtain ⟨_, ⟨rfl, e0⟩ | ⟨g, cap, cur, rfl, hb, hg, hcap, _, hsz, _⟩⟩ := h
  · exact ⟨none, base, 0, by rw [e0], fun h => by omega, fun i hi => by omega, fun i hi => by omega, Nat.le_refl _⟩
  · refine ⟨_, g, cap, rfl, fun _ => rfl, fun i hi => ?_, fun i hi => ⟨?_, ?_⟩, hb⟩
    · obtain ⟨q0, q1, q2⟩ := rowE_at es i hi
      refine ⟨?_, ?_, ?_⟩
      · have := hc g rfl _ _ q0; rw [add0] at this; exact this
      · have := hc g rfl _ _ q1; rw [add0, ← Nat.add_assoc] at this; exact this
      · have := hc g rfl _ _ q2; rw [add0, ← Nat.add_assoc] at this; exact this
    · have hi' : i < (rowE es).length := by rw [rowE_len]; exact hi
      have := hc g rfl i _ (List.getElem?_eq_getElem hi')
      rw [add0, Nat.zero_add] at this
      exact ⟨_, this⟩
    · unfold World.frozen?
      rw [hg]
      simp
end Go.Proofs.YtlobdnnhpaklgaaGreatDoor
