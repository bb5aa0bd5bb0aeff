/-
  What the exact laws know of rows of entries that a function has told.
-/
import Derived.Test.YteedhlljcfojfaaDoorHPk12
import Derived.Test.YteedhlljcfojfaaDoorHLawMarks
namespace Go.Proofs.YteedhlljcfojfaaDoor
open Go.RowKit Go.Lib

theorem Ents.but {w w' : World} {g o r : Nat} {es : List E} (h : Ents w g o es) (hb : But r w w') (hne : 0 < es.length → g ≠ r) : Ents w' g o es := fun i hi => by
  obtain ⟨c0, c1, c2⟩ := h i hi
  have lt := World.block_lt_of_cell? w ⟨g, o + i * 3, none⟩ c0
  have hh := hb.2.2.2.2 g lt (hne (by omega))
  exact ⟨(World.cell?_of_block (w := w) (a := ⟨g, _, none⟩) hh).trans c0, (World.cell?_of_block (w := w) (a := ⟨g, _, none⟩) hh).trans c1, (World.cell?_of_block (w := w) (a := ⟨g, _, none⟩) hh).trans c2⟩
theorem Room.butE {w w' : World} {g n r : Nat} (h : Room w g n) (hb : But r w w') (hne : 0 < n → g ≠ r) : Room w' g n := fun i hi => by
  obtain ⟨⟨v, hv⟩, hf⟩ := h i hi
  have lt := World.block_lt_of_cell? w ⟨g, i, none⟩ hv
  have hh := hb.2.2.2.2 g lt (hne (by omega))
  exact ⟨⟨v, (World.cell?_of_block (w := w) (a := ⟨g, i, none⟩) hh).trans hv⟩, (World.frozen?_of_block (w := w) (a := ⟨g, i, none⟩) hh).trans hf⟩
theorem But.belowE {r n : Nat} {w w0 w' : World} (h : But r w w') (hB : Below n w0 w) (hn : n ≤ w.heap.size) (hr : n ≤ r) : Below n w0 w' :=
  hB.trans ⟨h.1, h.2.1, h.2.2.1, h.2.2.2.1, fun k hk => h.2.2.2.2 k (by omega) (by omega)⟩
/-- A row of entries that is owned: where it lies, and that it may be written. -/
theorem row_entsE {w : World} {base : Nat} {v : Value} {es : List E} (h : OwnE w base v es) :
    ∃ a g cap, v = .slice a es.length cap ∧ (0 < es.length → a = some ⟨g, 0, none⟩) ∧ Ents w g 0 es ∧ Room w g (es.length * 3) ∧ base ≤ g := by
  have hc := fun (g : Nat) (hg : v.ownBlock = some g) => World.ownsRow.cells h hg
  obtain ⟨_, ⟨rfl, e0⟩ | ⟨g, cap, cur, rfl, hb, hg, hcap, _, hsz, _⟩⟩ := h
  · exact ⟨none, base, 0, by rw [e0], fun h => by omega, fun i hi => by omega, fun i hi => by omega, Nat.le_refl _⟩
  · refine ⟨_, g, cap, rfl, fun _ => rfl, fun i hi => ?_, fun i hi => ⟨?_, ?_⟩, hb⟩
    · obtain ⟨q0, q1, q2⟩ := rowE_at es i hi
      refine ⟨?_, ?_, ?_⟩
      · have := hc g rfl _ _ q0; rw [add0] at this; exact this
      · have := hc g rfl _ _ q1; rw [add0, ← Nat.add_assoc] at this; exact this
      · have := hc g rfl _ _ q2; rw [add0, ← Nat.add_assoc] at this; exact this
    · have hi' : i < (rowE es).length := by rw [rowE_len]; exact hi
      have := hc g rfl i _ (List.getElem?_eq_getElem hi')
      rw [add0, Nat.zero_add] at this
      exact ⟨_, this⟩
    · unfold World.frozen?
      rw [hg]
      simp
end Go.Proofs.YteedhlljcfojfaaDoor
