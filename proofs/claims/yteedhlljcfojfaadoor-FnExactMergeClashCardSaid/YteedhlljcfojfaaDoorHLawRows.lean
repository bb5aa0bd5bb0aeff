/-
  What the exact laws know of rows that a function has told.
-/
import Derived.Test.YteedhlljcfojfaaDoorHLawStrs
import Derived.Test.YteedhlljcfojfaaDoorHLawTop
namespace Go.Proofs.YteedhlljcfojfaaDoor
open Go.RowKit Go.Lib

theorem Strs.but {w w' : World} {g o r : Nat} {ss : List ByteArray} (h : Strs w g o ss) (hb : But r w w') (hne : 0 < ss.length → g ≠ r) : Strs w' g o ss := fun i hi => by
  have lt := World.block_lt_of_cell? w ⟨g, o + i, none⟩ (h i hi)
  have hh := hb.2.2.2.2 g lt (hne (by omega))
  exact (World.cell?_of_block (w := w) (a := ⟨g, o + i, none⟩) hh).trans (h i hi)
theorem Room.but {w w' : World} {g n r : Nat} (h : Room w g n) (hb : But r w w') (hne : 0 < n → g ≠ r) : Room w' g n := fun i hi => by
  obtain ⟨⟨v, hv⟩, hf⟩ := h i hi
  have lt := World.block_lt_of_cell? w ⟨g, i, none⟩ hv
  have hh := hb.2.2.2.2 g lt (hne (by omega))
  exact ⟨⟨v, (World.cell?_of_block (w := w) (a := ⟨g, i, none⟩) hh).trans hv⟩, (World.frozen?_of_block (w := w) (a := ⟨g, i, none⟩) hh).trans hf⟩
theorem But.below {r n : Nat} {w w0 w' : World} (h : But r w w') (hB : Below n w0 w) (hn : n ≤ w.heap.size) (hr : n ≤ r) : Below n w0 w' :=
  hB.trans ⟨h.1, h.2.1, h.2.2.1, h.2.2.2.1, fun k hk => h.2.2.2.2 k (by omega) (by omega)⟩
/-- A row of strings that is owned: where it lies, and that it may be written. -/
theorem row_strs {w : World} {base : Nat} {v : Value} {ss : List ByteArray} (h : w.ownsRow base 9 1 v ss.length (ss.map Value.string)) :
    ∃ a g cap, v = .slice a ss.length cap ∧ (0 < ss.length → a = some ⟨g, 0, none⟩) ∧ Strs w g 0 ss ∧ Room w g ss.length ∧ base ≤ g := by
  have hc := fun (g : Nat) (hg : v.ownBlock = some g) => World.ownsRow.cells h hg
  obtain ⟨_, ⟨rfl, e0⟩ | ⟨g, cap, cur, rfl, hb, hg, hcap, _, hsz, _⟩⟩ := h
  · exact ⟨none, base, 0, by rw [e0], fun h => by omega, fun i hi => by omega, fun i hi => by omega, Nat.le_refl _⟩
  · refine ⟨_, g, cap, rfl, fun _ => rfl, fun i hi => ?_, fun i hi => ⟨?_, ?_⟩, hb⟩
    · have := hc g rfl i (.string ss[i]) (by rw [List.getElem?_map, List.getElem?_eq_getElem hi]; rfl)
      rw [add0] at this
      exact this
    · have := hc g rfl i (.string ss[i]) (by rw [List.getElem?_map, List.getElem?_eq_getElem hi]; rfl)
      rw [add0, Nat.zero_add] at this
      exact ⟨_, this⟩
    · unfold World.frozen?
      rw [hg]
      simp
theorem kids_lenA (es : List E) (s : ByteArray) : (kidsE es s).length ≤ es.length := by
  unfold kidsE; rw [List.length_map]; exact List.length_filter_le _ _
theorem list_len (es : List E) (s : ByteArray) : (listE es s).length ≤ es.length := by
  unfold listE; split
  · exact kids_lenA es s
  · exact Nat.zero_le _
end Go.Proofs.YteedhlljcfojfaaDoor
