/-
  The walks of what the exact laws do with lists of strings.
-/
import Derived.Test.YtanldphkkoglkaaGreatDoorHLawMarks
import Derived.Test.YtanldphkkoglkaaGreatDoorHLawCMark
namespace Go.Proofs.YtanldphkkoglkaaGreatDoor
open Go.RowKit Go.Lib Go.Sort

/-- The strings lie in the block g, from the cell o on. -/
def Strs (w : World) (g o : Nat) (ss : List ByteArray) : Prop := ∀ i (h : i < ss.length), w.cell? ⟨g, o + i, none⟩ = some (.string ss[i])
theorem Strs.below {w w' : World} {g o : Nat} {ss : List ByteArray} (h : Strs w g o ss) (hb : RowKit.Below w.heap.size w w') : Strs w' g o ss := fun i hi =>
  (hb.cell (p := ⟨g, o + i, none⟩) (World.block_lt_of_cell? w ⟨g, o + i, none⟩ (h i hi))).trans (h i hi)
def sameSS : List ByteArray → List ByteArray → Bool
  | [], [] => true
  | e :: r, f :: q => (e.toList == f.toList) && sameSS r q
  | _, _ => false
theorem sameSS_drop (es fs : List ByteArray) (k : Nat) (h : k < es.length) (h2 : k < fs.length) : sameSS (es.drop k) (fs.drop k) = ((es[k].toList == fs[k].toList) && sameSS (es.drop (k + 1)) (fs.drop (k + 1))) := by
  rw [List.drop_eq_getElem_cons h, List.drop_eq_getElem_cons h2]; rfl
theorem sameSS_len : ∀ (es fs : List ByteArray), es.length ≠ fs.length → sameSS es fs = false
  | [], [], h => absurd rfl h
  | [], _ :: _, _ => rfl
  | _ :: _, [], _ => rfl
  | e :: r, f :: q, h => by
    unfold sameSS
    rw [sameSS_len r q (fun e => h (by simp [e])), Bool.and_false]
theorem sameSS_refl : ∀ es : List ByteArray, sameSS es es = true
  | [] => rfl
  | e :: r => by unfold sameSS; rw [sameSS_refl r]; simp
theorem below_drewL {B : Nat} {a w : World} (h : RowKit.Below B a w) (n : Nat) : RowKit.Below B a (w.drewN n) := h.trans ⟨rfl, rfl, rfl, Nat.le_refl _, fun _ _ => rfl⟩

/-- The marks of strings, from the number k on. -/
def markSs (n k : Nat) : List ByteArray := (List.range n).map (fun i => markS (k + i))
theorem markSs_len (n k : Nat) : (markSs n k).length = n := by unfold markSs; simp
theorem markSs_succ (n k : Nat) : markSs (n + 1) k = markSs n k ++ [markS (k + n)] := by unfold markSs; rw [List.range_succ, List.map_append]; rfl
theorem markSs_at (n k i : Nat) (h : i < (markSs n k).length) : (markSs n k)[i] = markS (k + i) :=
  (List.getElem_map (fun i => markS (k + i)) ..).trans (by rw [List.getElem_range])
theorem strs_set {w : World} {g : Nat} {es : List ByteArray} (h : Strs w g 0 es) (i : Nat) (hi : es.length ≤ i) (v : Value) : Strs (w.setCell ⟨g, i, none⟩ v) g 0 es := by
  intro j hj
  exact (cell_ne w g i _ v (by omega)).trans (h j hj)
theorem strs_snoc {w : World} {g : Nat} {es : List ByteArray} {e : ByteArray} (h : Strs w g 0 es) (c0 : w.cell? ⟨g, es.length, none⟩ = some (.string e)) : Strs w g 0 (es ++ [e]) := by
  intro j hj
  by_cases hlt : j < es.length
  · rw [List.getElem_append_left hlt]; exact h j hlt
  · have : j = es.length := by simp at hj; omega
    subst this
    simp only [Nat.zero_add]
    rw [List.getElem_append_right (Nat.le_refl _)]
    simpa using c0

end Go.Proofs.YtanldphkkoglkaaGreatDoor
