import Derived.Test.YteppodogghjfhaaGreatDoorHPk31
import Derived.Test.YteppodogghjfhaaGreatDoorHPk16
namespace Go.Proofs.YteppodogghjfhaaGreatDoor.Mk
open Go.RowKit Go.Shelf Go.Lib Go.Maps Go.Sort
attribute [local go_sem] Oper.semAt_some
structure KpM (B : Nat) (W W' : World) : Prop where
 size : W.heap.size ≤ W'.heap.size
 cells : ∀ (k : Nat) (o : Obj), W.heap[k]? = some o → o.isCells = true → W'.heap[k]? = some o
 maps : ∀ (k : Nat) (o : Obj), k < B → W.heap[k]? = some o → o.isWalk = true → W'.heap[k]? = some o
theorem KpM.t {B : Nat} {X Y Z : World} (h : KpM B X Y) (k : KpM B Y Z) : KpM B X Z :=
 ⟨Nat.le_trans h.size k.size, fun i o h1 h2 => k.cells i o (h.cells i o h1 h2) h2, fun i o h1 h2 h3 => k.maps i o h1 (h.maps i o h1 h2 h3) h3⟩
theorem KpM.of {B : Nat} {X Y : World} (h : Below X.heap.size X Y) : KpM B X Y :=
 ⟨h.size, fun k _ h1 _ => (h.block k (Array.getElem?_eq_some_iff.1 h1).1).trans h1, fun k _ _ h1 _ => (h.block k (Array.getElem?_eq_some_iff.1 h1).1).trans h1⟩
theorem KpM.b {B : Nat} (W : World) (l : Nat) (o o' : Obj) (h : W.heap[l]? = some o) (hc : o.isCells = false) (hw : o.isWalk = false) : KpM B W (W.putObj l o') := by
 have hs : ∀ b, b ≠ l → (W.putObj l o').heap[b]? = W.heap[b]? := fun b hb => World.putObj_heap_other hb; refine ⟨by simp, fun k x h1 h2 => ?_, fun k x _ h1 h2 => ?_⟩
 ·
  by_cases e : k = l
  ·
   subst e; rw [h] at h1; cases h1; rw [hc] at h2; cases h2
  ·
   rw [hs k e]; exact h1
 ·
  by_cases e : k = l
  ·
   subst e; rw [h] at h1; cases h1; rw [hw] at h2; cases h2
  ·
   rw [hs k e]; exact h1
theorem KpM.cell {B : Nat} {W W' : World} (h : KpM B W W') {b o : Nat} {v : Value} (hc : W.cell? ⟨b, o, none⟩ = some v) : W'.cell? ⟨b, o, none⟩ = some v := by
 rw [← hc]; refine World.cell?_of_block ?_; cases hx : W.heap[b]? with
 | none => simp [World.cell?, hx] at hc
 | some x =>
  cases x with
  | cells cs t f => exact h.cells b _ hx rfl
  | _ => simp [World.cell?, hx] at hc
end Go.Proofs.YteppodogghjfhaaGreatDoor.Mk
namespace Go.Proofs.YteppodogghjfhaaGreatDoor.Mk
open Go.RowKit Go.Shelf Go.Lib Go.Maps
attribute [local go_sem] Oper.semAt_some
end Go.Proofs.YteppodogghjfhaaGreatDoor.Mk
