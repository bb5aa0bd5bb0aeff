import Derived.Lib.QuietBelow
import Derived.Test.YtafeddiijemnbaaGreatDoorHPk17
import Derived.Test.YtafeddiijemnbaaGreatDoorHPk29
namespace Go.Proofs.YtafeddiijemnbaaGreatDoor
open Go.RowKit Go.Lib Go.Sort
def But (g : Nat) (w w' : World) : Prop := w'.os = w.os ∧ w'.tape = w.tape ∧ w'.output = w.output ∧ w.heap.size ≤ w'.heap.size ∧ ∀ b, b < w.heap.size → b ≠ g → w'.heap[b]? = w.heap[b]?
theorem But.refl (g : Nat) (w : World) : But g w w := ⟨rfl, rfl, rfl, Nat.le_refl _, fun _ _ _ => rfl⟩
theorem But.trans {r : Nat} {a b c : World} (h : But r a b) (k : But r b c) : But r a c :=
 ⟨k.1.trans h.1, k.2.1.trans h.2.1, k.2.2.1.trans h.2.2.1, Nat.le_trans h.2.2.2.1 k.2.2.2.1, fun x hx hr => (k.2.2.2.2 x (Nat.lt_of_lt_of_le hx h.2.2.2.1) hr).trans (h.2.2.2.2 x hx hr)⟩
theorem row_entsE {w : World} {base : Nat} {v : Value} {es : List E} (h : OwnE w base v es) :
  ∃ a g cap, v = .slice a es.length cap ∧ (0 < es.length → a = some ⟨g, 0, none⟩) ∧ Ents w g 0 es ∧ Room w g (es.length * 3) ∧ base ≤ g := by
 have hc := fun (g : Nat) (hg : v.ownBlock = some g) => World.ownsRow.cells h hg; obtain ⟨_, ⟨rfl, e0⟩ | ⟨g, cap, cur, rfl, hb, hg, hcap, _, hsz, _⟩⟩ := h
 ·
  exact ⟨none, base, 0, by rw [e0], fun h => by omega, fun i hi => by omega, fun i hi => by omega, Nat.le_refl _⟩
 ·
  refine ⟨_, g, cap, rfl, fun _ => rfl, fun i hi => ?_, fun i hi => ⟨?_, ?_⟩, hb⟩
  ·
   obtain ⟨q0, q1, q2⟩ := rowE_at es i hi; refine ⟨?_, ?_, ?_⟩
   ·
    have := hc g rfl _ _ q0; rw [add0] at this; exact this
   ·
    have := hc g rfl _ _ q1; rw [add0, ← Nat.add_assoc] at this; exact this
   ·
    have := hc g rfl _ _ q2; rw [add0, ← Nat.add_assoc] at this; exact this
  ·
   have hi' : i < (rowE es).length := by rw [rowE_len]; exact hi
   have := hc g rfl i _ (List.getElem?_eq_getElem hi'); rw [add0, Nat.zero_add] at this; exact ⟨_, this⟩
  ·
   unfold World.frozen?; rw [hg]; simp
end Go.Proofs.YtafeddiijemnbaaGreatDoor
