import Derived.Test.YteppodogghjfhaaGreatDoorHPk43
import Derived.Test.YteppodogghjfhaaGreatDoorHPk12
import Derived.Test.YteppodogghjfhaaGreatDoorHPk05
namespace Go.Proofs.YteppodogghjfhaaGreatDoor.Mk
open Go.RowKit Go.Shelf Go.Lib Go.Maps
attribute [local go_sem] Oper.semAt_some
def KeepsA (W W' : World) : Prop := ∀ (k : Nat) (o : Obj), W.heap[k]? = some o → (o.isCells = true ∨ o.isWalk = true) → W'.heap[k]? = some o
theorem keepsA_of {W W' : World} {row : Option Nat} (hg : W.grownBy W' row) (hr : ∀ r, row = some r → ∃ o : Obj, W.heap[r]? = some o ∧ o.isCells = false ∧ o.isWalk = false) : KeepsA W W' := fun k o hk ho =>
 (hg.block k (Array.getElem?_eq_some_iff.1 hk).1 (fun e => by
  obtain ⟨o', h1, h2, h3⟩ := hr k e.symm; rw [hk] at h1; cases h1; rcases ho with q | q
  ·
   rw [h2] at q; cases q
  ·
   rw [h3] at q; cases q)).trans hk
theorem Rep.keepsA {W W' : World} {base N : Nat} {es : List E} {A : ByteArray → Nat} (R : Rep W base N es A) (h : KeepsA W W') : Rep W' base N es A :=
 ⟨fun p hp => (R.kids p hp).kept (by obtain ⟨D, n, ⟨es, c, h1, _⟩, _⟩ := R.kids p hp; rw [h1]; exact h _ _ h1 (.inr rfl)), R.low, R.apart⟩
theorem cell_keepsA {W W' : World} (h : KeepsA W W') {b o : Nat} {v : Value} (hc : W.cell? ⟨b, o, none⟩ = some v) : W'.heap[b]? = W.heap[b]? := by
 cases hx : W.heap[b]? with
 | none => simp [World.cell?, hx] at hc
 | some x =>
  cases x with
  | cells cs t f => exact h b _ hx (.inl rfl)
  | _ => simp [World.cell?, hx] at hc
theorem Box2.keepsA {W W' : World} {b : Nat} {u v : Value} (x : Box2 W b u v) (h : KeepsA W W') : Box2 W' b u v := by
 have hb := cell_keepsA h x.c0; exact ⟨(World.cell?_of_block (w := W) (a := ⟨b, _, none⟩) hb).trans x.c0, (World.cell?_of_block (w := W) (a := ⟨b, _, none⟩) hb).trans x.c1, (World.frozen?_of_block (w := W) (a := ⟨b, _, none⟩) hb).trans x.f0, (World.frozen?_of_block (w := W) (a := ⟨b, _, none⟩) hb).trans x.f1⟩
theorem Rep.look {w : World} {base N : Nat} {es fs : List E} {A : ByteArray → Nat} (R : Rep w base N es A) (h : ∀ s, lookE es s = lookE fs s) : Rep w base N fs A := by
 have hat : ∀ p, AtM fs p → AtM es p := fun p hp => hp.imp id fun ⟨e, he⟩ => ⟨e, by rw [h]; exact he⟩; refine ⟨fun p hp => (R.kids p (hat p hp)).congr fun n => ?_, fun p hp => R.low p (hat p hp), fun p q hp hq => R.apart p q (hat p hp) (hat q hq)⟩; unfold kidF; rw [h]
end Go.Proofs.YteppodogghjfhaaGreatDoor.Mk
