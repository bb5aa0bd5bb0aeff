import Derived.Test.YteppodogghjfhabGreatDoorHPk43
import Derived.Test.YteppodogghjfhabGreatDoorHPk12
import Derived.Test.YteppodogghjfhabGreatDoorHPk05
namespace Go.Proofs.YteppodogghjfhabGreatDoor.Mk
open Go.RowKit Go.Shelf Go.Lib Go.Maps
attribute [local go_sem] Oper.semAt_some
theorem hides_of {d : Int} (hd : 1 ≤ d ∧ d ≤ 4) (x : ByteArray) : ∃ (t : TypeId) (u : Value) (f : FuncId), signV d x = .iface t u ∧ (∀ W, (method 344 t u "loop.example/pargeting/impl.hides").run Tryz.prog W = .ok (f, u) W) ∧ (∀ args W, (callFunc f args).run Tryz.prog W = .ok (.enter f args) W) ∧
  ∀ (W : World), Calls Tryz.prog f #[u] W fun e w' => e = .returned (.bool (d != 2)) ∧ Below W.heap.size W w' := by
 rcases (by omega : d = 1 ∨ d = 2 ∨ d = 3 ∨ d = 4) with rfl | rfl | rfl | rfl
 ·
  exact ⟨_, _, 210, sign1 x, fun _ => by kernel_rfl, enters_of Tryz.func210 (by kernel_rfl) rfl, fun W => hides1_any x W⟩
 ·
  exact ⟨_, _, 207, sign2 _, fun _ => by kernel_rfl, enters_of Tryz.func207 (by kernel_rfl) rfl, fun W => hides2_any W⟩
 ·
  exact ⟨_, _, 201, sign3 _, fun _ => by kernel_rfl, enters_of Tryz.func201 (by kernel_rfl) rfl, fun W => hides3_any W⟩
 ·
  exact ⟨_, _, 204, sign4 _, fun _ => by kernel_rfl, enters_of Tryz.func204 (by kernel_rfl) rfl, fun W => hides4_any W⟩
def KeepsA (W W' : World) : Prop := ∀ (k : Nat) (o : Obj), W.heap[k]? = some o → (o.isCells = true ∨ o.isWalk = true) → W'.heap[k]? = some o
theorem keepsA_of {W W' : World} {row : Option Nat} (hg : W.grownBy W' row) (hr : ∀ r, row = some r → ∃ o : Obj, W.heap[r]? = some o ∧ o.isCells = false ∧ o.isWalk = false) : KeepsA W W' := fun k o hk ho =>
 (hg.block k (Array.getElem?_eq_some_iff.1 hk).1 (fun e => by
  obtain ⟨o', h1, h2, h3⟩ := hr k e.symm; rw [hk] at h1; cases h1; rcases ho with q | q
  ·
   rw [h2] at q; cases q
  ·
   rw [h3] at q; cases q)).trans hk
theorem Rep.keepsA {W W' : World} {base N : Nat} {es : List E} {A : ByteArray → Nat} (R : Rep W base N es A) (h : KeepsA W W') : Rep W' base N es A :=
 ⟨fun p hp => (R.kids p hp).kept (by obtain ⟨D, n, ⟨es, c, h1, _⟩, _⟩ := R.kids p hp; rw [h1]; exact h _ _ h1 (.inr rfl)), R.low, R.apart⟩
theorem cell_keepsA {W W' : World} (h : KeepsA W W') {b o : Nat} {v : Value} (hc : W.cell? ⟨b, o, none⟩ = some v) : W'.heap[b]? = W.heap[b]? := by
 cases hx : W.heap[b]? with
 | none => simp [World.cell?, hx] at hc
 | some x =>
  cases x with
  | cells cs t f => exact h b _ hx (.inl rfl)
  | _ => simp [World.cell?, hx] at hc
theorem Box2.keepsA {W W' : World} {b : Nat} {u v : Value} (x : Box2 W b u v) (h : KeepsA W W') : Box2 W' b u v := by
 have hb := cell_keepsA h x.c0; exact ⟨(World.cell?_of_block (w := W) (a := ⟨b, _, none⟩) hb).trans x.c0, (World.cell?_of_block (w := W) (a := ⟨b, _, none⟩) hb).trans x.c1, (World.frozen?_of_block (w := W) (a := ⟨b, _, none⟩) hb).trans x.f0, (World.frozen?_of_block (w := W) (a := ⟨b, _, none⟩) hb).trans x.f1⟩
theorem Rep.look {w : World} {base N : Nat} {es fs : List E} {A : ByteArray → Nat} (R : Rep w base N es A) (h : ∀ s, lookE es s = lookE fs s) : Rep w base N fs A := by
 have hat : ∀ p, AtM fs p → AtM es p := fun p hp => hp.imp id fun ⟨e, he⟩ => ⟨e, by rw [h]; exact he⟩; refine ⟨fun p hp => (R.kids p (hat p hp)).congr fun n => ?_, fun p hp => R.low p (hat p hp), fun p q hp hq => R.apart p q (hat p hp) (hat q hq)⟩; unfold kidF; rw [h]
theorem KeepsL.turn {B base : Nat} {X Y : World} (h : Turn base X Y) : KeepsL B X Y :=
 ⟨h.below.size, fun k o _ h1 _ h3 => h.cells k o h1 (fun es c e => by rw [e] at h3; cases h3)⟩
theorem putq_any (base N : Nat) (es : List E) (A : ByteArray → Nat) (T : TrM es) (w : World) (R : Rep w base N es A) (hb : base ≤ w.heap.size) (hN : N < 1000) (p : ByteArray) (hp : p.size ≤ 16777216) (d : Int) (x : ByteArray) (hpb : pathB p = true)
  (hA : upS p = ⟨#[47]⟩ ∨ ∃ f, lookE es (upS p) = some f ∧ dirK f.d = true) (hold : lookE es p = none) :
  Calls Tryz.prog 96 #[layV A, .string p, signV d x] w fun e w' => (∃ v, e = .returned v) ∧ Turn base w w' ∧ ∃ A', A' ⟨#[47]⟩ = A ⟨#[47]⟩ ∧ Rep w' base (N + 1) (putE es ⟨p, d, x⟩) A' :=
 (put_any base N es A T w R hb hN p hp d x hpb (hA.imp id fun ⟨f, h, _⟩ => ⟨f, h⟩) hold).mono fun _ _ ⟨h1, h2, A', h3, h4⟩ => ⟨h1, h2, A', h3, h4.look fun s => put_app T.sort hold s⟩
end Go.Proofs.YteppodogghjfhabGreatDoor.Mk
