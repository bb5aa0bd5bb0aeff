import Derived.WalkKit
import Derived.OwnWalk
import Derived.WalkSpells
import Derived.WalkLawsBesides
import Derived.Laws.BitsAllLaws
import Derived.Laws.Pointers
import Derived.Deep.QuietTactic
import Derived.BigQuiet
import Derived.Outline
import Derived.Below
import Derived.Test.YteppodogghjfhaaGreatDoorProg
namespace Go.Proofs.YteppodogghjfhaaGreatDoor
open Go.RowKit Go.Lib
def Rd (w : World) (r p : Nat) : Prop := ∃ (a : Option Addr) (xb xo len cap : Nat), w.cell? ⟨r, 0, none⟩ = some (.slice a len cap) ∧ w.cell? ⟨r, 1, none⟩ = some (.int .i64 p) ∧ w.frozen? ⟨r, 1, none⟩ = false ∧
 len ≤ 2000 ∧ (0 < len → a = some ⟨xb, xo, none⟩ ∧ xb < r) ∧ ∀ i, i < len → ∃ z : Int, w.cell? ⟨xb, xo + i, none⟩ = some (.int .u8 z) ∧ 0 ≤ z ∧ z ≤ 255
def Kept (r : Nat) (w w' : World) : Prop := w'.os = w.os ∧ w'.tape = w.tape ∧ w'.output = w.output ∧ w.heap.size ≤ w'.heap.size ∧ ∀ b, b < w.heap.size → b ≠ r → w'.heap[b]? = w.heap[b]?
theorem cell_ltR {W : World} {b o : Nat} {v : Value} (h : W.cell? ⟨b, o, none⟩ = some v) : b < W.heap.size := World.block_lt_of_cell? W ⟨b, o, none⟩ h
theorem Kept.trans {r : Nat} {a b c : World} (h : Kept r a b) (k : Kept r b c) : Kept r a c :=
 ⟨k.1.trans h.1, k.2.1.trans h.2.1, k.2.2.1.trans h.2.2.1, Nat.le_trans h.2.2.2.1 k.2.2.2.1, fun x hx hr => (k.2.2.2.2 x (Nat.lt_of_lt_of_le hx h.2.2.2.1) hr).trans (h.2.2.2.2 x hx hr)⟩
theorem Kept.of_below {r : Nat} {w w' : World} (h : Below w.heap.size w w') : Kept r w w' := ⟨h.os, h.tape, h.output, h.size, fun b hb _ => h.block b hb⟩
theorem Kept.below {r : Nat} {w w' : World} (h : Kept r w w') {B : Nat} (hB : B ≤ r) (hr : r ≤ w.heap.size) : Below B w w' :=
 ⟨h.1, h.2.1, h.2.2.1, h.2.2.2.1, fun k hk => h.2.2.2.2 k (by omega) (by omega)⟩
theorem Kept.cell {r : Nat} {w w' : World} (h : Kept r w w') {b o : Nat} {v : Value} (hb : b ≠ r) (hc : w.cell? ⟨b, o, none⟩ = some v) : w'.cell? ⟨b, o, none⟩ = some v :=
 (World.cell?_of_block (h.2.2.2.2 b (cell_ltR hc) hb)).trans hc
theorem Kept.set {r : Nat} (w : World) (o : Nat) (v : Value) (q : Nat) : Kept r w ((w.setCell ⟨r, o, none⟩ v).drewN q) :=
 ⟨rfl, rfl, rfl, by show w.heap.size ≤ (w.heap.modify _ _).size; rw [Array.size_modify]; exact Nat.le_refl _, fun b _ hr => Below.heap_setCell w ⟨r, o, none⟩ v b hr⟩
theorem Rd.lt {w : World} {r p : Nat} (h : Rd w r p) : r < w.heap.size := by
 obtain ⟨_, _, _, _, _, c0, _⟩ := h; exact cell_ltR c0
theorem Rd.below {w w' : World} {r p : Nat} (h : Rd w r p) (hb : Below w.heap.size w w') : Rd w' r p := by
 have hr := h.lt; obtain ⟨a, xb, xo, len, cap, c0, c1, f1, hl, ha, hz⟩ := h; refine ⟨a, xb, xo, len, cap, (hb.cell (p := ⟨r, 0, none⟩) hr).trans c0, (hb.cell (p := ⟨r, 1, none⟩) hr).trans c1, (hb.frozen (p := ⟨r, 1, none⟩) hr).trans f1, hl, ha, fun i hi => ?_⟩; obtain ⟨z, cz, z0, z1⟩ := hz i hi; exact ⟨z, (hb.cell (p := ⟨xb, xo + i, none⟩) (cell_ltR cz)).trans cz, z0, z1⟩
end Go.Proofs.YteppodogghjfhaaGreatDoor
