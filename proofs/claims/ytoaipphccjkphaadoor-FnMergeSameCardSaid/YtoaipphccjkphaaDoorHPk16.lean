import Derived.WalkKit
import Derived.OwnWalk
import Derived.WalkSpells
import Derived.WalkLawsBesides
import Derived.Laws.Pointers
import Derived.Deep.QuietTactic
import Derived.BigQuiet
import Derived.Outline
import Derived.Below
import Derived.Lib.QuietBelow
import Derived.Test.YtoaipphccjkphaaDoorProg
import Derived.Test.YtoaipphccjkphaaDoorHEntsDef
import Derived.Laws.StructEq
import Derived.Laws.Small
import Derived.KernelRfl
import Derived.Laws.Tables
import Derived.Lib.FrozenHead

namespace Go.Proofs.YtoaipphccjkphaaDoor
open Go.RowKit Go.Lib
theorem eq_ent (a b c a' b' c' : _) (w : World) : (Op.equalIn 10000 27 (.agg #[.string a, .bool b, .string c]) (.agg #[.string a', .bool b', .string c'])).run Tryd.prog w = .ok ((a.toList == a'.toList) && (b == b') && (c.toList == c'.toList)) w := by
 have u9 := Tryd.underlying9; have u4 := Tryd.underlying4; have a9 := Tryd.isAgg9; have a4 := Tryd.isAgg4; have z9 := Tryd.sizeOf9; have z4 := Tryd.sizeOf4; have hS : Tryd.prog.underlying 27 = some (.struct (Tryd.prog.fieldsOf 27)) := by kernel_rfl
 have hp : Tryd.prog.stoodInHeld 27 = false := by kernel_rfl
 rw [show (10000 : Nat) = 9999 + 1 from rfl, run_equalIn_agg w 9999 27 _ _ hS hp]; simp only [Program.fieldsOf, Tryd.underlying27]; go_simp; cases h1 : (a.toList == a'.toList) <;> cases h2 : (b == b') <;> cases h3 : (c.toList == c'.toList) <;> simp_all
theorem guard_ent (op : BinOp) (x y : Operand) (xs ys : Array Value) (w : World) : (eqGuard op 27 x y (.agg xs) (.agg ys)).run Tryd.prog w = .ok () w := run_eqGuard_agg w op 27 x y xs ys (by kernel_rfl)
structure OnlyB3 (b : Nat) (w w' : World) : Prop where
 os : w'.os = w.os
 tape : w'.tape = w.tape
 output : w'.output = w.output
 size : w'.heap.size = w.heap.size
 block : ∀ k, k ≠ b → w'.heap[k]? = w.heap[k]?
theorem OnlyB3.trans {b : Nat} {x y z : World} (h : OnlyB3 b x y) (k : OnlyB3 b y z) : OnlyB3 b x z :=
 ⟨k.os.trans h.os, k.tape.trans h.tape, k.output.trans h.output, k.size.trans h.size, fun i hi => (k.block i hi).trans (h.block i hi)⟩
theorem OnlyB3.setRow (b : Nat) (w : World) (cs : Array Value) : OnlyB3 b w (w.setRow b cs) := ⟨rfl, rfl, rfl, setRow_size _ _ _, fun k hk => setRow_other w b k cs hk⟩
theorem OnlyB3.below {b n : Nat} {x y z : World} (k : OnlyB3 b y z) (h : Below n x y) (hb : n ≤ b) : Below n x z :=
 ⟨k.os.trans h.os, k.tape.trans h.tape, k.output.trans h.output, by rw [k.size]; exact h.size, fun i hi => (k.block i (by omega)).trans (h.block i hi)⟩
theorem cell_off3 (w : World) (b i j : Nat) (v : Value) (h : i ≠ j) : (w.setCell ⟨b, i, none⟩ v).cell? ⟨b, j, none⟩ = w.cell? ⟨b, j, none⟩ := World.cell?_setCell_other _ _ _ _ (fun q => by have e := congrArg Addr.off q; dsimp only at e; omega)
theorem set3_rules {w : World} {b : Nat} {c0 c1 c2 : Value} {T : TypeId} (h : w.heap[b]? = some (.cells #[c0, c1, c2] T (0, 0))) :
  (w.cell? ⟨b, 0, none⟩ = some c0 ∧ w.frozen? ⟨b, 0, none⟩ = false) ∧ (∀ u, (w.setCell ⟨b, 0, none⟩ u).cell? ⟨b, 1, none⟩ = some c1 ∧ (w.setCell ⟨b, 0, none⟩ u).frozen? ⟨b, 1, none⟩ = false) ∧
  (∀ u x, ((w.setCell ⟨b, 0, none⟩ u).setCell ⟨b, 1, none⟩ x).cell? ⟨b, 2, none⟩ = some c2 ∧ ((w.setCell ⟨b, 0, none⟩ u).setCell ⟨b, 1, none⟩ x).frozen? ⟨b, 2, none⟩ = false) := by
 have hf : ∀ j, w.frozen? ⟨b, j, none⟩ = false := fun j => by simp [World.frozen?, h]
 have hc : ∀ j, w.cell? ⟨b, j, none⟩ = #[c0, c1, c2][j]? := fun j => cell_of_row w b j _ _ _ h; refine ⟨⟨hc 0, hf 0⟩, fun u => ⟨?_, ?_⟩, fun u x => ⟨?_, ?_⟩⟩
 ·
  rw [cell_off3 _ _ _ _ _ (by omega)]; exact hc 1
 ·
  rw [World.frozen?_setCell]; exact hf 1
 ·
  rw [cell_off3 _ _ _ _ _ (by omega), cell_off3 _ _ _ _ _ (by omega)]; exact hc 2
 ·
  rw [World.frozen?_setCell, World.frozen?_setCell]; exact hf 2
theorem set3_is {w : World} {b : Nat} {c0 c1 c2 : Value} {T : TypeId} (h : w.heap[b]? = some (.cells #[c0, c1, c2] T (0, 0))) (u x y : Value) :
  OnlyB3 b w (((w.setCell ⟨b, 0, none⟩ u).setCell ⟨b, 1, none⟩ x).setCell ⟨b, 2, none⟩ y) ∧ (((w.setCell ⟨b, 0, none⟩ u).setCell ⟨b, 1, none⟩ x).setCell ⟨b, 2, none⟩ y).heap[b]? = some (.cells #[u, x, y] T (0, 0)) := by
 rw [setCell_eq_setRow w b 0 _ T (0, 0) u h]; have h1 := setRow_heap w b _ (#[c0, c1, c2].setIfInBounds 0 u) T (0, 0) h; rw [setCell_eq_setRow _ b 1 _ T (0, 0) x h1]; have h2 := setRow_heap _ b _ ((#[c0, c1, c2].setIfInBounds 0 u).setIfInBounds 1 x) T (0, 0) h1; rw [setCell_eq_setRow _ b 2 _ T (0, 0) y h2]; exact ⟨((OnlyB3.setRow b w _).trans (OnlyB3.setRow b _ _)).trans (OnlyB3.setRow b _ _), setRow_heap _ b _ _ T (0, 0) h2⟩
end Go.Proofs.YtoaipphccjkphaaDoor
