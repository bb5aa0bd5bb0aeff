import Derived.Test.YtafeddiijemnbaaGreatDoorHPk05
import Derived.Test.YtafeddiijemnbaaGreatDoorHPk29
import Derived.Test.YtafeddiijemnbaaGreatDoorHTxBuf
namespace Go.Proofs.YtafeddiijemnbaaGreatDoor
open Go.RowKit Go.Lib
structure OnlyB (b : Nat) (w w' : World) : Prop where
 os : w'.os = w.os
 tape : w'.tape = w.tape
 output : w'.output = w.output
 size : w'.heap.size = w.heap.size
 block : ∀ k, k ≠ b → w'.heap[k]? = w.heap[k]?
theorem OnlyB.trans {b : Nat} {x y z : World} (h : OnlyB b x y) (k : OnlyB b y z) : OnlyB b x z :=
 ⟨k.os.trans h.os, k.tape.trans h.tape, k.output.trans h.output, k.size.trans h.size, fun i hi => (k.block i hi).trans (h.block i hi)⟩
theorem OnlyB.refl (b : Nat) (w : World) : OnlyB b w w := ⟨rfl, rfl, rfl, rfl, fun _ _ => rfl⟩
theorem OnlyB.setRow (b : Nat) (w : World) (cs : Array Value) : OnlyB b w (w.setRow b cs) := ⟨rfl, rfl, rfl, setRow_size _ _ _, fun k hk => setRow_other w b k cs hk⟩
theorem OnlyB.below {b n : Nat} {x y z : World} (h : Below n x y) (k : OnlyB b y z) (hb : n ≤ b) : Below n x z :=
 ⟨k.os.trans h.os, k.tape.trans h.tape, k.output.trans h.output, by rw [k.size]; exact h.size, fun i hi => (k.block i (by omega)).trans (h.block i hi)⟩
end Go.Proofs.YtafeddiijemnbaaGreatDoor
