import Derived.Lib.BufSteps
import Derived.Laws.IdiomStrings
namespace Go.Proofs.YtafeddiijemnbaaGreatDoor
open Go.RowKit Go.Lib
def KN (e : TypeId) (W w : World) : Prop := ∀ (k : Nat) (o : Obj), W.heap[k]? = some o → (∀ cs fz, o ≠ Obj.cells cs e fz) → w.heap[k]? = some o
theorem KN.refl (e : TypeId) (W : World) : KN e W W := fun _ _ h _ => h
theorem KN.trans {e : TypeId} {a b c : World} (h : KN e a b) (k : KN e b c) : KN e a c := fun i o hi ho => k i o (h i o hi ho) ho
structure BufB (B : Nat) (e : TypeId) (v : Value) (s : ByteArray) (W w : World) : Prop where
 own : w.ownsRowF B e 1 v s.size (strCells s)
 below : Below B W w
 base : B ≤ w.heap.size
 kn : KN e W w
theorem BufB.nil (e : TypeId) {B : Nat} {W : World} (hB : B ≤ W.heap.size) : BufB B e (.slice none 0 0) ⟨#[]⟩ W W :=
 ⟨World.ownsRowF_nil W B e 1, Below.refl _ _, hB, KN.refl e W⟩
theorem BufB.from {B : Nat} {e : TypeId} {v : Value} {s : ByteArray} {W w : World} (h : BufB B e v s W w) : BufB B e v s w w := ⟨h.own, Below.refl _ _, h.base, KN.refl _ _⟩
section
variable {P : Program}
end
end Go.Proofs.YtafeddiijemnbaaGreatDoor
