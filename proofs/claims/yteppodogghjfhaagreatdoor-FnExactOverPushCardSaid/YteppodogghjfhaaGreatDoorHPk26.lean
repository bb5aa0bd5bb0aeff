import Derived.OpenShut
import Derived.Test.YteppodogghjfhaaGreatDoorHPick
import Derived.Test.YteppodogghjfhaaGreatDoorHPk19
namespace Go.Proofs.YteppodogghjfhaaGreatDoor
open Go.RowKit Go.Lib
def Cod (w : World) (a : Option Addr) (len cap : Nat) : Prop := ∃ xb xo, (0 < len → a = some ⟨xb, xo, none⟩ ∧ xb < w.heap.size) ∧ len ≤ cap ∧ ∀ i, i < len → ∃ z : Int, w.cell? ⟨xb, xo + i, none⟩ = some (.int .u8 z) ∧ 0 ≤ z ∧ z ≤ 255
theorem Cod.below {w w' : World} {a : Option Addr} {len cap : Nat} (h : Cod w a len cap) (hb : Below w.heap.size w w') : Cod w' a len cap := by
 obtain ⟨xb, xo, ha, hlc, hz⟩ := h; refine ⟨xb, xo, fun h0 => ⟨(ha h0).1, Nat.lt_of_lt_of_le (ha h0).2 hb.size⟩, hlc, fun i hi => ?_⟩; obtain ⟨z, cz, z0, z1⟩ := hz i hi; exact ⟨z, (hb.cell (p := ⟨xb, xo + i, none⟩) (cell_ltR cz)).trans cz, z0, z1⟩
theorem B3 {a b c : World} (h : Below a.heap.size a b) (k : Below b.heap.size b c) : Below a.heap.size a c := h.trans (k.mono h.size)
def Kn (n r : Nat) (w w' : World) : Prop := w'.os = w.os ∧ w'.tape = w.tape ∧ w'.output = w.output ∧ w.heap.size ≤ w'.heap.size ∧ ∀ b, b < n → b ≠ r → w'.heap[b]? = w.heap[b]?
theorem Kn.kept {r : Nat} {a b : World} (h : Kn a.heap.size r a b) : Kept r a b := h
theorem Kept.setCell {r : Nat} (w : World) (o : Nat) (v : Value) : Kept r w (w.setCell ⟨r, o, none⟩ v) := by
 have := Kept.set (r := r) w o v 0; exact this
end Go.Proofs.YteppodogghjfhaaGreatDoor
