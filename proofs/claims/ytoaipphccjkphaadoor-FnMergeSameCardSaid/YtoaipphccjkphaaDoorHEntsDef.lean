import Derived.WalkKit
import Derived.OwnWalk
import Derived.Outline
import Derived.Below
import Derived.Test.YtoaipphccjkphaaDoorHPk00
namespace Go.Proofs.YtoaipphccjkphaaDoor
open Go.RowKit Go.Lib
abbrev encE (e : E) : Value := .agg #[.string e.p, .bool e.d, .string e.x]
def Ents (w : World) (g o : Nat) (es : List E) : Prop :=
 ∀ i (h : i < es.length), w.cell? ⟨g, o + i * 3, none⟩ = some (.string es[i].p) ∧ w.cell? ⟨g, o + i * 3 + 1, none⟩ = some (.bool es[i].d) ∧ w.cell? ⟨g, o + i * 3 + 2, none⟩ = some (.string es[i].x)
theorem hidE {p : Prop} (h : p) : Hid p := h
theorem ret_bE {a b : Bool} (h : a = b) : Ending.returned (.bool a) = .returned (.bool b) := by rw [h]
theorem ret_iE {k : IntKind} {a b : Int} (h : a = b) : Ending.returned (.int k a) = .returned (.int k b) := by rw [h]
theorem Ents.take {w : World} {g o : Nat} {es : List E} (h : Ents w g o es) (k : Nat) : Ents w g o (es.take k) := by
 intro i hi; rw [List.length_take] at hi; have := h i (by omega); rw [List.getElem_take]; exact this
theorem Ents.below {w w' : World} {g o : Nat} {es : List E} (h : Ents w g o es) (hb : Below w.heap.size w w') : Ents w' g o es := by
 intro i hi; obtain ⟨c0, c1, c2⟩ := h i hi; have hg : g < w.heap.size := World.block_lt_of_cell? w ⟨g, _, none⟩ c0; exact ⟨(hb.cell (p := ⟨g, _, none⟩) hg).trans c0, (hb.cell (p := ⟨g, _, none⟩) hg).trans c1, (hb.cell (p := ⟨g, _, none⟩) hg).trans c2⟩
end Go.Proofs.YtoaipphccjkphaaDoor
