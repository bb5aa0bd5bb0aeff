/-
  The walk of the model's draw of a tree and of what is done, whatever the code.
-/
import Derived.Test.YtanldphkkoglkaaGreatDoorHDrawBent
namespace Go.Proofs.YtanldphkkoglkaaGreatDoor
open Go.RowKit Go.Lib

theorem small_tree {es : List E} (h : treeE es = true) : Small 16 es := ⟨(tree_sizes h).1, (tree_sizes h).2⟩

theorem B3' {a b c : World} (h : Below a.heap.size a b) (k : Below b.heap.size b c) : Below a.heap.size a c := h.trans (k.mono h.size)
theorem Bx.below {W W' : World} {b n : Nat} {k : Int} {p t x : ByteArray} (h : Bx W b k p t x) (hB : Below n W W') (hb : b < n) : Bx W' b k p t x := by
  have hh := hB.block b hb
  exact ⟨(World.cell?_of_block (w := W) (a := ⟨b, 0, none⟩) hh).trans h.c0, (World.cell?_of_block (w := W) (a := ⟨b, 1, none⟩) hh).trans h.c1, (World.cell?_of_block (w := W) (a := ⟨b, 2, none⟩) hh).trans h.c2, (World.cell?_of_block (w := W) (a := ⟨b, 3, none⟩) hh).trans h.c3,
    (World.frozen?_of_block (w := W) (a := ⟨b, 0, none⟩) hh).trans h.f0, (World.frozen?_of_block (w := W) (a := ⟨b, 1, none⟩) hh).trans h.f1, (World.frozen?_of_block (w := W) (a := ⟨b, 2, none⟩) hh).trans h.f2, (World.frozen?_of_block (w := W) (a := ⟨b, 3, none⟩) hh).trans h.f3⟩
theorem Bx.bel {W W' : World} {b : Nat} {k : Int} {p t x : ByteArray} (h : Bx W b k p t x) (hB : Below W.heap.size W W') : Bx W' b k p t x := h.below hB (cell_ltR h.c0)
theorem fin4B {w W : World} {b n : Nat} {k k' : Int} {p t x p' t' x' : ByteArray} {C : World → Prop} (h : Bx W b k p t x) (hB : Below n w W) (hb : n ≤ b)
    (H : ∀ Wf, Bx Wf b k' p' t' x' → Below n w Wf → Kept b W Wf → C Wf) : C ((((W.setCell ⟨b, 0, none⟩ (.int .i64 k')).setCell ⟨b, 1, none⟩ (.string p')).setCell ⟨b, 2, none⟩ (.string t')).setCell ⟨b, 3, none⟩ (.string x')) :=
  H _ ((((h.set0 k').set1 p').set2 t').set3 x')
    ((((hB.setCell (p := ⟨b, 0, none⟩) hb _).setCell (p := ⟨b, 1, none⟩) hb _).setCell (p := ⟨b, 2, none⟩) hb _).setCell (p := ⟨b, 3, none⟩) hb _)
    ((((Kept.setCell W 0 _).trans (Kept.setCell _ 1 _)).trans (Kept.setCell _ 2 _)).trans (Kept.setCell _ 3 _))

end Go.Proofs.YtanldphkkoglkaaGreatDoor
