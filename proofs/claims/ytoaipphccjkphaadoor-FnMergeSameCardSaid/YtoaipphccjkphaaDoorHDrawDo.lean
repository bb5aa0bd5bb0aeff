import Derived.Test.YtoaipphccjkphaaDoorHDrawBent
namespace Go.Proofs.YtoaipphccjkphaaDoor
open Go.RowKit Go.Lib
theorem small_tree {es : List E} (h : treeE es = true) : Small 16 es := ⟨(tree_sizes h).1, (tree_sizes h).2⟩
theorem B3' {a b c : World} (h : Below a.heap.size a b) (k : Below b.heap.size b c) : Below a.heap.size a c := h.trans (k.mono h.size)
theorem Bx.below {W W' : World} {b n : Nat} {k : Int} {p t x : ByteArray} (h : Bx W b k p t x) (hB : Below n W W') (hb : b < n) : Bx W' b k p t x := by
 have hh := hB.block b hb
 exact ⟨(World.cell?_of_block (w := W) (a := ⟨b, 0, none⟩) hh).trans h.c0, (World.cell?_of_block (w := W) (a := ⟨b, 1, none⟩) hh).trans h.c1, (World.cell?_of_block (w := W) (a := ⟨b, 2, none⟩) hh).trans h.c2, (World.cell?_of_block (w := W) (a := ⟨b, 3, none⟩) hh).trans h.c3,
  (World.frozen?_of_block (w := W) (a := ⟨b, 0, none⟩) hh).trans h.f0, (World.frozen?_of_block (w := W) (a := ⟨b, 1, none⟩) hh).trans h.f1, (World.frozen?_of_block (w := W) (a := ⟨b, 2, none⟩) hh).trans h.f2, (World.frozen?_of_block (w := W) (a := ⟨b, 3, none⟩) hh).trans h.f3⟩
theorem Bx.bel {W W' : World} {b : Nat} {k : Int} {p t x : ByteArray} (h : Bx W b k p t x) (hB : Below W.heap.size W W') : Bx W' b k p t x := h.below hB (cell_ltR h.c0)
end Go.Proofs.YtoaipphccjkphaaDoor
