/-
  A box of three cells.
-/
import Derived.Test.YtnepnahjiilnoaaDoorHMkWalkBase
import Derived.Below
namespace Go.Proofs.YtnepnahjiilnoaaDoor.Mk
open Go.RowKit Go.Lib

structure Box3 (W : World) (b : Nat) (u v x : Value) : Prop where
  c0 : W.cell? ⟨b, 0, none⟩ = some u
  c1 : W.cell? ⟨b, 1, none⟩ = some v
  c2 : W.cell? ⟨b, 2, none⟩ = some x
  f0 : W.frozen? ⟨b, 0, none⟩ = false
  f1 : W.frozen? ⟨b, 1, none⟩ = false
  f2 : W.frozen? ⟨b, 2, none⟩ = false
theorem Box3.new (w : World) (u v x : Value) (T : TypeId) : Box3 (w.alloc (.cells #[u, v, x] T)) w.heap.size u v x := ⟨by simp, by simp, by simp, by simp, by simp, by simp⟩
theorem Box3.lt {W : World} {b : Nat} {u v x : Value} (h : Box3 W b u v x) : b < W.heap.size := World.block_lt_of_cell? W ⟨b, 0, none⟩ h.c0
theorem Box3.below {W W' : World} {b : Nat} {u v x : Value} (h : Box3 W b u v x) (hB : Below W.heap.size W W') : Box3 W' b u v x :=
  ⟨(hB.cell (p := ⟨b, 0, none⟩) h.lt).trans h.c0, (hB.cell (p := ⟨b, 1, none⟩) h.lt).trans h.c1, (hB.cell (p := ⟨b, 2, none⟩) h.lt).trans h.c2,
   (World.frozen?_of_block (a := ⟨b, 0, none⟩) (hB.block b h.lt)).trans h.f0, (World.frozen?_of_block (a := ⟨b, 1, none⟩) (hB.block b h.lt)).trans h.f1, (World.frozen?_of_block (a := ⟨b, 2, none⟩) (hB.block b h.lt)).trans h.f2⟩
end Go.Proofs.YtnepnahjiilnoaaDoor.Mk
