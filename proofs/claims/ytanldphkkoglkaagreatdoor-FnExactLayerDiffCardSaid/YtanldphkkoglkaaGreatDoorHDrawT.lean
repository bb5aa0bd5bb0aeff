/-
  The walks of the model's draws of what is done, whatever the code: what entries keep.
-/
import Derived.Test.YtanldphkkoglkaaGreatDoorHPk11
import Derived.Test.YtanldphkkoglkaaGreatDoorHTreeDo2
import Derived.Test.YtanldphkkoglkaaGreatDoorHPk05
namespace Go.Proofs.YtanldphkkoglkaaGreatDoor
open Go.RowKit Go.Lib

theorem Ents.kept {w w' : World} {g o b : Nat} {es : List E} (h : Ents w g o es) (k : Kept b w w') (hb : 0 < es.length → g ≠ b) : Ents w' g o es := fun i hi => by
  obtain ⟨c0, c1, c2⟩ := h i hi
  exact ⟨k.cell (hb (by omega)) c0, k.cell (hb (by omega)) c1, k.cell (hb (by omega)) c2⟩

/-- A box of four cells. -/
structure Bx (W : World) (b : Nat) (k : Int) (p t x : ByteArray) : Prop where
  c0 : W.cell? ⟨b, 0, none⟩ = some (.int .i64 k)
  c1 : W.cell? ⟨b, 1, none⟩ = some (.string p)
  c2 : W.cell? ⟨b, 2, none⟩ = some (.string t)
  c3 : W.cell? ⟨b, 3, none⟩ = some (.string x)
  f0 : W.frozen? ⟨b, 0, none⟩ = false
  f1 : W.frozen? ⟨b, 1, none⟩ = false
  f2 : W.frozen? ⟨b, 2, none⟩ = false
  f3 : W.frozen? ⟨b, 3, none⟩ = false
theorem Bx.kept {W W' : World} {b r : Nat} {k : Int} {p t x : ByteArray} (h : Bx W b k p t x) (hk : Kept r W W') (hb : b ≠ r) : Bx W' b k p t x := by
  have lt := cell_ltR h.c0
  have hh := hk.2.2.2.2 b lt hb
  exact ⟨hk.cell hb h.c0, hk.cell hb h.c1, hk.cell hb h.c2, hk.cell hb h.c3, (World.frozen?_of_block (a := ⟨b, 0, none⟩) hh).trans h.f0, (World.frozen?_of_block (a := ⟨b, 1, none⟩) hh).trans h.f1, (World.frozen?_of_block (a := ⟨b, 2, none⟩) hh).trans h.f2, (World.frozen?_of_block (a := ⟨b, 3, none⟩) hh).trans h.f3⟩
theorem Bx.new (w : World) (k : Int) (p t x : ByteArray) (T : TypeId) : Bx (w.alloc (.cells #[.int .i64 k, .string p, .string t, .string x] T)) w.heap.size k p t x :=
  ⟨by simp, by simp, by simp, by simp, by simp, by simp, by simp, by simp⟩
theorem frz (W : World) (b i j : Nat) (v : Value) : (W.setCell ⟨b, i, none⟩ v).frozen? ⟨b, j, none⟩ = W.frozen? ⟨b, j, none⟩ := World.frozen?_setCell ..
theorem Bx.set0 {W : World} {b : Nat} {k : Int} {p t x : ByteArray} (h : Bx W b k p t x) (z : Int) : Bx (W.setCell ⟨b, 0, none⟩ (.int .i64 z)) b z p t x :=
  ⟨cell_eq' _ h.c0, (cell_ne' _ _ _ _ _ (by decide)).trans h.c1, (cell_ne' _ _ _ _ _ (by decide)).trans h.c2, (cell_ne' _ _ _ _ _ (by decide)).trans h.c3, (frz ..).trans h.f0, (frz ..).trans h.f1, (frz ..).trans h.f2, (frz ..).trans h.f3⟩
theorem Bx.set1 {W : World} {b : Nat} {k : Int} {p t x : ByteArray} (h : Bx W b k p t x) (z : ByteArray) : Bx (W.setCell ⟨b, 1, none⟩ (.string z)) b k z t x :=
  ⟨(cell_ne' _ _ _ _ _ (by decide)).trans h.c0, cell_eq' _ h.c1, (cell_ne' _ _ _ _ _ (by decide)).trans h.c2, (cell_ne' _ _ _ _ _ (by decide)).trans h.c3, (frz ..).trans h.f0, (frz ..).trans h.f1, (frz ..).trans h.f2, (frz ..).trans h.f3⟩
theorem Bx.set2 {W : World} {b : Nat} {k : Int} {p t x : ByteArray} (h : Bx W b k p t x) (z : ByteArray) : Bx (W.setCell ⟨b, 2, none⟩ (.string z)) b k p z x :=
  ⟨(cell_ne' _ _ _ _ _ (by decide)).trans h.c0, (cell_ne' _ _ _ _ _ (by decide)).trans h.c1, cell_eq' _ h.c2, (cell_ne' _ _ _ _ _ (by decide)).trans h.c3, (frz ..).trans h.f0, (frz ..).trans h.f1, (frz ..).trans h.f2, (frz ..).trans h.f3⟩
theorem Bx.set3 {W : World} {b : Nat} {k : Int} {p t x : ByteArray} (h : Bx W b k p t x) (z : ByteArray) : Bx (W.setCell ⟨b, 3, none⟩ (.string z)) b k p t z :=
  ⟨(cell_ne' _ _ _ _ _ (by decide)).trans h.c0, (cell_ne' _ _ _ _ _ (by decide)).trans h.c1, (cell_ne' _ _ _ _ _ (by decide)).trans h.c2, cell_eq' _ h.c3, (frz ..).trans h.f0, (frz ..).trans h.f1, (frz ..).trans h.f2, (frz ..).trans h.f3⟩

/-- What comes behind a statement, as a word of its own. -/
theorem peel {P : Program} {A B : Code} {Q : Exit → Act → World → Prop} {K : Act → World → Prop} (h : ∀ a w, (Code.seq A B).wp P Q a w → K a w) : ∃ K' : Act → World → Prop, (∀ a w, B.wp P Q a w → K' a w) ∧ (∀ a w, A.wp P (Exit.then K' Q) a w → K a w) :=
  ⟨fun a w => B.wp P Q a w, fun _ _ h => h, fun a w hh => h a w (wp_seq hh)⟩
theorem Kn.bx {n r b : Nat} {w W : World} {k : Int} {p t x : ByteArray} (h : Kn n r w W) (hb : b < n) (hr : b ≠ r) (hx : Bx w b k p t x) : Bx W b k p t x := by
  have hh := h.2.2.2.2 b hb hr
  exact ⟨(World.cell?_of_block (w := w) (a := ⟨b, 0, none⟩) hh).trans hx.c0, (World.cell?_of_block (w := w) (a := ⟨b, 1, none⟩) hh).trans hx.c1, (World.cell?_of_block (w := w) (a := ⟨b, 2, none⟩) hh).trans hx.c2, (World.cell?_of_block (w := w) (a := ⟨b, 3, none⟩) hh).trans hx.c3,
    (World.frozen?_of_block (w := w) (a := ⟨b, 0, none⟩) hh).trans hx.f0, (World.frozen?_of_block (w := w) (a := ⟨b, 1, none⟩) hh).trans hx.f1, (World.frozen?_of_block (w := w) (a := ⟨b, 2, none⟩) hh).trans hx.f2, (World.frozen?_of_block (w := w) (a := ⟨b, 3, none⟩) hh).trans hx.f3⟩
/-- Four cells are stored at the end. -/
theorem fin4 {w W : World} {b r q : Nat} {k k' : Int} {p t x p' t' x' : ByteArray} {C : World → Prop} (h : Bx W b k p t x) (hK : Kept r w W) (hR : Rd W r q) (hb : w.heap.size ≤ b) (hrb : r < b)
    (H : ∀ Wf, Bx Wf b k' p' t' x' → Kept r w Wf → Rd Wf r q → C Wf) : C ((((W.setCell ⟨b, 0, none⟩ (.int .i64 k')).setCell ⟨b, 1, none⟩ (.string p')).setCell ⟨b, 2, none⟩ (.string t')).setCell ⟨b, 3, none⟩ (.string x')) := by
  have hs : Kept b W ((((W.setCell ⟨b, 0, none⟩ (.int .i64 k')).setCell ⟨b, 1, none⟩ (.string p')).setCell ⟨b, 2, none⟩ (.string t')).setCell ⟨b, 3, none⟩ (.string x')) :=
    (((Kept.setCell W 0 _).trans (Kept.setCell _ 1 _)).trans (Kept.setCell _ 2 _)).trans (Kept.setCell _ 3 _)
  refine H _ ((((h.set0 k').set1 p').set2 t').set3 x') ?_ (hR.keep hs hrb)
  exact (Kn.other (n := w.heap.size) (r := r) hK (Nat.le_refl _) hb hs)
end Go.Proofs.YtanldphkkoglkaaGreatDoor
