/-
  Boxes of two cells, and what leaves them as they are.
-/
import Derived.Test.YtmfjdafkgkjidaaDoorHPk11
import Derived.Test.YtmfjdafkgkjidaaDoorHMkRep
namespace Go.Proofs.YtmfjdafkgkjidaaDoor.Mk
open Go.RowKit Go.Shelf Go.Lib

/-- A box of two cells. -/
structure Box2 (W : World) (b : Nat) (u v : Value) : Prop where
  c0 : W.cell? ⟨b, 0, none⟩ = some u
  c1 : W.cell? ⟨b, 1, none⟩ = some v
  f0 : W.frozen? ⟨b, 0, none⟩ = false
  f1 : W.frozen? ⟨b, 1, none⟩ = false
theorem Box2.new (w : World) (u v : Value) (T : TypeId) : Box2 (w.alloc (.cells #[u, v] T)) w.heap.size u v := ⟨by simp, by simp, by simp, by simp⟩
theorem Box2.on {W : World} {b : Nat} {u v : Value} (h : Box2 W b u v) (o : Obj) : Box2 (W.alloc o) b u v :=
  ⟨cellOn o h.c0, cellOn o h.c1, frozenOn o h.c0 h.f0, frozenOn o h.c1 h.f1⟩
theorem Box2.lt {W : World} {b : Nat} {u v : Value} (h : Box2 W b u v) : b < W.heap.size := World.block_lt_of_cell? W ⟨b, 0, none⟩ h.c0
theorem Box2.below {W W' : World} {b : Nat} {u v : Value} (h : Box2 W b u v) (hB : Below W.heap.size W W') : Box2 W' b u v :=
  ⟨(hB.cell (p := ⟨b, 0, none⟩) h.lt).trans h.c0, (hB.cell (p := ⟨b, 1, none⟩) h.lt).trans h.c1, (hB.frozen (p := ⟨b, 0, none⟩) h.lt).trans h.f0, (hB.frozen (p := ⟨b, 1, none⟩) h.lt).trans h.f1⟩
theorem Box2.turn {base : Nat} {W W' : World} {b : Nat} {u v : Value} (h : Box2 W b u v) (t : Turn base W W') : Box2 W' b u v :=
  ⟨t.cell h.c0, t.cell h.c1, t.frozen h.c0 h.f0, t.frozen h.c1 h.f1⟩
theorem Box2.drew {W : World} {b : Nat} {u v : Value} (h : Box2 W b u v) : Box2 W.drew b u v := ⟨h.c0, h.c1, h.f0, h.f1⟩
abbrev set2 (W : World) (b : Nat) (u v : Value) : World := (W.setCell ⟨b, 0, none⟩ u).setCell ⟨b, 1, none⟩ v
theorem Box2.set {W : World} {b : Nat} {p q : Value} (h : Box2 W b p q) (u v : Value) : Box2 (set2 W b u v) b u v := by
  refine ⟨?_, ?_, ?_, ?_⟩
  · rw [World.cell?_setCell_other _ _ _ _ (by simp)]; exact World.cell?_setCell_same' _ _ _ (by rw [h.c0]; rfl)
  · exact World.cell?_setCell_same' _ _ _ (by rw [World.cell?_setCell_other _ _ _ _ (by simp), h.c1]; rfl)
  · rw [World.frozen?_setCell, World.frozen?_setCell]; exact h.f0
  · rw [World.frozen?_setCell, World.frozen?_setCell]; exact h.f1
theorem Box2.other {W : World} {b c : Nat} {p q : Value} (h : Box2 W b p q) (hb : b ≠ c) (u v : Value) : Box2 (set2 W c u v) b p q := by
  refine ⟨?_, ?_, ?_, ?_⟩
  · rw [cell_other _ _ _ _ _ hb, cell_other _ _ _ _ _ hb]; exact h.c0
  · rw [cell_other _ _ _ _ _ hb, cell_other _ _ _ _ _ hb]; exact h.c1
  · rw [World.frozen?_setCell, World.frozen?_setCell]; exact h.f0
  · rw [World.frozen?_setCell, World.frozen?_setCell]; exact h.f1
theorem set2_below {W w : World} {b n : Nat} (h : Below n w W) (hb : n ≤ b) (u v : Value) : Below n w (set2 W b u v) :=
  (h.setCell (p := ⟨b, 0, none⟩) hb u).setCell (p := ⟨b, 1, none⟩) hb v
theorem set2_keeps (W : World) (b : Nat) (u v : Value) : KeepsOthers W (set2 W b u v) :=
  (KeepsOthers.setCell _ _ _).trans (KeepsOthers.setCell _ _ _)
theorem MapIs.keeps {w w' : World} {b N : Nat} {f : ByteArray → Option Value} (h : MapIs w b N f) (hk : KeepsOthers w w') : MapIs w' b N f := by
  obtain ⟨D, n, ⟨es, c, h1, h2⟩, h3⟩ := h
  exact ⟨D, n, ⟨es, c, hk.same b _ h1 rfl, h2⟩, h3⟩
theorem Rep.keeps {w w' : World} {base N : Nat} {es : List E} {A : ByteArray → Nat} (h : Rep w base N es A) (hk : KeepsOthers w w') : Rep w' base N es A :=
  ⟨fun p hp => (h.kids p hp).keeps hk, h.low, h.apart⟩
/-- Whatever holds of each world in which the box holds these holds behind the two stores. -/
theorem atSet2 {W w : World} {n b : Nat} {p q u v : Value} {C : World → Prop} (h : Box2 W b p q) (hB : Below n w W) (hb : n ≤ b)
    (k : ∀ Wf, Box2 Wf b u v → Below n w Wf → KeepsOthers W Wf → (∀ c x y, c ≠ b → Box2 W c x y → Box2 Wf c x y) → C Wf) : C (set2 W b u v) :=
  k _ (h.set u v) (set2_below hB hb u v) (set2_keeps W b u v) fun _ _ _ hc hx => hx.other hc u v
/-! ### Boxes of three cells -/
structure Box3 (W : World) (b : Nat) (u v x : Value) : Prop where
  c0 : W.cell? ⟨b, 0, none⟩ = some u
  c1 : W.cell? ⟨b, 1, none⟩ = some v
  c2 : W.cell? ⟨b, 2, none⟩ = some x
  f0 : W.frozen? ⟨b, 0, none⟩ = false
  f1 : W.frozen? ⟨b, 1, none⟩ = false
  f2 : W.frozen? ⟨b, 2, none⟩ = false
theorem Box3.new (w : World) (u v x : Value) (T : TypeId) : Box3 (w.alloc (.cells #[u, v, x] T)) w.heap.size u v x := ⟨by simp, by simp, by simp, by simp, by simp, by simp⟩
theorem Box3.on {W : World} {b : Nat} {u v x : Value} (h : Box3 W b u v x) (o : Obj) : Box3 (W.alloc o) b u v x :=
  ⟨cellOn o h.c0, cellOn o h.c1, cellOn o h.c2, frozenOn o h.c0 h.f0, frozenOn o h.c1 h.f1, frozenOn o h.c2 h.f2⟩
theorem Box3.lt {W : World} {b : Nat} {u v x : Value} (h : Box3 W b u v x) : b < W.heap.size := World.block_lt_of_cell? W ⟨b, 0, none⟩ h.c0
theorem Box3.below {W W' : World} {b : Nat} {u v x : Value} (h : Box3 W b u v x) (hB : Below W.heap.size W W') : Box3 W' b u v x :=
  ⟨(hB.cell (p := ⟨b, 0, none⟩) h.lt).trans h.c0, (hB.cell (p := ⟨b, 1, none⟩) h.lt).trans h.c1, (hB.cell (p := ⟨b, 2, none⟩) h.lt).trans h.c2, (hB.frozen (p := ⟨b, 0, none⟩) h.lt).trans h.f0, (hB.frozen (p := ⟨b, 1, none⟩) h.lt).trans h.f1, (hB.frozen (p := ⟨b, 2, none⟩) h.lt).trans h.f2⟩
theorem Box3.turn {base : Nat} {W W' : World} {b : Nat} {u v x : Value} (h : Box3 W b u v x) (t : Turn base W W') : Box3 W' b u v x :=
  ⟨t.cell h.c0, t.cell h.c1, t.cell h.c2, t.frozen h.c0 h.f0, t.frozen h.c1 h.f1, t.frozen h.c2 h.f2⟩
abbrev set3 (W : World) (b : Nat) (u v x : Value) : World := ((W.setCell ⟨b, 0, none⟩ u).setCell ⟨b, 1, none⟩ v).setCell ⟨b, 2, none⟩ x
theorem Box3.set {W : World} {b : Nat} {p q r : Value} (h : Box3 W b p q r) (u v x : Value) : Box3 (set3 W b u v x) b u v x := by
  refine ⟨?_, ?_, ?_, ?_, ?_, ?_⟩
  · rw [World.cell?_setCell_other _ _ _ _ (by simp), World.cell?_setCell_other _ _ _ _ (by simp)]; exact World.cell?_setCell_same' _ _ _ (by rw [h.c0]; rfl)
  · rw [World.cell?_setCell_other _ _ _ _ (by simp)]; exact World.cell?_setCell_same' _ _ _ (by rw [World.cell?_setCell_other _ _ _ _ (by simp), h.c1]; rfl)
  · exact World.cell?_setCell_same' _ _ _ (by rw [World.cell?_setCell_other _ _ _ _ (by simp), World.cell?_setCell_other _ _ _ _ (by simp), h.c2]; rfl)
  · rw [World.frozen?_setCell, World.frozen?_setCell, World.frozen?_setCell]; exact h.f0
  · rw [World.frozen?_setCell, World.frozen?_setCell, World.frozen?_setCell]; exact h.f1
  · rw [World.frozen?_setCell, World.frozen?_setCell, World.frozen?_setCell]; exact h.f2
theorem set3_below {W w : World} {b n : Nat} (h : Below n w W) (hb : n ≤ b) (u v x : Value) : Below n w (set3 W b u v x) :=
  ((h.setCell (p := ⟨b, 0, none⟩) hb u).setCell (p := ⟨b, 1, none⟩) hb v).setCell (p := ⟨b, 2, none⟩) hb x
theorem set3_keeps (W : World) (b : Nat) (u v x : Value) : KeepsOthers W (set3 W b u v x) :=
  ((KeepsOthers.setCell _ _ _).trans (KeepsOthers.setCell _ _ _)).trans (KeepsOthers.setCell _ _ _)
theorem atSet3 {W w : World} {n b : Nat} {p q r u v x : Value} {C : World → Prop} (h : Box3 W b p q r) (hB : Below n w W) (hb : n ≤ b)
    (k : ∀ Wf, Box3 Wf b u v x → Below n w Wf → KeepsOthers W Wf → C Wf) : C (set3 W b u v x) :=
  k _ (h.set u v x) (set3_below hB hb u v x) (set3_keeps W b u v x)
end Go.Proofs.YtmfjdafkgkjidaaDoor.Mk
