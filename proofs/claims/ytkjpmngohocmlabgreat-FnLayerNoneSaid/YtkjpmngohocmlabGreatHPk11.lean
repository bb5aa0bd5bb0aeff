/-
  Boxes of two cells, and what leaves them as they are.
-/
import Derived.Test.YtkjpmngohocmlabGreatHFresh
import Derived.Test.YtkjpmngohocmlabGreatHPk10
namespace Go.Proofs.YtkjpmngohocmlabGreat.Mk
open Go.RowKit Go.Shelf Go.Lib

/-- A box of two cells. -/
structure Box2 (W : World) (b : Nat) (u v : Value) : Prop where
  c0 : W.cell? ⟨b, 0, none⟩ = some u
  c1 : W.cell? ⟨b, 1, none⟩ = some v
  f0 : W.frozen? ⟨b, 0, none⟩ = false
  f1 : W.frozen? ⟨b, 1, none⟩ = false
theorem Box2.new (w : World) (u v : Value) (T : TypeId) : Box2 (w.alloc (.cells #[u, v] T)) w.heap.size u v := ⟨by simp, by simp, by simp, by simp⟩
theorem Box2.on {W : World} {b : Nat} {u v : Value} (h : Box2 W b u v) (o : Obj) : Box2 (W.alloc o) b u v :=
  ⟨cellOn o h.c0, cellOn o h.c1, frozenOn o h.c0 h.f0, frozenOn o h.c1 h.f1⟩
theorem Box2.lt {W : World} {b : Nat} {u v : Value} (h : Box2 W b u v) : b < W.heap.size := World.block_lt_of_cell? W ⟨b, 0, none⟩ h.c0
theorem Box2.below {W W' : World} {b : Nat} {u v : Value} (h : Box2 W b u v) (hB : Below W.heap.size W W') : Box2 W' b u v :=
  ⟨(hB.cell (p := ⟨b, 0, none⟩) h.lt).trans h.c0, (hB.cell (p := ⟨b, 1, none⟩) h.lt).trans h.c1, (hB.frozen (p := ⟨b, 0, none⟩) h.lt).trans h.f0, (hB.frozen (p := ⟨b, 1, none⟩) h.lt).trans h.f1⟩
theorem Box2.turn {base : Nat} {W W' : World} {b : Nat} {u v : Value} (h : Box2 W b u v) (t : Turn base W W') : Box2 W' b u v :=
  ⟨t.cell h.c0, t.cell h.c1, t.frozen h.c0 h.f0, t.frozen h.c1 h.f1⟩
theorem Box2.drew {W : World} {b : Nat} {u v : Value} (h : Box2 W b u v) : Box2 W.drew b u v := ⟨h.c0, h.c1, h.f0, h.f1⟩
abbrev set2 (W : World) (b : Nat) (u v : Value) : World := (W.setCell ⟨b, 0, none⟩ u).setCell ⟨b, 1, none⟩ v
theorem Box2.set {W : World} {b : Nat} {p q : Value} (h : Box2 W b p q) (u v : Value) : Box2 (set2 W b u v) b u v := by
  refine ⟨?_, ?_, ?_, ?_⟩
  · rw [World.cell?_setCell_other _ _ _ _ (by simp)]; exact World.cell?_setCell_same' _ _ _ (by rw [h.c0]; rfl)
  · exact World.cell?_setCell_same' _ _ _ (by rw [World.cell?_setCell_other _ _ _ _ (by simp), h.c1]; rfl)
  · rw [World.frozen?_setCell, World.frozen?_setCell]; exact h.f0
  · rw [World.frozen?_setCell, World.frozen?_setCell]; exact h.f1
theorem Box2.other {W : World} {b c : Nat} {p q : Value} (h : Box2 W b p q) (hb : b ≠ c) (u v : Value) : Box2 (set2 W c u v) b p q := by
  refine ⟨?_, ?_, ?_, ?_⟩
  · rw [cell_other _ _ _ _ _ hb, cell_other _ _ _ _ _ hb]; exact h.c0
  · rw [cell_other _ _ _ _ _ hb, cell_other _ _ _ _ _ hb]; exact h.c1
  · rw [World.frozen?_setCell, World.frozen?_setCell]; exact h.f0
  · rw [World.frozen?_setCell, World.frozen?_setCell]; exact h.f1
theorem set2_below {W w : World} {b n : Nat} (h : Below n w W) (hb : n ≤ b) (u v : Value) : Below n w (set2 W b u v) :=
  (h.setCell (p := ⟨b, 0, none⟩) hb u).setCell (p := ⟨b, 1, none⟩) hb v
theorem set2_keeps (W : World) (b : Nat) (u v : Value) : KeepsOthers W (set2 W b u v) :=
  (KeepsOthers.setCell _ _ _).trans (KeepsOthers.setCell _ _ _)
theorem MapIs.keeps {w w' : World} {b N : Nat} {f : ByteArray → Option Value} (h : MapIs w b N f) (hk : KeepsOthers w w') : MapIs w' b N f := by
  obtain ⟨D, n, ⟨es, c, h1, h2⟩, h3⟩ := h
  exact ⟨D, n, ⟨es, c, hk.same b _ h1 rfl, h2⟩, h3⟩
theorem Rep.keeps {w w' : World} {base N : Nat} {es : List E} {A : ByteArray → Nat} (h : Rep w base N es A) (hk : KeepsOthers w w') : Rep w' base N es A :=
  ⟨fun p hp => (h.kids p hp).keeps hk, h.low, h.apart⟩
/-- Whatever holds of each world in which the box holds these holds behind the two stores. -/
theorem atSet2 {W w : World} {n b : Nat} {p q u v : Value} {C : World → Prop} (h : Box2 W b p q) (hB : Below n w W) (hb : n ≤ b)
    (k : ∀ Wf, Box2 Wf b u v → Below n w Wf → KeepsOthers W Wf → (∀ c x y, c ≠ b → Box2 W c x y → Box2 Wf c x y) → C Wf) : C (set2 W b u v) :=
  k _ (h.set u v) (set2_below hB hb u v) (set2_keeps W b u v) fun _ _ _ hc hx => hx.other hc u v
/-! ### Boxes of three cells -/
structure Box3 (W : World) (b : Nat) (u v x : Value) : Prop where
  c0 : W.cell? ⟨b, 0, none⟩ = some u
  c1 : W.cell? ⟨b, 1, none⟩ = some v
  c2 : W.cell? ⟨b, 2, none⟩ = some x
  f0 : W.frozen? ⟨b, 0, none⟩ = false
  f1 : W.frozen? ⟨b, 1, none⟩ = false
  f2 : W.frozen? ⟨b, 2, none⟩ = false
theorem Box3.new (w : World) (u v x : Value) (T : TypeId) : Box3 (w.alloc (.cells #[u, v, x] T)) w.heap.size u v x := ⟨by simp, by simp, by simp, by simp, by simp, by simp⟩
theorem Box3.on {W : World} {b : Nat} {u v x : Value} (h : Box3 W b u v x) (o : Obj) : Box3 (W.alloc o) b u v x :=
  ⟨cellOn o h.c0, cellOn o h.c1, cellOn o h.c2, frozenOn o h.c0 h.f0, frozenOn o h.c1 h.f1, frozenOn o h.c2 h.f2⟩
theorem Box3.lt {W : World} {b : Nat} {u v x : Value} (h : Box3 W b u v x) : b < W.heap.size := World.block_lt_of_cell? W ⟨b, 0, none⟩ h.c0
theorem Box3.below {W W' : World} {b : Nat} {u v x : Value} (h : Box3 W b u v x) (hB : Below W.heap.size W W') : Box3 W' b u v x :=
  ⟨(hB.cell (p := ⟨b, 0, none⟩) h.lt).trans h.c0, (hB.cell (p := ⟨b, 1, none⟩) h.lt).trans h.c1, (hB.cell (p := ⟨b, 2, none⟩) h.lt).trans h.c2, (hB.frozen (p := ⟨b, 0, none⟩) h.lt).trans h.f0, (hB.frozen (p := ⟨b, 1, none⟩) h.lt).trans h.f1, (hB.frozen (p := ⟨b, 2, none⟩) h.lt).trans h.f2⟩
theorem Box3.turn {base : Nat} {W W' : World} {b : Nat} {u v x : Value} (h : Box3 W b u v x) (t : Turn base W W') : Box3 W' b u v x :=
  ⟨t.cell h.c0, t.cell h.c1, t.cell h.c2, t.frozen h.c0 h.f0, t.frozen h.c1 h.f1, t.frozen h.c2 h.f2⟩
abbrev set3 (W : World) (b : Nat) (u v x : Value) : World := ((W.setCell ⟨b, 0, none⟩ u).setCell ⟨b, 1, none⟩ v).setCell ⟨b, 2, none⟩ x
theorem Box3.set {W : World} {b : Nat} {p q r : Value} (h : Box3 W b p q r) (u v x : Value) : Box3 (set3 W b u v x) b u v x := by
  refine ⟨?_, ?_, ?_, ?_, ?_, ?_⟩
  · rw [World.cell?_setCell_other _ _ _ _ (by simp), World.cell?_setCell_other _ _ _ _ (by simp)]; exact World.cell?_setCell_same' _ _ _ (by rw [h.c0]; rfl)
  · rw [World.cell?_setCell_other _ _ _ _ (by simp)]; exact World.cell?_setCell_same' _ _ _ (by rw [World.cell?_setCell_other _ _ _ _ (by simp), h.c1]; rfl)
  · exact World.cell?_setCell_same' _ _ _ (by rw [World.cell?_setCell_other _ _ _ _ (by simp), World.cell?_setCell_other _ _ _ _ (by simp), h.c2]; rfl)
  · rw [World.frozen?_setCell, World.frozen?_setCell, World.frozen?_setCell]; exact h.f0
  · rw [World.frozen?_setCell, World.frozen?_setCell, World.frozen?_setCell]; exact h.f1
  · rw [World.frozen?_setCell, World.frozen?_setCell, World.frozen?_setCell]; exact h.f2
theorem set3_below {W w : World} {b n : Nat} (h : Below n w W) (hb : n ≤ b) (u v x : Value) : Below n w (set3 W b u v x) :=
  ((h.setCell (p := ⟨b, 0, none⟩) hb u).setCell (p := ⟨b, 1, none⟩) hb v).setCell (p := ⟨b, 2, none⟩) hb x
theorem set3_keeps (W : World) (b : Nat) (u v x : Value) : KeepsOthers W (set3 W b u v x) :=
  ((KeepsOthers.setCell _ _ _).trans (KeepsOthers.setCell _ _ _)).trans (KeepsOthers.setCell _ _ _)
theorem atSet3 {W w : World} {n b : Nat} {p q r u v x : Value} {C : World → Prop} (h : Box3 W b p q r) (hB : Below n w W) (hb : n ≤ b)
    (k : ∀ Wf, Box3 Wf b u v x → Below n w Wf → KeepsOthers W Wf → C Wf) : C (set3 W b u v x) :=
  k _ (h.set u v x) (set3_below hB hb u v x) (set3_keeps W b u v x)
end Go.Proofs.YtkjpmngohocmlabGreat.Mk

/-
  The walks of the program's own: a new directory, and what is at a path of a tree.
-/
namespace Go.Proofs.YtkjpmngohocmlabGreat
open Go.RowKit Go.Shelf Go.Lib

attribute [local go_sem] Oper.semAt_some

theorem newDir_any (w : World) :
    Calls Tryz.prog 114 #[] w fun e w' => e = .returned (.agg #[.bool true, .string ⟨#[]⟩, .map (some (w.heap.size + 1))]) ∧ MapIs w' (w.heap.size + 1) 0 (fun _ => none) ∧ Below w.heap.size w w' := by
  have hmm := @run_makeMap Tryz.prog
  go_enter Tryz.func114, Tryz.ntmps114
  go_wp2
  refine bodyPost_ret (v := .agg #[.bool true, .string ⟨#[]⟩, .map (some (w.heap.size + 1))]) (by simp [results, Tryz.results114, go_sem]) rfl ⟨rfl, ?_, ?_⟩
  · have := MapIs.made (w.alloc (.cells #[.bool true, .string ⟨#[]⟩, .map (some (w.heap.size + 1))] 94))
    rwa [World.size_alloc] at this
  · exact ((Below.refl _ w).alloc (Nat.le_refl _) _).alloc (by simp) _

theorem box3n {w w' : World} {a b c : Value} {T : TypeId} (h : Below (w.alloc (.cells #[a, b, c] T)).heap.size (w.alloc (.cells #[a, b, c] T)) w') :
    w'.cell? ⟨w.heap.size, 0, none⟩ = some a ∧ w'.cell? ⟨w.heap.size, 1, none⟩ = some b ∧ w'.cell? ⟨w.heap.size, 2, none⟩ = some c := by
  have lt : w.heap.size < (w.alloc (.cells #[a, b, c] T)).heap.size := by simp
  refine ⟨(h.cell (p := ⟨w.heap.size, 0, none⟩) lt).trans ?_, (h.cell (p := ⟨w.heap.size, 1, none⟩) lt).trans ?_, (h.cell (p := ⟨w.heap.size, 2, none⟩) lt).trans ?_⟩ <;> simp

theorem bcellN {W w1 : World} (hb : Below W.heap.size W w1) : (∀ b o, b < W.heap.size → w1.cell? ⟨b, o, none⟩ = W.cell? ⟨b, o, none⟩) ∧ (∀ b o, b < W.heap.size → w1.frozen? ⟨b, o, none⟩ = W.frozen? ⟨b, o, none⟩) :=
  ⟨fun b o h => hb.cell (p := ⟨b, o, none⟩) h, fun b o h => hb.frozen (p := ⟨b, o, none⟩) h⟩

abbrev set3 (W : World) (b : Nat) (u v x : Value) : World := ((W.setCell ⟨b, 0, none⟩ u).setCell ⟨b, 1, none⟩ v).setCell ⟨b, 2, none⟩ x
theorem set3_cells {W : World} {b : Nat} {p q r : Value} (h0 : W.cell? ⟨b, 0, none⟩ = some p) (h1 : W.cell? ⟨b, 1, none⟩ = some q) (h2 : W.cell? ⟨b, 2, none⟩ = some r) (u v x : Value) :
    (set3 W b u v x).cell? ⟨b, 0, none⟩ = some u ∧ (set3 W b u v x).cell? ⟨b, 1, none⟩ = some v ∧ (set3 W b u v x).cell? ⟨b, 2, none⟩ = some x := by
  have n01 : ∀ (W : World) (u : Value), (W.setCell ⟨b, 1, none⟩ u).cell? ⟨b, 0, none⟩ = W.cell? ⟨b, 0, none⟩ := fun W u => World.cell?_setCell_other _ _ _ _ (by simp)
  have n02 : ∀ (W : World) (u : Value), (W.setCell ⟨b, 2, none⟩ u).cell? ⟨b, 0, none⟩ = W.cell? ⟨b, 0, none⟩ := fun W u => World.cell?_setCell_other _ _ _ _ (by simp)
  have n12 : ∀ (W : World) (u : Value), (W.setCell ⟨b, 2, none⟩ u).cell? ⟨b, 1, none⟩ = W.cell? ⟨b, 1, none⟩ := fun W u => World.cell?_setCell_other _ _ _ _ (by simp)
  have n10 : ∀ (W : World) (u : Value), (W.setCell ⟨b, 0, none⟩ u).cell? ⟨b, 1, none⟩ = W.cell? ⟨b, 1, none⟩ := fun W u => World.cell?_setCell_other _ _ _ _ (by simp)
  have n20 : ∀ (W : World) (u : Value), (W.setCell ⟨b, 0, none⟩ u).cell? ⟨b, 2, none⟩ = W.cell? ⟨b, 2, none⟩ := fun W u => World.cell?_setCell_other _ _ _ _ (by simp)
  have n21 : ∀ (W : World) (u : Value), (W.setCell ⟨b, 1, none⟩ u).cell? ⟨b, 2, none⟩ = W.cell? ⟨b, 2, none⟩ := fun W u => World.cell?_setCell_other _ _ _ _ (by simp)
  refine ⟨?_, ?_, ?_⟩
  · rw [n02, n01]; exact World.cell?_setCell_same' _ _ _ (by rw [h0]; rfl)
  · rw [n12]; exact World.cell?_setCell_same' _ _ _ (by rw [n10, h1]; rfl)
  · exact World.cell?_setCell_same' _ _ _ (by rw [n21, n20, h2]; rfl)
theorem set3_below {W w : World} {b n : Nat} (h : Below n w W) (hb : n ≤ b) (u v x : Value) : Below n w (set3 W b u v x) :=
  ((h.setCell (p := ⟨b, 0, none⟩) hb u).setCell (p := ⟨b, 1, none⟩) hb v).setCell (p := ⟨b, 2, none⟩) hb x
/-- Whatever holds of each world in which the three cells hold these holds behind the three stores. -/
theorem atSet3 {W w : World} {n b : Nat} {p q r u v x : Value} {C : World → Prop} (h0 : W.cell? ⟨b, 0, none⟩ = some p) (h1 : W.cell? ⟨b, 1, none⟩ = some q) (h2 : W.cell? ⟨b, 2, none⟩ = some r) (hB : Below n w W) (hb : n ≤ b)
    (k : ∀ Wf, Wf.cell? ⟨b, 0, none⟩ = some u → Wf.cell? ⟨b, 1, none⟩ = some v → Wf.cell? ⟨b, 2, none⟩ = some x → Below n w Wf → C Wf) : C (set3 W b u v x) := by
  obtain ⟨s0, s1, s2⟩ := set3_cells h0 h1 h2 u v x
  exact k _ s0 s1 s2 (set3_below hB hb u v x)
theorem set3_keeps (W : World) (b : Nat) (u v x : Value) : KeepsOthers W (set3 W b u v x) :=
  ((KeepsOthers.setCell _ _ _).trans (KeepsOthers.setCell _ _ _)).trans (KeepsOthers.setCell _ _ _)
theorem set3_kpt (W : World) (b : Nat) (u v x : Value) (Bn : Nat) (h : b ≠ Bn) : Kpt Bn W (set3 W b u v x) :=
  ((kpt_setCell W ⟨b, 0, none⟩ u Bn h).t (kpt_setCell _ ⟨b, 1, none⟩ v Bn h)).t (kpt_setCell _ ⟨b, 2, none⟩ x Bn h)
theorem set3_other (W : World) (b : Nat) (u v x : Value) (c o : Nat) (h : c ≠ b) : (set3 W b u v x).cell? ⟨c, o, none⟩ = W.cell? ⟨c, o, none⟩ := by
  show (((W.setCell _ _).setCell _ _).setCell _ _).cell? _ = _
  rw [cell_other _ _ _ _ _ h, cell_other _ _ _ _ _ h, cell_other _ _ _ _ _ h]

/-- What stands at the end of a row of names. -/
def Stands (es : List E) (xs : List (Int × ByteArray)) (e : E) : Prop := (xs = [] ∧ e = rootE) ∨ (xs ≠ [] ∧ lookE es (chain xs) = some e)

/-- What is told of a path. -/
def atE (es : List E) (A : ByteArray → Nat) (s : ByteArray) : Value × Bool :=
  if isRoot s = true then (treeV A, true) else match lookE es s with
  | some e => (nodeV e (A s), true)
  | none => (zeroN, false)

end Go.Proofs.YtkjpmngohocmlabGreat

/-
  The walks of the program's own functions: levels, the last stroke, the stem, up and name.
-/
namespace Go.Proofs.YtkjpmngohocmlabGreat
open Go.RowKit Go.Shelf Go.Lib

attribute [local go_sem] Oper.semAt_some

set_option maxHeartbeats 1000000 in
set_option maxRecDepth 100000 in
theorem lastStroke_any (s : ByteArray) (hs : s.size ≤ 16777216) (w : World) :
    Calls Tryz.prog 63 #[.string s] w fun e w' => e = .returned (.int .i64 (lastS s)) ∧ Below w.heap.size w w' := by
  refine (callsIn_wide (n := 3)).1 ?_
  refine callsIn_of_wp_marks Tryz.func63 rfl trivial ?_ rfl
  simp only [Tryz.ntmps63, List.size_toArray, List.length_cons, List.length_nil, Nat.reduceAdd, Nat.reduceSub, Array.replicate_succ, Array.replicate_zero, List.push_toArray, List.append_toArray, List.nil_append, List.cons_append]
  gi_wp2_with (refine ⟨trivial, ?_⟩; gi_at_call 68; refine (names_in Fence.wide _ trivial rfl _ _).mono ?_; rintro e w' ⟨rfl, rfl⟩)
  have c0 := cellNew w (.int .i64 (-1)) 3
  have f0 := frozenNew w (.int .i64 (-1)) 3
  have c2 := cellNew (w.alloc (.cells #[.int .i64 (-1)] 3)) (.string s) 100
  simp only [World.size_alloc] at c2
  have hB0 : Below w.heap.size w ((w.alloc (.cells #[.int .i64 (-1)] 3)).alloc (.cells #[.string s] 100)) := ((Below.refl _ w).alloc (Nat.le_refl _) _).alloc (by simp) _
  refine wpIn_rangeFunc_ownF rfl (by omega) (gf := 73) (lb := #[.pointer (some ⟨w.heap.size + 1, 0, none⟩)]) rfl trivial (enters_of Tryz.func73 (by kernel_rfl) rfl)
    (names_stops Fence.wide _ trivial rfl (by omega) (w.heap.size + 1) s (by omega) _ (by simp) c2) Kpt.t Kpt.b (Below.refl _ _) (fun _ => rfl)
    (fun pre W => (W.cell? ⟨w.heap.size, 0, none⟩ = some (.int .i64 (lastOf pre)) ∧ W.frozen? ⟨w.heap.size, 0, none⟩ = false) ∧ Below w.heap.size w W)
    (fun _ _ _ => False)
    (OwnFrom.and (Own.from (fun s A B row hs hg hr => ⟨cell_kept hs.1 hg hr, (frozen_kept hs.1 hg hr).trans hs.2⟩) _) (ownFrom_below (Nat.le_refl _) (by simp; omega)))
    (fun _ _ _ _ _ hs _ _ => hs)
    ⟨⟨cellOn _ c0, frozenOn _ c0 f0⟩, hB0⟩
    (fun x => { tmps := #[.string s, undef, .int .i64 0, .pointer (some ⟨w.heap.size, 0, none⟩), .int .i64 x.1, .string s, .func (.func 73) #[] #[.pointer (some ⟨w.heap.size + 1, 0, none⟩)], .int .i64 x.1, .string x.2, undef, undef], defers := [] }) ?assign ?body ?done ?stop
  case assign =>
    intro l x W K hK
    gi_wp2
    exact hK
  case body =>
    rintro l pre ⟨k, nm⟩ W ⟨⟨hl, hfl⟩, hB⟩ hlen
    gi_wp2
    exact ⟨KeepsOthers.setCell _ _ _, kpt_setCell _ _ _ _ (by simp), ⟨(World.cell?_setCell_same' _ _ _ (by rw [hl]; rfl)).trans (by rw [lastOf_snoc]), by rw [World.frozen?_setCell]; exact hfl⟩, hB.setCell (p := ⟨w.heap.size, 0, none⟩) (Nat.le_refl _) _⟩
  case done =>
    rintro D ys W hD rfl ⟨⟨hc, _⟩, hB⟩ hK
    gi_wp2
    refine ⟨by simp, .inl ⟨_, _, rfl, run_takeDeferred hK, ?_⟩⟩
    exact ⟨_, results_tmp rfl _ _ _, rfl, hB.trans (belowK_b (w := w) (Nat.le_refl _) W D _ _ (by simp at hD; omega) hK rfl rfl)⟩
  case stop =>
    rintro D c pre W _ _ h _
    exact h.elim

theorem iPathUp_any (s : ByteArray) (hs : s.size ≤ 16777216) (w : World) :
    Calls Tryz.prog 49 #[.string s] w fun e w' => e = .returned (.string (upS s)) ∧ Below w.heap.size w w' := by
  cases hb : pathB s with
  | true =>
    have hl := lastS_range s hb
    by_cases h0 : lastS s = 0
    · go_enter Tryz.func49, Tryz.ntmps49
      go_wp2_with (first | (go_at_call 62; refine (ok_any _ (by omega) _).mono ?_; rintro e w1 ⟨rfl, hB1⟩) | (go_at_call 63; refine (lastStroke_any _ (by omega) _).mono ?_; rintro e w2 ⟨rfl, hB2⟩))
      go_ret
      exact ⟨ret_str (by unfold upS; rw [hb, if_pos rfl, if_pos h0]), hB1.trans (hB2.mono hB1.size)⟩
    · have h0' : (lastS s == 0) = false := by rw [beq_eq_false_iff_ne]; exact h0
      have hz : (s.extract 0 (lastS s).toNat).size ≤ 281474976710656 := by rw [ByteArray.size_extract]; omega
      go_enter Tryz.func49, Tryz.ntmps49
      go_wp2_with (first | (go_at_call 62; refine (ok_any _ (by omega) _).mono ?_; rintro e w1 ⟨rfl, hB1⟩) | (go_at_call 63; refine (lastStroke_any _ (by omega) _).mono ?_; rintro e w2 ⟨rfl, hB2⟩) | (go_at_call 64; refine (fresh_any _ hz _).mono ?_; rintro e w3 ⟨rfl, hB3⟩))
      go_ret
      exact ⟨ret_str (by unfold upS; rw [hb, if_pos rfl, if_neg h0]), (hB1.trans (hB2.mono hB1.size)).trans (hB3.mono (Nat.le_trans hB1.size hB2.size))⟩
  | false =>
    go_enter Tryz.func49, Tryz.ntmps49
    go_wp2_with (first | (go_at_call 62; refine (ok_any _ (by omega) _).mono ?_; rintro e w1 ⟨rfl, hB1⟩))
    go_ret
    exact ⟨ret_str (by unfold upS; rw [hb]; rfl), hB1⟩

theorem iPathName_any (s : ByteArray) (hs : s.size ≤ 16777216) (w : World) :
    Calls Tryz.prog 51 #[.string s] w fun e w' => e = .returned (.string (nmS s)) ∧ Below w.heap.size w w' := by
  cases hb : pathB s with
  | true =>
    have hl := lastS_range s hb
    have hz : (s.extract (lastS s + 1).toNat s.size).size ≤ 281474976710656 := by rw [ByteArray.size_extract]; omega
    go_enter Tryz.func51, Tryz.ntmps51
    go_wp2_with (first | (go_at_call 62; refine (ok_any _ (by omega) _).mono ?_; rintro e w1 ⟨rfl, hB1⟩) | (go_at_call 63; refine (lastStroke_any _ (by omega) _).mono ?_; rintro e w2 ⟨rfl, hB2⟩) | (go_at_call 64; refine (fresh_any _ hz _).mono ?_; rintro e w3 ⟨rfl, hB3⟩))
    go_ret
    exact ⟨ret_str (by unfold nmS; rw [hb, if_pos rfl]), (hB1.trans (hB2.mono hB1.size)).trans (hB3.mono (Nat.le_trans hB1.size hB2.size))⟩
  | false =>
    go_enter Tryz.func51, Tryz.ntmps51
    go_wp2_with (first | (go_at_call 62; refine (ok_any _ (by omega) _).mono ?_; rintro e w1 ⟨rfl, hB1⟩))
    go_ret
    exact ⟨ret_str (by unfold nmS; rw [hb]; rfl), hB1⟩
end Go.Proofs.YtkjpmngohocmlabGreat
