import Derived.Test.YtafeddiijemnbaaGreatDoorHPk30
import Derived.Test.YtafeddiijemnbaaGreatDoorHPk26
namespace Go.Proofs.YtafeddiijemnbaaGreatDoor
open Go.RowKit Go.Shelf Go.Lib
attribute [local go_sem] Oper.semAt_some
structure StBox (W : World) (b : Nat) (A : ByteArray → Nat) (k : Int) (p t x : ByteArray) : Prop where
 tr : W.heap[b]? = some (Obj.cells #[.bool true, .string ⟨#[]⟩, .map (some (A ⟨#[47]⟩))] 38 (0, 0))
 op : W.heap[b + 1]? = some (Obj.cells #[.int .i64 k, .string p, .string t, .string x] 25 (0, 0))
 re : W.heap[b + 1 + 1]? = some (Obj.cells #[.int .i64 0, .string ⟨#[]⟩, .string ⟨#[]⟩, .string ⟨#[]⟩, .nilIface, .nilFunc] 45 (0, 0))
theorem StBox.turn {W W' : World} {base b : Nat} {A : ByteArray → Nat} {k : Int} {p t x : ByteArray} (h : StBox W b A k p t x) (hT : Turn base W W') : StBox W' b A k p t x :=
 ⟨hT.cells _ _ h.tr (fun _ _ q => by cases q), hT.cells _ _ h.op (fun _ _ q => by cases q), hT.cells _ _ h.re (fun _ _ q => by cases q)⟩
theorem StBox.below {W W' : World} {b : Nat} {A : ByteArray → Nat} {k : Int} {p t x : ByteArray} (h : StBox W b A k p t x) (hB : Below W.heap.size W W') : StBox W' b A k p t x :=
 ⟨(hB.block _ (Array.getElem?_eq_some_iff.1 h.tr).1).trans h.tr, (hB.block _ (Array.getElem?_eq_some_iff.1 h.op).1).trans h.op, (hB.block _ (Array.getElem?_eq_some_iff.1 h.re).1).trans h.re⟩
def StC (W : World) (b : Nat) (A : ByteArray → Nat) (k : Int) (p t x : ByteArray) : Prop :=
 W.cell? ⟨b, 0, none⟩ = some (.bool true) ∧ W.cell? ⟨b, 1, none⟩ = some (.string ⟨#[]⟩) ∧ W.cell? ⟨b, 2, none⟩ = some (.map (some (A ⟨#[47]⟩))) ∧
 W.cell? ⟨b + 1, 0, none⟩ = some (.int .i64 k) ∧ W.cell? ⟨b + 1, 1, none⟩ = some (.string p) ∧ W.cell? ⟨b + 1, 2, none⟩ = some (.string t) ∧ W.cell? ⟨b + 1, 3, none⟩ = some (.string x)
theorem StBox.c {W : World} {b : Nat} {A : ByteArray → Nat} {k : Int} {p t x : ByteArray} (h : StBox W b A k p t x) : StC W b A k p t x := ⟨cell4 h.tr 0, cell4 h.tr 1, cell4 h.tr 2, cell4 h.op 0, cell4 h.op 1, cell4 h.op 2, cell4 h.op 3⟩
theorem UndoV.turn {base : Nat} {W W' : World} {f : Value} {o : O} (h : UndoV W f o) (hT : Turn base W W') : UndoV W' f o := h.ty fun b cs T e _ => (hT.cells b _ e (fun _ _ q => by cases q)).trans e.symm
theorem run_store_fn {P : Program} {w : World} {a : Addr} {m : Mode} (i : Nat) (ps : Array Value) : (store a (.func (.func i) #[] ps) m).run P w = stored P w a (.func (.func i) #[] ps) m := run_store P w a _ m rfl
attribute [local go_sem] run_store_fn
theorem frz4 {W : World} {g : Nat} {cs : Array Value} {T : TypeId} (h : W.heap[g]? = some (Obj.cells cs T (0, 0))) (i : Nat) : W.frozen? ⟨g, i, none⟩ = false := by
 unfold World.frozen?; rw [h]; simp
theorem setOffL (w : World) (b i j : Nat) (v : Value) (h : i ≠ j) : (w.setCell ⟨b, i, none⟩ v).cell? ⟨b, j, none⟩ = w.cell? ⟨b, j, none⟩ := World.cell?_setCell_other _ _ _ _ (fun q => by have e := congrArg Addr.off q; dsimp only at e; omega)
theorem rules6 {W : World} {b : Nat} {T : TypeId} {c0 c1 c2 c3 c4 c5 : Value} (h : W.heap[b]? = some (Obj.cells #[c0, c1, c2, c3, c4, c5] T (0, 0))) :
  (W.cell? ⟨b, 0, none⟩ = some c0 ∧ W.frozen? ⟨b, 0, none⟩ = false) ∧
  (∀ q0 : Value, (W.setCell ⟨b, 0, none⟩ q0).cell? ⟨b, 1, none⟩ = some c1 ∧ (W.setCell ⟨b, 0, none⟩ q0).frozen? ⟨b, 1, none⟩ = false) ∧
  (∀ q0 q1 : Value, ((W.setCell ⟨b, 0, none⟩ q0).setCell ⟨b, 1, none⟩ q1).cell? ⟨b, 2, none⟩ = some c2 ∧ ((W.setCell ⟨b, 0, none⟩ q0).setCell ⟨b, 1, none⟩ q1).frozen? ⟨b, 2, none⟩ = false) ∧
  (∀ q0 q1 q2 : Value, (((W.setCell ⟨b, 0, none⟩ q0).setCell ⟨b, 1, none⟩ q1).setCell ⟨b, 2, none⟩ q2).cell? ⟨b, 3, none⟩ = some c3 ∧ (((W.setCell ⟨b, 0, none⟩ q0).setCell ⟨b, 1, none⟩ q1).setCell ⟨b, 2, none⟩ q2).frozen? ⟨b, 3, none⟩ = false) ∧
  (∀ q0 q1 q2 q3 : Value, ((((W.setCell ⟨b, 0, none⟩ q0).setCell ⟨b, 1, none⟩ q1).setCell ⟨b, 2, none⟩ q2).setCell ⟨b, 3, none⟩ q3).cell? ⟨b, 4, none⟩ = some c4 ∧ ((((W.setCell ⟨b, 0, none⟩ q0).setCell ⟨b, 1, none⟩ q1).setCell ⟨b, 2, none⟩ q2).setCell ⟨b, 3, none⟩ q3).frozen? ⟨b, 4, none⟩ = false) ∧
  (∀ q0 q1 q2 q3 q4 : Value, (((((W.setCell ⟨b, 0, none⟩ q0).setCell ⟨b, 1, none⟩ q1).setCell ⟨b, 2, none⟩ q2).setCell ⟨b, 3, none⟩ q3).setCell ⟨b, 4, none⟩ q4).cell? ⟨b, 5, none⟩ = some c5 ∧ (((((W.setCell ⟨b, 0, none⟩ q0).setCell ⟨b, 1, none⟩ q1).setCell ⟨b, 2, none⟩ q2).setCell ⟨b, 3, none⟩ q3).setCell ⟨b, 4, none⟩ q4).frozen? ⟨b, 5, none⟩ = false) := by
 refine ⟨⟨cell4 h 0, frz4 h 0⟩, fun q0 => ⟨?_, ?_⟩, fun q0 q1 => ⟨?_, ?_⟩, fun q0 q1 q2 => ⟨?_, ?_⟩, fun q0 q1 q2 q3 => ⟨?_, ?_⟩, fun q0 q1 q2 q3 q4 => ⟨?_, ?_⟩⟩
 ·
  rw [setOffL _ _ _ _ _ (by omega)]; exact cell4 h 1
 ·
  rw [World.frozen?_setCell]; exact frz4 h 1
 ·
  rw [setOffL _ _ _ _ _ (by omega), setOffL _ _ _ _ _ (by omega)]; exact cell4 h 2
 ·
  rw [World.frozen?_setCell, World.frozen?_setCell]; exact frz4 h 2
 ·
  rw [setOffL _ _ _ _ _ (by omega), setOffL _ _ _ _ _ (by omega), setOffL _ _ _ _ _ (by omega)]; exact cell4 h 3
 ·
  rw [World.frozen?_setCell, World.frozen?_setCell, World.frozen?_setCell]; exact frz4 h 3
 ·
  rw [setOffL _ _ _ _ _ (by omega), setOffL _ _ _ _ _ (by omega), setOffL _ _ _ _ _ (by omega), setOffL _ _ _ _ _ (by omega)]; exact cell4 h 4
 ·
  rw [World.frozen?_setCell, World.frozen?_setCell, World.frozen?_setCell, World.frozen?_setCell]; exact frz4 h 4
 ·
  rw [setOffL _ _ _ _ _ (by omega), setOffL _ _ _ _ _ (by omega), setOffL _ _ _ _ _ (by omega), setOffL _ _ _ _ _ (by omega), setOffL _ _ _ _ _ (by omega)]; exact cell4 h 5
 ·
  rw [World.frozen?_setCell, World.frozen?_setCell, World.frozen?_setCell, World.frozen?_setCell, World.frozen?_setCell]; exact frz4 h 5
theorem is6 {W : World} {b : Nat} {T : TypeId} {c0 c1 c2 c3 c4 c5 : Value} (h : W.heap[b]? = some (Obj.cells #[c0, c1, c2, c3, c4, c5] T (0, 0))) (q0 q1 q2 q3 q4 q5 : Value) :
  ((((((W.setCell ⟨b, 0, none⟩ q0).setCell ⟨b, 1, none⟩ q1).setCell ⟨b, 2, none⟩ q2).setCell ⟨b, 3, none⟩ q3).setCell ⟨b, 4, none⟩ q4).setCell ⟨b, 5, none⟩ q5).heap[b]? = some (Obj.cells #[q0, q1, q2, q3, q4, q5] T (0, 0)) ∧ (∀ g, g ≠ b → ((((((W.setCell ⟨b, 0, none⟩ q0).setCell ⟨b, 1, none⟩ q1).setCell ⟨b, 2, none⟩ q2).setCell ⟨b, 3, none⟩ q3).setCell ⟨b, 4, none⟩ q4).setCell ⟨b, 5, none⟩ q5).heap[g]? = W.heap[g]?) ∧ (∀ n, n ≤ b → Below n W ((((((W.setCell ⟨b, 0, none⟩ q0).setCell ⟨b, 1, none⟩ q1).setCell ⟨b, 2, none⟩ q2).setCell ⟨b, 3, none⟩ q3).setCell ⟨b, 4, none⟩ q4).setCell ⟨b, 5, none⟩ q5)) := by
 have h0 : (W.setCell ⟨b, 0, none⟩ q0).heap[b]? = some (Obj.cells #[q0, c1, c2, c3, c4, c5] T (0, 0)) := by
  rw [setCell_eq_setRow W b 0 _ T (0, 0) q0 h]; exact setRow_heap W b _ _ T (0, 0) h
 have h1 : ((W.setCell ⟨b, 0, none⟩ q0).setCell ⟨b, 1, none⟩ q1).heap[b]? = some (Obj.cells #[q0, q1, c2, c3, c4, c5] T (0, 0)) := by
  rw [setCell_eq_setRow (W.setCell ⟨b, 0, none⟩ q0) b 1 _ T (0, 0) q1 h0]; exact setRow_heap (W.setCell ⟨b, 0, none⟩ q0) b _ _ T (0, 0) h0
 have h2 : (((W.setCell ⟨b, 0, none⟩ q0).setCell ⟨b, 1, none⟩ q1).setCell ⟨b, 2, none⟩ q2).heap[b]? = some (Obj.cells #[q0, q1, q2, c3, c4, c5] T (0, 0)) := by
  rw [setCell_eq_setRow ((W.setCell ⟨b, 0, none⟩ q0).setCell ⟨b, 1, none⟩ q1) b 2 _ T (0, 0) q2 h1]; exact setRow_heap ((W.setCell ⟨b, 0, none⟩ q0).setCell ⟨b, 1, none⟩ q1) b _ _ T (0, 0) h1
 have h3 : ((((W.setCell ⟨b, 0, none⟩ q0).setCell ⟨b, 1, none⟩ q1).setCell ⟨b, 2, none⟩ q2).setCell ⟨b, 3, none⟩ q3).heap[b]? = some (Obj.cells #[q0, q1, q2, q3, c4, c5] T (0, 0)) := by
  rw [setCell_eq_setRow (((W.setCell ⟨b, 0, none⟩ q0).setCell ⟨b, 1, none⟩ q1).setCell ⟨b, 2, none⟩ q2) b 3 _ T (0, 0) q3 h2]; exact setRow_heap (((W.setCell ⟨b, 0, none⟩ q0).setCell ⟨b, 1, none⟩ q1).setCell ⟨b, 2, none⟩ q2) b _ _ T (0, 0) h2
 have h4 : (((((W.setCell ⟨b, 0, none⟩ q0).setCell ⟨b, 1, none⟩ q1).setCell ⟨b, 2, none⟩ q2).setCell ⟨b, 3, none⟩ q3).setCell ⟨b, 4, none⟩ q4).heap[b]? = some (Obj.cells #[q0, q1, q2, q3, q4, c5] T (0, 0)) := by
  rw [setCell_eq_setRow ((((W.setCell ⟨b, 0, none⟩ q0).setCell ⟨b, 1, none⟩ q1).setCell ⟨b, 2, none⟩ q2).setCell ⟨b, 3, none⟩ q3) b 4 _ T (0, 0) q4 h3]; exact setRow_heap ((((W.setCell ⟨b, 0, none⟩ q0).setCell ⟨b, 1, none⟩ q1).setCell ⟨b, 2, none⟩ q2).setCell ⟨b, 3, none⟩ q3) b _ _ T (0, 0) h3
 have h5 : ((((((W.setCell ⟨b, 0, none⟩ q0).setCell ⟨b, 1, none⟩ q1).setCell ⟨b, 2, none⟩ q2).setCell ⟨b, 3, none⟩ q3).setCell ⟨b, 4, none⟩ q4).setCell ⟨b, 5, none⟩ q5).heap[b]? = some (Obj.cells #[q0, q1, q2, q3, q4, q5] T (0, 0)) := by
  rw [setCell_eq_setRow (((((W.setCell ⟨b, 0, none⟩ q0).setCell ⟨b, 1, none⟩ q1).setCell ⟨b, 2, none⟩ q2).setCell ⟨b, 3, none⟩ q3).setCell ⟨b, 4, none⟩ q4) b 5 _ T (0, 0) q5 h4]; exact setRow_heap (((((W.setCell ⟨b, 0, none⟩ q0).setCell ⟨b, 1, none⟩ q1).setCell ⟨b, 2, none⟩ q2).setCell ⟨b, 3, none⟩ q3).setCell ⟨b, 4, none⟩ q4) b _ _ T (0, 0) h4
 refine ⟨h5, fun g hg => ?_, fun n hn => ?_⟩
 ·
  rw [Below.heap_setCell _ ⟨b, 5, none⟩ q5 g hg, Below.heap_setCell _ ⟨b, 4, none⟩ q4 g hg, Below.heap_setCell _ ⟨b, 3, none⟩ q3 g hg, Below.heap_setCell _ ⟨b, 2, none⟩ q2 g hg, Below.heap_setCell _ ⟨b, 1, none⟩ q1 g hg, Below.heap_setCell _ ⟨b, 0, none⟩ q0 g hg]
 ·
  exact ((((((Below.refl n W).setCell (p := ⟨b, 0, none⟩) hn q0).setCell (p := ⟨b, 1, none⟩) hn q1).setCell (p := ⟨b, 2, none⟩) hn q2).setCell (p := ⟨b, 3, none⟩) hn q3).setCell (p := ⟨b, 4, none⟩) hn q4).setCell (p := ⟨b, 5, none⟩) hn q5
set_option maxHeartbeats 4000000 in
set_option maxRecDepth 100000 in
theorem step_any (w : World) (base N : Nat) (es : List E) (A : ByteArray → Nat) (ae : Int → Addr) (T : TrE es) (R : Rep w base N es A) (hE : Errs8 w ae) (k : Int) (p t x : ByteArray) (hp : p.size ≤ 16777216) (ht : t.size ≤ 16777216) (hx : x.size ≤ 16777216) (hb : base ≤ w.heap.size) (hN : N < 900) (hes : es.length ≤ 16)
  (c : Int) (hc : endC es k p t x = c) (es2 : List E) (he : (if c = 0 then madeE es k p t x else es) = es2) :
  Calls Tryz.prog 11 #[treeV A, opV k p t x] w fun r w' => ∃ fi fp, r = .returned (.agg #[.int .i64 k, .string p, .string t, .string x, errV ae c, .func (.func fi) #[] fp]) ∧ Turn base w w' ∧ (∃ A', A' ⟨#[47]⟩ = A ⟨#[47]⟩ ∧ Rep w' base (N + 1) es2 A') ∧ (c = 0 → UndoV w' (.func (.func fi) #[] fp) (bkE es ⟨k, p, t, x⟩)) := by
 have hpath : c = 0 → pathB p = true := fun h => by
  subst hc; unfold endC at h; cases hop : (pathB p && fitB k t x) with
  | false => rw [hop] at h; cases h
  | true => rw [Bool.and_eq_true] at hop; exact hop.1
 obtain ⟨W0, hW0⟩ : ∃ W0, ((w.alloc (.cells #[.bool true, .string ⟨#[]⟩, .map (some (A ⟨#[47]⟩))] 38)).alloc (.cells #[.int .i64 k, .string p, .string t, .string x] 25)).alloc (.cells #[.int .i64 0, .string ⟨#[]⟩, .string ⟨#[]⟩, .string ⟨#[]⟩, .nilIface, .nilFunc] 45) = W0 := ⟨_, rfl⟩
 have hBw : Below w.heap.size w W0 := by rw [← hW0]; exact (((Below.refl _ w).alloc (Nat.le_refl _) _).alloc (by simp) _).alloc (by simp; omega) _
 have hX : StBox W0 w.heap.size A k p t x := by
  rw [← hW0]
  constructor
  ·
   exact (((Below.refl _ _).alloc (Nat.le_refl _) _).block _ (by simp; omega)).trans ((((Below.refl _ _).alloc (Nat.le_refl _) _).block _ (by simp)).trans (heap_alloc_new w _))
  ·
   have h := heap_alloc_new (w.alloc (.cells #[.bool true, .string ⟨#[]⟩, .map (some (A ⟨#[47]⟩))] 38)) (.cells #[.int .i64 k, .string p, .string t, .string x] 25); rw [World.size_alloc] at h; exact (((Below.refl _ _).alloc (Nat.le_refl _) _).block _ (by simp)).trans h
  ·
   have h := heap_alloc_new ((w.alloc (.cells #[.bool true, .string ⟨#[]⟩, .map (some (A ⟨#[47]⟩))] 38)).alloc (.cells #[.int .i64 k, .string p, .string t, .string x] 25)) (.cells #[.int .i64 0, .string ⟨#[]⟩, .string ⟨#[]⟩, .string ⟨#[]⟩, .nilIface, .nilFunc] 45); rw [World.size_alloc, World.size_alloc] at h; exact h
 have HX := hidE hX; have HB := hidE hBw; have HU := hidE (undoOf_any W0 base N es A T (R.below hBw) k p t x (by omega)); have HD := hidE (fun (W : World) (hB : Below W0.heap.size W0 W) => do_any W base N es A ae T ((R.below hBw).below hB) ((hE.below hBw).below hB) k p t x hp ht hx (Nat.le_trans hb (Nat.le_trans hBw.size hB.size)) hN hes); rw [hc, he] at HD
 have hform : (∃ T u, errV ae c = .iface T u) ∨ errV ae c = .nilIface := by
  unfold errV
  split
  ·
   exact .inr rfl
  ·
   exact .inl ⟨_, _, rfl⟩
 obtain ⟨ev, hev⟩ : ∃ ev, errV ae c = ev := ⟨_, rfl⟩
 rw [hev] at HD hform ⊢; have hbz : base ≤ W0.heap.size := Nat.le_trans hb hBw.size; obtain ⟨k0, k1, k2, o0, o1, o2, o3⟩ := hX.c; have HPa := hidE hpath; clear hX hBw hev hpath R hE he hc; go_enter Tryz.func11, Tryz.ntmps11
 go_wp2_with fail
 clear hW0; refine HU.out.mono ?_; rintro e w1 ⟨f, rfl, ⟨fi, fp, rfl⟩, hf, hB1⟩; have HF := hidE hf; have HB1 := hidE hB1; have HX1 := hidE (HX.out.below hB1); have HD1 := hidE (fun (W : World) (h : Below w1.heap.size w1 W) => HD.out W (hB1.trans (h.mono hB1.size))); have hb1 : base ≤ w1.heap.size := Nat.le_trans hbz hB1.size; clear hB1 hf k0 k1 k2 o0 o1 o2 o3 HD HU; go_wp2
 refine wp_region_held_drew (S := fun W' => StC W' w.heap.size A k p t x) (by kernel_rfl) (HX1.out.below ((Below.refl _ w1).drew)).c (fun hS0 => ?_); have hT0 : Below w1.heap.size w1 w1.drew := (Below.refl _ w1).drew; refine wpAnyH_take (i := 0) (v := ?_) rfl (by kernel_rfl) (by kernel_rfl) (by kernel_rfl) (fun _ _ _ h => h) (Or.inl ⟨by rfl, ?_⟩) hS0 ?_
 rotate_left 1
 ·
  intro w' hw'; obtain ⟨y0, y1, y2, y3, y4, y5, y6⟩ := hw'; go_simp; first | done | with_reducible rfl
 refine wpAnyH_take (i := 1) (v := ?_) rfl (by kernel_rfl) (by kernel_rfl) (by kernel_rfl) (fun _ _ _ h => h) (Or.inl ⟨by rfl, ?_⟩) hS0 ?_
 rotate_left 1
 ·
  intro w' hw'; obtain ⟨y0, y1, y2, y3, y4, y5, y6⟩ := hw'; go_simp; first | done | with_reducible rfl
 refine wpAnyH_take (i := 2) (v := ?_) rfl (by kernel_rfl) (by kernel_rfl) (by kernel_rfl) (fun _ _ _ h => h) (Or.inl ⟨by rfl, ?_⟩) hS0 ?_
 rotate_left 1
 ·
  intro w' hw'; obtain ⟨y0, y1, y2, y3, y4, y5, y6⟩ := hw'; go_simp; first | done | with_reducible rfl
 refine wpAnyH_take (i := 4) (v := ?_) rfl (by kernel_rfl) (by kernel_rfl) (by kernel_rfl) (fun _ _ _ h => h) (Or.inl ⟨by rfl, ?_⟩) hS0 ?_
 rotate_left 1
 ·
  intro w' hw'; go_simp; first | done | with_reducible rfl
 refine wpAnyH_ready (rs := [3]) (by kernel_rfl) (by simp) (AllReadyH.cons rfl (fun K hK => ?_) AllReadyH.nil); go_simp; go_wp2_with (first | (go_at_call 15; refine (HD1.out _ hT0).mono ?_; rintro e w2 ⟨rfl, ht2, hr2⟩) | fail)
 have hT2 : Turn base w1 w2 := (Turn.of_below hT0 hb1).trans ht2; have hS2 := HX1.out.turn hT2; refine hK.out _ _ hS2.c (fun _ => ?_); clear hK K; rcases hform with ⟨eT, eu, rfl⟩ | rfl
 ·
  refine wpAnyH_take (i := 5) (v := ?_) rfl (by kernel_rfl) (by kernel_rfl) (by kernel_rfl) (fun _ _ _ h => h) (Or.inl ⟨by rfl, ?_⟩) hS2.c ?_
  rotate_left 1
  ·
   intro w' hw'; go_simp; first | done | with_reducible rfl
  obtain ⟨g0, g1, g2, g3, g4, g5⟩ := rules6 hS2.re; have g1a := fun u => (g1 u).1; have g1b := fun u => (g1 u).2; have g2a := fun u x => (g2 u x).1; have g2b := fun u x => (g2 u x).2; have g3a := fun u x y => (g3 u x y).1; have g3b := fun u x y => (g3 u x y).2; have g4a := fun u x y z => (g4 u x y z).1; have g4b := fun u x y z => (g4 u x y z).2; have g5a := fun u x y z q => (g5 u x y z q).1; have g5b := fun u x y z q => (g5 u x y z q).2; obtain ⟨g0, g0'⟩ := g0; clear g1 g2 g3 g4 g5; obtain ⟨s1, s2, s3⟩ := is6 hS2.re (.int .i64 k) (.string p) (.string t) (.string x) (.iface eT eu) (.func (.func fi) #[] fp); have hTf := (Turn.of_below (HB.out.trans (HB1.out.mono HB.out.size)) hb).trans hT2; have hbF := s3 base (by omega); have z0 := cell4 s1 0; have z1 := cell4 s1 1; have z2 := cell4 s1 2; have z3 := cell4 s1 3; have z4 := cell4 s1 4; have z5 := cell4 s1 5; refine wpAnyH_ready (rs := [6]) (by kernel_rfl) (by simp) (AllReadyH.cons rfl (fun K hK => ?_) AllReadyH.nil); go_simp
  have hcf : StC (((((((w2.setCell ⟨w.heap.size + 1 + 1, 0, none⟩ (.int .i64 k)).setCell ⟨w.heap.size + 1 + 1, 1, none⟩ (.string p)).setCell ⟨w.heap.size + 1 + 1, 2, none⟩ (.string t)).setCell ⟨w.heap.size + 1 + 1, 3, none⟩ (.string x)).setCell ⟨w.heap.size + 1 + 1, 4, none⟩ (.iface eT eu)).setCell ⟨w.heap.size + 1 + 1, 5, none⟩ (.func (.func fi) #[] fp))) w.heap.size A k p t x := by
   have ht := (s2 _ (by omega)).trans hS2.tr; have ho := (s2 _ (by omega)).trans hS2.op; exact ⟨cell4 ht 0, cell4 ht 1, cell4 ht 2, cell4 ho 0, cell4 ho 1, cell4 ho 2, cell4 ho 3⟩
  refine hK.out _ _ hcf (fun _ => ?_); clear hK K; refine wpAnyH_done (by kernel_rfl) ?_ _; go_wp2
  refine bodyPost_ret (v := .agg #[.int .i64 k, .string p, .string t, .string x, (.iface eT eu), .func (.func fi) #[] fp]) (by simp [results, Tryz.results11, go_sem, z0, z1, z2, z3, z4, z5]) rfl ⟨_, _, rfl, ?_, ?_, fun h0 => ?_⟩
  ·
   exact ⟨hTf.below.trans hbF, fun g o h1 h2 => (s2 g (by have := (Array.getElem?_eq_some_iff.1 h1).1; omega)).trans (hTf.cells g o h1 h2)⟩
  ·
   obtain ⟨A', e1, R2⟩ := hr2; exact ⟨A', e1, R2.keep (fun b _ ⟨o, c, e⟩ => s2 b (fun h => by subst h; rw [hS2.re] at e; cases e))⟩
  ·
   exact ((HF.out (HPa.out h0)).turn hT2).ty fun g cs T e hT => s2 g (fun h => by
    subst h; rw [hS2.re] at e
    injection e with e
    injection e with _ e2 _
    rcases hT with rfl | rfl <;> exact absurd e2 (by decide))
 ·
  refine wpAnyH_take (i := 5) (v := ?_) rfl (by kernel_rfl) (by kernel_rfl) (by kernel_rfl) (fun _ _ _ h => h) (Or.inl ⟨by rfl, ?_⟩) hS2.c ?_
  rotate_left 1
  ·
   intro w' hw'; go_simp; first | done | with_reducible rfl
  obtain ⟨g0, g1, g2, g3, g4, g5⟩ := rules6 hS2.re; have g1a := fun u => (g1 u).1; have g1b := fun u => (g1 u).2; have g2a := fun u x => (g2 u x).1; have g2b := fun u x => (g2 u x).2; have g3a := fun u x y => (g3 u x y).1; have g3b := fun u x y => (g3 u x y).2; have g4a := fun u x y z => (g4 u x y z).1; have g4b := fun u x y z => (g4 u x y z).2; have g5a := fun u x y z q => (g5 u x y z q).1; have g5b := fun u x y z q => (g5 u x y z q).2; obtain ⟨g0, g0'⟩ := g0; clear g1 g2 g3 g4 g5; obtain ⟨s1, s2, s3⟩ := is6 hS2.re (.int .i64 k) (.string p) (.string t) (.string x) .nilIface (.func (.func fi) #[] fp); have hTf := (Turn.of_below (HB.out.trans (HB1.out.mono HB.out.size)) hb).trans hT2; have hbF := s3 base (by omega); have z0 := cell4 s1 0; have z1 := cell4 s1 1; have z2 := cell4 s1 2; have z3 := cell4 s1 3; have z4 := cell4 s1 4; have z5 := cell4 s1 5; refine wpAnyH_ready (rs := [6]) (by kernel_rfl) (by simp) (AllReadyH.cons rfl (fun K hK => ?_) AllReadyH.nil); go_simp
  have hcf : StC (((((((w2.setCell ⟨w.heap.size + 1 + 1, 0, none⟩ (.int .i64 k)).setCell ⟨w.heap.size + 1 + 1, 1, none⟩ (.string p)).setCell ⟨w.heap.size + 1 + 1, 2, none⟩ (.string t)).setCell ⟨w.heap.size + 1 + 1, 3, none⟩ (.string x)).setCell ⟨w.heap.size + 1 + 1, 4, none⟩ .nilIface).setCell ⟨w.heap.size + 1 + 1, 5, none⟩ (.func (.func fi) #[] fp))) w.heap.size A k p t x := by
   have ht := (s2 _ (by omega)).trans hS2.tr; have ho := (s2 _ (by omega)).trans hS2.op; exact ⟨cell4 ht 0, cell4 ht 1, cell4 ht 2, cell4 ho 0, cell4 ho 1, cell4 ho 2, cell4 ho 3⟩
  refine hK.out _ _ hcf (fun _ => ?_); clear hK K; refine wpAnyH_done (by kernel_rfl) ?_ _; go_wp2
  refine bodyPost_ret (v := .agg #[.int .i64 k, .string p, .string t, .string x, .nilIface, .func (.func fi) #[] fp]) (by simp [results, Tryz.results11, go_sem, z0, z1, z2, z3, z4, z5]) rfl ⟨_, _, rfl, ?_, ?_, fun h0 => ?_⟩
  ·
   exact ⟨hTf.below.trans hbF, fun g o h1 h2 => (s2 g (by have := (Array.getElem?_eq_some_iff.1 h1).1; omega)).trans (hTf.cells g o h1 h2)⟩
  ·
   obtain ⟨A', e1, R2⟩ := hr2; exact ⟨A', e1, R2.keep (fun b _ ⟨o, c, e⟩ => s2 b (fun h => by subst h; rw [hS2.re] at e; cases e))⟩
  ·
   exact ((HF.out (HPa.out h0)).turn hT2).ty fun g cs T e hT => s2 g (fun h => by
    subst h; rw [hS2.re] at e
    injection e with e
    injection e with _ e2 _
    rcases hT with rfl | rfl <;> exact absurd e2 (by decide))
end Go.Proofs.YtafeddiijemnbaaGreatDoor
