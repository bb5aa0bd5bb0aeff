import Derived.Test.YteppodogghjfhaaGreatDoorHPk11
import Derived.Test.YteppodogghjfhaaGreatDoorHOvChP
import Derived.Test.YteppodogghjfhaaGreatDoorHPk22
import Derived.Test.YteppodogghjfhaaGreatDoorHMkLie
import Derived.Test.YteppodogghjfhaaGreatDoorHPk20
namespace Go.Proofs.YteppodogghjfhaaGreatDoor.Ov
open Go.RowKit Go.Lib
def RE (w : World) (v : Value) (es : List E) : Prop := ∃ a g o cap, v = .slice a es.length cap ∧ es.length ≤ 1048576 ∧ es.length ≤ cap ∧ SmE es ∧ (0 < es.length → a = some ⟨g, o, none⟩) ∧ Ents w g o es
theorem RE.below {w w' : World} {v : Value} {es : List E} (h : RE w v es) (hb : Below w.heap.size w w') : RE w' v es := by
 obtain ⟨a, g, o, cap, rfl, h1, h2, h3, h4, h5⟩ := h; exact ⟨a, g, o, cap, rfl, h1, h2, h3, h4, h5.below hb⟩
def RM (w : World) (v : Value) (es : List Mk.E) : Prop := ∃ a g o cap, v = .slice a es.length cap ∧ es.length ≤ 1048576 ∧ es.length ≤ cap ∧ SmM es ∧ (0 < es.length → a = some ⟨g, o, none⟩) ∧ Mk.Ents w g o es
theorem RM.below {w w' : World} {v : Value} {es : List Mk.E} (h : RM w v es) (hb : Below w.heap.size w w') : RM w' v es := by
 obtain ⟨a, g, o, cap, rfl, h1, h2, h3, h4, h5⟩ := h; exact ⟨a, g, o, cap, rfl, h1, h2, h3, h4, h5.below hb⟩
def RL (w : World) (v : Value) (ls : List (List Mk.E)) : Prop := ∃ a g o cap, v = .slice a ls.length cap ∧ ls.length ≤ 1048576 ∧ ls.length ≤ cap ∧ (0 < ls.length → a = some ⟨g, o, none⟩) ∧ ∀ i (h : i < ls.length), ∃ u, w.cell? ⟨g, o + i, none⟩ = some u ∧ RM w u ls[i]
theorem RL.below {w w' : World} {v : Value} {ls : List (List Mk.E)} (h : RL w v ls) (hb : Below w.heap.size w w') : RL w' v ls := by
 obtain ⟨a, g, o, cap, rfl, h1, h2, h4, h5⟩ := h; refine ⟨a, g, o, cap, rfl, h1, h2, h4, fun i hi => ?_⟩; obtain ⟨u, c, r⟩ := h5 i hi; exact ⟨u, (hb.cell (p := ⟨g, o + i, none⟩) (World.block_lt_of_cell? w ⟨g, o + i, none⟩ c)).trans c, r.below hb⟩
def Lie (w : World) (v : Value) (x : O) : Prop := ∃ v0 v1 v2, v = .agg #[v0, v1, v2] ∧ RE w v0 x.b ∧ RL w v1 x.l ∧ RM w v2 x.u
theorem Lie.below {w w' : World} {v : Value} {x : O} (h : Lie w v x) (hb : Below w.heap.size w w') : Lie w' v x := by
 obtain ⟨v0, v1, v2, rfl, h0, h1, h2⟩ := h; exact ⟨v0, v1, v2, rfl, h0.below hb, h1.below hb, h2.below hb⟩
theorem own_re {w : World} {base : Nat} {v : Value} {es : List E} (h : OwnE w base v es) (hl : es.length ≤ 1048576) (hz : SmE es) : RE w v es := by
 obtain ⟨a, g, cap, rfl, h1, h2, h3⟩ := h.ents; exact ⟨a, g, 0, cap, rfl, hl, h3, hz, h1, h2⟩
theorem own_rm {w : World} {base : Nat} {v : Value} {es : List Mk.E} (h : Mk.OwnE w base v es) (hl : es.length ≤ 1048576) (hz : SmM es) : RM w v es := by
 obtain ⟨a, g, cap, rfl, h1, h2, h3⟩ := h.ents; exact ⟨a, g, 0, cap, rfl, hl, h3, hz, h1, h2⟩
theorem lie_rm {w : World} {base : Nat} {v : Value} {es : List Mk.E} (h : Mk.LieB w base v es) (hl : es.length ≤ 1048576) (hz : SmM es) : RM w v es := by
 obtain ⟨a, g, o, cap, rfl, h1, h2, h3, h4⟩ := h; exact ⟨a, g, o, cap, rfl, hl, h3, hz, h1, h2⟩
theorem RE.sOk {w : World} {v : Value} {es : List E} (h : RE w v es) : Calls Tryz.prog 66 #[v] w fun r w' => r = .returned (.bool (treeE es)) ∧ Below w.heap.size w w' := by
 obtain ⟨a, g, o, cap, rfl, h1, h2, h3, h4, h5⟩ := h; exact sTreeOk_any w a g o cap es (by omega) h2 h3 h4 h5
theorem RM.sOn {w : World} {v v' : Value} {l : List Mk.E} {t : List E} (h : RM w v l) (h' : RE w v' t) :
  Calls Tryz.prog 67 #[v, v'] w fun r w' => ∃ u, r = .returned (.tuple #[u, .bool (Ly.onB l t)]) ∧ OwnE w' w.heap.size u (Ly.onE l t) ∧ Below w.heap.size w w' := by
 obtain ⟨a, g, o, cap, rfl, h1, h2, h3, h4, h5⟩ := h; obtain ⟨a', g', o', cap', rfl, k1, k2, k3, k4, k5⟩ := h'; exact Ly.sLayerOn_any w a g o cap l a' g' o' cap' t h1 k1 h2 k2 h3 k3 h4 k4 h5 k5
theorem on_re {w : World} {base : Nat} {v : Value} {l : List Mk.E} {t : List E} (h : OwnE w base v (Ly.onE l t)) (hl : SmM l) (ht : SmE t) : RE w v (Ly.onE l t) := by
 have := onE_szV hl ht; exact own_re h (by omega) this.2
theorem RE.sm {w : World} {v : Value} {es : List E} (h : RE w v es) : SmE es := by obtain ⟨_, _, _, _, _, _, _, h3, _⟩ := h; exact h3
theorem RM.sm {w : World} {v : Value} {es : List Mk.E} (h : RM w v es) : SmM es := by obtain ⟨_, _, _, _, _, _, _, h3, _⟩ := h; exact h3
structure Win (lo hi : Nat) (w w' : World) : Prop where
 os : w'.os = w.os
 tape : w'.tape = w.tape
 output : w'.output = w.output
 size : w.heap.size ≤ w'.heap.size
 block : ∀ b, b < w.heap.size → (b < lo ∨ hi ≤ b) → w'.heap[b]? = w.heap[b]?
theorem Win.refl (lo hi : Nat) (w : World) : Win lo hi w w := ⟨rfl, rfl, rfl, Nat.le_refl _, fun _ _ _ => rfl⟩
theorem Win.trans {lo hi : Nat} {a b c : World} (h : Win lo hi a b) (k : Win lo hi b c) : Win lo hi a c :=
 ⟨k.os.trans h.os, k.tape.trans h.tape, k.output.trans h.output, Nat.le_trans h.size k.size, fun x hx hr => (k.block x (Nat.lt_of_lt_of_le hx h.size) hr).trans (h.block x hx hr)⟩
theorem Win.of_below {lo hi : Nat} {w w' : World} (h : Below w.heap.size w w') : Win lo hi w w' := ⟨h.os, h.tape, h.output, h.size, fun b hb _ => h.block b hb⟩
theorem Win.mono {lo hi lo' hi' : Nat} {w w' : World} (h : Win lo hi w w') (h1 : lo' ≤ lo) (h2 : hi ≤ hi') : Win lo' hi' w w' := ⟨h.os, h.tape, h.output, h.size, fun b hb hr => h.block b hb (by omega)⟩
theorem Win.of_but {lo hi g : Nat} {w w' : World} (h : But g w w') (hg : g < w.heap.size → lo ≤ g ∧ g < hi) : Win lo hi w w' := ⟨h.1, h.2.1, h.2.2.1, h.2.2.2.1, fun b hb hr => h.2.2.2.2 b hb (fun e => by subst e; have := hg hb; omega)⟩
theorem Win.of_butM {lo hi g : Nat} {w w' : World} (h : Mk.But g w w') (hg : g < w.heap.size → lo ≤ g ∧ g < hi) : Win lo hi w w' := ⟨h.1, h.2.1, h.2.2.1, h.2.2.2.1, fun b hb hr => h.2.2.2.2 b hb (fun e => by subst e; have := hg hb; omega)⟩
theorem Win.belowE {lo hi n : Nat} {w w0 w' : World} (h : Win lo hi w w') (hB : Below n w0 w) (hn : n ≤ w.heap.size) (hr : n ≤ lo) : Below n w0 w' :=
 hB.trans ⟨h.os, h.tape, h.output, h.size, fun k hk => h.block k (by omega) (by omega)⟩
theorem Win.cell {lo hi : Nat} {w w' : World} (h : Win lo hi w w') {b o : Nat} {v : Value} (c : w.cell? ⟨b, o, none⟩ = some v) (hb : b < lo ∨ hi ≤ b) : w'.cell? ⟨b, o, none⟩ = some v :=
 (World.cell?_of_block (w := w) (a := ⟨b, o, none⟩) (h.block b (World.block_lt_of_cell? w ⟨b, o, none⟩ c) hb)).trans c
theorem Win.frozen {lo hi : Nat} {w w' : World} (h : Win lo hi w w') {b o : Nat} (lt : b < w.heap.size) (hb : b < lo ∨ hi ≤ b) : w'.frozen? ⟨b, o, none⟩ = w.frozen? ⟨b, o, none⟩ :=
 World.frozen?_of_block (w := w) (a := ⟨b, o, none⟩) (h.block b lt hb)
theorem Win.ents {lo hi : Nat} {w w' : World} (h : Win lo hi w w') {g o : Nat} {es : List E} (hE : Ents w g o es) (hb : 0 < es.length → g < lo ∨ hi ≤ g) : Ents w' g o es := fun i hi => by
 obtain ⟨c0, c1, c2⟩ := hE i hi; have := hb (by omega); exact ⟨h.cell c0 this, h.cell c1 this, h.cell c2 this⟩
theorem Win.entsM {lo hi : Nat} {w w' : World} (h : Win lo hi w w') {g o : Nat} {es : List Mk.E} (hE : Mk.Ents w g o es) (hb : 0 < es.length → g < lo ∨ hi ≤ g) : Mk.Ents w' g o es := fun i hi => by
 obtain ⟨c0, c1, c2⟩ := hE i hi; have := hb (by omega); exact ⟨h.cell c0 this, h.cell c1 this, h.cell c2 this⟩
theorem Win.room {lo hi : Nat} {w w' : World} (h : Win lo hi w w') {g n : Nat} (hE : Room w g n) (hb : 0 < n → g < lo ∨ hi ≤ g) : Room w' g n := fun i hi => by
 obtain ⟨⟨v, c⟩, f⟩ := hE i hi; have := hb (by omega); exact ⟨⟨v, h.cell c this⟩, (h.frozen (World.block_lt_of_cell? w ⟨g, i, none⟩ c) this).trans f⟩
def REn (n : Nat) (w : World) (v : Value) (es : List E) : Prop := ∃ a g o cap, v = .slice a es.length cap ∧ es.length ≤ 16777216 ∧ (0 < es.length → a = some ⟨g, o, none⟩) ∧ Ents w g o es ∧ (0 < es.length → g < n)
def RMn (n : Nat) (w : World) (v : Value) (es : List Mk.E) : Prop := ∃ a g o cap, v = .slice a es.length cap ∧ es.length ≤ 16777216 ∧ (0 < es.length → a = some ⟨g, o, none⟩) ∧ Mk.Ents w g o es ∧ (0 < es.length → g < n)
def RLn (n : Nat) (w : World) (v : Value) (ls : List (List Mk.E)) : Prop := ∃ a g o cap, v = .slice a ls.length cap ∧ ls.length ≤ 16777216 ∧ (0 < ls.length → a = some ⟨g, o, none⟩ ∧ g < n) ∧ ∀ i (h : i < ls.length), ∃ u, w.cell? ⟨g, o + i, none⟩ = some u ∧ RMn n w u ls[i]
def LieN (n : Nat) (w : World) (v : Value) (x : O) : Prop := ∃ v0 v1 v2, v = .agg #[v0, v1, v2] ∧ REn n w v0 x.b ∧ RLn n w v1 x.l ∧ RMn n w v2 x.u
theorem RE.n {w : World} {v : Value} {es : List E} (h : RE w v es) : REn w.heap.size w v es := by
 obtain ⟨a, g, o, cap, rfl, h1, h2, h3, h4, h5⟩ := h; exact ⟨a, g, o, cap, rfl, by omega, h4, h5, fun p => World.block_lt_of_cell? w ⟨g, _, none⟩ (h5 0 p).1⟩
theorem RM.n {w : World} {v : Value} {es : List Mk.E} (h : RM w v es) : RMn w.heap.size w v es := by
 obtain ⟨a, g, o, cap, rfl, h1, h2, h3, h4, h5⟩ := h; exact ⟨a, g, o, cap, rfl, by omega, h4, h5, fun p => World.block_lt_of_cell? w ⟨g, _, none⟩ (h5 0 p).1⟩
theorem RL.n {w : World} {v : Value} {ls : List (List Mk.E)} (h : RL w v ls) : RLn w.heap.size w v ls := by
 obtain ⟨a, g, o, cap, rfl, h1, h2, h4, h5⟩ := h; refine ⟨a, g, o, cap, rfl, by omega, fun p => ⟨h4 p, ?_⟩, fun i hi => ?_⟩
 ·
  obtain ⟨u, c, _⟩ := h5 0 p; exact World.block_lt_of_cell? w ⟨g, o + 0, none⟩ c
 ·
  obtain ⟨u, c, r⟩ := h5 i hi; exact ⟨u, c, r.n⟩
theorem Lie.n {w : World} {v : Value} {x : O} (h : Lie w v x) : LieN w.heap.size w v x := by
 obtain ⟨v0, v1, v2, rfl, h0, h1, h2⟩ := h; exact ⟨v0, v1, v2, rfl, h0.n, h1.n, h2.n⟩
def OE (lo hi : Nat) (w : World) (v : Value) (es : List E) : Prop := ∃ a g cap, v = .slice a es.length cap ∧ es.length ≤ cap ∧ (0 < es.length → a = some ⟨g, 0, none⟩ ∧ lo ≤ g ∧ g < hi) ∧ Ents w g 0 es ∧ Room w g (es.length * 3)
def OM (lo hi : Nat) (w : World) (v : Value) (es : List Mk.E) : Prop := ∃ a g cap, v = .slice a es.length cap ∧ es.length ≤ cap ∧ (0 < es.length → a = some ⟨g, 0, none⟩ ∧ lo ≤ g ∧ g < hi) ∧ Mk.Ents w g 0 es ∧ Room w g (es.length * 3)
def OL (lo hi : Nat) (w : World) (v : Value) (ls : List (List Mk.E)) : Prop := ∃ a g cap, ∃ f : Nat → Nat, v = .slice a ls.length cap ∧ ls.length ≤ cap ∧ (0 < ls.length → a = some ⟨g, 0, none⟩ ∧ lo ≤ g ∧ g < hi) ∧
 (∀ i (h : i < ls.length), ∃ ai ci, w.cell? ⟨g, i, none⟩ = some (.slice ai ls[i].length ci) ∧ ls[i].length ≤ ci ∧ (0 < ls[i].length → ai = some ⟨f i, 0, none⟩ ∧ lo ≤ f i ∧ f i < hi ∧ f i ≠ g) ∧ Mk.Ents w (f i) 0 ls[i] ∧ Room w (f i) (ls[i].length * 3)) ∧
 (∀ i j (hi : i < ls.length) (hj : j < ls.length), i < j → 0 < ls[i].length → 0 < ls[j].length → f i < f j)
def OO (lo hi : Nat) (w : World) (v : Value) (x : O) : Prop := ∃ v0 v1 v2 m1 m2, v = .agg #[v0, v1, v2] ∧ lo ≤ m1 ∧ m1 ≤ m2 ∧ m2 ≤ hi ∧ OE lo m1 w v0 x.b ∧ OL m1 m2 w v1 x.l ∧ OM m2 hi w v2 x.u
theorem OE.win {lo hi a b : Nat} {w w' : World} {v : Value} {es : List E} (h : OE lo hi w v es) (k : Win a b w w') (hn : b ≤ lo ∨ hi ≤ a) : OE lo hi w' v es := by
 obtain ⟨a, g, cap, rfl, h1, h2, h3, h4⟩ := h; exact ⟨a, g, cap, rfl, h1, h2, k.ents h3 (fun p => by have := h2 p; omega), k.room h4 (fun p => by have := h2 (by omega); omega)⟩
theorem OM.win {lo hi a b : Nat} {w w' : World} {v : Value} {es : List Mk.E} (h : OM lo hi w v es) (k : Win a b w w') (hn : b ≤ lo ∨ hi ≤ a) : OM lo hi w' v es := by
 obtain ⟨a, g, cap, rfl, h1, h2, h3, h4⟩ := h; exact ⟨a, g, cap, rfl, h1, h2, k.entsM h3 (fun p => by have := h2 p; omega), k.room h4 (fun p => by have := h2 (by omega); omega)⟩
theorem OL.win {lo hi a b : Nat} {w w' : World} {v : Value} {ls : List (List Mk.E)} (h : OL lo hi w v ls) (k : Win a b w w') (hn : b ≤ lo ∨ hi ≤ a) : OL lo hi w' v ls := by
 obtain ⟨a, g, cap, f, rfl, h1, h2, h3, h4⟩ := h; refine ⟨a, g, cap, f, rfl, h1, h2, fun i hi => ?_, h4⟩; obtain ⟨ai, ci, c, q1, q2, q3, q4⟩ := h3 i hi; exact ⟨ai, ci, k.cell c (by have := h2 (by omega); omega), q1, q2, k.entsM q3 (fun p => by have := q2 p; omega), k.room q4 (fun p => by have := q2 (by omega); omega)⟩
theorem OO.win {lo hi a b : Nat} {w w' : World} {v : Value} {x : O} (h : OO lo hi w v x) (k : Win a b w w') (hn : b ≤ lo ∨ hi ≤ a) : OO lo hi w' v x := by
 obtain ⟨v0, v1, v2, m1, m2, rfl, l1, l2, l3, h0, h1, h2⟩ := h; exact ⟨v0, v1, v2, m1, m2, rfl, l1, l2, l3, h0.win k (by omega), h1.win k (by omega), h2.win k (by omega)⟩
theorem OE.lt {lo hi : Nat} {w : World} {v : Value} {es : List E} (h : OE lo hi w v es) : REn hi w v es ∨ 16777216 < es.length := by
 obtain ⟨a, g, cap, rfl, h1, h2, h3, h4⟩ := h; by_cases hl : es.length ≤ 16777216
 ·
  exact .inl ⟨a, g, 0, cap, rfl, hl, fun p => (h2 p).1, h3, fun p => (h2 p).2.2⟩
 ·
  exact .inr (by omega)
theorem OE.mono {lo hi lo' hi' : Nat} {w : World} {v : Value} {es : List E} (h : OE lo hi w v es) (h1 : lo' ≤ lo) (h2 : hi ≤ hi') : OE lo' hi' w v es := by
 obtain ⟨a, g, cap, rfl, k1, k2, k3, k4⟩ := h; exact ⟨a, g, cap, rfl, k1, fun p => by have := k2 p; exact ⟨this.1, by omega, by omega⟩, k3, k4⟩
theorem OM.mono {lo hi lo' hi' : Nat} {w : World} {v : Value} {es : List Mk.E} (h : OM lo hi w v es) (h1 : lo' ≤ lo) (h2 : hi ≤ hi') : OM lo' hi' w v es := by
 obtain ⟨a, g, cap, rfl, k1, k2, k3, k4⟩ := h; exact ⟨a, g, cap, rfl, k1, fun p => by have := k2 p; exact ⟨this.1, by omega, by omega⟩, k3, k4⟩
theorem Win.below {lo hi : Nat} {w w' : World} (h : Below w.heap.size w w') : Win lo hi w w' := Win.of_below h
theorem OO.below {lo hi : Nat} {w w' : World} {v : Value} {x : O} (h : OO lo hi w v x) (k : Below w.heap.size w w') : OO lo hi w' v x := by
 obtain ⟨v0, v1, v2, m1, m2, rfl, l1, l2, l3, ⟨a0, g0, c0, rfl, p1, p2, p3, p4⟩, ⟨a1, g1, c1, f, rfl, q1, q2, q3, q4⟩, ⟨a2, g2, c2, rfl, r1, r2, r3, r4⟩⟩ := h; refine ⟨_, _, _, m1, m2, rfl, l1, l2, l3, ⟨a0, g0, c0, rfl, p1, p2, p3.below k, p4.below k⟩, ⟨a1, g1, c1, f, rfl, q1, q2, fun i hi => ?_, q4⟩, ⟨a2, g2, c2, rfl, r1, r2, r3.below k, r4.below k⟩⟩; obtain ⟨ai, ci, c, z1, z2, z3, z4⟩ := q3 i hi; exact ⟨ai, ci, (k.cell (p := ⟨g1, i, none⟩) (World.block_lt_of_cell? w ⟨g1, i, none⟩ c)).trans c, z1, z2, z3.below k, z4.below k⟩
set_option maxHeartbeats 2000000 in
set_option maxRecDepth 100000 in
theorem sl4Lower_any (w : World) (v : Value) (x : O) (h : Lie w v x) :
  Calls Tryz.prog 35 #[v] w fun r w' => ∃ u, r = .returned (.tuple #[u, .bool (lwB x)]) ∧ OwnE w' w.heap.size u (lwE x) ∧ Below w.heap.size w w' := by
 obtain ⟨v0, v1, v2, rfl, h0, h1, h2⟩ := h; obtain ⟨a0, g0, o0, c0, rfl, -⟩ := id h0; obtain ⟨a1, g1, o1, c1, rfl, hl1, hl2, ha1, hL⟩ := id h1; obtain ⟨a2, g2, o2, c2, rfl, -⟩ := id h2; obtain ⟨W0, hW0⟩ : ∃ W0, w.alloc (.cells #[.slice a0 x.b.length c0, .slice a1 x.l.length c1, .slice a2 x.u.length c2] 33) = W0 := ⟨_, rfl⟩
 have hb0 : Below w.heap.size w W0 := by rw [← hW0]; exact (Below.refl _ w).alloc (Nat.le_refl _) _
 have HX := hidE (by have := C3.new w (.slice a0 x.b.length c0) (.slice a1 x.l.length c1) (.slice a2 x.u.length c2) 33; rw [hW0] at this; exact this); have HB := hidE hb0; have HE := hidE (h0.below hb0); have HL := hidE (fun (W : World) (hb : Below w.heap.size w W) => h1.below hb)
 have HLs := hidE (fun (W : World) (hb : Below w.heap.size w W) (i : Nat) (hi : i < x.l.length) => show ∃ u, W.cell? ⟨g1, o1 + i, none⟩ = some u ∧ RM W u x.l[i] from by
  obtain ⟨u, c, r⟩ := hL i hi
  exact ⟨u, (hb.cell (p := ⟨g1, o1 + i, none⟩) (World.block_lt_of_cell? w ⟨g1, o1 + i, none⟩ c)).trans c, r.below hb⟩)
 have HS := hidE h0.sm; have HV := hidE (fun (W : World) (hb : Below w.heap.size w W) => h0.below hb); have HD : Hid (lwB x = ((treeE x.b && decide (x.l.length ≤ 4)) && lowB x.l x.b)) := rfl; clear h0 h1 h2 hb0 hL; go_enter Tryz.func35, Tryz.ntmps35
 obtain ⟨k0, k1, k2, -, -, -⟩ := HX.out; go_wp2_with fail
 refine HE.out.sOk.mono ?_; rintro e w1 ⟨rfl, hB⟩; have HB1 := hidE (B3 HB.out hB); have HX1 := hidE (HX.out.below hB); clear hB HB HX HE k0 k1 k2 hW0; obtain ⟨k0, k1, k2, -, -, -⟩ := HX1.out; cases htr : treeE x.b with
 | false =>
  have hn : lwB x = false := by rw [HD.out, htr]; rfl
  have hq := lwE_no hn; go_wp2
  go_ret2
  exact ⟨_, by rw [hn]; rfl, by rw [hq]; exact OwnE.made _ HB1.out.size, HB1.out.alloc HB1.out.size _⟩
 | true =>
  by_cases h4 : x.l.length ≤ 4
  ·
   go_wp2
   go_loopw [4, 5] (fun tv iv wl => ∃ k : Nat, k ≤ x.l.length ∧ iv = .int .i64 k ∧ Hid (RE wl tv (lowE (x.l.take k) x.b)) ∧ Hid (lowB (x.l.take k) x.b = true) ∧ Hid (Below w1.heap.size w1 wl)) (fun _ iv _ => x.l.length - (RowKit.intOf iv).toNat)
   case atStart => exact ⟨0, Nat.zero_le _, rfl, HV.out _ HB1.out, rfl, Below.refl _ _⟩
   case round =>
    clear k0 k1 k2; obtain ⟨k, hk, rfl, HT, HA, HBk⟩ := hrel; obtain ⟨k0, k1, k2, -, -, -⟩ := HX1.out.below HBk.out; by_cases hlt : k < x.l.length
    ·
     obtain rfl := ha1 (by omega); obtain ⟨u, c0, hu⟩ := HLs.out wr (B3 HB1.out HBk.out) k hlt; obtain ⟨au, gu, ou, cu, rfl, -⟩ := id hu; obtain ⟨at1, gt1, ot1, ct1, rfl, -⟩ := id HT.out; have HOn := hidE (hu.sOn HT.out); have HSm := hidE (And.intro hu.sm HT.out.sm); clear hu HT; have HK := hidE (lowE_succ (t := x.b) hlt); have HK2 := hidE (lowB_succ (t := x.b) hlt); have HC := hidE (fun h => lowB_cut (t := x.b) hlt h); go_wp2_with fail
     refine HOn.out.mono ?_; rintro e w2 ⟨u2, rfl, hO2, hB2⟩; have HB2 := hidE (B3 HBk.out hB2); have HE2 := hidE (on_re hO2 HSm.out.1 HSm.out.2); clear hB2 hO2 HOn HSm HBk k0 k1 k2 c0; obtain ⟨k0, k1, k2, -, -, -⟩ := HX1.out.below HB2.out; cases hb : Ly.onB x.l[k] (lowE (x.l.take k) x.b) with
     | false =>
      have hn : lwB x = false := by rw [HD.out, HC.out hb, Bool.and_false]
      have hq := lwE_no hn; have hbb := B3 HB1.out HB2.out; go_wp2
      go_ret2
      exact ⟨_, by rw [hn]; rfl, by rw [hq]; exact OwnE.made _ hbb.size, hbb.alloc hbb.size _⟩
     | true =>
      have HA2 : Hid (lowB (x.l.take (k + 1)) x.b = true) := by show _ = _; rw [HK2.out, HA.out, hb]; rfl
      go_wp2
      go_roundw
      case rel => exact ⟨k + 1, by omega, by go_num, by rw [HK.out]; exact HE2, HA2, HB2⟩
      case measure => simp [RowKit.intOf]; omega
    ·
     have hke : x.l.take k = x.l := List.take_of_length_le (by omega); rw [hke] at HT HA; have hn : lwB x = true := by rw [HD.out, htr, decide_eq_true h4, HA.out]; rfl
     have HQ := hidE (lwE_yes hn); have HN := hidE hn; have hbb := hidE (B3 HB1.out HBk.out); obtain ⟨at1, gt1, ot1, ct1, rfl, q1, q2, q3, q4, q5⟩ := HT.out; have HEf := hidE q5; clear hn HT q5; have hz := hbb.out.size; obtain ⟨es, hes⟩ : ∃ es, lowE x.l x.b = es := ⟨_, rfl⟩
     rw [hes] at q1 q4 HEf HQ
     go_wp2_with (first
      | (at_builtin; refine wpE_append rfl _ _ rfl w.heap.size _ [] rfl (OwnE.made wr hz) _ _ gt1 ot1 es es.length rfl (by rw [hes]; rfl) q4 (HEf.out.below ((Below.refl _ wr).alloc (Nat.le_refl _) _)) (by simp; omega) (by simp; omega) ?_)
      | fail)
     intro v' w4 hown' hgrow; have HB4 := hidE ((hbb.out.alloc hz (.cells #[] 43)).grown hgrow (by simp; omega) (fun q hq => by simp [Value.ownBlock] at hq; omega)); have HO4 : Hid (OwnE w4 w.heap.size v' es) := hown'; clear hown' hgrow; go_wp2
     go_ret2
     exact ⟨_, by rw [HN.out]; rfl, by rw [HQ.out]; exact HO4.out, HB4.out⟩
  ·
   have hn : lwB x = false := by rw [HD.out, htr, decide_eq_false h4]; rfl
   have hq := lwE_no hn; have h5 : (4 : Int) < x.l.length := by omega
   go_wp2
   go_ret2
   exact ⟨_, by rw [hn]; rfl, by rw [hq]; exact OwnE.made _ HB1.out.size, HB1.out.alloc HB1.out.size _⟩
set_option maxHeartbeats 1000000 in
set_option maxRecDepth 100000 in
theorem sl4View_any (w : World) (v : Value) (x : O) (h : Lie w v x) :
  Calls Tryz.prog 36 #[v] w fun r w' => ∃ u, r = .returned (.tuple #[u, .bool (vwB x)]) ∧ OwnE w' w.heap.size u (vwE x) ∧ Below w.heap.size w w' := by
 have hL := h; obtain ⟨v0, v1, v2, rfl, h0, h1, h2⟩ := h; obtain ⟨a0, g0, o0, c0, rfl, -⟩ := id h0; obtain ⟨a1, g1, o1, c1, rfl, -⟩ := id h1; obtain ⟨a2, g2, o2, c2, rfl, -⟩ := id h2; obtain ⟨W0, hW0⟩ : ∃ W0, w.alloc (.cells #[.slice a0 x.b.length c0, .slice a1 x.l.length c1, .slice a2 x.u.length c2] 33) = W0 := ⟨_, rfl⟩
 have hb0 : Below w.heap.size w W0 := by rw [← hW0]; exact (Below.refl _ w).alloc (Nat.le_refl _) _
 have HX := hidE (by have := C3.new w (.slice a0 x.b.length c0) (.slice a1 x.l.length c1) (.slice a2 x.u.length c2) 33; rw [hW0] at this; exact this); have HB := hidE hb0; have HLo := hidE (sl4Lower_any W0 _ x (hL.below hb0)); have HU := hidE (fun (W : World) (hb : Below w.heap.size w W) => h2.below hb); have HSm := hidE (And.intro (fun l hl => by obtain ⟨a, g, o, c, e, q1, q2, q3, q4⟩ := h1; obtain ⟨i, hi, rfl⟩ := List.getElem_of_mem hl; obtain ⟨u, _, r⟩ := q4 i hi; exact r.sm : ∀ l ∈ x.l, SmM l) h0.sm); clear h0 h1 h2 hb0 hL; go_enter Tryz.func36, Tryz.ntmps36
 obtain ⟨k0, k1, k2, -, -, -⟩ := HX.out; go_wp2_with fail
 refine HLo.out.mono ?_; rintro e w1 ⟨u1, rfl, hO, hB⟩; have HB1 := hidE (B3 HB.out hB); have HX1 := hidE (HX.out.below hB); have HO1 := hidE hO; clear hO hB HB HX HLo hW0 k0 k1 k2; obtain ⟨k0, k1, k2, -, -, -⟩ := HX1.out; cases hlw : lwB x with
 | false =>
  have hn := vwB_no hlw; have hq := vwE_no hlw; go_wp2
  go_ret2
  exact ⟨_, by rw [hn]; rfl, by rw [hq]; exact OwnE.made _ HB1.out.size, HB1.out.alloc HB1.out.size _⟩
 | true =>
  have hE : RE w1 u1 (lwE x) := own_re HO1.out (by have := (lw_parts hlw).2.2.2; omega) (by rw [lwE_yes hlw]; exact low_sm _ _ HSm.out.1 HSm.out.2); have HOn := hidE ((HU.out _ HB1.out).sOn hE); have HN := hidE (show vwB x = Ly.onB x.u (lwE x) by unfold vwB; rw [hlw]; rfl); have HQ := hidE (vwE_yes hlw); obtain ⟨at1, gt1, ot1, ct1, rfl, -⟩ := id hE; clear hE HO1; go_wp2_with fail
  refine HOn.out.mono ?_; rintro e w2 ⟨u2, rfl, hO2, hB2⟩; have HB2 := hidE (B3 HB1.out hB2); have HO2 := hidE (hO2.lower (base' := w.heap.size) HB1.out.size); clear hB2 hO2 k0 k1 k2; go_wp2
  go_ret2
  exact ⟨_, by rw [HN.out]; rfl, by rw [HQ.out]; exact HO2.out, HB2.out⟩
end Go.Proofs.YteppodogghjfhaaGreatDoor.Ov
