/-
  A tree on layers as the laws weigh it, turn it and hold it.
-/
import Derived.Test.YtjkpnohfkadfiaaHOvEq
namespace Go.Proofs.Ytjkpnohfkadfiaa.Ov
open Go.RowKit Go.Lib Go.Sort

/-- A tree on layers: its tree, its layers, and the one that is turned. -/
structure O where
  b : List E
  l : List (List Mk.E)
  u : List Mk.E
/-- A tree on layers as it came in. -/
structure Arg (w : World) (v : Value) (x : O) : Prop where
  ex : ∃ a0 g0 o0 c0 a1 g1 o1 c1 a2 g2 o2 c2, v = .agg #[.slice a0 x.b.length c0, .slice a1 x.l.length c1, .slice a2 x.u.length c2] ∧ (0 < x.b.length → a0 = some ⟨g0, o0, none⟩) ∧ (0 < x.l.length → a1 = some ⟨g1, o1, none⟩) ∧ (0 < x.u.length → a2 = some ⟨g2, o2, none⟩) ∧ Ents w g0 o0 x.b ∧ LL w g1 o1 x.l ∧ Mk.Ents w g2 o2 x.u
theorem Arg.below {w w' : World} {v : Value} {x : O} (h : Arg w v x) (hb : Below w.heap.size w w') : Arg w' v x := by
  obtain ⟨a0, g0, o0, c0, a1, g1, o1, c1, a2, g2, o2, c2, h1, h2, h3, h4, h5, h6, h7⟩ := h.ex
  exact ⟨⟨a0, g0, o0, c0, a1, g1, o1, c1, a2, g2, o2, c2, h1, h2, h3, h4, h5.below hb, h6.below hb, h7.below hb⟩⟩
/-- No part of it is greater than so. -/
structure Sz (n : Nat) (x : O) : Prop where
  b0 : x.b.length ≤ n
  b1 : ∀ e ∈ x.b, e.p.size ≤ n ∧ e.x.size ≤ n
  l0 : x.l.length ≤ n
  l1 : ∀ l ∈ x.l, l.length ≤ n ∧ ∀ e ∈ l, e.p.size ≤ n ∧ e.x.size ≤ n
  u0 : x.u.length ≤ n
  u1 : ∀ e ∈ x.u, e.p.size ≤ n ∧ e.x.size ≤ n

theorem B3 {a b c : World} (h : Below a.heap.size a b) (k : Below b.heap.size b c) : Below a.heap.size a c := h.trans (k.mono h.size)
theorem bA {w X : World} (h : Below w.heap.size w X) (o : Obj) : Below w.heap.size w (X.alloc o) := h.alloc h.size o

theorem bx3 {w w' : World} {a b c : Value} {T : TypeId} (h : Below (w.alloc (.cells #[a, b, c] T)).heap.size (w.alloc (.cells #[a, b, c] T)) w') :
    w'.cell? ⟨w.heap.size, 0, none⟩ = some a ∧ w'.cell? ⟨w.heap.size, 1, none⟩ = some b ∧ w'.cell? ⟨w.heap.size, 2, none⟩ = some c := by
  have lt : w.heap.size < (w.alloc (.cells #[a, b, c] T)).heap.size := by simp
  refine ⟨(h.cell (p := ⟨w.heap.size, 0, none⟩) lt).trans ?_, (h.cell (p := ⟨w.heap.size, 1, none⟩) lt).trans ?_, (h.cell (p := ⟨w.heap.size, 2, none⟩) lt).trans ?_⟩ <;> simp
/-- Three cells of a block. -/
structure C3 (W : World) (b : Nat) (u v x : Value) : Prop where
  c0 : W.cell? ⟨b, 0, none⟩ = some u
  c1 : W.cell? ⟨b, 1, none⟩ = some v
  c2 : W.cell? ⟨b, 2, none⟩ = some x
  f0 : W.frozen? ⟨b, 0, none⟩ = false
  f1 : W.frozen? ⟨b, 1, none⟩ = false
  f2 : W.frozen? ⟨b, 2, none⟩ = false
theorem C3.new (w : World) (u v x : Value) (T : TypeId) : C3 (w.alloc (.cells #[u, v, x] T)) w.heap.size u v x := ⟨by simp, by simp, by simp, by simp, by simp, by simp⟩
theorem C3.below {W W' : World} {b : Nat} {u v x : Value} (h : C3 W b u v x) (hB : Below W.heap.size W W') : C3 W' b u v x := by
  have lt := World.block_lt_of_cell? W ⟨b, 0, none⟩ h.c0
  exact ⟨(hB.cell (p := ⟨b, 0, none⟩) lt).trans h.c0, (hB.cell (p := ⟨b, 1, none⟩) lt).trans h.c1, (hB.cell (p := ⟨b, 2, none⟩) lt).trans h.c2, (hB.frozen (p := ⟨b, 0, none⟩) lt).trans h.f0, (hB.frozen (p := ⟨b, 1, none⟩) lt).trans h.f1, (hB.frozen (p := ⟨b, 2, none⟩) lt).trans h.f2⟩
theorem C3.on {W : World} {b : Nat} {u v x : Value} (h : C3 W b u v x) (o : Obj) : C3 (W.alloc o) b u v x := h.below (bA (Below.refl _ W) o)
theorem cOther (W : World) (b c i j : Nat) (v : Value) (h : c ≠ b) : (W.setCell ⟨b, j, none⟩ v).cell? ⟨c, i, none⟩ = W.cell? ⟨c, i, none⟩ := World.cell?_setCell_other _ _ _ _ (fun q => h (congrArg Addr.block q).symm)
theorem C3.other {W : World} {b c j : Nat} {u v x : Value} (h : C3 W c u v x) (hc : c ≠ b) (y : Value) : C3 (W.setCell ⟨b, j, none⟩ y) c u v x :=
  ⟨(cOther _ _ _ _ _ _ hc).trans h.c0, (cOther _ _ _ _ _ _ hc).trans h.c1, (cOther _ _ _ _ _ _ hc).trans h.c2, by rw [World.frozen?_setCell]; exact h.f0, by rw [World.frozen?_setCell]; exact h.f1, by rw [World.frozen?_setCell]; exact h.f2⟩
theorem C3.set0 {W : World} {b : Nat} {u v x : Value} (h : C3 W b u v x) (y : Value) : C3 (W.setCell ⟨b, 0, none⟩ y) b y v x :=
  ⟨Mk.cell_eq _ h.c0, (Mk.cell_ne _ _ _ _ _ (by decide)).trans h.c1, (Mk.cell_ne _ _ _ _ _ (by decide)).trans h.c2, by rw [World.frozen?_setCell]; exact h.f0, by rw [World.frozen?_setCell]; exact h.f1, by rw [World.frozen?_setCell]; exact h.f2⟩
theorem C3.set1 {W : World} {b : Nat} {u v x : Value} (h : C3 W b u v x) (y : Value) : C3 (W.setCell ⟨b, 1, none⟩ y) b u y x :=
  ⟨(Mk.cell_ne _ _ _ _ _ (by decide)).trans h.c0, Mk.cell_eq _ h.c1, (Mk.cell_ne _ _ _ _ _ (by decide)).trans h.c2, by rw [World.frozen?_setCell]; exact h.f0, by rw [World.frozen?_setCell]; exact h.f1, by rw [World.frozen?_setCell]; exact h.f2⟩
theorem C3.set2 {W : World} {b : Nat} {u v x : Value} (h : C3 W b u v x) (y : Value) : C3 (W.setCell ⟨b, 2, none⟩ y) b u v y :=
  ⟨(Mk.cell_ne _ _ _ _ _ (by decide)).trans h.c0, (Mk.cell_ne _ _ _ _ _ (by decide)).trans h.c1, Mk.cell_eq _ h.c2, by rw [World.frozen?_setCell]; exact h.f0, by rw [World.frozen?_setCell]; exact h.f1, by rw [World.frozen?_setCell]; exact h.f2⟩
theorem entOther {w : World} {g b j o : Nat} {es : List E} (h : Ents w g o es) (hb : g ≠ b) (v : Value) : Ents (w.setCell ⟨b, j, none⟩ v) g o es := fun i hi => by
  obtain ⟨c0, c1, c2⟩ := h i hi
  exact ⟨(cOther _ _ _ _ _ _ hb).trans c0, (cOther _ _ _ _ _ _ hb).trans c1, (cOther _ _ _ _ _ _ hb).trans c2⟩
theorem LO.other {w : World} {g b j : Nat} {ls : List (List Mk.E)} (h : LO w g ls) (hb : b < g) (v : Value) : LO (w.setCell ⟨b, j, none⟩ v) g ls := fun i hi => by
  obtain ⟨gg, c, hg, hE⟩ := h i hi
  exact ⟨gg, (cOther _ _ _ _ _ _ (by omega)).trans c, hg, entsOther hE (by omega) v⟩

set_option maxHeartbeats 800000 in
set_option maxRecDepth 100000 in
theorem szOver_any (w : World) (v : Value) (x : O) (left : Int) (h0 : 0 ≤ left) (hl : left ≤ 1048576) (hS : Sz maxLen x) (hA : Arg w v x) :
    Calls Try.prog 6 #[v, .int .i64 left] w fun e w' => ∃ r : Int, e = .returned (.int .i64 r) ∧ r ≤ left ∧ -1 ≤ r ∧ (0 ≤ r → Sz 1048576 x) ∧ Below w.heap.size w w' := by
  obtain ⟨a0, g0, o0, c0, a1, g1, o1, c1, a2, g2, o2, c2, rfl, h2, h3, h4, h5, h6, h7⟩ := hA.ex
  have HE := hidE h5
  have HL := hidE h6
  have HU := hidE h7
  have HS := hidE hS
  have BX := C3.new w (.slice a0 x.b.length c0) (.slice a1 x.l.length c1) (.slice a2 x.u.length c2) 26
  obtain ⟨W0, hW0⟩ : ∃ W0, W0 = w.alloc (.cells #[.slice a0 x.b.length c0, .slice a1 x.l.length c1, .slice a2 x.u.length c2] 26) := ⟨_, rfl⟩
  have hB0 : Below w.heap.size w W0 := by rw [hW0]; exact bA (Below.refl _ w) _
  rw [← hW0] at BX
  have HB0 := hidE hB0
  have HX := hidE BX
  clear hA h5 h6 h7 hS BX hB0
  go_enter Try.func6, Try.ntmps6
  go_wp2_with fail
  rw [← hW0]
  clear hW0
  refine (szEntS_any _ a0 g0 o0 c0 x.b left h0 hl HS.out.b0 HS.out.b1 h2 (HE.out.below HB0.out)).mono ?_
  rintro e w1 ⟨r1, rfl, p1, q1, t1, hB⟩
  have HB1 := hidE (B3 HB0.out hB)
  have HX1 := hidE (HX.out.below hB)
  have HT1 := hidE t1
  clear hB t1 HB0 HX
  by_cases hr1 : 0 ≤ r1
  · obtain ⟨k0, k1, k2, -, -, -⟩ := HX1.out
    go_wp2_with fail
    refine (szSS_any _ a1 g1 o1 c1 x.l r1 hr1 (by omega) HS.out.l0 HS.out.l1 h3 (HL.out.below HB1.out)).mono ?_
    rintro e w2 ⟨r2, rfl, p2, q2, t2, hB⟩
    have HB2 := hidE (B3 HB1.out hB)
    have HX2 := hidE (HX1.out.below hB)
    have HT2 := hidE t2
    clear hB t2 HB1 HX1 k0 k1 k2
    by_cases hr2 : 0 ≤ r2
    · obtain ⟨k0, k1, k2, -, -, -⟩ := HX2.out
      go_wp2_with fail
      refine (Mk.szEntS_any _ a2 g2 o2 c2 x.u r2 hr2 (by omega) HS.out.u0 HS.out.u1 h4 (HU.out.below HB2.out)).mono ?_
      rintro e w3 ⟨r3, rfl, p3, q3, t3, hB⟩
      have HB3 := hidE (B3 HB2.out hB)
      have HT3 := hidE t3
      clear hB t3 HB2 HX2 k0 k1 k2
      by_cases hr3 : 0 ≤ r3
      · go_wp2
        go_ret
        refine ⟨_, rfl, by omega, by omega, fun _ => ?_, HB3.out⟩
        obtain ⟨u1, u2⟩ := HT1.out hr1
        obtain ⟨v1, v2⟩ := HT2.out hr2
        obtain ⟨z1, z2⟩ := HT3.out hr3
        exact ⟨by omega, fun e he => by have := u2 e he; omega, by omega, fun l hl => ⟨by have := (v2 l hl).1; omega, fun e he => by have := (v2 l hl).2 e he; omega⟩, by omega, fun e he => by have := z2 e he; omega⟩
      · go_wp2
        go_ret
        exact ⟨_, rfl, by omega, by omega, fun h => by omega, HB3.out⟩
    · go_wp2
      go_ret
      exact ⟨_, rfl, by omega, by omega, fun h => by omega, HB2.out⟩
  · go_wp2
    go_ret
    exact ⟨_, rfl, by omega, by omega, fun h => by omega, HB1.out⟩

set_option maxHeartbeats 800000 in
set_option maxRecDepth 100000 in
theorem eqOver_any (w : World) (v v' : Value) (x y : O) (hS : Sz 16777216 x) (hS' : Sz 16777216 y) (hA : Arg w v x) (hA' : Arg w v' y) :
    Calls Try.prog 10 #[v, v'] w fun e w' => e = .returned (.bool (sameES x.b y.b && (sameSS x.l y.l && Mk.sameES x.u y.u))) ∧ Below w.heap.size w w' := by
  obtain ⟨a0, g0, o0, c0, a1, g1, o1, c1, a2, g2, o2, c2, rfl, h2, h3, h4, h5, h6, h7⟩ := hA.ex
  obtain ⟨a0', g0', o0', c0', a1', g1', o1', c1', a2', g2', o2', c2', rfl, h2', h3', h4', h5', h6', h7'⟩ := hA'.ex
  have HE := hidE h5
  have HL := hidE h6
  have HU := hidE h7
  have HE' := hidE h5'
  have HL' := hidE h6'
  have HU' := hidE h7'
  have HS := hidE hS
  have HS' := hidE hS'
  clear hA h5 h6 h7 hS hA' h5' h6' h7' hS'
  have BX := (C3.new w (.slice a0 x.b.length c0) (.slice a1 x.l.length c1) (.slice a2 x.u.length c2) 33).on (.cells #[.slice a0' y.b.length c0', .slice a1' y.l.length c1', .slice a2' y.u.length c2'] 33)
  have BY := C3.new (w.alloc (.cells #[.slice a0 x.b.length c0, .slice a1 x.l.length c1, .slice a2 x.u.length c2] 33)) (.slice a0' y.b.length c0') (.slice a1' y.l.length c1') (.slice a2' y.u.length c2') 33
  simp only [World.size_alloc] at BY
  obtain ⟨W0, hW0⟩ : ∃ W0, W0 = (w.alloc (.cells #[.slice a0 x.b.length c0, .slice a1 x.l.length c1, .slice a2 x.u.length c2] 33)).alloc (.cells #[.slice a0' y.b.length c0', .slice a1' y.l.length c1', .slice a2' y.u.length c2'] 33) := ⟨_, rfl⟩
  have hB0 : Below w.heap.size w W0 := by rw [hW0]; exact bA (bA (Below.refl _ w) _) _
  rw [← hW0] at BX BY
  have HB0 := hidE hB0
  have HX := hidE BX
  have HY := hidE BY
  clear BX BY hB0
  go_enter Try.func10, Try.ntmps10
  go_wp2_with fail
  rw [← hW0]
  clear hW0
  refine (eqEntS_any _ a0 a0' g0 o0 c0 g0' o0' c0' x.b y.b HS.out.b0 HS'.out.b0 h2 h2' (HE.out.below HB0.out) (HE'.out.below HB0.out)).mono ?_
  rintro e w1 ⟨rfl, hB⟩
  have HB1 := hidE (B3 HB0.out hB)
  have HX1 := hidE (HX.out.below hB)
  have HY1 := hidE (HY.out.below hB)
  clear hB HB0 HX HY
  cases hs1 : sameES x.b y.b with
  | false =>
    go_wp2
    go_ret
    exact ⟨by rw [hs1]; rfl, HB1.out⟩
  | true =>
    obtain ⟨k0, k1, k2, -, -, -⟩ := HX1.out
    obtain ⟨l0, l1, l2, -, -, -⟩ := HY1.out
    go_wp2_with fail
    refine (eqSS_any _ a1 a1' g1 o1 c1 g1' o1' c1' x.l y.l HS.out.l0 HS'.out.l0 (fun l hl => (HS.out.l1 l hl).1) (fun l hl => (HS'.out.l1 l hl).1) h3 h3' (HL.out.below HB1.out) (HL'.out.below HB1.out)).mono ?_
    rintro e w2 ⟨rfl, hB⟩
    have HB2 := hidE (B3 HB1.out hB)
    have HX2 := hidE (HX1.out.below hB)
    have HY2 := hidE (HY1.out.below hB)
    clear hB HB1 HX1 HY1 k0 k1 k2 l0 l1 l2
    cases hs2 : sameSS x.l y.l with
    | false =>
      go_wp2
      go_ret
      exact ⟨by rw [hs1, hs2]; rfl, HB2.out⟩
    | true =>
      obtain ⟨k0, k1, k2, -, -, -⟩ := HX2.out
      obtain ⟨l0, l1, l2, -, -, -⟩ := HY2.out
      go_wp2_with fail
      refine (Mk.eqEntS_any _ a2 a2' g2 o2 c2 g2' o2' c2' x.u y.u HS.out.u0 HS'.out.u0 h4 h4' (HU.out.below HB2.out) (HU'.out.below HB2.out)).mono ?_
      rintro e w3 ⟨rfl, hB⟩
      have HB3 := hidE (B3 HB2.out hB)
      clear hB HB2 HX2 HY2 k0 k1 k2 l0 l1 l2
      cases hs3 : Mk.sameES x.u y.u with
      | false =>
        go_wp2
        go_ret
        exact ⟨by rw [hs1, hs2, hs3]; rfl, HB3.out⟩
      | true =>
        go_wp2
        go_ret
        exact ⟨by rw [hs1, hs2, hs3]; rfl, HB3.out⟩

set_option maxHeartbeats 800000 in
set_option maxRecDepth 100000 in
theorem toOver_any (w : World) (v : Value) (x : O) (hS : Sz 1048576 x) (hA : Arg w v x) :
    Calls Try.prog 8 #[v] w fun e w' => ∃ v', e = .returned v' ∧ Arg w' v' x ∧ Below w.heap.size w w' := by
  obtain ⟨a0, g0, o0, c0, a1, g1, o1, c1, a2, g2, o2, c2, rfl, h2, h3, h4, h5, h6, h7⟩ := hA.ex
  have HE := hidE h5
  have HL := hidE h6
  have HU := hidE h7
  have HS := hidE hS
  have BX := ((C3.new w (.slice a0 x.b.length c0) (.slice a1 x.l.length c1) (.slice a2 x.u.length c2) 26).on (.cells #[.slice none 0 0, .slice none 0 0, .slice none 0 0] 33)).on (.cells #[.slice none 0 0, .slice none 0 0, .slice none 0 0] 33)
  have BR := (C3.new (w.alloc (.cells #[.slice a0 x.b.length c0, .slice a1 x.l.length c1, .slice a2 x.u.length c2] 26)) (.slice none 0 0) (.slice none 0 0) (.slice none 0 0) 33).on (.cells #[.slice none 0 0, .slice none 0 0, .slice none 0 0] 33)
  have BO := C3.new ((w.alloc (.cells #[.slice a0 x.b.length c0, .slice a1 x.l.length c1, .slice a2 x.u.length c2] 26)).alloc (.cells #[.slice none 0 0, .slice none 0 0, .slice none 0 0] 33)) (.slice none 0 0) (.slice none 0 0) (.slice none 0 0) 33
  simp only [World.size_alloc] at BR BO
  obtain ⟨W0, hW0⟩ : ∃ W0, W0 = ((w.alloc (.cells #[.slice a0 x.b.length c0, .slice a1 x.l.length c1, .slice a2 x.u.length c2] 26)).alloc (.cells #[.slice none 0 0, .slice none 0 0, .slice none 0 0] 33)).alloc (.cells #[.slice none 0 0, .slice none 0 0, .slice none 0 0] 33) := ⟨_, rfl⟩
  have hB0 : Below w.heap.size w W0 := by rw [hW0]; exact bA (bA (bA (Below.refl _ w) _) _) _
  have hs0 : W0.heap.size = w.heap.size + 3 := by rw [hW0]; simp
  have HS0 := hidE hs0
  rw [← hW0] at BX BR BO
  have HB0 := hidE hB0
  have HX := hidE BX
  have HR := hidE BR
  have HO := hidE BO
  clear BX BR BO hB0 hA h5 h6 h7 hS
  clear hs0
  go_enter Try.func8, Try.ntmps8
  go_wp2_with fail
  rw [← hW0]
  clear hW0
  refine (toEntS_any _ a0 g0 o0 c0 x.b HS.out.b0 h2 (HE.out.below HB0.out)).mono ?_
  rintro e w1 ⟨rfl, hN1, _, hB⟩
  have hs0 := HS0.out
  have hz1 := hB.size
  have HB1 := hidE ((B3 HB0.out hB).setCell (p := ⟨w.heap.size + 1 + 1, 0, none⟩) (by simp; omega) (.slice (some ⟨W0.heap.size, 0, none⟩) x.b.length x.b.length))
  have HX1 := hidE ((HX.out.below hB).other (b := w.heap.size + 1 + 1) (j := 0) (by omega) (.slice (some ⟨W0.heap.size, 0, none⟩) x.b.length x.b.length))
  have HR1 := hidE ((HR.out.below hB).other (b := w.heap.size + 1 + 1) (j := 0) (by omega) (.slice (some ⟨W0.heap.size, 0, none⟩) x.b.length x.b.length))
  have HO1 := hidE ((HO.out.below hB).set0 (.slice (some ⟨W0.heap.size, 0, none⟩) x.b.length x.b.length))
  have HN1 := hidE (entOther (b := w.heap.size + 1 + 1) (j := 0) hN1 (by omega) (.slice (some ⟨W0.heap.size, 0, none⟩) x.b.length x.b.length))
  obtain ⟨k0, k1, k2, -, -, -⟩ := HX.out.below hB
  obtain ⟨m0, m1, m2, f0, f1, f2⟩ := HO.out.below hB
  obtain ⟨W1, hW1⟩ : ∃ W1, W1 = w1.setCell ⟨w.heap.size + 1 + 1, 0, none⟩ (.slice (some ⟨W0.heap.size, 0, none⟩) x.b.length x.b.length) := ⟨_, rfl⟩
  have hs1 : W1.heap.size = w1.heap.size := by rw [hW1, World.size_setCell]
  have hg1 : w.heap.size + 3 ≤ W1.heap.size := by omega
  rw [← hW1] at HB1 HX1 HR1 HO1 HN1
  have HW1 := hidE hW1
  have HG1 := hidE hg1
  clear hB hN1 HB0 HX HR HO hW1 hs0 hs1 hz1 hg1
  go_wp2_with fail
  rw [← HW1.out]
  clear HW1 k0 k1 k2 m0 m1 m2 f0 f1 f2
  refine (toSS_any _ a1 g1 o1 c1 x.l HS.out.l0 (fun l hl => (HS.out.l1 l hl).1) h3 (HL.out.below HB1.out)).mono ?_
  rintro e w2 ⟨rfl, hN2, hB⟩
  have hg1 := HG1.out
  have hs0 := HS0.out
  have hz2 := hB.size
  have HB2 := hidE ((B3 HB1.out hB).setCell (p := ⟨w.heap.size + 1 + 1, 1, none⟩) (by simp; omega) (.slice (some ⟨W1.heap.size, 0, none⟩) x.l.length x.l.length))
  have HX2 := hidE ((HX1.out.below hB).other (b := w.heap.size + 1 + 1) (j := 1) (by omega) (.slice (some ⟨W1.heap.size, 0, none⟩) x.l.length x.l.length))
  have HR2 := hidE ((HR1.out.below hB).other (b := w.heap.size + 1 + 1) (j := 1) (by omega) (.slice (some ⟨W1.heap.size, 0, none⟩) x.l.length x.l.length))
  have HO2 := hidE ((HO1.out.below hB).set1 (.slice (some ⟨W1.heap.size, 0, none⟩) x.l.length x.l.length))
  have HN1' := hidE (entOther (b := w.heap.size + 1 + 1) (j := 1) (HN1.out.below hB) (by omega) (.slice (some ⟨W1.heap.size, 0, none⟩) x.l.length x.l.length))
  have HN2 := hidE (hN2.other (b := w.heap.size + 1 + 1) (j := 1) (by omega) (.slice (some ⟨W1.heap.size, 0, none⟩) x.l.length x.l.length))
  obtain ⟨k0, k1, k2, -, -, -⟩ := HX1.out.below hB
  obtain ⟨m0, m1, m2, f0, f1, f2⟩ := HO1.out.below hB
  obtain ⟨W2, hW2⟩ : ∃ W2, W2 = w2.setCell ⟨w.heap.size + 1 + 1, 1, none⟩ (.slice (some ⟨W1.heap.size, 0, none⟩) x.l.length x.l.length) := ⟨_, rfl⟩
  have hs2 : W2.heap.size = w2.heap.size := by rw [hW2, World.size_setCell]
  have hg2 : w.heap.size + 3 ≤ W2.heap.size := by omega
  rw [← hW2] at HB2 HX2 HR2 HO2 HN1' HN2
  have HW2 := hidE hW2
  have HG2 := hidE hg2
  clear hB hN2 HB1 HX1 HR1 HO1 HN1 hW2 hs0 hs2 hz2 hg2 hg1
  go_wp2_with fail
  rw [← HW2.out]
  clear HW2 k0 k1 k2 m0 m1 m2 f0 f1 f2
  refine (Mk.toEntS_any _ a2 g2 o2 c2 x.u HS.out.u0 h4 (HU.out.below HB2.out)).mono ?_
  rintro e w3 ⟨rfl, hN3, _, hB⟩
  have hg1 := HG1.out
  have hg2 := HG2.out
  have hs0 := HS0.out
  have hz3 := hB.size
  have HB3 := hidE (B3 HB2.out hB)
  have HR3 := hidE (HR2.out.below hB)
  have HO3 := hidE (HO2.out.below hB)
  have HN1'' := hidE (HN1'.out.below hB)
  have HN2' := hidE (HN2.out.below hB)
  have HN3 := hidE hN3
  obtain ⟨m0, m1, m2, f0, f1, f2⟩ := HO3.out
  obtain ⟨r0, r1, r2, e0, e1, e2⟩ := HR3.out
  clear hB hN3 HB2 HX2 HR2 HO2 HN1' HN2 hs0 hz3 hg1 hg2
  go_wp2
  have hg1 := HG1.out
  have hg2 := HG2.out
  have hs0 := HS0.out
  have RR := (((HR3.out.other (b := w.heap.size + 1 + 1) (j := 2) (by omega) (.slice (some ⟨W2.heap.size, 0, none⟩) x.u.length x.u.length)).set0 (.slice (some ⟨W0.heap.size, 0, none⟩) x.b.length x.b.length)).set1 (.slice (some ⟨W1.heap.size, 0, none⟩) x.l.length x.l.length)).set2 (.slice (some ⟨W2.heap.size, 0, none⟩) x.u.length x.u.length)
  have E1 := entOther (b := w.heap.size + 1) (j := 2) (entOther (b := w.heap.size + 1) (j := 1) (entOther (b := w.heap.size + 1) (j := 0) (entOther (b := w.heap.size + 1 + 1) (j := 2) HN1''.out (by omega) (.slice (some ⟨W2.heap.size, 0, none⟩) x.u.length x.u.length)) (by omega) (.slice (some ⟨W0.heap.size, 0, none⟩) x.b.length x.b.length)) (by omega) (.slice (some ⟨W1.heap.size, 0, none⟩) x.l.length x.l.length)) (by omega) (.slice (some ⟨W2.heap.size, 0, none⟩) x.u.length x.u.length)
  have E2 := (((HN2'.out.other (b := w.heap.size + 1 + 1) (j := 2) (by omega) (.slice (some ⟨W2.heap.size, 0, none⟩) x.u.length x.u.length)).other (b := w.heap.size + 1) (j := 0) (by omega) (.slice (some ⟨W0.heap.size, 0, none⟩) x.b.length x.b.length)).other (b := w.heap.size + 1) (j := 1) (by omega) (.slice (some ⟨W1.heap.size, 0, none⟩) x.l.length x.l.length)).other (b := w.heap.size + 1) (j := 2) (by omega) (.slice (some ⟨W2.heap.size, 0, none⟩) x.u.length x.u.length)
  have E3 := entsOther (b := w.heap.size + 1) (j := 2) (entsOther (b := w.heap.size + 1) (j := 1) (entsOther (b := w.heap.size + 1) (j := 0) (entsOther (b := w.heap.size + 1 + 1) (j := 2) HN3.out (by omega) (.slice (some ⟨W2.heap.size, 0, none⟩) x.u.length x.u.length)) (by omega) (.slice (some ⟨W0.heap.size, 0, none⟩) x.b.length x.b.length)) (by omega) (.slice (some ⟨W1.heap.size, 0, none⟩) x.l.length x.l.length)) (by omega) (.slice (some ⟨W2.heap.size, 0, none⟩) x.u.length x.u.length)
  have BB := (((HB3.out.setCell (p := ⟨w.heap.size + 1 + 1, 2, none⟩) (by simp; omega) (.slice (some ⟨W2.heap.size, 0, none⟩) x.u.length x.u.length)).setCell (p := ⟨w.heap.size + 1, 0, none⟩) (by simp) (.slice (some ⟨W0.heap.size, 0, none⟩) x.b.length x.b.length)).setCell (p := ⟨w.heap.size + 1, 1, none⟩) (by simp) (.slice (some ⟨W1.heap.size, 0, none⟩) x.l.length x.l.length)).setCell (p := ⟨w.heap.size + 1, 2, none⟩) (by simp) (.slice (some ⟨W2.heap.size, 0, none⟩) x.u.length x.u.length)
  exact bodyPost_ret (v := .agg #[.slice (some ⟨W0.heap.size, 0, none⟩) x.b.length x.b.length, .slice (some ⟨W1.heap.size, 0, none⟩) x.l.length x.l.length, .slice (some ⟨W2.heap.size, 0, none⟩) x.u.length x.u.length]) (by simp [results, Try.results8, go_sem, RR.c0, RR.c1, RR.c2]) rfl ⟨_, rfl, ⟨⟨_, _, _, _, _, _, _, _, _, _, _, _, rfl, fun _ => rfl, fun _ => rfl, fun _ => rfl, E1, E2.ll, E3⟩⟩, BB⟩
end Go.Proofs.Ytjkpnohfkadfiaa.Ov
