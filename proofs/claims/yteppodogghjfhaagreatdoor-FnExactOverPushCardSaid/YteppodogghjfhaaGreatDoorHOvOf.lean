import Derived.Test.YteppodogghjfhaaGreatDoorHPk28
import Derived.Deep.RegionHeld3
import Derived.Lib.QuietBelow
import Derived.Test.YteppodogghjfhaaGreatDoorHLyOn
import Derived.Test.YteppodogghjfhaaGreatDoorHLyDfI
import Derived.Test.YteppodogghjfhaaGreatDoorHPk12
import Derived.Test.YteppodogghjfhaaGreatDoorHPk10
namespace Go.Proofs.YteppodogghjfhaaGreatDoor.Ov
open Go.RowKit Go.Lib Go.Sort
def endV (c : Int) : Value := .iface 109 (.agg #[.int .i64 c])
def RP (w : World) (v : Value) (es : List E) : Prop := ∃ a g o cap, v = .slice a es.length cap ∧ es.length ≤ 1048576 ∧ SmE es ∧ (0 < es.length → a = some ⟨g, o, none⟩) ∧ Ents w g o es
theorem RP.below {w w' : World} {v : Value} {es : List E} (h : RP w v es) (hb : Below w.heap.size w w') : RP w' v es := by
 obtain ⟨a, g, o, cap, rfl, h1, h3, h4, h5⟩ := h; exact ⟨a, g, o, cap, rfl, h1, h3, h4, h5.below hb⟩
theorem RE.rp {w : World} {v : Value} {es : List E} (h : RE w v es) : RP w v es := by
 obtain ⟨a, g, o, cap, rfl, h1, h2, h3, h4, h5⟩ := h; exact ⟨a, g, o, cap, rfl, h1, h3, h4, h5⟩
theorem RP.iOk {w : World} {v : Value} {es : List E} (h : RP w v es) (ae : Int → Addr) (hErr : Errs2 w ae) : Calls Tryz.prog 75 #[v] w fun r w' => r = .returned (.bool (treeE es)) ∧ Below w.heap.size w w' := by
 obtain ⟨a, g, o, cap, rfl, h1, h3, h4, h5⟩ := h; exact iTreeOk_any w a g o cap es ae hErr (by omega) h3 h4 h5
def RPx (b : Nat) (w : World) (v : Value) (es : List E) : Prop := ∃ a g o cap, v = .slice a es.length cap ∧ es.length ≤ 1048576 ∧ SmE es ∧ (0 < es.length → a = some ⟨g, o, none⟩ ∧ g ≠ b) ∧ Ents w g o es
theorem RPx.below {b : Nat} {w w' : World} {v : Value} {es : List E} (h : RPx b w v es) (hb : Below w.heap.size w w') : RPx b w' v es := by
 obtain ⟨a, g, o, cap, rfl, h1, h3, h4, h5⟩ := h; exact ⟨a, g, o, cap, rfl, h1, h3, h4, h5.below hb⟩
theorem RPx.rp {b : Nat} {w : World} {v : Value} {es : List E} (h : RPx b w v es) : RP w v es := by
 obtain ⟨a, g, o, cap, rfl, h1, h3, h4, h5⟩ := h; exact ⟨a, g, o, cap, rfl, h1, h3, fun p => (h4 p).1, h5⟩
theorem RP.x {b : Nat} {w : World} {v : Value} {es : List E} (h : RP w v es) (hb : w.heap.size ≤ b) : RPx b w v es := by
 obtain ⟨a, g, o, cap, rfl, h1, h3, h4, h5⟩ := h; exact ⟨a, g, o, cap, rfl, h1, h3, fun p => ⟨h4 p, by have := World.block_lt_of_cell? w ⟨g, _, none⟩ (h5 0 p).1; dsimp only at this; omega⟩, h5⟩
theorem RPx.win {b : Nat} {w w' : World} {v : Value} {es : List E} (h : RPx b w v es) (k : Win b (b + 1) w w') : RPx b w' v es := by
 obtain ⟨a, g, o, cap, rfl, h1, h3, h4, h5⟩ := h; exact ⟨a, g, o, cap, rfl, h1, h3, h4, k.ents h5 (fun p => by have := (h4 p).2; omega)⟩
theorem RM.iOn {b : Nat} {w : World} {v v' : Value} {l : List Mk.E} {t : List E} (h : RM w v l) (h' : RP w v' t) (ae : Int → Addr) (hErr : Errs2 w ae) (hb : b < w.heap.size) :
  Calls Tryz.prog 76 #[v, v'] w fun r w' => ∃ u, r = .returned (.tuple #[u, .bool (Ly.onB l t)]) ∧ RPx b w' u (Ly.onE l t) ∧ Below w.heap.size w w' := by
 obtain ⟨a, g, o, cap, rfl, h1, h2, h3, h4, h5⟩ := h; obtain ⟨a', g', o', cap', rfl, k1, k3, k4, k5⟩ := h'; refine (Ly.iLayerOn_any w a g o cap l a' g' o' cap' t ae hErr (by omega) (by omega) h3 k3 h4 k4 h5 k5).mono ?_; rintro e w1 ⟨u, rfl, ⟨a2, g2, c2, rfl, q1, q2, q3, q4⟩, hB⟩; have := onE_szV h3 k3; exact ⟨_, rfl, ⟨a2, g2, 0, c2, rfl, by omega, this.2, fun p => ⟨q1 p, by omega⟩, q2⟩, hB⟩
theorem RP.iDiff {w : World} {v v' : Value} {es fs : List E} (h : RP w v es) (h' : RP w v' fs) (ae : Int → Addr) (hErr : Errs2 w ae) :
  Calls Tryz.prog 78 #[v, v'] w fun r w' => ∃ u, r = .returned u ∧ RM w' u (Ly.diffE es fs) ∧ Below w.heap.size w w' := by
 obtain ⟨a, g, o, cap, rfl, h1, h3, h4, h5⟩ := h; obtain ⟨a', g', o', cap', rfl, k1, k3, k4, k5⟩ := h'; refine (Ly.iLayerDiff_any w a g o cap es a' g' o' cap' fs ae hErr (by omega) (by omega) h3 k3 h4 k4 h5 k5).mono ?_; rintro e w1 ⟨u, rfl, ho, hB⟩; have := Ly.diff_sz h3 k3; exact ⟨_, rfl, own_rm ho (by omega) this.2, hB⟩
theorem RM.iSame {w : World} {v v' : Value} {es fs : List Mk.E} (h : RM w v es) (h' : RM w v' fs) : Calls Tryz.prog 77 #[v, v'] w fun r w' => r = .returned (.bool (Mk.sameT es fs)) ∧ Below w.heap.size w w' := by
 obtain ⟨a, g, o, cap, rfl, h1, h2, h3, h4, h5⟩ := h; obtain ⟨a', g', o', cap', rfl, k1, k2, k3, k4, k5⟩ := h'; exact Mk.iTreeSame_any w a g o cap es a' g' o' cap' fs (by omega) (by omega) h4 k4 h5 k5
def TreeV (w : World) (v : Value) (x : O) (lo se : List E) : Prop := ∃ v0 v1 v2 u3 u4, v = .agg #[v0, v1, v2, u3, u4] ∧ RP w v0 x.b ∧ RL w v1 x.l ∧ RM w v2 x.u ∧ RP w u3 lo ∧ RP w u4 se
theorem TreeV.below {w w' : World} {v : Value} {x : O} {lo se : List E} (h : TreeV w v x lo se) (hb : Below w.heap.size w w') : TreeV w' v x lo se := by
 obtain ⟨v0, v1, v2, u3, u4, rfl, h0, h1, h2, h3, h4⟩ := h; exact ⟨v0, v1, v2, u3, u4, rfl, h0.below hb, h1.below hb, h2.below hb, h3.below hb, h4.below hb⟩
def noneV : Value := .agg #[.slice none 0 0, .slice none 0 0, .slice none 0 0, .slice none 0 0, .slice none 0 0]
theorem smE_nil : SmE [] := by intro e he; cases he
theorem smM_nil : SmM [] := by intro e he; cases he
theorem rp_nil (w : World) : RP w (.slice none 0 0) [] := ⟨none, 0, 0, 0, rfl, Nat.zero_le _, smE_nil, fun h => absurd h (by decide), fun i hi => absurd hi (by simp)⟩
theorem rm_nil (w : World) : RM w (.slice none 0 0) [] := ⟨none, 0, 0, 0, rfl, Nat.zero_le _, Nat.le_refl _, smM_nil, fun h => absurd h (by decide), fun i hi => absurd hi (by simp)⟩
theorem rl_nil (w : World) : RL w (.slice none 0 0) [] := ⟨none, 0, 0, 0, rfl, Nat.zero_le _, Nat.le_refl _, fun h => absurd h (by decide), fun i hi => absurd hi (by simp)⟩
theorem noneV_is (w : World) : TreeV w noneV ⟨[], [], []⟩ [] [] := ⟨_, _, _, _, _, rfl, rp_nil w, rl_nil w, rm_nil w, rp_nil w, rp_nil w⟩
def ofO (x : O) : O := if okB x = true then x else ⟨[], [], []⟩
def loO (x : O) : List E := if okB x = true then lwE x else []
def seO (x : O) : List E := if okB x = true then vwE x else []
def erO (x : O) : Value := if okB x = true then .nilIface else endV 1
theorem atSet5 {W : World} {b : Nat} {p0 p1 p2 p3 p4 u0 u1 u2 u3 u4 : Value} {C : World → Prop} (h0 : W.cell? ⟨b, 0, none⟩ = some p0) (h1 : W.cell? ⟨b, 1, none⟩ = some p1) (h2 : W.cell? ⟨b, 2, none⟩ = some p2) (h3 : W.cell? ⟨b, 3, none⟩ = some p3) (h4 : W.cell? ⟨b, 4, none⟩ = some p4)
  (k : ∀ Wf, Wf.cell? ⟨b, 0, none⟩ = some u0 → Wf.cell? ⟨b, 1, none⟩ = some u1 → Wf.cell? ⟨b, 2, none⟩ = some u2 → Wf.cell? ⟨b, 3, none⟩ = some u3 → Wf.cell? ⟨b, 4, none⟩ = some u4 → Win b (b + 1) W Wf → C Wf) :
  C (((((W.setCell ⟨b, 0, none⟩ u0).setCell ⟨b, 1, none⟩ u1).setCell ⟨b, 2, none⟩ u2).setCell ⟨b, 3, none⟩ u3).setCell ⟨b, 4, none⟩ u4) := by
 have S : ∀ (X : World) (i : Nat) (v : Value), Win b (b + 1) X (X.setCell ⟨b, i, none⟩ v) := fun X i v => Win.of_but (But.set b X i v) (fun _ => ⟨Nat.le_refl _, Nat.lt_succ_self _⟩); have ne : ∀ (X : World) (i j : Nat) (v : Value), i ≠ j → (X.setCell ⟨b, i, none⟩ v).cell? ⟨b, j, none⟩ = X.cell? ⟨b, j, none⟩ := fun X i j v h => World.cell?_setCell_other _ _ _ _ (fun q => h (congrArg Addr.off q)); have eq : ∀ (X : World) (i : Nat) (v u : Value), X.cell? ⟨b, i, none⟩ = some u → (X.setCell ⟨b, i, none⟩ v).cell? ⟨b, i, none⟩ = some v := fun X i v u h => World.cell?_setCell_same' _ _ _ (by rw [h]; rfl); refine k _ ?_ ?_ ?_ ?_ ?_ (((((S _ _ _).trans (S _ _ _)).trans (S _ _ _)).trans (S _ _ _)).trans (S _ _ _))
 ·
  rw [ne _ _ _ _ (by decide), ne _ _ _ _ (by decide), ne _ _ _ _ (by decide), ne _ _ _ _ (by decide)]; exact eq _ _ _ _ h0
 ·
  rw [ne _ _ _ _ (by decide), ne _ _ _ _ (by decide), ne _ _ _ _ (by decide)]; exact eq _ _ _ _ ((ne _ _ _ _ (by decide)).trans h1)
 ·
  rw [ne _ _ _ _ (by decide), ne _ _ _ _ (by decide)]; exact eq _ _ _ _ (((ne _ _ _ _ (by decide)).trans (ne _ _ _ _ (by decide))).trans h2)
 ·
  rw [ne _ _ _ _ (by decide)]; exact eq _ _ _ _ ((((ne _ _ _ _ (by decide)).trans (ne _ _ _ _ (by decide))).trans (ne _ _ _ _ (by decide))).trans h3)
 ·
  exact eq _ _ _ _ (((((ne _ _ _ _ (by decide)).trans (ne _ _ _ _ (by decide))).trans (ne _ _ _ _ (by decide))).trans (ne _ _ _ _ (by decide))).trans h4)
structure C5 (W : World) (b : Nat) (u0 u1 u2 u3 u4 : Value) : Prop where
 c0 : W.cell? ⟨b, 0, none⟩ = some u0
 c1 : W.cell? ⟨b, 1, none⟩ = some u1
 c2 : W.cell? ⟨b, 2, none⟩ = some u2
 c3 : W.cell? ⟨b, 3, none⟩ = some u3
 c4 : W.cell? ⟨b, 4, none⟩ = some u4
 f0 : W.frozen? ⟨b, 0, none⟩ = false
 f1 : W.frozen? ⟨b, 1, none⟩ = false
 f2 : W.frozen? ⟨b, 2, none⟩ = false
 f3 : W.frozen? ⟨b, 3, none⟩ = false
 f4 : W.frozen? ⟨b, 4, none⟩ = false
theorem C5.new (w : World) (u0 u1 u2 u3 u4 : Value) (T : TypeId) : C5 (w.alloc (.cells #[u0, u1, u2, u3, u4] T)) w.heap.size u0 u1 u2 u3 u4 := ⟨by simp, by simp, by simp, by simp, by simp, by simp, by simp, by simp, by simp, by simp⟩
theorem C5.below {W W' : World} {b : Nat} {u0 u1 u2 u3 u4 : Value} (h : C5 W b u0 u1 u2 u3 u4) (hB : Below W.heap.size W W') : C5 W' b u0 u1 u2 u3 u4 := by
 have lt := World.block_lt_of_cell? W ⟨b, 0, none⟩ h.c0; exact ⟨(hB.cell (p := ⟨b, 0, none⟩) lt).trans h.c0, (hB.cell (p := ⟨b, 1, none⟩) lt).trans h.c1, (hB.cell (p := ⟨b, 2, none⟩) lt).trans h.c2, (hB.cell (p := ⟨b, 3, none⟩) lt).trans h.c3, (hB.cell (p := ⟨b, 4, none⟩) lt).trans h.c4, (hB.frozen (p := ⟨b, 0, none⟩) lt).trans h.f0, (hB.frozen (p := ⟨b, 1, none⟩) lt).trans h.f1, (hB.frozen (p := ⟨b, 2, none⟩) lt).trans h.f2, (hB.frozen (p := ⟨b, 3, none⟩) lt).trans h.f3, (hB.frozen (p := ⟨b, 4, none⟩) lt).trans h.f4⟩
set_option maxHeartbeats 4000000 in
set_option maxRecDepth 100000 in
theorem overOf_any (w : World) (v : Value) (x : O) (ae : Int → Addr) (hErr : Errs2 w ae) (h : Lie w v x) :
  Calls Tryz.prog 42 #[v] w fun r w' => ∃ u, r = .returned (.tuple #[u, erO x]) ∧ TreeV w' u (ofO x) (loO x) (seO x) ∧ Below w.heap.size w w' := by
 obtain ⟨v0, v1, v2, rfl, h0, h1, h2⟩ := h; obtain ⟨a0, g0, o0, c0, rfl, -⟩ := id h0; obtain ⟨a1, g1, o1, c1, rfl, hl1, hl2, ha1, hL⟩ := id h1; obtain ⟨a2, g2, o2, c2, rfl, -⟩ := id h2; obtain ⟨W0, hW0⟩ : ∃ W0, (w.alloc (.cells #[.slice a0 x.b.length c0, .slice a1 x.l.length c1, .slice a2 x.u.length c2] 33)).alloc (.cells #[.slice none 0 0, .slice none 0 0, .slice none 0 0, .slice none 0 0, .slice none 0 0] 67) = W0 := ⟨_, rfl⟩
 have hb0 : Below w.heap.size w W0 := by rw [← hW0]; exact ((Below.refl _ w).alloc (Nat.le_refl _) _).alloc (by simp) _
 have hz0 : W0.heap.size = w.heap.size + 2 := by rw [← hW0]; simp
 have HX := hidE (fun (W : World) (hb : Below W0.heap.size W0 W) => (show C3 W0 w.heap.size (.slice a0 x.b.length c0) (.slice a1 x.l.length c1) (.slice a2 x.u.length c2) from by have := (C3.new w (.slice a0 x.b.length c0) (.slice a1 x.l.length c1) (.slice a2 x.u.length c2) 33).on (.cells #[.slice none 0 0, .slice none 0 0, .slice none 0 0, .slice none 0 0, .slice none 0 0] 67); rw [hW0] at this; exact this).below hb); have HZ := hidE (fun (W : World) (hb : Below W0.heap.size W0 W) => (show C5 W0 (w.heap.size + 1) (.slice none 0 0) (.slice none 0 0) (.slice none 0 0) (.slice none 0 0) (.slice none 0 0) from by have := C5.new (w.alloc (.cells #[.slice a0 x.b.length c0, .slice a1 x.l.length c1, .slice a2 x.u.length c2] 33)) (.slice none 0 0) (.slice none 0 0) (.slice none 0 0) (.slice none 0 0) (.slice none 0 0) 67; rw [hW0] at this; simpa using this).below hb); have HB := hidE hb0; have HE0 := hidE (fun (W : World) (hb : Below w.heap.size w W) => h0.rp.below hb); have HEx := hidE (fun (W : World) (hb : Below w.heap.size w W) => (h0.rp.x (b := w.heap.size + 1) (by omega)).below hb); have HL0 := hidE (fun (W : World) (hb : Below w.heap.size w W) => h1.below hb)
 have HLs := hidE (fun (W : World) (hb : Below w.heap.size w W) (i : Nat) (hi : i < x.l.length) => show ∃ u, W.cell? ⟨g1, o1 + i, none⟩ = some u ∧ RM W u x.l[i] from by
  obtain ⟨u, c, r⟩ := hL i hi
  exact ⟨u, (hb.cell (p := ⟨g1, o1 + i, none⟩) (World.block_lt_of_cell? w ⟨g1, o1 + i, none⟩ c)).trans c, r.below hb⟩)
 have HU0 := hidE (fun (W : World) (hb : Below w.heap.size w W) => h2.below hb); have HR := hidE (fun (W : World) (hb : Below w.heap.size w W) => hErr.below hb); have HD : Hid (lwB x = ((treeE x.b && decide (x.l.length ≤ 4)) && lowB x.l x.b)) := rfl; clear h0 h1 h2 hb0 hL hErr; go_enter Tryz.func42, Tryz.ntmps42
 obtain ⟨k0, k1, k2, -, -, -⟩ := HX.out W0 (Below.refl _ _); go_wp2_with fail
 refine ((HE0.out _ HB.out).iOk ae (HR.out _ HB.out)).mono ?_; rintro e w1 ⟨rfl, hB⟩; have HB1 := hidE (B3 HB.out hB); have HB01 := hidE hB; clear hB k0 k1 k2 hW0; obtain ⟨k0, k1, k2, -, -, -⟩ := HX.out w1 HB01.out; obtain ⟨z0, z1, z2, z3, z4, y0, y1, y2, y3, y4⟩ := HZ.out w1 HB01.out; cases htr : treeE x.b with
 | false =>
  have hno : okB x = false := okB_no (by rw [HD.out, htr]; rfl); have hZ := HZ.out w1 HB01.out; go_wp2
  refine atSet5 (C := bodyPost Tryz.prog Tryz.f42 _ _ _) hZ.c0 hZ.c1 hZ.c2 hZ.c3 hZ.c4 ?_; intro Wf s0 s1 s2 s3 s4 hW; have hbf := hW.belowE HB1.out HB1.out.size (by omega); exact bodyPost_ret (v := .tuple #[.agg #[.slice none 0 0, .slice none 0 0, .slice none 0 0, .slice none 0 0, .slice none 0 0], endV 1]) (by unfold endV; simp [results, Tryz.f42, go_sem, s0, s1, s2, s3, s4]) rfl ⟨_, by unfold erO; rw [hno]; rfl, by unfold ofO loO seO; rw [hno]; exact noneV_is _, hbf⟩
 | true =>
  by_cases h4 : x.l.length ≤ 4
  ·
   go_wp2
   go_loopw [4, 29] (fun tv iv wl => ∃ k : Nat, k ≤ x.l.length ∧ iv = .int .i64 k ∧ Hid (RPx (w.heap.size + 1) wl tv (lowE (x.l.take k) x.b)) ∧ Hid (lowB (x.l.take k) x.b = true) ∧ Hid (Below W0.heap.size W0 wl)) (fun _ iv _ => x.l.length - (RowKit.intOf iv).toNat)
   case atStart => exact ⟨0, Nat.zero_le _, rfl, HEx.out _ HB1.out, rfl, HB01.out⟩
   case round =>
    clear k0 k1 k2 z0 z1 z2 z3 z4 y0 y1 y2 y3 y4; obtain ⟨k, hk, rfl, HT, HA, HBk⟩ := hrel; have hBw := hidE (B3 HB.out HBk.out); by_cases hlt : k < x.l.length
    ·
     obtain rfl := ha1 (by omega); obtain ⟨u, c0, hu⟩ := HLs.out wr hBw.out k hlt; obtain ⟨au, gu, ou, cu, rfl, -⟩ := id hu; obtain ⟨at1, gt1, ot1, ct1, rfl, -⟩ := id HT.out; have HOn := hidE (hu.iOn (b := w.heap.size + 1) HT.out.rp ae (HR.out _ hBw.out) (by have := HBk.out.size; omega)); clear hu HT; have HK := hidE (lowE_succ (t := x.b) hlt); have HK2 := hidE (lowB_succ (t := x.b) hlt); have HC := hidE (fun h => lowB_cut (t := x.b) hlt h); go_wp2_with fail
     refine HOn.out.mono ?_; rintro e w2 ⟨u2, rfl, hO2, hB2⟩; have HB2 := hidE (B3 HBk.out hB2); have HBw2 := hidE (B3 hBw.out hB2); have HE2 := hidE hO2; clear hB2 hO2 HOn HBk c0 hBw; obtain ⟨z0, z1, z2, z3, z4, y0, y1, y2, y3, y4⟩ := HZ.out w2 HB2.out; cases hb : Ly.onB x.l[k] (lowE (x.l.take k) x.b) with
     | false =>
      have hno : okB x = false := okB_no (by rw [HD.out, HC.out hb, Bool.and_false]); have hZ := HZ.out w2 HB2.out; go_wp2
      refine atSet5 (C := bodyPost Tryz.prog Tryz.f42 _ _ _) hZ.c0 hZ.c1 hZ.c2 hZ.c3 hZ.c4 ?_; intro Wf s0 s1 s2 s3 s4 hW; have hbf := hW.belowE HBw2.out HBw2.out.size (by omega); exact bodyPost_ret (v := .tuple #[.agg #[.slice none 0 0, .slice none 0 0, .slice none 0 0, .slice none 0 0, .slice none 0 0], endV 1]) (by unfold endV; simp [results, Tryz.f42, go_sem, s0, s1, s2, s3, s4]) rfl ⟨_, by unfold erO; rw [hno]; rfl, by unfold ofO loO seO; rw [hno]; exact noneV_is _, hbf⟩
     | true =>
      have HA2 : Hid (lowB (x.l.take (k + 1)) x.b = true) := by show _ = _; rw [HK2.out, HA.out, hb]; rfl
      go_wp2
      go_roundw
      case rel => exact ⟨k + 1, by omega, by go_num, by rw [HK.out]; exact HE2, HA2, HB2⟩
      case measure => simp [RowKit.intOf]; omega
    ·
     have hke : x.l.take k = x.l := List.take_of_length_le (by omega); rw [hke] at HT HA; have hn : lwB x = true := by rw [HD.out, htr, decide_eq_true h4, HA.out]; rfl
     have HN := hidE hn; rw [← lwE_yes hn] at HT; have HVB := hidE (show vwB x = Ly.onB x.u (lwE x) by unfold vwB; rw [hn]; rfl); have HVE := hidE (vwE_yes hn); obtain ⟨at1, gt1, ot1, ct1, rfl, -⟩ := id HT.out; have HOn := hidE ((HU0.out _ hBw.out).iOn (b := w.heap.size + 1) HT.out.rp ae (HR.out _ hBw.out) (by have := HBk.out.size; omega)); clear hn; obtain ⟨k0, k1, k2, -, -, -⟩ := HX.out wr HBk.out; go_wp2_with fail
     refine HOn.out.mono ?_; rintro e w2 ⟨u2, rfl, hO2, hB2⟩; rw [← HVE.out] at hO2; have HT2 := hidE (HT.out.below hB2); have HB2 := hidE (B3 HBk.out hB2); have HBw2 := hidE (B3 hBw.out hB2); have HE2 := hidE hO2; clear hB2 hO2 HOn HBk hBw k0 k1 k2 HT HVE; rw [← HVB.out]; obtain ⟨z0, z1, z2, z3, z4, y0, y1, y2, y3, y4⟩ := HZ.out w2 HB2.out; cases hvb : vwB x with
     | false =>
      go_wp2
      refine wp_region_quiet_below (by kernel_rfl) (by kernel_rfl) ?_
      repeat (go_big_quiet_step (fail))
      refine wpQuiet_nil ?_; intro _ hw'; obtain ⟨⟨dq, osq⟩, hw''⟩ := hw'; subst hw''; have hq1 : Below W0.heap.size W0 (grow (redrawn w2 dq) osq) := B3 HB2.out (below_regrown w2 dq osq); have hq2 : Below w.heap.size w (grow (redrawn w2 dq) osq) := B3 HBw2.out (below_regrown w2 dq osq); obtain ⟨w3, hw3⟩ : ∃ w3, grow (redrawn w2 dq) osq = w3 := ⟨_, rfl⟩
      rw [hw3] at hq1 hq2 ⊢; clear hw3 z0 z1 z2 z3 z4 y0 y1 y2 y3 y4; obtain ⟨z0, z1, z2, z3, z4, y0, y1, y2, y3, y4⟩ := HZ.out w3 hq1; have hno : okB x = false := okB_no' hvb; have hZ := HZ.out w3 hq1; go_wp2
      refine atSet5 (C := bodyPost Tryz.prog Tryz.f42 _ _ _) hZ.c0 hZ.c1 hZ.c2 hZ.c3 hZ.c4 ?_; intro Wf s0 s1 s2 s3 s4 hW; have hbf := hW.belowE hq2 hq2.size (by omega); exact bodyPost_ret (v := .tuple #[.agg #[.slice none 0 0, .slice none 0 0, .slice none 0 0, .slice none 0 0, .slice none 0 0], endV 1]) (by unfold endV; simp [results, Tryz.f42, go_sem, s0, s1, s2, s3, s4]) rfl ⟨_, by unfold erO; rw [hno]; rfl, by unfold ofO loO seO; rw [hno]; exact noneV_is _, hbf⟩
     | true =>
      have HDf := hidE (fun (W : World) (hb : Below w2.heap.size w2 W) => (HT2.out.rp.below hb).iDiff (HE2.out.rp.below hb) ae (HR.out _ (B3 HBw2.out hb))); have AS : Hid (∀ W', Below w2.heap.size w2 W' → (W'.cell? ⟨w.heap.size, 2, none⟩ = some (.slice a2 x.u.length c2))) := fun W' hW => (HX.out W' (B3 HB2.out hW)).c2; have HU2 := hidE (fun (W : World) (hb : Below w2.heap.size w2 W) => HU0.out W (B3 HBw2.out hb)); go_wp2
      refine wp_region_held_drew (S := fun W' => Below w2.heap.size w2 W') (by kernel_rfl) ((Below.refl _ w2).drew) (fun hS0 => ?_); refine wpAnyH_take (i := 0) (v := ?_) rfl (by kernel_rfl) (by kernel_rfl) (by kernel_rfl) (fun _ _ _ h => h) (Or.inl ⟨by kernel_rfl, ?_⟩) hS0 ?_
      rotate_left 1
      ·
       intro w' hw'; go_simp; first | done | with_reducible rfl
      refine wpAnyH_take (i := 1) (v := ?_) rfl (by kernel_rfl) (by kernel_rfl) (by kernel_rfl) (fun _ _ _ h => h) (Or.inl ⟨by kernel_rfl, ?_⟩) hS0 ?_
      rotate_left 1
      ·
       intro w' hw'; go_simp; first | done | with_reducible rfl
      refine wpAnyH_take (i := 2) (v := ?_) rfl (by kernel_rfl) (by kernel_rfl) (by kernel_rfl) (fun _ _ _ h => h) (Or.inl ⟨by kernel_rfl, ?_⟩) hS0 ?_
      rotate_left 1
      ·
       intro w' hw'; go_simp; first | done | with_reducible rfl
      refine wpAnyH_take (i := 3) (v := ?_) rfl (by kernel_rfl) (by kernel_rfl) (by kernel_rfl) (fun _ _ _ h => h) (Or.inl ⟨by kernel_rfl, ?_⟩) hS0 ?_
      rotate_left 1
      ·
       intro w' hw'; go_simp; first | done | with_reducible rfl
      refine wpAnyH_take (i := 4) (v := ?_) rfl (by kernel_rfl) (by kernel_rfl) (by kernel_rfl) (fun _ _ _ h => h) (Or.inl ⟨by kernel_rfl, ?_⟩) hS0 ?_
      rotate_left 1
      ·
       intro w' hw'; have q := AS.out w' hw'; go_simp; first | done | with_reducible rfl
      refine wpAnyH_take (i := 5) (v := ?_) rfl (by kernel_rfl) (by kernel_rfl) (by kernel_rfl) (fun _ _ _ h => h) (Or.inl ⟨by kernel_rfl, ?_⟩) hS0 ?_
      rotate_left 1
      ·
       intro w' hw'; go_simp; first | done | with_reducible rfl
      refine wpAnyH_take (i := 6) (v := ?_) rfl (by kernel_rfl) (by kernel_rfl) (by kernel_rfl) (fun _ _ _ h => h) (Or.inl ⟨by kernel_rfl, ?_⟩) hS0 ?_
      rotate_left 1
      ·
       intro w' hw'; go_simp; first | done | with_reducible rfl
      refine wpAnyH_ready (rs := [7]) (by kernel_rfl) (by simp) (AllReadyH.cons rfl (fun K hK => ?_) AllReadyH.nil); rw [if_pos (by kernel_rfl)]; go_simp; go_wp2_with (first | (go_at_call 78; refine (HDf.out _ hS0).mono ?_; rintro e w3 ⟨u3, rfl, hR3, hB3⟩) | fail)
      have hS1 : Below w2.heap.size w2 w3 := B3 hS0 hB3; have HR3 := hidE hR3; clear hB3 hR3; refine hK.out _ _ hS1 (fun _ => ?_); clear hK K; refine wpAnyH_ready (rs := [8]) (by kernel_rfl) (by simp) (AllReadyH.cons rfl (fun K hK => ?_) AllReadyH.nil); rw [if_pos (by kernel_rfl)]; go_simp; go_wp2_with (first | (go_at_call 77; refine ((HU2.out _ hS1).iSame HR3.out).mono ?_; rintro e w4 ⟨rfl, hB4⟩) | fail)
      have hS2 : Below w2.heap.size w2 w4 := B3 hS1 hB4; clear hB4; refine hK.out _ _ hS2 (fun _ => ?_); clear hK K; refine wpAnyH_take (i := 9) (v := ?_) rfl (by kernel_rfl) (by kernel_rfl) (by kernel_rfl) (fun _ _ _ h => h) (Or.inl ⟨by kernel_rfl, ?_⟩) hS2 ?_
      rotate_left 1
      ·
       intro w' hw'; go_simp; first | done | with_reducible rfl
      refine wpAnyH_take (i := 10) (v := ?_) rfl (by kernel_rfl) (by kernel_rfl) (by kernel_rfl) (fun _ _ _ h => h) (Or.inl ⟨by kernel_rfl, ?_⟩) hS2 ?_
      rotate_left 1
      ·
       intro w' hw'; go_simp; first | done | with_reducible rfl
      refine wpAnyH_done (by kernel_rfl) ?_ _; have HB4 := hidE (B3 HB2.out hS2); have HBw4 := hidE (B3 HBw2.out hS2); have HT4 := hidE (HT2.out.below hS2); have HE4 := hidE (HE2.out.below hS2); have HDD : Hid (okB x = Mk.sameT x.u (Ly.diffE (lwE x) (vwE x))) := by show _ = _; unfold okB; rw [hvb]; rfl
      clear hS0 hS1 hS2 HR3 HDf AS HU2 HB2 HBw2 HT2 HE2 z0 z1 z2 z3 z4 y0 y1 y2 y3 y4; obtain ⟨z0, z1, z2, z3, z4, y0, y1, y2, y3, y4⟩ := HZ.out w4 HB4.out; cases hsm : Mk.sameT x.u (Ly.diffE (lwE x) (vwE x)) with
      | false =>
       have hno : okB x = false := (HDD.out.trans hsm)
       have hZ := HZ.out w4 HB4.out; go_wp2
       refine atSet5 (C := bodyPost Tryz.prog Tryz.f42 _ _ _) hZ.c0 hZ.c1 hZ.c2 hZ.c3 hZ.c4 ?_; intro Wf s0 s1 s2 s3 s4 hW; have hbf := hW.belowE HBw4.out HBw4.out.size (by omega); exact bodyPost_ret (v := .tuple #[.agg #[.slice none 0 0, .slice none 0 0, .slice none 0 0, .slice none 0 0, .slice none 0 0], endV 1]) (by unfold endV; simp [results, Tryz.f42, go_sem, s0, s1, s2, s3, s4]) rfl ⟨_, by unfold erO; rw [hno]; rfl, by unfold ofO loO seO; rw [hno]; exact noneV_is _, hbf⟩
      | true =>
       have hok : okB x = true := HDD.out.trans hsm; obtain ⟨k0, k1, k2, -, -, -⟩ := HX.out w4 HB4.out; obtain ⟨av, gv, ov, cv, rfl, -⟩ := id HE4.out; have h0 := HE0.out w4 HBw4.out; have h1 := HL0.out w4 HBw4.out; have h2 := HU0.out w4 HBw4.out; go_wp2
       refine atSet5 (C := bodyPost Tryz.prog Tryz.f42 _ _ _) z0 z1 z2 z3 z4 ?_; intro Wf s0 s1 s2 s3 s4 hW; have hbf := hW.belowE HBw4.out HBw4.out.size (by omega); exact bodyPost_ret (v := .tuple #[.agg #[.slice a0 x.b.length c0, .slice a1 x.l.length c1, .slice a2 x.u.length c2, .slice at1 (lwE x).length ct1, .slice av (vwE x).length cv], .nilIface]) (by simp [results, Tryz.f42, go_sem, s0, s1, s2, s3, s4]) rfl ⟨_, by unfold erO; rw [hok]; rfl, by unfold ofO loO seO; rw [hok]; exact ⟨_, _, _, _, _, rfl, HE0.out _ hbf, HL0.out _ hbf, HU0.out _ hbf, (HT4.out.win hW).rp, (HE4.out.win hW).rp⟩, hbf⟩
  ·
   have h5 : (4 : Int) < x.l.length := by omega
   have hno : okB x = false := okB_no (by rw [HD.out, decide_eq_false h4, Bool.and_false]; rfl); have hZ := HZ.out w1 HB01.out; go_wp2
   refine atSet5 (C := bodyPost Tryz.prog Tryz.f42 _ _ _) hZ.c0 hZ.c1 hZ.c2 hZ.c3 hZ.c4 ?_; intro Wf s0 s1 s2 s3 s4 hW; have hbf := hW.belowE HB1.out HB1.out.size (by omega); exact bodyPost_ret (v := .tuple #[.agg #[.slice none 0 0, .slice none 0 0, .slice none 0 0, .slice none 0 0, .slice none 0 0], endV 1]) (by unfold endV; simp [results, Tryz.f42, go_sem, s0, s1, s2, s3, s4]) rfl ⟨_, by unfold erO; rw [hno]; rfl, by unfold ofO loO seO; rw [hno]; exact noneV_is _, hbf⟩
end Go.Proofs.YteppodogghjfhaaGreatDoor.Ov
