import Derived.Test.YtoaipphccjkphaaDoorHPk27
import Derived.Test.YtoaipphccjkphaaDoorHPk17
import Derived.Test.YtoaipphccjkphaaDoorHPk05
namespace Go.Proofs.YtoaipphccjkphaaDoor
open Go.RowKit Go.Lib
theorem Ents.kept {w w' : World} {g o b : Nat} {es : List E} (h : Ents w g o es) (k : Kept b w w') (hb : 0 < es.length → g ≠ b) : Ents w' g o es := fun i hi => by
 obtain ⟨c0, c1, c2⟩ := h i hi; exact ⟨k.cell (hb (by omega)) c0, k.cell (hb (by omega)) c1, k.cell (hb (by omega)) c2⟩
structure Bx (W : World) (b : Nat) (k : Int) (p t x : ByteArray) : Prop where
 c0 : W.cell? ⟨b, 0, none⟩ = some (.int .i64 k)
 c1 : W.cell? ⟨b, 1, none⟩ = some (.string p)
 c2 : W.cell? ⟨b, 2, none⟩ = some (.string t)
 c3 : W.cell? ⟨b, 3, none⟩ = some (.string x)
 f0 : W.frozen? ⟨b, 0, none⟩ = false
 f1 : W.frozen? ⟨b, 1, none⟩ = false
 f2 : W.frozen? ⟨b, 2, none⟩ = false
 f3 : W.frozen? ⟨b, 3, none⟩ = false
theorem Bx.kept {W W' : World} {b r : Nat} {k : Int} {p t x : ByteArray} (h : Bx W b k p t x) (hk : Kept r W W') (hb : b ≠ r) : Bx W' b k p t x := by
 have lt := cell_ltR h.c0; have hh := hk.2.2.2.2 b lt hb; exact ⟨hk.cell hb h.c0, hk.cell hb h.c1, hk.cell hb h.c2, hk.cell hb h.c3, (World.frozen?_of_block (a := ⟨b, 0, none⟩) hh).trans h.f0, (World.frozen?_of_block (a := ⟨b, 1, none⟩) hh).trans h.f1, (World.frozen?_of_block (a := ⟨b, 2, none⟩) hh).trans h.f2, (World.frozen?_of_block (a := ⟨b, 3, none⟩) hh).trans h.f3⟩
theorem Bx.new (w : World) (k : Int) (p t x : ByteArray) (T : TypeId) : Bx (w.alloc (.cells #[.int .i64 k, .string p, .string t, .string x] T)) w.heap.size k p t x :=
 ⟨by simp, by simp, by simp, by simp, by simp, by simp, by simp, by simp⟩
theorem frz (W : World) (b i j : Nat) (v : Value) : (W.setCell ⟨b, i, none⟩ v).frozen? ⟨b, j, none⟩ = W.frozen? ⟨b, j, none⟩ := World.frozen?_setCell ..
theorem Bx.set0 {W : World} {b : Nat} {k : Int} {p t x : ByteArray} (h : Bx W b k p t x) (z : Int) : Bx (W.setCell ⟨b, 0, none⟩ (.int .i64 z)) b z p t x :=
 ⟨cell_eq' _ h.c0, (cell_ne' _ _ _ _ _ (by decide)).trans h.c1, (cell_ne' _ _ _ _ _ (by decide)).trans h.c2, (cell_ne' _ _ _ _ _ (by decide)).trans h.c3, (frz ..).trans h.f0, (frz ..).trans h.f1, (frz ..).trans h.f2, (frz ..).trans h.f3⟩
theorem Bx.set1 {W : World} {b : Nat} {k : Int} {p t x : ByteArray} (h : Bx W b k p t x) (z : ByteArray) : Bx (W.setCell ⟨b, 1, none⟩ (.string z)) b k z t x :=
 ⟨(cell_ne' _ _ _ _ _ (by decide)).trans h.c0, cell_eq' _ h.c1, (cell_ne' _ _ _ _ _ (by decide)).trans h.c2, (cell_ne' _ _ _ _ _ (by decide)).trans h.c3, (frz ..).trans h.f0, (frz ..).trans h.f1, (frz ..).trans h.f2, (frz ..).trans h.f3⟩
theorem Bx.set2 {W : World} {b : Nat} {k : Int} {p t x : ByteArray} (h : Bx W b k p t x) (z : ByteArray) : Bx (W.setCell ⟨b, 2, none⟩ (.string z)) b k p z x :=
 ⟨(cell_ne' _ _ _ _ _ (by decide)).trans h.c0, (cell_ne' _ _ _ _ _ (by decide)).trans h.c1, cell_eq' _ h.c2, (cell_ne' _ _ _ _ _ (by decide)).trans h.c3, (frz ..).trans h.f0, (frz ..).trans h.f1, (frz ..).trans h.f2, (frz ..).trans h.f3⟩
theorem Bx.set3 {W : World} {b : Nat} {k : Int} {p t x : ByteArray} (h : Bx W b k p t x) (z : ByteArray) : Bx (W.setCell ⟨b, 3, none⟩ (.string z)) b k p t z :=
 ⟨(cell_ne' _ _ _ _ _ (by decide)).trans h.c0, (cell_ne' _ _ _ _ _ (by decide)).trans h.c1, (cell_ne' _ _ _ _ _ (by decide)).trans h.c2, cell_eq' _ h.c3, (frz ..).trans h.f0, (frz ..).trans h.f1, (frz ..).trans h.f2, (frz ..).trans h.f3⟩
theorem peel {P : Program} {A B : Code} {Q : Exit → Act → World → Prop} {K : Act → World → Prop} (h : ∀ a w, (Code.seq A B).wp P Q a w → K a w) : ∃ K' : Act → World → Prop, (∀ a w, B.wp P Q a w → K' a w) ∧ (∀ a w, A.wp P (Exit.then K' Q) a w → K a w) :=
 ⟨fun a w => B.wp P Q a w, fun _ _ h => h, fun a w hh => h a w (wp_seq hh)⟩
theorem Kn.bx {n r b : Nat} {w W : World} {k : Int} {p t x : ByteArray} (h : Kn n r w W) (hb : b < n) (hr : b ≠ r) (hx : Bx w b k p t x) : Bx W b k p t x := by
 have hh := h.2.2.2.2 b hb hr
 exact ⟨(World.cell?_of_block (w := w) (a := ⟨b, 0, none⟩) hh).trans hx.c0, (World.cell?_of_block (w := w) (a := ⟨b, 1, none⟩) hh).trans hx.c1, (World.cell?_of_block (w := w) (a := ⟨b, 2, none⟩) hh).trans hx.c2, (World.cell?_of_block (w := w) (a := ⟨b, 3, none⟩) hh).trans hx.c3,
  (World.frozen?_of_block (w := w) (a := ⟨b, 0, none⟩) hh).trans hx.f0, (World.frozen?_of_block (w := w) (a := ⟨b, 1, none⟩) hh).trans hx.f1, (World.frozen?_of_block (w := w) (a := ⟨b, 2, none⟩) hh).trans hx.f2, (World.frozen?_of_block (w := w) (a := ⟨b, 3, none⟩) hh).trans hx.f3⟩
theorem fin4 {w W : World} {b r q : Nat} {k k' : Int} {p t x p' t' x' : ByteArray} {C : World → Prop} (h : Bx W b k p t x) (hK : Kept r w W) (hR : Rd W r q) (hb : w.heap.size ≤ b) (hrb : r < b)
  (H : ∀ Wf, Bx Wf b k' p' t' x' → Kept r w Wf → Rd Wf r q → C Wf) : C ((((W.setCell ⟨b, 0, none⟩ (.int .i64 k')).setCell ⟨b, 1, none⟩ (.string p')).setCell ⟨b, 2, none⟩ (.string t')).setCell ⟨b, 3, none⟩ (.string x')) := by
 have hs : Kept b W ((((W.setCell ⟨b, 0, none⟩ (.int .i64 k')).setCell ⟨b, 1, none⟩ (.string p')).setCell ⟨b, 2, none⟩ (.string t')).setCell ⟨b, 3, none⟩ (.string x')) :=
  (((Kept.setCell W 0 _).trans (Kept.setCell _ 1 _)).trans (Kept.setCell _ 2 _)).trans (Kept.setCell _ 3 _)
 refine H _ ((((h.set0 k').set1 p').set2 t').set3 x') ?_ (hR.keep hs hrb); exact (Kn.other (n := w.heap.size) (r := r) hK (Nat.le_refl _) hb hs)
set_option maxHeartbeats 4000000 in
set_option maxRecDepth 100000 in
theorem l2Op_any (w : World) (r p : Nat) (a : Option Addr) (g o cap : Nat) (es : List E) (hp : p ≤ 9000) (hl : es.length ≤ 100) (ha : 0 < es.length → a = some ⟨g, o, none⟩) (hE : Ents w g o es) (hz : ∀ e ∈ es, e.p.size ≤ 16) (hg : 0 < es.length → g ≠ r) (h : Rd w r p) :
  Calls Tryd.prog 62 #[.pointer (some ⟨r, 0, none⟩), .slice a es.length cap] w fun e w' => ∃ (k : Int) (pp t x : ByteArray) (q : Nat), e = .returned (.agg #[.int .i64 k, .string pp, .string t, .string x]) ∧ pp.size ≤ 16 ∧ okS t = true ∧ x.size ≤ 16 ∧ q ≤ p + 8 ∧ Rd w' r q ∧ Kept r w w' := by
 have hr := h.lt; have hr0 : w.heap.size ≠ r := by omega
 have hr1 : w.heap.size + 1 ≠ r := by omega
 have hp1 : p ≤ 10000 := by omega
 have hp2 : p + 1 ≤ 10000 := by omega
 have e18 : 1 ≤ 8 := by omega
 have e8 : 8 ≤ 100 := by omega
 obtain ⟨W0, hW0⟩ : ∃ W0, W0 = w.alloc (.cells #[.int .i64 0, .string ⟨#[]⟩, .string ⟨#[]⟩, .string ⟨#[]⟩] 83) := ⟨_, rfl⟩
 have hs0 : W0.heap.size = w.heap.size + 1 := by rw [hW0]; simp
 have HY0 : Hid (Bx W0 w.heap.size 0 ⟨#[]⟩ ⟨#[]⟩ ⟨#[]⟩) := by rw [hW0]; exact Bx.new w 0 ⟨#[]⟩ ⟨#[]⟩ ⟨#[]⟩ 83
 have HK0 : Hid (Kept r w W0) := by rw [hW0]; exact Kept.alloc w _
 have HR0 := hidR (h.below (hW0 ▸ (Below.refl _ w).alloc (Nat.le_refl _) _ : Below w.heap.size w W0)); have HE := hidR (hE.kept HK0.out hg); have HGB : Hid (0 < es.length → g < w.heap.size) := fun h => cell_ltR (hE 0 h).1; have HZ := hidR hz; have HG := hidR hg; have HA := hidR ha; have HL1 := hidR (LstI.new (fun z => decide (1 ≤ z ∧ z ≤ 5)) W0 [1, 2, 2, 3, 4, 5, 1, 5] 3 (by decide)); rw [hs0] at HL1; clear hE hz hg ha h; go_enter Tryd.func62, Tryd.ntmps62
 go_wp2_with fail
 rw [← hW0]; clear hW0
 rename_i Q0 K1 hK1 K0 hK0
 obtain ⟨KA, hA2, hA1⟩ := peel hK1; obtain ⟨KB, hB2, hB1⟩ := peel hA2; obtain ⟨KC, hC2, hC1⟩ := peel hB2; clear hA2 hB2 hK1; have HC2 := hidR hC2; have HC1 := hidR hC1; have HB1 := hidR hB1; clear hC2 hC1 hB1
 have T3 : ∀ (y1 y2 y3 y6 y7 y8 y9 y10 y11 y12 y13 y14 y15 y16 y17 y18 y19 y20 y21 y22 y23 y24 y25 y26 y27 y28 y29 y30 y31 y32 y33 y34 y35 y36 y37 y38 y39 y40 y41 y42 y43 y44 y45 y46 y47 y48 y49 y50 y51 y52 y53 y54 y55 y56 y57 y58 y59 y60 y61 y62 y63 y64 y65 y66 y67 y68 y69 y70 y71 y72 : Value) (W : World) (b : Nat) (k : Int) (pp t x : ByteArray) (q : Nat) (hq : q ≤ p + 6) (HX : Hid (Bx W b k pp t x)) (HR : Hid (Rd W r q)) (HK : Hid (Kn (w.heap.size + 1) r W0 W)) (HPP : Hid (pp.size ≤ 16)) (HT : Hid (okS t = true)) (HD : Hid (x.size ≤ 16)) (hb : w.heap.size + 1 ≤ b), KC { tmps := #[.pointer (some ⟨r, 0, none⟩), y1, y2, y3, .pointer (some ⟨w.heap.size, 0, none⟩), .pointer (some ⟨b, 0, none⟩), y6, y7, y8, y9, y10, y11, y12, y13, y14, y15, y16, y17, y18, y19, y20, y21, y22, y23, y24, y25, y26, y27, y28, y29, y30, y31, y32, y33, y34, y35, y36, y37, y38, y39, y40, y41, y42, y43, y44, y45, y46, y47, y48, y49, y50, y51, y52, y53, y54, y55, y56, y57, y58, y59, y60, y61, y62, y63, y64, y65, y66, y67, y68, y69, y70, y71, y72], defers := [] } W := by
  intro y1 y2 y3 y6 y7 y8 y9 y10 y11 y12 y13 y14 y15 y16 y17 y18 y19 y20 y21 y22 y23 y24 y25 y26 y27 y28 y29 y30 y31 y32 y33 y34 y35 y36 y37 y38 y39 y40 y41 y42 y43 y44 y45 y46 y47 y48 y49 y50 y51 y52 y53 y54 y55 y56 y57 y58 y59 y60 y61 y62 y63 y64 y65 y66 y67 y68 y69 y70 y71 y72 W b k pp t x q hq HX HR HK HPP HT HD hb; have hbr : b ≠ r := by omega
  have hrb : r < b := by omega
  refine HC2.out _ _ ?_; go_wp2_with fail
  refine (pick_any _ r q _ (by decide) (by decide) (by omega) HR.out).mono ?_; rintro e V ⟨j, rfl, j0, j1, hR, hK⟩; have HXV := hidR (HX.out.kept hK hbr); have HRV := hidR hR; have HKV := hidR (HK.out.step (Nat.le_of_eq hs0.symm) hK); clear HX HR HK hR hK
  have hj : j = 0 ∨ j = 1 ∨ j = 2 ∨ j = 3 ∨ (4 ≤ j ∧ (j == 0) = false ∧ (j == 1) = false ∧ (j == 2) = false ∧ (j == 3) = false) := by
   by_cases h4 : 4 ≤ j
   ·
    exact .inr (.inr (.inr (.inr ⟨h4, by rw [beq_eq_false_iff_ne]; omega, by rw [beq_eq_false_iff_ne]; omega, by rw [beq_eq_false_iff_ne]; omega, by rw [beq_eq_false_iff_ne]; omega⟩)))
   ·
    omega
  obtain ⟨c0, c1, c2, c3, f0, f1, f2, f3⟩ := HXV.out; rcases hj with rfl | rfl | rfl | rfl | ⟨hj4, n0, n1, n2, n3⟩
  ·
   go_wp2_with fail
   refine (num_P (fun _ => true) _ r (q + 1) V.heap.size 4 4 (by decide) (by decide) (by omega) (by have := HRV.out.lt; omega) (LstI.new (fun _ => true) V [0, 6, -1, 1] 3 (by decide)) (HRV.out.below ((Below.refl _ V).alloc (Nat.le_refl _) _))).mono ?_; rintro e W1 ⟨z, rfl, -, hR, hK⟩; have HX1 := hidR ((HXV.out.kept (Kept.alloc V _) hbr).kept hK hbr); have HR2 := hidR (hR.keep (Kept.setCell W1 0 (.int .i64 z)) hrb); have HK2 := hidR (((HKV.out.step (Nat.le_of_eq hs0.symm) (Kept.alloc V _)).step (Nat.le_of_eq hs0.symm) hK).other (Nat.le_of_eq hs0.symm) hb (Kept.setCell W1 0 (.int .i64 z))); clear c0 c1 c2 c3 f0 f1 f2 f3 HXV HRV HKV hR hK; obtain ⟨c0, c1, c2, c3, f0, f1, f2, f3⟩ := HX1.out; obtain ⟨x0, x1, x2, x3, -, -, -, -⟩ := HX1.out.set0 z; obtain ⟨y0', y1', y2', y3', z0', z1', z2', z3'⟩ := (HK2.out.bx (Nat.lt_succ_self _) hr0 HY0.out)
   go_wp2
   refine fin4 (C := bodyPost Tryd.prog Tryd.f62 _ _ _) (HK2.out.bx (Nat.lt_succ_self _) hr0 HY0.out) (HK0.out.trans (HK2.out.keptAt hs0)) HR2.out (Nat.le_refl _) hr ?_; intro Wf hf hKf hRf; obtain ⟨s0, s1, s2, s3, -, -, -, -⟩ := hf; exact bodyPost_ret (v := .agg #[.int .i64 z, .string pp, .string t, .string x]) (by simp [results, Tryd.results62, go_sem, s0, s1, s2, s3]) rfl ⟨_, _, _, _, _, rfl, HPP.out, HT.out, HD.out, by omega, hRf, hKf⟩
  ·
   go_wp2_with fail
   refine (of_P okS _ r (q + 1) V.heap.size 4 4 (by decide) (by decide) (by omega) (by have := HRV.out.lt; omega) (LstP.new okS V [⟨#[47]⟩, ⟨#[]⟩, ⟨#[47, 65]⟩, ⟨#[47, 97, 47, 98, 47, 99, 47, 100]⟩] 9 (by decide +kernel)) (HRV.out.below ((Below.refl _ V).alloc (Nat.le_refl _) _))).mono ?_; rintro e W1 ⟨z, rfl, hz, hR, hK⟩; have HX1 := hidR ((HXV.out.kept (Kept.alloc V _) hbr).kept hK hbr); have HR2 := hidR (hR.keep (Kept.setCell W1 1 (.string z)) hrb); have HK2 := hidR (((HKV.out.step (Nat.le_of_eq hs0.symm) (Kept.alloc V _)).step (Nat.le_of_eq hs0.symm) hK).other (Nat.le_of_eq hs0.symm) hb (Kept.setCell W1 1 (.string z))); clear c0 c1 c2 c3 f0 f1 f2 f3 HXV HRV HKV hR hK; obtain ⟨c0, c1, c2, c3, f0, f1, f2, f3⟩ := HX1.out; obtain ⟨x0, x1, x2, x3, -, -, -, -⟩ := HX1.out.set1 z; obtain ⟨y0', y1', y2', y3', z0', z1', z2', z3'⟩ := (HK2.out.bx (Nat.lt_succ_self _) hr0 HY0.out)
   go_wp2
   refine fin4 (C := bodyPost Tryd.prog Tryd.f62 _ _ _) (HK2.out.bx (Nat.lt_succ_self _) hr0 HY0.out) (HK0.out.trans (HK2.out.keptAt hs0)) HR2.out (Nat.le_refl _) hr ?_; intro Wf hf hKf hRf; obtain ⟨s0, s1, s2, s3, -, -, -, -⟩ := hf; exact bodyPost_ret (v := .agg #[.int .i64 k, .string z, .string t, .string x]) (by simp [results, Tryd.results62, go_sem, s0, s1, s2, s3]) rfl ⟨_, _, _, _, _, rfl, okS_size hz, HT.out, HD.out, by omega, hRf, hKf⟩
  ·
   go_wp2_with fail
   refine (of_P okS _ r (q + 1) V.heap.size 4 4 (by decide) (by decide) (by omega) (by have := HRV.out.lt; omega) (LstP.new okS V [⟨#[47]⟩, ⟨#[47, 97]⟩, ⟨#[47, 99, 47, 99, 47, 99]⟩, ⟨#[]⟩] 9 (by decide +kernel)) (HRV.out.below ((Below.refl _ V).alloc (Nat.le_refl _) _))).mono ?_; rintro e W1 ⟨z, rfl, hz, hR, hK⟩; have HX1 := hidR ((HXV.out.kept (Kept.alloc V _) hbr).kept hK hbr); have HR2 := hidR (hR.keep (Kept.setCell W1 2 (.string z)) hrb); have HK2 := hidR (((HKV.out.step (Nat.le_of_eq hs0.symm) (Kept.alloc V _)).step (Nat.le_of_eq hs0.symm) hK).other (Nat.le_of_eq hs0.symm) hb (Kept.setCell W1 2 (.string z))); clear c0 c1 c2 c3 f0 f1 f2 f3 HXV HRV HKV hR hK; obtain ⟨c0, c1, c2, c3, f0, f1, f2, f3⟩ := HX1.out; obtain ⟨x0, x1, x2, x3, -, -, -, -⟩ := HX1.out.set2 z; obtain ⟨y0', y1', y2', y3', z0', z1', z2', z3'⟩ := (HK2.out.bx (Nat.lt_succ_self _) hr0 HY0.out)
   go_wp2
   refine fin4 (C := bodyPost Tryd.prog Tryd.f62 _ _ _) (HK2.out.bx (Nat.lt_succ_self _) hr0 HY0.out) (HK0.out.trans (HK2.out.keptAt hs0)) HR2.out (Nat.le_refl _) hr ?_; intro Wf hf hKf hRf; obtain ⟨s0, s1, s2, s3, -, -, -, -⟩ := hf; exact bodyPost_ret (v := .agg #[.int .i64 k, .string pp, .string z, .string x]) (by simp [results, Tryd.results62, go_sem, s0, s1, s2, s3]) rfl ⟨_, _, _, _, _, rfl, HPP.out, hz, HD.out, by omega, hRf, hKf⟩
  ·
   go_wp2_with fail
   refine (of_P okS _ r (q + 1) V.heap.size 4 4 (by decide) (by decide) (by omega) (by have := HRV.out.lt; omega) (LstP.new okS V [⟨#[113]⟩, ⟨#[65]⟩, ⟨#[97, 98, 99, 100, 101, 102, 103]⟩, ⟨#[97, 98, 99, 100, 101, 102]⟩] 9 (by decide +kernel)) (HRV.out.below ((Below.refl _ V).alloc (Nat.le_refl _) _))).mono ?_; rintro e W1 ⟨z, rfl, hz, hR, hK⟩; have HX1 := hidR ((HXV.out.kept (Kept.alloc V _) hbr).kept hK hbr); have HR2 := hidR (hR.keep (Kept.setCell W1 3 (.string z)) hrb); have HK2 := hidR (((HKV.out.step (Nat.le_of_eq hs0.symm) (Kept.alloc V _)).step (Nat.le_of_eq hs0.symm) hK).other (Nat.le_of_eq hs0.symm) hb (Kept.setCell W1 3 (.string z))); clear c0 c1 c2 c3 f0 f1 f2 f3 HXV HRV HKV hR hK; obtain ⟨c0, c1, c2, c3, f0, f1, f2, f3⟩ := HX1.out; obtain ⟨x0, x1, x2, x3, -, -, -, -⟩ := HX1.out.set3 z; obtain ⟨y0', y1', y2', y3', z0', z1', z2', z3'⟩ := (HK2.out.bx (Nat.lt_succ_self _) hr0 HY0.out)
   go_wp2
   refine fin4 (C := bodyPost Tryd.prog Tryd.f62 _ _ _) (HK2.out.bx (Nat.lt_succ_self _) hr0 HY0.out) (HK0.out.trans (HK2.out.keptAt hs0)) HR2.out (Nat.le_refl _) hr ?_; intro Wf hf hKf hRf; obtain ⟨s0, s1, s2, s3, -, -, -, -⟩ := hf; exact bodyPost_ret (v := .agg #[.int .i64 k, .string pp, .string t, .string z]) (by simp [results, Tryd.results62, go_sem, s0, s1, s2, s3]) rfl ⟨_, _, _, _, _, rfl, HPP.out, HT.out, okS_size hz, by omega, hRf, hKf⟩
  ·
   obtain ⟨y0', y1', y2', y3', z0', z1', z2', z3'⟩ := (HKV.out.bx (Nat.lt_succ_self _) hr0 HY0.out)
   go_wp2
   refine fin4 (C := bodyPost Tryd.prog Tryd.f62 _ _ _) (HKV.out.bx (Nat.lt_succ_self _) hr0 HY0.out) (HK0.out.trans (HKV.out.keptAt hs0)) HRV.out (Nat.le_refl _) hr ?_; intro Wf hf hKf hRf; obtain ⟨s0, s1, s2, s3, -, -, -, -⟩ := hf; exact bodyPost_ret (v := .agg #[.int .i64 k, .string pp, .string t, .string x]) (by simp [results, Tryd.results62, go_sem, s0, s1, s2, s3]) rfl ⟨_, _, _, _, _, rfl, HPP.out, HT.out, HD.out, by omega, hRf, hKf⟩
 have T2 : ∀ (y1 y2 y3 y6 y7 y8 y9 y10 y11 y12 y13 y14 y15 y16 y17 y18 y19 y20 y21 y22 y23 y24 y25 y26 y27 y28 y29 y30 y31 y32 y33 y34 y35 y36 y37 y38 y39 y40 y41 y42 y43 y44 y45 y46 y47 y48 y49 y50 y51 y52 y53 y54 y55 y56 y57 y58 y59 y60 y61 y62 y63 y64 y65 y66 y67 y68 y69 y70 y71 y72 : Value) (W : World) (b : Nat) (k : Int) (pp t x : ByteArray) (q : Nat) (hq : q ≤ p + 5) (HX : Hid (Bx W b k pp t x)) (HR : Hid (Rd W r q)) (HK : Hid (Kn (w.heap.size + 1) r W0 W)) (HPP : Hid (pp.size ≤ 16)) (HT : Hid (okS t = true)) (HD : Hid (x.size ≤ 16)) (hb : w.heap.size + 1 ≤ b), KB { tmps := #[.pointer (some ⟨r, 0, none⟩), y1, y2, y3, .pointer (some ⟨w.heap.size, 0, none⟩), .pointer (some ⟨b, 0, none⟩), y6, y7, y8, y9, y10, y11, y12, y13, y14, y15, y16, y17, y18, y19, y20, y21, y22, y23, y24, y25, y26, y27, y28, y29, y30, y31, y32, y33, y34, y35, y36, y37, y38, y39, y40, y41, y42, y43, y44, y45, y46, y47, y48, y49, y50, y51, y52, y53, y54, y55, y56, y57, y58, y59, y60, y61, y62, y63, y64, y65, y66, y67, y68, y69, y70, y71, y72], defers := [] } W := by
  intro y1 y2 y3 y6 y7 y8 y9 y10 y11 y12 y13 y14 y15 y16 y17 y18 y19 y20 y21 y22 y23 y24 y25 y26 y27 y28 y29 y30 y31 y32 y33 y34 y35 y36 y37 y38 y39 y40 y41 y42 y43 y44 y45 y46 y47 y48 y49 y50 y51 y52 y53 y54 y55 y56 y57 y58 y59 y60 y61 y62 y63 y64 y65 y66 y67 y68 y69 y70 y71 y72 W b k pp t x q hq HX HR HK HPP HT HD hb; have hbr : b ≠ r := by omega
  have hrb : r < b := by omega
  obtain ⟨c0, c1, c2, c3, f0, f1, f2, f3⟩ := HX.out; refine HC1.out _ _ ?_; by_cases hk : k = 5
  ·
   subst hk; go_wp2_with fail
   refine (l1Path_P okS (by decide +kernel) _ r q (by omega) HR.out).mono ?_; rintro e W1 ⟨z, rfl, hz, hR, hK⟩; have HX1 := hidR (HX.out.kept hK hbr); have HR2 := hidR (hR.keep (Kept.setCell W1 2 (.string z)) hrb); have HK2 := hidR ((HK.out.step (Nat.le_of_eq hs0.symm) hK).other (Nat.le_of_eq hs0.symm) hb (Kept.setCell W1 2 (.string z))); clear c0 c1 c2 c3 f0 f1 f2 f3 HX HR HK hR hK; obtain ⟨c0, c1, c2, c3, f0, f1, f2, f3⟩ := HX1.out; have HX2 := hidR (HX1.out.set2 z); go_wp2
   exact T3 _ _ _ _ _ _ _ _ _ _ _ _ _ _ _ _ _ _ _ _ _ _ _ _ _ _ _ _ _ _ _ _ _ _ _ _ _ _ _ _ _ _ _ _ _ _ _ _ _ _ _ _ _ _ _ _ _ _ _ _ _ _ _ _ _ _ _ _ _ _ _ b _ _ _ _ _ (by omega) HX2 HR2 HK2 HPP (hidR hz) HD (by omega)
  ·
   have hn : (k == 5) = false := by rw [beq_eq_false_iff_ne]; exact hk
   go_wp2
   exact T3 _ _ _ _ _ _ _ _ _ _ _ _ _ _ _ _ _ _ _ _ _ _ _ _ _ _ _ _ _ _ _ _ _ _ _ _ _ _ _ _ _ _ _ _ _ _ _ _ _ _ _ _ _ _ _ _ _ _ _ _ _ _ _ _ _ _ _ _ _ _ _ b _ _ _ _ _ (by omega) HX HR HK HPP HT HD (by omega)
 clear HC2 HC1
 have T1 : ∀ (y1 y2 y3 y6 y7 y8 y9 y10 y11 y12 y13 y14 y15 y16 y17 y18 y19 y20 y21 y22 y23 y24 y25 y26 y27 y28 y29 y30 y31 y32 y33 y34 y35 y36 y37 y38 y39 y40 y41 y42 y43 y44 y45 y46 y47 y48 y49 y50 y51 y52 y53 y54 y55 y56 y57 y58 y59 y60 y61 y62 y63 y64 y65 y66 y67 y68 y69 y70 y71 y72 : Value) (W : World) (b : Nat) (k : Int) (pp t x : ByteArray) (q : Nat) (hq : q ≤ p + 4) (HX : Hid (Bx W b k pp t x)) (HR : Hid (Rd W r q)) (HK : Hid (Kn (w.heap.size + 1) r W0 W)) (HPP : Hid (pp.size ≤ 16)) (HT : Hid (okS t = true)) (HD : Hid (x.size ≤ 16)) (hb : w.heap.size + 1 ≤ b), KA { tmps := #[.pointer (some ⟨r, 0, none⟩), y1, y2, y3, .pointer (some ⟨w.heap.size, 0, none⟩), .pointer (some ⟨b, 0, none⟩), y6, y7, y8, y9, y10, y11, y12, y13, y14, y15, y16, y17, y18, y19, y20, y21, y22, y23, y24, y25, y26, y27, y28, y29, y30, y31, y32, y33, y34, y35, y36, y37, y38, y39, y40, y41, y42, y43, y44, y45, y46, y47, y48, y49, y50, y51, y52, y53, y54, y55, y56, y57, y58, y59, y60, y61, y62, y63, y64, y65, y66, y67, y68, y69, y70, y71, y72], defers := [] } W := by
  intro y1 y2 y3 y6 y7 y8 y9 y10 y11 y12 y13 y14 y15 y16 y17 y18 y19 y20 y21 y22 y23 y24 y25 y26 y27 y28 y29 y30 y31 y32 y33 y34 y35 y36 y37 y38 y39 y40 y41 y42 y43 y44 y45 y46 y47 y48 y49 y50 y51 y52 y53 y54 y55 y56 y57 y58 y59 y60 y61 y62 y63 y64 y65 y66 y67 y68 y69 y70 y71 y72 W b k pp t x q hq HX HR HK HPP HT HD hb; have hbr : b ≠ r := by omega
  have hrb : r < b := by omega
  obtain ⟨c0, c1, c2, c3, f0, f1, f2, f3⟩ := HX.out; refine HB1.out _ _ ?_; by_cases hk : k = 2
  ·
   subst hk; go_wp2_with fail
   refine (l2Some_any _ r q (by omega) HR.out).mono ?_; rintro e W1 ⟨z, rfl, hz, hR, hK⟩; have HX1 := hidR (HX.out.kept hK hbr); have HR2 := hidR (hR.keep (Kept.setCell W1 3 (.string z)) hrb); have HK2 := hidR ((HK.out.step (Nat.le_of_eq hs0.symm) hK).other (Nat.le_of_eq hs0.symm) hb (Kept.setCell W1 3 (.string z))); clear c0 c1 c2 c3 f0 f1 f2 f3 HX HR HK hR hK; obtain ⟨c0, c1, c2, c3, f0, f1, f2, f3⟩ := HX1.out; have HX2 := hidR (HX1.out.set3 z); go_wp2
   exact T2 _ _ _ _ _ _ _ _ _ _ _ _ _ _ _ _ _ _ _ _ _ _ _ _ _ _ _ _ _ _ _ _ _ _ _ _ _ _ _ _ _ _ _ _ _ _ _ _ _ _ _ _ _ _ _ _ _ _ _ _ _ _ _ _ _ _ _ _ _ _ _ b _ _ _ _ _ (by omega) HX2 HR2 HK2 HPP HT (hidR (okS_size hz)) (by omega)
  ·
   have hn : (k == 2) = false := by rw [beq_eq_false_iff_ne]; exact hk
   go_wp2
   exact T2 _ _ _ _ _ _ _ _ _ _ _ _ _ _ _ _ _ _ _ _ _ _ _ _ _ _ _ _ _ _ _ _ _ _ _ _ _ _ _ _ _ _ _ _ _ _ _ _ _ _ _ _ _ _ _ _ _ _ _ _ _ _ _ _ _ _ _ _ _ _ _ b _ _ _ _ _ (by omega) HX HR HK HPP HT HD (by omega)
 clear HB1 T3 T2; refine (num_P (fun z => decide (1 ≤ z ∧ z ≤ 5)) _ r p (w.heap.size + 1) 8 8 e18 e8 hp1 hr1 HL1.out (HR0.out.below ((Below.refl _ _).alloc (Nat.le_refl _) _))).mono ?_; rintro e w1 ⟨k, rfl, hk, hR, hK⟩; have HR1 := hidR hR; have HX1 := hidR ((HY0.out.kept (Kept.alloc _ _) hr0).kept hK hr0); have HK1 := hidR ((Kept.alloc W0 _).trans hK); have hk' := of_decide_eq_true hk; clear hR hK hk HL1; obtain ⟨c0, c1, c2, c3, f0, f1, f2, f3⟩ := HX1.out; go_wp2_with fail
 refine (l1Path_P okS (by decide +kernel) _ r (p + 1) hp2 HR1.out).mono ?_; rintro e w2 ⟨pp, rfl, hpp, hR, hK⟩; have HX2 := hidR (HX1.out.kept hK hr0); have hw2 : w.heap.size + 1 ≤ w2.heap.size := Nat.le_trans (Nat.le_of_eq hs0.symm) (Nat.le_trans HK1.out.2.2.2.1 hK.2.2.2.1); have HK := hidR ((Kn.step (Kn.refl (w.heap.size + 1) r W0) (Nat.le_of_eq hs0.symm) ((HK1.out.trans hK).trans (Kept.alloc w2 (.cells #[.int .i64 k, .string pp, .string ⟨#[]⟩, .string ⟨#[]⟩] 83))))); have HR := hidR (hR.below ((Below.refl _ w2).alloc (Nat.le_refl _) (.cells #[.int .i64 k, .string pp, .string ⟨#[]⟩, .string ⟨#[]⟩] 83))); have HX := hidR (Bx.new w2 k pp ⟨#[]⟩ ⟨#[]⟩ 83); have HPP := hidR (okS_size hpp); have HT := hidR okS_none; have HD : Hid ((⟨#[]⟩ : ByteArray).size ≤ 16) := Nat.zero_le _; have hbr : w2.heap.size ≠ r := by omega
 have hrb : r < w2.heap.size := by omega
 have HE3 := hidR ((HE.out.kept (HK1.out.trans hK) HG.out).kept (Kept.alloc w2 (.cells #[.int .i64 k, .string pp, .string ⟨#[]⟩, .string ⟨#[]⟩] 83)) HG.out); clear hR hK HR1 HK1 hpp c0 c1 c2 c3 f0 f1 f2 f3 HX1; obtain ⟨d0, d1, d2, d3, -, -, -, -⟩ := HX2.out; clear HX2; by_cases h0 : es.length = 0
 ·
  rw [h0]; go_wp2
  exact T1 _ _ _ _ _ _ _ _ _ _ _ _ _ _ _ _ _ _ _ _ _ _ _ _ _ _ _ _ _ _ _ _ _ _ _ _ _ _ _ _ _ _ _ _ _ _ _ _ _ _ _ _ _ _ _ _ _ _ _ _ _ _ _ _ _ _ _ _ _ _ _ w2.heap.size _ _ _ _ _ (by omega) HX HR HK HPP HT HD (by omega)
 ·
  have h0' : (0 : Int) < (es.length : Int) := by omega
  by_cases h2 : 2 < k
  ·
   go_wp2_with fail
   refine (pick_any _ r (p + 1 + 1) _ (by decide) (by decide) (by omega) HR.out).mono ?_; rintro e w3 ⟨j, rfl, j0, j1, hR, hK⟩; have HX3 := hidR (HX.out.kept hK hbr); have HR3 := hidR hR; have HK3 := hidR (HK.out.step (Nat.le_of_eq hs0.symm) hK); have HE4 := hidR (HE3.out.kept hK HG.out); clear HX HR HK hR hK HE3; obtain ⟨c0, c1, c2, c3, f0, f1, f2, f3⟩ := HX3.out; by_cases hj : 0 < j
   ·
    go_wp2_with fail
    refine (pick_any _ r (p + 1 + 1 + 1) _ (by omega) (by omega) (by omega) HR3.out).mono ?_; rintro e w4 ⟨jj, rfl, jj0, jj1, hR, hK⟩; obtain ⟨i, rfl⟩ := Int.eq_ofNat_of_zero_le jj0; have hi : i < es.length := by omega
    obtain rfl := HA.out (by omega); obtain ⟨y0, y1, y2⟩ := (HE4.out.kept hK HG.out) i hi; have HPn := hidR (HZ.out es[i] (List.getElem_mem _)); have HX4 := hidR (HX3.out.kept hK hbr); have HR4 := hidR (hR.keep (Kept.setCell w4 1 (.string es[i].p)) hrb); have HK4 := hidR ((HK3.out.step (Nat.le_of_eq hs0.symm) hK).other (Nat.le_of_eq hs0.symm) hw2 (Kept.setCell w4 1 (.string es[i].p))); clear HX3 HR3 HK3 hR hK c0 c1 c2 c3 f0 f1 f2 f3 HE4; obtain ⟨c0, c1, c2, c3, f0, f1, f2, f3⟩ := HX4.out; have HX5 := hidR (HX4.out.set1 es[i].p); go_wp2
    exact T1 _ _ _ _ _ _ _ _ _ _ _ _ _ _ _ _ _ _ _ _ _ _ _ _ _ _ _ _ _ _ _ _ _ _ _ _ _ _ _ _ _ _ _ _ _ _ _ _ _ _ _ _ _ _ _ _ _ _ _ _ _ _ _ _ _ _ _ _ _ _ _ w2.heap.size _ _ _ _ _ (by omega) HX5 HR4 HK4 HPn HT HD (by omega)
   ·
    go_wp2
    exact T1 _ _ _ _ _ _ _ _ _ _ _ _ _ _ _ _ _ _ _ _ _ _ _ _ _ _ _ _ _ _ _ _ _ _ _ _ _ _ _ _ _ _ _ _ _ _ _ _ _ _ _ _ _ _ _ _ _ _ _ _ _ _ _ _ _ _ _ _ _ _ _ w2.heap.size _ _ _ _ _ (by omega) HX3 HR3 HK3 HPP HT HD (by omega)
  ·
   go_wp2
   exact T1 _ _ _ _ _ _ _ _ _ _ _ _ _ _ _ _ _ _ _ _ _ _ _ _ _ _ _ _ _ _ _ _ _ _ _ _ _ _ _ _ _ _ _ _ _ _ _ _ _ _ _ _ _ _ _ _ _ _ _ _ _ _ _ _ _ _ _ _ _ _ _ w2.heap.size _ _ _ _ _ (by omega) HX HR HK HPP HT HD (by omega)
end Go.Proofs.YtoaipphccjkphaaDoor
