import Derived.Test.YtafeddiijemnbaaGreatDoorHPk15
import Derived.Test.YtafeddiijemnbaaGreatDoorHPk17
import Derived.Test.YtafeddiijemnbaaGreatDoorHPk05
import Derived.Laws.IdiomStrings
namespace Go.Proofs.YtafeddiijemnbaaGreatDoor
open Go.RowKit Go.Lib
theorem Ents.kept {w w' : World} {g o b : Nat} {es : List E} (h : Ents w g o es) (k : Kept b w w') (hb : 0 < es.length → g ≠ b) : Ents w' g o es := fun i hi => by
 obtain ⟨c0, c1, c2⟩ := h i hi; exact ⟨k.cell (hb (by omega)) c0, k.cell (hb (by omega)) c1, k.cell (hb (by omega)) c2⟩
structure Bx (W : World) (b : Nat) (k : Int) (p t x : ByteArray) : Prop where
 c0 : W.cell? ⟨b, 0, none⟩ = some (.int .i64 k)
 c1 : W.cell? ⟨b, 1, none⟩ = some (.string p)
 c2 : W.cell? ⟨b, 2, none⟩ = some (.string t)
 c3 : W.cell? ⟨b, 3, none⟩ = some (.string x)
 f0 : W.frozen? ⟨b, 0, none⟩ = false
 f1 : W.frozen? ⟨b, 1, none⟩ = false
 f2 : W.frozen? ⟨b, 2, none⟩ = false
 f3 : W.frozen? ⟨b, 3, none⟩ = false
theorem Bx.kept {W W' : World} {b r : Nat} {k : Int} {p t x : ByteArray} (h : Bx W b k p t x) (hk : Kept r W W') (hb : b ≠ r) : Bx W' b k p t x := by
 have lt := cell_ltR h.c0; have hh := hk.2.2.2.2 b lt hb; exact ⟨hk.cell hb h.c0, hk.cell hb h.c1, hk.cell hb h.c2, hk.cell hb h.c3, (World.frozen?_of_block (a := ⟨b, 0, none⟩) hh).trans h.f0, (World.frozen?_of_block (a := ⟨b, 1, none⟩) hh).trans h.f1, (World.frozen?_of_block (a := ⟨b, 2, none⟩) hh).trans h.f2, (World.frozen?_of_block (a := ⟨b, 3, none⟩) hh).trans h.f3⟩
theorem Bx.new (w : World) (k : Int) (p t x : ByteArray) (T : TypeId) : Bx (w.alloc (.cells #[.int .i64 k, .string p, .string t, .string x] T)) w.heap.size k p t x :=
 ⟨by simp, by simp, by simp, by simp, by simp, by simp, by simp, by simp⟩
theorem frz (W : World) (b i j : Nat) (v : Value) : (W.setCell ⟨b, i, none⟩ v).frozen? ⟨b, j, none⟩ = W.frozen? ⟨b, j, none⟩ := World.frozen?_setCell ..
theorem Bx.set0 {W : World} {b : Nat} {k : Int} {p t x : ByteArray} (h : Bx W b k p t x) (z : Int) : Bx (W.setCell ⟨b, 0, none⟩ (.int .i64 z)) b z p t x :=
 ⟨cell_eq' _ h.c0, (cell_ne' _ _ _ _ _ (by decide)).trans h.c1, (cell_ne' _ _ _ _ _ (by decide)).trans h.c2, (cell_ne' _ _ _ _ _ (by decide)).trans h.c3, (frz ..).trans h.f0, (frz ..).trans h.f1, (frz ..).trans h.f2, (frz ..).trans h.f3⟩
theorem Bx.set1 {W : World} {b : Nat} {k : Int} {p t x : ByteArray} (h : Bx W b k p t x) (z : ByteArray) : Bx (W.setCell ⟨b, 1, none⟩ (.string z)) b k z t x :=
 ⟨(cell_ne' _ _ _ _ _ (by decide)).trans h.c0, cell_eq' _ h.c1, (cell_ne' _ _ _ _ _ (by decide)).trans h.c2, (cell_ne' _ _ _ _ _ (by decide)).trans h.c3, (frz ..).trans h.f0, (frz ..).trans h.f1, (frz ..).trans h.f2, (frz ..).trans h.f3⟩
theorem Bx.set2 {W : World} {b : Nat} {k : Int} {p t x : ByteArray} (h : Bx W b k p t x) (z : ByteArray) : Bx (W.setCell ⟨b, 2, none⟩ (.string z)) b k p z x :=
 ⟨(cell_ne' _ _ _ _ _ (by decide)).trans h.c0, (cell_ne' _ _ _ _ _ (by decide)).trans h.c1, cell_eq' _ h.c2, (cell_ne' _ _ _ _ _ (by decide)).trans h.c3, (frz ..).trans h.f0, (frz ..).trans h.f1, (frz ..).trans h.f2, (frz ..).trans h.f3⟩
theorem Bx.set3 {W : World} {b : Nat} {k : Int} {p t x : ByteArray} (h : Bx W b k p t x) (z : ByteArray) : Bx (W.setCell ⟨b, 3, none⟩ (.string z)) b k p t z :=
 ⟨(cell_ne' _ _ _ _ _ (by decide)).trans h.c0, (cell_ne' _ _ _ _ _ (by decide)).trans h.c1, (cell_ne' _ _ _ _ _ (by decide)).trans h.c2, cell_eq' _ h.c3, (frz ..).trans h.f0, (frz ..).trans h.f1, (frz ..).trans h.f2, (frz ..).trans h.f3⟩
theorem peel {P : Program} {A B : Code} {Q : Exit → Act → World → Prop} {K : Act → World → Prop} (h : ∀ a w, (Code.seq A B).wp P Q a w → K a w) : ∃ K' : Act → World → Prop, (∀ a w, B.wp P Q a w → K' a w) ∧ (∀ a w, A.wp P (Exit.then K' Q) a w → K a w) :=
 ⟨fun a w => B.wp P Q a w, fun _ _ h => h, fun a w hh => h a w (wp_seq hh)⟩
theorem Kn.bx {n r b : Nat} {w W : World} {k : Int} {p t x : ByteArray} (h : Kn n r w W) (hb : b < n) (hr : b ≠ r) (hx : Bx w b k p t x) : Bx W b k p t x := by
 have hh := h.2.2.2.2 b hb hr
 exact ⟨(World.cell?_of_block (w := w) (a := ⟨b, 0, none⟩) hh).trans hx.c0, (World.cell?_of_block (w := w) (a := ⟨b, 1, none⟩) hh).trans hx.c1, (World.cell?_of_block (w := w) (a := ⟨b, 2, none⟩) hh).trans hx.c2, (World.cell?_of_block (w := w) (a := ⟨b, 3, none⟩) hh).trans hx.c3,
  (World.frozen?_of_block (w := w) (a := ⟨b, 0, none⟩) hh).trans hx.f0, (World.frozen?_of_block (w := w) (a := ⟨b, 1, none⟩) hh).trans hx.f1, (World.frozen?_of_block (w := w) (a := ⟨b, 2, none⟩) hh).trans hx.f2, (World.frozen?_of_block (w := w) (a := ⟨b, 3, none⟩) hh).trans hx.f3⟩
theorem fin4 {w W : World} {b r q : Nat} {k k' : Int} {p t x p' t' x' : ByteArray} {C : World → Prop} (h : Bx W b k p t x) (hK : Kept r w W) (hR : Rd W r q) (hb : w.heap.size ≤ b) (hrb : r < b)
  (H : ∀ Wf, Bx Wf b k' p' t' x' → Kept r w Wf → Rd Wf r q → C Wf) : C ((((W.setCell ⟨b, 0, none⟩ (.int .i64 k')).setCell ⟨b, 1, none⟩ (.string p')).setCell ⟨b, 2, none⟩ (.string t')).setCell ⟨b, 3, none⟩ (.string x')) := by
 have hs : Kept b W ((((W.setCell ⟨b, 0, none⟩ (.int .i64 k')).setCell ⟨b, 1, none⟩ (.string p')).setCell ⟨b, 2, none⟩ (.string t')).setCell ⟨b, 3, none⟩ (.string x')) :=
  (((Kept.setCell W 0 _).trans (Kept.setCell _ 1 _)).trans (Kept.setCell _ 2 _)).trans (Kept.setCell _ 3 _)
 refine H _ ((((h.set0 k').set1 p').set2 t').set3 x') ?_ (hR.keep hs hrb); exact (Kn.other (n := w.heap.size) (r := r) hK (Nat.le_refl _) hb hs)
set_option maxHeartbeats 4000000 in
set_option maxRecDepth 100000 in
theorem l2Op_any (w : World) (r p : Nat) (a : Option Addr) (g o cap : Nat) (es : List E) (hp : p ≤ 9000) (hl : es.length ≤ 100) (ha : 0 < es.length → a = some ⟨g, o, none⟩) (hE : Ents w g o es) (hz : ∀ e ∈ es, e.p.size ≤ 16) (hg : 0 < es.length → g ≠ r) (h : Rd w r p) :
  Calls Tryz.prog 22 #[.pointer (some ⟨r, 0, none⟩), .slice a es.length cap] w fun e w' => ∃ (k : Int) (pp t x : ByteArray) (q : Nat), e = .returned (.agg #[.int .i64 k, .string pp, .string t, .string x]) ∧ pp.size ≤ 16 ∧ okS t = true ∧ x.size ≤ 16 ∧ q ≤ p + 8 ∧ Rd w' r q ∧ Kept r w w' := by
 have hr := h.lt; have hr0 : w.heap.size ≠ r := by omega
 have hr1 : w.heap.size + 1 ≠ r := by omega
 have hp1 : p ≤ 10000 := by omega
 have hp2 : p + 1 ≤ 10000 := by omega
 have e18 : 1 ≤ 8 := by omega
 have e8 : 8 ≤ 100 := by omega
 obtain ⟨W0, hW0⟩ : ∃ W0, W0 = w.alloc (.cells #[.int .i64 0, .string ⟨#[]⟩, .string ⟨#[]⟩, .string ⟨#[]⟩] 25) := ⟨_, rfl⟩
 have hs0 : W0.heap.size = w.heap.size + 1 := by rw [hW0]; simp
 have HY0 : Hid (Bx W0 w.heap.size 0 ⟨#[]⟩ ⟨#[]⟩ ⟨#[]⟩) := by rw [hW0]; exact Bx.new w 0 ⟨#[]⟩ ⟨#[]⟩ ⟨#[]⟩ 25
 have HK0 : Hid (Kept r w W0) := by rw [hW0]; exact Kept.alloc w _
 have HR0 := hidR (h.below (hW0 ▸ (Below.refl _ w).alloc (Nat.le_refl _) _ : Below w.heap.size w W0)); have HE := hidR (hE.kept HK0.out hg); have HGB : Hid (0 < es.length → g < w.heap.size) := fun h => cell_ltR (hE 0 h).1; have HZ := hidR hz; have HG := hidR hg; have HA := hidR ha; have HL1 := hidR (LstI.new (fun z => decide (1 ≤ z ∧ z ≤ 5)) W0 [1, 2, 2, 3, 4, 5, 1, 5] 3 (by decide)); rw [hs0] at HL1; clear hE hz hg ha h; go_enter Tryz.func22, Tryz.ntmps22
 go_wp2_with fail
 rw [← hW0]; clear hW0
 rename_i Q0 K1 hK1 K0 hK0
 obtain ⟨KA, hA2, hA1⟩ := peel hK1; obtain ⟨KB, hB2, hB1⟩ := peel hA2; obtain ⟨KC, hC2, hC1⟩ := peel hB2; clear hA2 hB2 hK1; have HC2 := hidR hC2; have HC1 := hidR hC1; have HB1 := hidR hB1; clear hC2 hC1 hB1
 have T3 : ∀ (y1 y2 y3 y6 y7 y8 y9 y10 y11 y12 y13 y14 y15 y16 y17 y18 y19 y20 y21 y22 y23 y24 y25 y26 y27 y28 y29 y30 y31 y32 y33 y34 y35 y36 y37 y38 y39 y40 y41 y42 y43 y44 y45 y46 y47 y48 y49 y50 y51 y52 y53 y54 y55 y56 y57 y58 y59 y60 y61 y62 y63 y64 y65 y66 y67 y68 y69 y70 y71 y72 : Value) (W : World) (b : Nat) (k : Int) (pp t x : ByteArray) (q : Nat) (hq : q ≤ p + 6) (HX : Hid (Bx W b k pp t x)) (HR : Hid (Rd W r q)) (HK : Hid (Kn (w.heap.size + 1) r W0 W)) (HPP : Hid (pp.size ≤ 16)) (HT : Hid (okS t = true)) (HD : Hid (x.size ≤ 16)) (hb : w.heap.size + 1 ≤ b), KC { tmps := #[.pointer (some ⟨r, 0, none⟩), y1, y2, y3, .pointer (some ⟨w.heap.size, 0, none⟩), .pointer (some ⟨b, 0, none⟩), y6, y7, y8, y9, y10, y11, y12, y13, y14, y15, y16, y17, y18, y19, y20, y21, y22, y23, y24, y25, y26, y27, y28, y29, y30, y31, y32, y33, y34, y35, y36, y37, y38, y39, y40, y41, y42, y43, y44, y45, y46, y47, y48, y49, y50, y51, y52, y53, y54, y55, y56, y57, y58, y59, y60, y61, y62, y63, y64, y65, y66, y67, y68, y69, y70, y71, y72], defers := [] } W := by
  intro y1 y2 y3 y6 y7 y8 y9 y10 y11 y12 y13 y14 y15 y16 y17 y18 y19 y20 y21 y22 y23 y24 y25 y26 y27 y28 y29 y30 y31 y32 y33 y34 y35 y36 y37 y38 y39 y40 y41 y42 y43 y44 y45 y46 y47 y48 y49 y50 y51 y52 y53 y54 y55 y56 y57 y58 y59 y60 y61 y62 y63 y64 y65 y66 y67 y68 y69 y70 y71 y72 W b k pp t x q hq HX HR HK HPP HT HD hb; have hbr : b ≠ r := by omega
  have hrb : r < b := by omega
  refine HC2.out _ _ ?_; go_wp2_with fail
  refine (pick_any _ r q _ (by decide) (by decide) (by omega) HR.out).mono ?_; rintro e V ⟨j, rfl, j0, j1, hR, hK⟩; have HXV := hidR (HX.out.kept hK hbr); have HRV := hidR hR; have HKV := hidR (HK.out.step (Nat.le_of_eq hs0.symm) hK); clear HX HR HK hR hK
  have hj : j = 0 ∨ j = 1 ∨ j = 2 ∨ j = 3 ∨ (4 ≤ j ∧ (j == 0) = false ∧ (j == 1) = false ∧ (j == 2) = false ∧ (j == 3) = false) := by
   by_cases h4 : 4 ≤ j
   ·
    exact .inr (.inr (.inr (.inr ⟨h4, by rw [beq_eq_false_iff_ne]; omega, by rw [beq_eq_false_iff_ne]; omega, by rw [beq_eq_false_iff_ne]; omega, by rw [beq_eq_false_iff_ne]; omega⟩)))
   ·
    omega
  obtain ⟨c0, c1, c2, c3, f0, f1, f2, f3⟩ := HXV.out; rcases hj with rfl | rfl | rfl | rfl | ⟨hj4, n0, n1, n2, n3⟩
  ·
   go_wp2_with fail
   refine (num_P (fun _ => true) _ r (q + 1) V.heap.size 4 4 (by decide) (by decide) (by omega) (by have := HRV.out.lt; omega) (LstI.new (fun _ => true) V [0, 6, -1, 1] 3 (by decide)) (HRV.out.below ((Below.refl _ V).alloc (Nat.le_refl _) _))).mono ?_; rintro e W1 ⟨z, rfl, -, hR, hK⟩; have HX1 := hidR ((HXV.out.kept (Kept.alloc V _) hbr).kept hK hbr); have HR2 := hidR (hR.keep (Kept.setCell W1 0 (.int .i64 z)) hrb); have HK2 := hidR (((HKV.out.step (Nat.le_of_eq hs0.symm) (Kept.alloc V _)).step (Nat.le_of_eq hs0.symm) hK).other (Nat.le_of_eq hs0.symm) hb (Kept.setCell W1 0 (.int .i64 z))); clear c0 c1 c2 c3 f0 f1 f2 f3 HXV HRV HKV hR hK; obtain ⟨c0, c1, c2, c3, f0, f1, f2, f3⟩ := HX1.out; obtain ⟨x0, x1, x2, x3, -, -, -, -⟩ := HX1.out.set0 z; obtain ⟨y0', y1', y2', y3', z0', z1', z2', z3'⟩ := (HK2.out.bx (Nat.lt_succ_self _) hr0 HY0.out)
   go_wp2
   refine fin4 (C := bodyPost Tryz.prog Tryz.f22 _ _ _) (HK2.out.bx (Nat.lt_succ_self _) hr0 HY0.out) (HK0.out.trans (HK2.out.keptAt hs0)) HR2.out (Nat.le_refl _) hr ?_; intro Wf hf hKf hRf; obtain ⟨s0, s1, s2, s3, -, -, -, -⟩ := hf; exact bodyPost_ret (v := .agg #[.int .i64 z, .string pp, .string t, .string x]) (by simp [results, Tryz.results22, go_sem, s0, s1, s2, s3]) rfl ⟨_, _, _, _, _, rfl, HPP.out, HT.out, HD.out, by omega, hRf, hKf⟩
  ·
   go_wp2_with fail
   refine (of_P okS _ r (q + 1) V.heap.size 4 4 (by decide) (by decide) (by omega) (by have := HRV.out.lt; omega) (LstP.new okS V [⟨#[47]⟩, ⟨#[]⟩, ⟨#[47, 65]⟩, ⟨#[47, 97, 47, 98, 47, 99, 47, 100]⟩] 9 (by decide +kernel)) (HRV.out.below ((Below.refl _ V).alloc (Nat.le_refl _) _))).mono ?_; rintro e W1 ⟨z, rfl, hz, hR, hK⟩; have HX1 := hidR ((HXV.out.kept (Kept.alloc V _) hbr).kept hK hbr); have HR2 := hidR (hR.keep (Kept.setCell W1 1 (.string z)) hrb); have HK2 := hidR (((HKV.out.step (Nat.le_of_eq hs0.symm) (Kept.alloc V _)).step (Nat.le_of_eq hs0.symm) hK).other (Nat.le_of_eq hs0.symm) hb (Kept.setCell W1 1 (.string z))); clear c0 c1 c2 c3 f0 f1 f2 f3 HXV HRV HKV hR hK; obtain ⟨c0, c1, c2, c3, f0, f1, f2, f3⟩ := HX1.out; obtain ⟨x0, x1, x2, x3, -, -, -, -⟩ := HX1.out.set1 z; obtain ⟨y0', y1', y2', y3', z0', z1', z2', z3'⟩ := (HK2.out.bx (Nat.lt_succ_self _) hr0 HY0.out)
   go_wp2
   refine fin4 (C := bodyPost Tryz.prog Tryz.f22 _ _ _) (HK2.out.bx (Nat.lt_succ_self _) hr0 HY0.out) (HK0.out.trans (HK2.out.keptAt hs0)) HR2.out (Nat.le_refl _) hr ?_; intro Wf hf hKf hRf; obtain ⟨s0, s1, s2, s3, -, -, -, -⟩ := hf; exact bodyPost_ret (v := .agg #[.int .i64 k, .string z, .string t, .string x]) (by simp [results, Tryz.results22, go_sem, s0, s1, s2, s3]) rfl ⟨_, _, _, _, _, rfl, okS_size hz, HT.out, HD.out, by omega, hRf, hKf⟩
  ·
   go_wp2_with fail
   refine (of_P okS _ r (q + 1) V.heap.size 4 4 (by decide) (by decide) (by omega) (by have := HRV.out.lt; omega) (LstP.new okS V [⟨#[47]⟩, ⟨#[47, 97]⟩, ⟨#[47, 99, 47, 99, 47, 99]⟩, ⟨#[]⟩] 9 (by decide +kernel)) (HRV.out.below ((Below.refl _ V).alloc (Nat.le_refl _) _))).mono ?_; rintro e W1 ⟨z, rfl, hz, hR, hK⟩; have HX1 := hidR ((HXV.out.kept (Kept.alloc V _) hbr).kept hK hbr); have HR2 := hidR (hR.keep (Kept.setCell W1 2 (.string z)) hrb); have HK2 := hidR (((HKV.out.step (Nat.le_of_eq hs0.symm) (Kept.alloc V _)).step (Nat.le_of_eq hs0.symm) hK).other (Nat.le_of_eq hs0.symm) hb (Kept.setCell W1 2 (.string z))); clear c0 c1 c2 c3 f0 f1 f2 f3 HXV HRV HKV hR hK; obtain ⟨c0, c1, c2, c3, f0, f1, f2, f3⟩ := HX1.out; obtain ⟨x0, x1, x2, x3, -, -, -, -⟩ := HX1.out.set2 z; obtain ⟨y0', y1', y2', y3', z0', z1', z2', z3'⟩ := (HK2.out.bx (Nat.lt_succ_self _) hr0 HY0.out)
   go_wp2
   refine fin4 (C := bodyPost Tryz.prog Tryz.f22 _ _ _) (HK2.out.bx (Nat.lt_succ_self _) hr0 HY0.out) (HK0.out.trans (HK2.out.keptAt hs0)) HR2.out (Nat.le_refl _) hr ?_; intro Wf hf hKf hRf; obtain ⟨s0, s1, s2, s3, -, -, -, -⟩ := hf; exact bodyPost_ret (v := .agg #[.int .i64 k, .string pp, .string z, .string x]) (by simp [results, Tryz.results22, go_sem, s0, s1, s2, s3]) rfl ⟨_, _, _, _, _, rfl, HPP.out, hz, HD.out, by omega, hRf, hKf⟩
  ·
   go_wp2_with fail
   refine (of_P okS _ r (q + 1) V.heap.size 4 4 (by decide) (by decide) (by omega) (by have := HRV.out.lt; omega) (LstP.new okS V [⟨#[113]⟩, ⟨#[65]⟩, ⟨#[97, 98, 99, 100, 101, 102, 103]⟩, ⟨#[97, 98, 99, 100, 101, 102]⟩] 9 (by decide +kernel)) (HRV.out.below ((Below.refl _ V).alloc (Nat.le_refl _) _))).mono ?_; rintro e W1 ⟨z, rfl, hz, hR, hK⟩; have HX1 := hidR ((HXV.out.kept (Kept.alloc V _) hbr).kept hK hbr); have HR2 := hidR (hR.keep (Kept.setCell W1 3 (.string z)) hrb); have HK2 := hidR (((HKV.out.step (Nat.le_of_eq hs0.symm) (Kept.alloc V _)).step (Nat.le_of_eq hs0.symm) hK).other (Nat.le_of_eq hs0.symm) hb (Kept.setCell W1 3 (.string z))); clear c0 c1 c2 c3 f0 f1 f2 f3 HXV HRV HKV hR hK; obtain ⟨c0, c1, c2, c3, f0, f1, f2, f3⟩ := HX1.out; obtain ⟨x0, x1, x2, x3, -, -, -, -⟩ := HX1.out.set3 z; obtain ⟨y0', y1', y2', y3', z0', z1', z2', z3'⟩ := (HK2.out.bx (Nat.lt_succ_self _) hr0 HY0.out)
   go_wp2
   refine fin4 (C := bodyPost Tryz.prog Tryz.f22 _ _ _) (HK2.out.bx (Nat.lt_succ_self _) hr0 HY0.out) (HK0.out.trans (HK2.out.keptAt hs0)) HR2.out (Nat.le_refl _) hr ?_; intro Wf hf hKf hRf; obtain ⟨s0, s1, s2, s3, -, -, -, -⟩ := hf; exact bodyPost_ret (v := .agg #[.int .i64 k, .string pp, .string t, .string z]) (by simp [results, Tryz.results22, go_sem, s0, s1, s2, s3]) rfl ⟨_, _, _, _, _, rfl, HPP.out, HT.out, okS_size hz, by omega, hRf, hKf⟩
  ·
   obtain ⟨y0', y1', y2', y3', z0', z1', z2', z3'⟩ := (HKV.out.bx (Nat.lt_succ_self _) hr0 HY0.out)
   go_wp2
   refine fin4 (C := bodyPost Tryz.prog Tryz.f22 _ _ _) (HKV.out.bx (Nat.lt_succ_self _) hr0 HY0.out) (HK0.out.trans (HKV.out.keptAt hs0)) HRV.out (Nat.le_refl _) hr ?_; intro Wf hf hKf hRf; obtain ⟨s0, s1, s2, s3, -, -, -, -⟩ := hf; exact bodyPost_ret (v := .agg #[.int .i64 k, .string pp, .string t, .string x]) (by simp [results, Tryz.results22, go_sem, s0, s1, s2, s3]) rfl ⟨_, _, _, _, _, rfl, HPP.out, HT.out, HD.out, by omega, hRf, hKf⟩
 have T2 : ∀ (y1 y2 y3 y6 y7 y8 y9 y10 y11 y12 y13 y14 y15 y16 y17 y18 y19 y20 y21 y22 y23 y24 y25 y26 y27 y28 y29 y30 y31 y32 y33 y34 y35 y36 y37 y38 y39 y40 y41 y42 y43 y44 y45 y46 y47 y48 y49 y50 y51 y52 y53 y54 y55 y56 y57 y58 y59 y60 y61 y62 y63 y64 y65 y66 y67 y68 y69 y70 y71 y72 : Value) (W : World) (b : Nat) (k : Int) (pp t x : ByteArray) (q : Nat) (hq : q ≤ p + 5) (HX : Hid (Bx W b k pp t x)) (HR : Hid (Rd W r q)) (HK : Hid (Kn (w.heap.size + 1) r W0 W)) (HPP : Hid (pp.size ≤ 16)) (HT : Hid (okS t = true)) (HD : Hid (x.size ≤ 16)) (hb : w.heap.size + 1 ≤ b), KB { tmps := #[.pointer (some ⟨r, 0, none⟩), y1, y2, y3, .pointer (some ⟨w.heap.size, 0, none⟩), .pointer (some ⟨b, 0, none⟩), y6, y7, y8, y9, y10, y11, y12, y13, y14, y15, y16, y17, y18, y19, y20, y21, y22, y23, y24, y25, y26, y27, y28, y29, y30, y31, y32, y33, y34, y35, y36, y37, y38, y39, y40, y41, y42, y43, y44, y45, y46, y47, y48, y49, y50, y51, y52, y53, y54, y55, y56, y57, y58, y59, y60, y61, y62, y63, y64, y65, y66, y67, y68, y69, y70, y71, y72], defers := [] } W := by
  intro y1 y2 y3 y6 y7 y8 y9 y10 y11 y12 y13 y14 y15 y16 y17 y18 y19 y20 y21 y22 y23 y24 y25 y26 y27 y28 y29 y30 y31 y32 y33 y34 y35 y36 y37 y38 y39 y40 y41 y42 y43 y44 y45 y46 y47 y48 y49 y50 y51 y52 y53 y54 y55 y56 y57 y58 y59 y60 y61 y62 y63 y64 y65 y66 y67 y68 y69 y70 y71 y72 W b k pp t x q hq HX HR HK HPP HT HD hb; have hbr : b ≠ r := by omega
  have hrb : r < b := by omega
  obtain ⟨c0, c1, c2, c3, f0, f1, f2, f3⟩ := HX.out; refine HC1.out _ _ ?_; by_cases hk : k = 5
  ·
   subst hk; go_wp2_with fail
   refine (l1Path_P okS (by decide +kernel) _ r q (by omega) HR.out).mono ?_; rintro e W1 ⟨z, rfl, hz, hR, hK⟩; have HX1 := hidR (HX.out.kept hK hbr); have HR2 := hidR (hR.keep (Kept.setCell W1 2 (.string z)) hrb); have HK2 := hidR ((HK.out.step (Nat.le_of_eq hs0.symm) hK).other (Nat.le_of_eq hs0.symm) hb (Kept.setCell W1 2 (.string z))); clear c0 c1 c2 c3 f0 f1 f2 f3 HX HR HK hR hK; obtain ⟨c0, c1, c2, c3, f0, f1, f2, f3⟩ := HX1.out; have HX2 := hidR (HX1.out.set2 z); go_wp2
   exact T3 _ _ _ _ _ _ _ _ _ _ _ _ _ _ _ _ _ _ _ _ _ _ _ _ _ _ _ _ _ _ _ _ _ _ _ _ _ _ _ _ _ _ _ _ _ _ _ _ _ _ _ _ _ _ _ _ _ _ _ _ _ _ _ _ _ _ _ _ _ _ _ b _ _ _ _ _ (by omega) HX2 HR2 HK2 HPP (hidR hz) HD (by omega)
  ·
   have hn : (k == 5) = false := by rw [beq_eq_false_iff_ne]; exact hk
   go_wp2
   exact T3 _ _ _ _ _ _ _ _ _ _ _ _ _ _ _ _ _ _ _ _ _ _ _ _ _ _ _ _ _ _ _ _ _ _ _ _ _ _ _ _ _ _ _ _ _ _ _ _ _ _ _ _ _ _ _ _ _ _ _ _ _ _ _ _ _ _ _ _ _ _ _ b _ _ _ _ _ (by omega) HX HR HK HPP HT HD (by omega)
 clear HC2 HC1
 have T1 : ∀ (y1 y2 y3 y6 y7 y8 y9 y10 y11 y12 y13 y14 y15 y16 y17 y18 y19 y20 y21 y22 y23 y24 y25 y26 y27 y28 y29 y30 y31 y32 y33 y34 y35 y36 y37 y38 y39 y40 y41 y42 y43 y44 y45 y46 y47 y48 y49 y50 y51 y52 y53 y54 y55 y56 y57 y58 y59 y60 y61 y62 y63 y64 y65 y66 y67 y68 y69 y70 y71 y72 : Value) (W : World) (b : Nat) (k : Int) (pp t x : ByteArray) (q : Nat) (hq : q ≤ p + 4) (HX : Hid (Bx W b k pp t x)) (HR : Hid (Rd W r q)) (HK : Hid (Kn (w.heap.size + 1) r W0 W)) (HPP : Hid (pp.size ≤ 16)) (HT : Hid (okS t = true)) (HD : Hid (x.size ≤ 16)) (hb : w.heap.size + 1 ≤ b), KA { tmps := #[.pointer (some ⟨r, 0, none⟩), y1, y2, y3, .pointer (some ⟨w.heap.size, 0, none⟩), .pointer (some ⟨b, 0, none⟩), y6, y7, y8, y9, y10, y11, y12, y13, y14, y15, y16, y17, y18, y19, y20, y21, y22, y23, y24, y25, y26, y27, y28, y29, y30, y31, y32, y33, y34, y35, y36, y37, y38, y39, y40, y41, y42, y43, y44, y45, y46, y47, y48, y49, y50, y51, y52, y53, y54, y55, y56, y57, y58, y59, y60, y61, y62, y63, y64, y65, y66, y67, y68, y69, y70, y71, y72], defers := [] } W := by
  intro y1 y2 y3 y6 y7 y8 y9 y10 y11 y12 y13 y14 y15 y16 y17 y18 y19 y20 y21 y22 y23 y24 y25 y26 y27 y28 y29 y30 y31 y32 y33 y34 y35 y36 y37 y38 y39 y40 y41 y42 y43 y44 y45 y46 y47 y48 y49 y50 y51 y52 y53 y54 y55 y56 y57 y58 y59 y60 y61 y62 y63 y64 y65 y66 y67 y68 y69 y70 y71 y72 W b k pp t x q hq HX HR HK HPP HT HD hb; have hbr : b ≠ r := by omega
  have hrb : r < b := by omega
  obtain ⟨c0, c1, c2, c3, f0, f1, f2, f3⟩ := HX.out; refine HB1.out _ _ ?_; by_cases hk : k = 2
  ·
   subst hk; go_wp2_with fail
   refine (l2Some_any _ r q (by omega) HR.out).mono ?_; rintro e W1 ⟨z, rfl, hz, hR, hK⟩; have HX1 := hidR (HX.out.kept hK hbr); have HR2 := hidR (hR.keep (Kept.setCell W1 3 (.string z)) hrb); have HK2 := hidR ((HK.out.step (Nat.le_of_eq hs0.symm) hK).other (Nat.le_of_eq hs0.symm) hb (Kept.setCell W1 3 (.string z))); clear c0 c1 c2 c3 f0 f1 f2 f3 HX HR HK hR hK; obtain ⟨c0, c1, c2, c3, f0, f1, f2, f3⟩ := HX1.out; have HX2 := hidR (HX1.out.set3 z); go_wp2
   exact T2 _ _ _ _ _ _ _ _ _ _ _ _ _ _ _ _ _ _ _ _ _ _ _ _ _ _ _ _ _ _ _ _ _ _ _ _ _ _ _ _ _ _ _ _ _ _ _ _ _ _ _ _ _ _ _ _ _ _ _ _ _ _ _ _ _ _ _ _ _ _ _ b _ _ _ _ _ (by omega) HX2 HR2 HK2 HPP HT (hidR (okS_size hz)) (by omega)
  ·
   have hn : (k == 2) = false := by rw [beq_eq_false_iff_ne]; exact hk
   go_wp2
   exact T2 _ _ _ _ _ _ _ _ _ _ _ _ _ _ _ _ _ _ _ _ _ _ _ _ _ _ _ _ _ _ _ _ _ _ _ _ _ _ _ _ _ _ _ _ _ _ _ _ _ _ _ _ _ _ _ _ _ _ _ _ _ _ _ _ _ _ _ _ _ _ _ b _ _ _ _ _ (by omega) HX HR HK HPP HT HD (by omega)
 clear HB1 T3 T2; refine (num_P (fun z => decide (1 ≤ z ∧ z ≤ 5)) _ r p (w.heap.size + 1) 8 8 e18 e8 hp1 hr1 HL1.out (HR0.out.below ((Below.refl _ _).alloc (Nat.le_refl _) _))).mono ?_; rintro e w1 ⟨k, rfl, hk, hR, hK⟩; have HR1 := hidR hR; have HX1 := hidR ((HY0.out.kept (Kept.alloc _ _) hr0).kept hK hr0); have HK1 := hidR ((Kept.alloc W0 _).trans hK); have hk' := of_decide_eq_true hk; clear hR hK hk HL1; obtain ⟨c0, c1, c2, c3, f0, f1, f2, f3⟩ := HX1.out; go_wp2_with fail
 refine (l1Path_P okS (by decide +kernel) _ r (p + 1) hp2 HR1.out).mono ?_; rintro e w2 ⟨pp, rfl, hpp, hR, hK⟩; have HX2 := hidR (HX1.out.kept hK hr0); have hw2 : w.heap.size + 1 ≤ w2.heap.size := Nat.le_trans (Nat.le_of_eq hs0.symm) (Nat.le_trans HK1.out.2.2.2.1 hK.2.2.2.1); have HK := hidR ((Kn.step (Kn.refl (w.heap.size + 1) r W0) (Nat.le_of_eq hs0.symm) ((HK1.out.trans hK).trans (Kept.alloc w2 (.cells #[.int .i64 k, .string pp, .string ⟨#[]⟩, .string ⟨#[]⟩] 25))))); have HR := hidR (hR.below ((Below.refl _ w2).alloc (Nat.le_refl _) (.cells #[.int .i64 k, .string pp, .string ⟨#[]⟩, .string ⟨#[]⟩] 25))); have HX := hidR (Bx.new w2 k pp ⟨#[]⟩ ⟨#[]⟩ 25); have HPP := hidR (okS_size hpp); have HT := hidR okS_none; have HD : Hid ((⟨#[]⟩ : ByteArray).size ≤ 16) := Nat.zero_le _; have hbr : w2.heap.size ≠ r := by omega
 have hrb : r < w2.heap.size := by omega
 have HE3 := hidR ((HE.out.kept (HK1.out.trans hK) HG.out).kept (Kept.alloc w2 (.cells #[.int .i64 k, .string pp, .string ⟨#[]⟩, .string ⟨#[]⟩] 25)) HG.out); clear hR hK HR1 HK1 hpp c0 c1 c2 c3 f0 f1 f2 f3 HX1; obtain ⟨d0, d1, d2, d3, -, -, -, -⟩ := HX2.out; clear HX2; by_cases h0 : es.length = 0
 ·
  rw [h0]; go_wp2
  exact T1 _ _ _ _ _ _ _ _ _ _ _ _ _ _ _ _ _ _ _ _ _ _ _ _ _ _ _ _ _ _ _ _ _ _ _ _ _ _ _ _ _ _ _ _ _ _ _ _ _ _ _ _ _ _ _ _ _ _ _ _ _ _ _ _ _ _ _ _ _ _ _ w2.heap.size _ _ _ _ _ (by omega) HX HR HK HPP HT HD (by omega)
 ·
  have h0' : (0 : Int) < (es.length : Int) := by omega
  by_cases h2 : 2 < k
  ·
   go_wp2_with fail
   refine (pick_any _ r (p + 1 + 1) _ (by decide) (by decide) (by omega) HR.out).mono ?_; rintro e w3 ⟨j, rfl, j0, j1, hR, hK⟩; have HX3 := hidR (HX.out.kept hK hbr); have HR3 := hidR hR; have HK3 := hidR (HK.out.step (Nat.le_of_eq hs0.symm) hK); have HE4 := hidR (HE3.out.kept hK HG.out); clear HX HR HK hR hK HE3; obtain ⟨c0, c1, c2, c3, f0, f1, f2, f3⟩ := HX3.out; by_cases hj : 0 < j
   ·
    go_wp2_with fail
    refine (pick_any _ r (p + 1 + 1 + 1) _ (by omega) (by omega) (by omega) HR3.out).mono ?_; rintro e w4 ⟨jj, rfl, jj0, jj1, hR, hK⟩; obtain ⟨i, rfl⟩ := Int.eq_ofNat_of_zero_le jj0; have hi : i < es.length := by omega
    obtain rfl := HA.out (by omega); obtain ⟨y0, y1, y2⟩ := (HE4.out.kept hK HG.out) i hi; have HPn := hidR (HZ.out es[i] (List.getElem_mem _)); have HX4 := hidR (HX3.out.kept hK hbr); have HR4 := hidR (hR.keep (Kept.setCell w4 1 (.string es[i].p)) hrb); have HK4 := hidR ((HK3.out.step (Nat.le_of_eq hs0.symm) hK).other (Nat.le_of_eq hs0.symm) hw2 (Kept.setCell w4 1 (.string es[i].p))); clear HX3 HR3 HK3 hR hK c0 c1 c2 c3 f0 f1 f2 f3 HE4; obtain ⟨c0, c1, c2, c3, f0, f1, f2, f3⟩ := HX4.out; have HX5 := hidR (HX4.out.set1 es[i].p); go_wp2
    exact T1 _ _ _ _ _ _ _ _ _ _ _ _ _ _ _ _ _ _ _ _ _ _ _ _ _ _ _ _ _ _ _ _ _ _ _ _ _ _ _ _ _ _ _ _ _ _ _ _ _ _ _ _ _ _ _ _ _ _ _ _ _ _ _ _ _ _ _ _ _ _ _ w2.heap.size _ _ _ _ _ (by omega) HX5 HR4 HK4 HPn HT HD (by omega)
   ·
    go_wp2
    exact T1 _ _ _ _ _ _ _ _ _ _ _ _ _ _ _ _ _ _ _ _ _ _ _ _ _ _ _ _ _ _ _ _ _ _ _ _ _ _ _ _ _ _ _ _ _ _ _ _ _ _ _ _ _ _ _ _ _ _ _ _ _ _ _ _ _ _ _ _ _ _ _ w2.heap.size _ _ _ _ _ (by omega) HX3 HR3 HK3 HPP HT HD (by omega)
  ·
   go_wp2
   exact T1 _ _ _ _ _ _ _ _ _ _ _ _ _ _ _ _ _ _ _ _ _ _ _ _ _ _ _ _ _ _ _ _ _ _ _ _ _ _ _ _ _ _ _ _ _ _ _ _ _ _ _ _ _ _ _ _ _ _ _ _ _ _ _ _ _ _ _ _ _ _ _ w2.heap.size _ _ _ _ _ (by omega) HX HR HK HPP HT HD (by omega)
theorem OwnE.at {w : World} {base : Nat} {v : Value} {es : List E} (h : OwnE w base v es) :
  ∃ a g cap, v = .slice a es.length cap ∧ (0 < es.length → a = some ⟨g, 0, none⟩) ∧ Ents w g 0 es ∧ es.length ≤ cap ∧ (0 < es.length → base ≤ g) := by
 obtain ⟨a, g, cap, e1, e2, e3, e4⟩ := h.ents; refine ⟨a, g, cap, e1, e2, e3, e4, fun h0 => ?_⟩; obtain ⟨_, ⟨_, e0⟩ | ⟨g', cap', cur, e5, hb, _⟩⟩ := h
 ·
  omega
 ·
  rw [e1, e2 h0] at e5; cases e5; exact hb
theorem OwnE.kept {w w' : World} {base r : Nat} {v : Value} {es : List E} (h : OwnE w base v es) (hr : r < base) (k : Kept r w w') : OwnE w' base v es :=
 World.ownsRow.kept (row := some r) h ⟨k.1, k.2.1, k.2.2.1, k.2.2.2.1, fun b hb hne => k.2.2.2.2 b hb (fun q => hne (by rw [q]))⟩ (by
  cases hob : v.ownBlock with
  | none => exact .inl rfl
  | some q => 
   right
   intro hq; obtain ⟨_, ⟨e0, _⟩ | ⟨g', cap', cur, e5, hb, _⟩⟩ := h
   ·
    rw [e0] at hob; cases hob
   ·
    rw [e5] at hob; have : g' = q := Option.some.inj hob; have := Option.some.inj hq
    omega)
set_option maxHeartbeats 1000000 in
set_option maxRecDepth 100000 in
theorem l2Tree_any (w : World) (r p : Nat) (hp : p ≤ 5000) (h : Rd w r p) :
  Calls Tryz.prog 21 #[.pointer (some ⟨r, 0, none⟩)] w fun e w' => ∃ (v : Value) (es : List E) (q : Nat), e = .returned v ∧ treeE es = true ∧ OwnE w' w.heap.size v es ∧ q ≤ p + 260 ∧ Rd w' r q ∧ Kept r w w' := by
 have hr := h.lt; have hr1 : w.heap.size + 1 ≠ r := by omega
 have hp1 : p ≤ 10000 := by omega
 obtain ⟨W0, hW0⟩ : ∃ W0, W0 = w.alloc (.cells #[] 53) := ⟨_, rfl⟩
 have hs0 : W0.heap.size = w.heap.size + 1 := by rw [hW0]; simp
 have HO0 : Hid (OwnE W0 w.heap.size (.slice (some ⟨w.heap.size, 0, none⟩) 0 0) []) := by rw [hW0]; exact OwnE.made w (Nat.le_refl _)
 have HK0 : Hid (Kept r w W0) := by rw [hW0]; exact Kept.alloc w _
 have HR0 := hidR (h.below (hW0 ▸ (Below.refl _ w).alloc (Nat.le_refl _) _ : Below w.heap.size w W0)); have HL1 := hidR (LstI.new (fun z => decide (0 ≤ z ∧ z ≤ 30)) W0 [6, 12, 18, 24, 30, 3, 0] 3 (by decide)); rw [hs0] at HL1; clear h; go_enter Tryz.func21, Tryz.ntmps21
 go_wp2_with fail
 rw [← hW0]; clear hW0; refine (num_P (fun z => decide (0 ≤ z ∧ z ≤ 30)) _ r p (w.heap.size + 1) 7 7 (by decide) (by decide) hp1 hr1 HL1.out (HR0.out.below ((Below.refl _ _).alloc (Nat.le_refl _) _))).mono ?_; rintro e w1 ⟨k0, rfl, hk, hR, hK⟩; have HR1 := hidR hR; have HK1 := hidR ((HK0.out.trans (Kept.alloc W0 _)).trans hK); have HO1 := hidR ((HO0.out.kept hr (Kept.alloc W0 _)).kept hr hK); have hk' := of_decide_eq_true hk; obtain ⟨n0, rfl⟩ := Int.eq_ofNat_of_zero_le hk'.1; have hn0 : n0 ≤ 30 := by omega
 clear hR hK hk HL1 HO0 HK0 HR0 hk'; go_wp2_with fail
 go_loopw [3, 4] (fun v iv wl => ∃ (k : Nat) (es : List E) (q : Nat), iv = .int .i64 k ∧ k ≤ 30 ∧ q + 8 * k ≤ p + 241 ∧ Hid (treeE es = true) ∧ Hid (OwnE wl w.heap.size v es) ∧ Hid (Rd wl r q) ∧ Hid (Kept r w wl)) (fun _ iv _ => (RowKit.intOf iv).toNat)
 case atStart => exact ⟨n0, [], p + 1, rfl, hn0, by omega, by rfl, HO1, HR1, HK1⟩
 case round =>
  obtain ⟨k, es, q, rfl, hk, hq, HT, HO, HR, HK⟩ := hrel; by_cases h0 : 0 < k
  ·
   have h0' : (0 : Int) < (k : Int) := by omega
   obtain ⟨a, g, cap, rfl, ha, hE, hcap, hgb⟩ := HO.out.at; have HE := hidR hE; have HA := hidR ha; have HG : Hid (0 < es.length → g ≠ r) := fun h => by have := hgb h; omega
   clear hE ha hgb; obtain ⟨hlen, hsz⟩ := tree_sizes HT.out; have HZ := hidR hsz; clear hsz; go_wp2_with fail
   refine (l2Op_any _ r q a g 0 cap es (by omega) (by omega) HA.out HE.out (fun e he => (HZ.out e he).1) HG.out HR.out).mono ?_; rintro e w2 ⟨ok, op, ot, ox, q2, rfl, z1, z2, z3, hq2, hR, hK⟩; have z2' := okS_size z2; have HR2 := hidR hR; have HK2 := hidR (HK.out.trans hK); have HE2 := hidR (HE.out.kept hK HG.out); have hw2 : w.heap.size ≤ w2.heap.size := HK2.out.2.2.2.1; clear hR hK HR HK HO HE z2; go_wp2_with fail
   refine (sTreeDo_any _ a g 0 cap es ok op ot ox (by omega) hcap (by omega) (by omega) (by omega) (fun e he => ⟨by have := (HZ.out e he).1; omega, by have := (HZ.out e he).2; omega⟩) HA.out HE2.out).mono ?_; rintro e w3 ⟨v, rfl, ho3, hB3⟩; have HR3 := hidR (HR2.out.below hB3); have HK3 := hidR (HK2.out.trans (Kept.of_below hB3)); have HO3 := hidR (ho3.lower (base' := w.heap.size) hw2); have HT3 := hidR (do_tree (q := ⟨ok, op, ot, ox⟩) HT.out); clear ho3 hB3 HR2 HK2 HE2; go_wp2
   go_roundw
   case rel => exact ⟨k - 1, _, q2, by go_num, by omega, by omega, HT3, HO3, HR3, HK3⟩
   case measure => simp [RowKit.intOf]; omega
  ·
   have hk0 : k = 0 := by omega
   subst hk0; clear h0; go_wp2_with fail
   refine (pick_any _ r q _ (by decide) (by decide) (by omega) HR.out).mono ?_; rintro e w2 ⟨j, rfl, j0, j1, hR, hK⟩; have HR2 := hidR hR; have HK2 := hidR (HK.out.trans hK); have HO2 := hidR (HO.out.kept hr hK); clear hR hK HR HK HO; by_cases hj : j = 0
   ·
    subst hj; go_wp2_with fail
    go_loopw [3, 5] (fun v iv wl => ∃ (k : Nat) (es : List E), iv = .int .i64 k ∧ k ≤ 26 ∧ Hid (treeE es = true) ∧ Hid (OwnE wl w.heap.size v es) ∧ Hid (Rd wl r (q + 1)) ∧ Hid (Kept r w wl)) (fun _ iv _ => 26 - (RowKit.intOf iv).toNat)
    case atStart => exact ⟨0, es, rfl, by decide, HT, HO2, HR2, HK2⟩
    case round =>
     clear HT HO2 HR2 HK2; obtain ⟨k, fs, rfl, hk, HT, HO, HR, HK⟩ := hrel; obtain ⟨a, g, cap, rfl, ha, hE, hcap, hgb⟩ := HO.out.at; obtain ⟨hlen, hsz⟩ := tree_sizes HT.out; have HE := hidR hE; have HA := hidR ha; have HZ := hidR hsz; have hwr : w.heap.size ≤ wr.heap.size := HK.out.2.2.2.1; clear hE ha hgb hsz; by_cases hlt : k < 26 ∧ fs.length < 16
     ·
      obtain ⟨h26, h16⟩ := hlt; have h26' : (k : Int) < 26 := by omega
      have h16' : (fs.length : Int) < 16 := by omega
      have hu : ((UInt8.ofNat (97 + k)).toNat : Int) = 97 + (k : Int) := by
       rw [UInt8.toNat_ofNat']; omega
      have kc : (convert 22 9 (.slice (some ⟨wr.heap.size, 0, none⟩) 1 1)).run Tryz.prog (wr.alloc (.cells #[.int .u8 (97 + (k : Int))] 5)) = .ok (.string ⟨#[UInt8.ofNat (97 + k)]⟩) (wr.alloc (.cells #[.int .u8 (97 + (k : Int))] 5)) := by
       refine run_convert_bytes_back _ 22 9 5 ⟨wr.heap.size, 0, none⟩ 1 [UInt8.ofNat (97 + k)] Tryz.underlying22 Tryz.underlying5 Tryz.underlying9 ?_; intro j hj; obtain rfl : j = 0 := by simpa using hj
       simp only [List.getElem_cons_zero]; rw [hu]; simp [Addr.add]
      go_wp2_with fail
      refine (sTreeDo_any _ a g 0 cap fs 2 _ ⟨#[]⟩ ⟨#[]⟩ (by omega) hcap ?sz (by decide) (by decide) (fun e he => ⟨by have := (HZ.out e he).1; omega, by have := (HZ.out e he).2; omega⟩) HA.out (HE.out.below ((Below.refl _ wr).alloc (Nat.le_refl _) _))).mono ?_
      case sz =>
       have e1 : (⟨#[97 + UInt8.ofNat k]⟩ : ByteArray).size = 1 := rfl; have e2 : (⟨#[47, 122]⟩ : ByteArray).size = 2 := rfl; rw [ByteArray.size_append, e1, e2]; decide
      rintro e w3 ⟨v, rfl, ho3, hB3⟩; have hBa : Below wr.heap.size wr (wr.alloc (.cells #[.int .u8 (97 + (k : Int))] 5)) := (Below.refl _ wr).alloc (Nat.le_refl _) _; have hB4 := B3 hBa hB3; have HR3 := hidR (HR.out.below hB4); have HK3 := hidR (HK.out.trans (Kept.of_below hB4)); have HO3 := hidR (ho3.lower (base' := w.heap.size) (Nat.le_trans hwr hBa.size)); have HT3 := hidR (do_tree (q := ⟨2, ⟨#[47, 122]⟩ ++ ⟨#[97 + UInt8.ofNat k]⟩, ⟨#[]⟩, ⟨#[]⟩⟩) HT.out); clear ho3 hB3 hBa hB4 kc; go_wp2
      go_roundw
      case rel => exact ⟨k + 1, _, by go_num, by omega, HT3, HO3, HR3, HK3⟩
      case measure => simp [RowKit.intOf]; omega
     ·
      have fin : ¬ ((k : Int) < 26 ∧ (fs.length : Int) < 16) := by omega
      by_cases h26 : k < 26
      ·
       have h16 : ¬ (fs.length : Int) < 16 := by omega
       go_wp2
       go_ret
       exact ⟨_, rfl, fs, HT.out, HO.out, _, by omega, HR.out, HK.out⟩
      ·
       have h26' : ¬ (k : Int) < 26 := by omega
       go_wp2
       go_ret
       exact ⟨_, rfl, fs, HT.out, HO.out, _, by omega, HR.out, HK.out⟩
   ·
    have hj' : (j == 0) = false := by rw [beq_eq_false_iff_ne]; exact hj
    go_wp2
    go_ret
    exact ⟨_, es, _, rfl, HT.out, HO2.out, by omega, HR2.out, HK2.out⟩
def LieB (w : World) (base : Nat) (v : Value) (es : List E) : Prop := ∃ a g o cap, v = .slice a es.length cap ∧ (0 < es.length → a = some ⟨g, o, none⟩) ∧ Ents w g o es ∧ es.length ≤ cap ∧ (0 < es.length → base ≤ g)
def Small (n : Nat) (es : List E) : Prop := es.length ≤ n ∧ ∀ e ∈ es, e.p.size ≤ 16 ∧ e.x.size ≤ 16
theorem OwnE.lieB {w : World} {base : Nat} {v : Value} {es : List E} (h : OwnE w base v es) : LieB w base v es := by
 obtain ⟨a, g, cap, h1, h2, h3, h4, h5⟩ := h.at; exact ⟨a, g, 0, cap, h1, h2, h3, h4, h5⟩
theorem LieB.kept {w w' : World} {base r : Nat} {v : Value} {es : List E} (h : LieB w base v es) (hr : r < base) (k : Kept r w w') : LieB w' base v es := by
 obtain ⟨a, g, o, cap, h1, h2, h3, h4, h5⟩ := h; exact ⟨a, g, o, cap, h1, h2, h3.kept k (fun q => by have := h5 q; omega), h4, h5⟩
theorem LieB.below {w w' : World} {base : Nat} {v : Value} {es : List E} (h : LieB w base v es) (k : Below w.heap.size w w') : LieB w' base v es := by
 obtain ⟨a, g, o, cap, h1, h2, h3, h4, h5⟩ := h; exact ⟨a, g, o, cap, h1, h2, h3.below k, h4, h5⟩
theorem LieB.lower {w : World} {base b : Nat} {v : Value} {es : List E} (h : LieB w base v es) (hb : b ≤ base) : LieB w b v es := by
 obtain ⟨a, g, o, cap, h1, h2, h3, h4, h5⟩ := h; exact ⟨a, g, o, cap, h1, h2, h3, h4, fun q => Nat.le_trans hb (h5 q)⟩
theorem OwnE.unfrozen {w : World} {base : Nat} {a : Option Addr} {n cap : Nat} {es : List E} (h : OwnE w base (.slice a n cap) es) {g : Nat} (hg : a = some ⟨g, 0, none⟩) (i : Nat) : w.frozen? ⟨g, i, none⟩ = false := by
 obtain ⟨_, ⟨e0, _⟩ | ⟨g', cap', cur, e5, _, hh, _⟩⟩ := h
 ·
  rw [hg] at e0; cases e0
 ·
  rw [hg] at e5; cases e5; unfold World.frozen?; rw [hh]; simp
theorem small_set {n k : Nat} {es : List E} (h : Small n es) (e : E) (he : e.p.size ≤ 16 ∧ e.x.size ≤ 16) : Small n (es.set k e) := by
 refine ⟨by rw [List.length_set]; exact h.1, fun f hf => ?_⟩; rcases List.mem_or_eq_of_mem_set hf with q | q
 ·
  exact h.2 f q
 ·
  rw [q]; exact he
theorem Ents.set0 {w : World} {g o k : Nat} {es : List E} (h : Ents w g o es) (hk : k < es.length) (z : ByteArray) : Ents (w.setCell ⟨g, o + k * 3, none⟩ (.string z)) g o (es.set k ⟨z, es[k].d, es[k].x⟩) := by
 intro i hi; rw [List.length_set] at hi; obtain ⟨c0, c1, c2⟩ := h i hi; by_cases hik : k = i
 ·
  subst hik; simp only [List.getElem_set_self]; exact ⟨cell_eq' _ c0, (cell_ne' _ _ _ _ _ (by omega)).trans c1, (cell_ne' _ _ _ _ _ (by omega)).trans c2⟩
 ·
  rw [List.getElem_set_ne hik]; exact ⟨(cell_ne' _ _ _ _ _ (by omega)).trans c0, (cell_ne' _ _ _ _ _ (by omega)).trans c1, (cell_ne' _ _ _ _ _ (by omega)).trans c2⟩
theorem Ents.set1 {w : World} {g o k : Nat} {es : List E} (h : Ents w g o es) (hk : k < es.length) (z : Bool) : Ents (w.setCell ⟨g, o + k * 3 + 1, none⟩ (.bool z)) g o (es.set k ⟨es[k].p, z, es[k].x⟩) := by
 intro i hi; rw [List.length_set] at hi; obtain ⟨c0, c1, c2⟩ := h i hi; by_cases hik : k = i
 ·
  subst hik; simp only [List.getElem_set_self]; exact ⟨(cell_ne' _ _ _ _ _ (by omega)).trans c0, cell_eq' _ c1, (cell_ne' _ _ _ _ _ (by omega)).trans c2⟩
 ·
  rw [List.getElem_set_ne hik]; exact ⟨(cell_ne' _ _ _ _ _ (by omega)).trans c0, (cell_ne' _ _ _ _ _ (by omega)).trans c1, (cell_ne' _ _ _ _ _ (by omega)).trans c2⟩
theorem Ents.set2 {w : World} {g o k : Nat} {es : List E} (h : Ents w g o es) (hk : k < es.length) (z : ByteArray) : Ents (w.setCell ⟨g, o + k * 3 + 2, none⟩ (.string z)) g o (es.set k ⟨es[k].p, es[k].d, z⟩) := by
 intro i hi; rw [List.length_set] at hi; obtain ⟨c0, c1, c2⟩ := h i hi; by_cases hik : k = i
 ·
  subst hik; simp only [List.getElem_set_self]; exact ⟨(cell_ne' _ _ _ _ _ (by omega)).trans c0, (cell_ne' _ _ _ _ _ (by omega)).trans c1, cell_eq' _ c2⟩
 ·
  rw [List.getElem_set_ne hik]; exact ⟨(cell_ne' _ _ _ _ _ (by omega)).trans c0, (cell_ne' _ _ _ _ _ (by omega)).trans c1, (cell_ne' _ _ _ _ _ (by omega)).trans c2⟩
set_option maxHeartbeats 2000000 in
set_option maxRecDepth 100000 in
theorem l2Bent_any (w : World) (r p base n : Nat) (v : Value) (es : List E) (hp : p ≤ 9000) (_hrb : r < base) (hbw : base ≤ w.heap.size) (hL : LieB w base v es) (hS : Small n es) (hn : n ≤ 60) (h : Rd w r p) :
  Calls Tryz.prog 20 #[.pointer (some ⟨r, 0, none⟩), v] w fun e w' => ∃ (v' : Value) (es' : List E) (q : Nat), e = .returned v' ∧ LieB w' base v' es' ∧ Small (n + 1) es' ∧ q ≤ p + 3 ∧ Rd w' r q ∧ Kept r w w' := by
 have hr := h.lt; obtain ⟨a, g, o, cap, rfl, ha, hE, hcap, hgb⟩ := hL; have hlen := hS.1; have HS := hidR hS; have HA := hidR ha; have HB0 := hidR ((Below.refl w.heap.size w).alloc (Nat.le_refl _) (.cells #[] 53)); have HE := hidR (hE.below HB0.out); have HR0 := hidR h; clear hE ha hgb hS h; go_enter Tryz.func20, Tryz.ntmps20
 go_wp2_with (first
  | (at_builtin; refine wpE_append rfl _ _ rfl w.heap.size (.slice (some ⟨w.heap.size, 0, none⟩) 0 0) [] rfl (OwnE.made w (Nat.le_refl _)) _ _ g o es es.length rfl rfl HA.out HE.out ?cc1 ?cc2 ?_)
  | fail)
 case cc1 => show 0 + _ ≤ _; omega
 case cc2 => exact HB0.out.size
 intro v5 w5 ho5 hg5; have HB5 := hidR (HB0.out.grown hg5 HB0.out.size (fun q hq => (World.ownsRow.lt (OwnE.made w (base := w.heap.size) (Nat.le_refl _)) q hq).1)); have HO5 : Hid (OwnE w5 w.heap.size v5 es) := ho5; have HR5 := hidR (HR0.out.below HB5.out); have hw5 := HB5.out.size; clear ho5 hg5; obtain ⟨a5, g5, cap5, rfl, ha5, hE5, hcap5, hgb5⟩ := HO5.out.at; by_cases h0 : es.length = 0
 ·
  go_wp2
  go_ret
  exact ⟨_, es, _, rfl, ⟨_, g5, 0, cap5, rfl, ha5, hE5, hcap5, fun h => by omega⟩, ⟨Nat.le_succ_of_le HS.out.1, HS.out.2⟩, Nat.le_add_right _ _, HR5.out, Kept.of_below HB5.out⟩
 ·
  have h0' : ((es.length : Int) == 0) = false := by rw [beq_eq_false_iff_ne]; omega
  obtain rfl := ha5 (by omega); have hgb5 := hgb5 (by omega); have HG : Hid (0 < es.length → g5 ≠ r) := fun _ => by omega
  have HE5 := hidR hE5; clear hE5 ha5; go_wp2_with fail
  refine (pick_any _ r p _ (by omega) (by omega) (by omega) HR5.out).mono ?_; rintro e w6 ⟨jj, rfl, jj0, jj1, hR, hK⟩; obtain ⟨i, rfl⟩ := Int.eq_ofNat_of_zero_le jj0; have hi : i < es.length := by omega
  have HR6 := hidR hR; have HK6 := hidR ((Kept.of_below (r := r) HB5.out).trans hK); have HO6 := hidR (HO5.out.kept hr hK); have HE6 := hidR (HE5.out.kept hK HG.out); clear hR hK HR5 HB5 HO5 HE5; go_wp2_with fail
  refine (pick_any _ r (p + 1) _ (by decide) (by decide) (by omega) HR6.out).mono ?_; rintro e w7 ⟨j, rfl, j0, j1, hR, hK⟩; have HR7 := hidR hR; have HK7 := hidR (HK6.out.trans hK); have HO7 := hidR (HO6.out.kept hr hK); have HE7 := hidR (HE6.out.kept hK HG.out); have hw7 := HK7.out.2.2.2.1; have hrw7 := hR.lt; clear hR hK HR6 HK6 HO6 HE6
  have hj : j = 0 ∨ j = 1 ∨ j = 2 ∨ j = 3 ∨ j = 4 ∨ (5 ≤ j ∧ (j == 0) = false ∧ (j == 1) = false ∧ (j == 2) = false ∧ (j == 3) = false ∧ (j == 4) = false) := by
   by_cases h5 : 5 ≤ j
   ·
    exact .inr (.inr (.inr (.inr (.inr ⟨h5, by rw [beq_eq_false_iff_ne]; omega, by rw [beq_eq_false_iff_ne]; omega, by rw [beq_eq_false_iff_ne]; omega, by rw [beq_eq_false_iff_ne]; omega, by rw [beq_eq_false_iff_ne]; omega⟩))))
   ·
    omega
  rcases hj with rfl | rfl | rfl | rfl | rfl | ⟨hj5, n0, n1, n2, n3, n4⟩
  ·
   obtain ⟨c0, c1, c2⟩ := HE7.out i hi; rw [Nat.zero_add] at c0 c1 c2; go_wp2_with (at_builtin; refine wpE_append rfl _ _ rfl w.heap.size (.slice (some ⟨g5, 0, none⟩) es.length cap5) es rfl (World.ownsRow.alloc HO7.out _) _ _ w7.heap.size 0 [es[i]] 1 rfl rfl (fun _ => rfl) (ents_new _ _) ?cd1 ?cd2 ?_)
   case cd1 => simp; omega
   case cd2 => simp; omega
   intro v8 w8 ho8 hg8; have hBa : Below w7.heap.size w7 (w7.alloc (.cells #[.string es[i].p, .bool es[i].d, .string es[i].x] 53)) := (Below.refl _ w7).alloc (Nat.le_refl _) _; have hk8 : Kept g5 (w7.alloc (.cells #[.string es[i].p, .bool es[i].d, .string es[i].x] 53)) w8 := ⟨hg8.os, hg8.tape, hg8.output, hg8.size, fun b hb hne => hg8.block b hb (fun q => hne (by simp [Value.ownBlock] at q; first | exact q | exact q.symm))⟩
   have HK8 := hidR (Kn.other (Kn.step (n := w.heap.size) HK7.out (Nat.le_refl _) (Kept.alloc w7 _)) (Nat.le_refl _) hgb5 hk8); have HR8 := hidR ((HR7.out.below hBa).keep hk8 (by omega)); clear hk8 hBa; have HO8 : Hid (OwnE w8 w.heap.size v8 (es ++ [es[i]])) := ho8
   have HS8 : Hid (Small (n + 1) (es ++ [es[i]])) := ⟨by rw [List.length_append]; have := HS.out.1; simp; omega, fun e he => by
    rcases List.mem_append.1 he with q | q
    ·
     exact HS.out.2 e q
    ·
     rw [List.mem_singleton.1 q]; exact HS.out.2 _ (List.getElem_mem _)⟩
   clear hg8 ho8; go_wp2
   go_ret
   exact ⟨_, es ++ [es[i]], _, rfl, HO8.out.lieB.lower hbw, HS8.out, by omega, HR8.out, HK8.out⟩
  ·
   go_wp2_with fail
   refine (of_P okS _ r (p + 1 + 1) w7.heap.size 4 4 (by decide) (by decide) (by omega) (by omega) (LstP.new okS w7 [⟨#[47]⟩, ⟨#[47, 97, 47, 98, 47, 99, 47, 100]⟩, ⟨#[47, 65]⟩, ⟨#[47, 99, 47, 99]⟩] 9 (by decide +kernel)) (HR7.out.below ((Below.refl _ w7).alloc (Nat.le_refl _) _))).mono ?_; rintro e w8 ⟨z, rfl, hz, hR, hK⟩; have hK' := (Kept.alloc w7 _).trans hK; have HO8 := hidR (HO7.out.kept hr hK'); obtain ⟨c0, c1, c2⟩ := HE7.out.kept hK' HG.out i hi; rw [Nat.zero_add] at c0 c1 c2; have f0 := HO8.out.unfrozen rfl; have HK8 := hidR ((Kn.step HK7.out (Nat.le_refl _) hK').other (Nat.le_refl _) hgb5 (Kept.setCell (r := g5) w8 (i * 3) (.string z))); have HR8 := hidR (hR.keep (Kept.setCell (r := g5) w8 (i * 3) (.string z)) (by omega)); have HE8 := hidR ((HE7.out.kept hK' HG.out).set0 hi z); rw [Nat.zero_add] at HE8; have HS8 := hidR (small_set (k := i) HS.out ⟨z, es[i].d, es[i].x⟩ ⟨okS_size hz, (HS.out.2 es[i] (List.getElem_mem _)).2⟩); clear hR hK hK' HK7 HR7 HE7 HO7; go_wp2
   go_ret
   exact ⟨_, es.set i ⟨z, es[i].d, es[i].x⟩, _, rfl, ⟨_, g5, 0, cap5, by rw [List.length_set]; rfl, fun _ => rfl, HE8.out, by rw [List.length_set]; exact hcap5, fun _ => by omega⟩, ⟨Nat.le_succ_of_le HS8.out.1, HS8.out.2⟩, by omega, HR8.out, HK8.out⟩
  ·
   obtain ⟨c0, c1, c2⟩ := HE7.out i hi; rw [Nat.zero_add] at c0 c1 c2; have f0 := HO7.out.unfrozen rfl; have HK8 := hidR (Kn.other HK7.out (Nat.le_refl _) hgb5 (Kept.setCell (r := g5) w7 (i * 3 + 1) (.bool (!es[i].d)))); have HR8 := hidR (HR7.out.keep (Kept.setCell (r := g5) w7 (i * 3 + 1) (.bool (!es[i].d))) (by omega)); have HE8 := hidR (HE7.out.set1 hi (!es[i].d)); rw [Nat.zero_add] at HE8; have HS8 := hidR (small_set (k := i) HS.out ⟨es[i].p, !es[i].d, es[i].x⟩ (HS.out.2 es[i] (List.getElem_mem _))); clear HK7 HR7 HE7 HO7; go_wp2
   go_ret
   exact ⟨_, es.set i ⟨es[i].p, !es[i].d, es[i].x⟩, _, rfl, ⟨_, g5, 0, cap5, by rw [List.length_set]; rfl, fun _ => rfl, HE8.out, by rw [List.length_set]; exact hcap5, fun _ => by omega⟩, ⟨Nat.le_succ_of_le HS8.out.1, HS8.out.2⟩, by omega, HR8.out, HK8.out⟩
  ·
   go_wp2_with fail
   refine (of_P okS _ r (p + 1 + 1) w7.heap.size 3 3 (by decide) (by decide) (by omega) (by omega) (LstP.new okS w7 [⟨#[113]⟩, ⟨#[65]⟩, ⟨#[97, 98, 99, 100, 101, 102, 103]⟩] 9 (by decide +kernel)) (HR7.out.below ((Below.refl _ w7).alloc (Nat.le_refl _) _))).mono ?_; rintro e w8 ⟨z, rfl, hz, hR, hK⟩; have hK' := (Kept.alloc w7 _).trans hK; have HO8 := hidR (HO7.out.kept hr hK'); obtain ⟨c0, c1, c2⟩ := HE7.out.kept hK' HG.out i hi; rw [Nat.zero_add] at c0 c1 c2; have f0 := HO8.out.unfrozen rfl; have HK8 := hidR ((Kn.step HK7.out (Nat.le_refl _) hK').other (Nat.le_refl _) hgb5 (Kept.setCell (r := g5) w8 (i * 3 + 2) (.string z))); have HR8 := hidR (hR.keep (Kept.setCell (r := g5) w8 (i * 3 + 2) (.string z)) (by omega)); have HE8 := hidR ((HE7.out.kept hK' HG.out).set2 hi z); rw [Nat.zero_add] at HE8; have HS8 := hidR (small_set (k := i) HS.out ⟨es[i].p, es[i].d, z⟩ ⟨(HS.out.2 es[i] (List.getElem_mem _)).1, okS_size hz⟩); clear hR hK hK' HK7 HR7 HE7 HO7; go_wp2
   go_ret
   exact ⟨_, es.set i ⟨es[i].p, es[i].d, z⟩, _, rfl, ⟨_, g5, 0, cap5, by rw [List.length_set]; rfl, fun _ => rfl, HE8.out, by rw [List.length_set]; exact hcap5, fun _ => by omega⟩, ⟨Nat.le_succ_of_le HS8.out.1, HS8.out.2⟩, by omega, HR8.out, HK8.out⟩
  ·
   have HD := hidR (ents_drop HE7.out 3 1 (.inl rfl)); have HSd : Hid (Small (n + 1) (es.drop 1)) := ⟨by rw [List.length_drop]; have := HS.out.1; omega, fun e he => HS.out.2 e (List.mem_of_mem_drop he)⟩
   by_cases h1 : cap5 ≤ 1
   ·
    have h1' : cap5 = 1 := by omega
    subst h1'; have HD2 : Hid (es.drop 1 = []) := List.drop_eq_nil_of_le (by omega); go_wp2
    go_ret
    exact ⟨_, es.drop 1, _, rfl, ⟨some ⟨g5, 0, none⟩, g5, 3, 0, by rw [HD2.out]; rfl, fun h => absurd h (by rw [HD2.out]; simp), HD.out, by rw [HD2.out]; simp, fun h => absurd h (by rw [HD2.out]; simp)⟩, HSd.out, by omega, HR7.out, HK7.out⟩
   ·
    go_wp2
    go_ret
    exact ⟨_, es.drop 1, _, rfl, ⟨some ⟨g5, 3, none⟩, g5, 3, cap5 - 1, by rw [List.length_drop]; rfl, fun _ => rfl, HD.out, by rw [List.length_drop]; omega, fun _ => by omega⟩, HSd.out, by omega, HR7.out, HK7.out⟩
  ·
   go_wp2
   go_ret
   exact ⟨_, es, _, rfl, ⟨_, g5, 0, cap5, rfl, fun _ => rfl, HE7.out, hcap5, fun _ => by omega⟩, ⟨Nat.le_succ_of_le HS.out.1, HS.out.2⟩, by omega, HR7.out, HK7.out⟩
theorem small_tree {es : List E} (h : treeE es = true) : Small 16 es := ⟨(tree_sizes h).1, (tree_sizes h).2⟩
theorem B3' {a b c : World} (h : Below a.heap.size a b) (k : Below b.heap.size b c) : Below a.heap.size a c := h.trans (k.mono h.size)
theorem Bx.below {W W' : World} {b n : Nat} {k : Int} {p t x : ByteArray} (h : Bx W b k p t x) (hB : Below n W W') (hb : b < n) : Bx W' b k p t x := by
 have hh := hB.block b hb
 exact ⟨(World.cell?_of_block (w := W) (a := ⟨b, 0, none⟩) hh).trans h.c0, (World.cell?_of_block (w := W) (a := ⟨b, 1, none⟩) hh).trans h.c1, (World.cell?_of_block (w := W) (a := ⟨b, 2, none⟩) hh).trans h.c2, (World.cell?_of_block (w := W) (a := ⟨b, 3, none⟩) hh).trans h.c3,
  (World.frozen?_of_block (w := W) (a := ⟨b, 0, none⟩) hh).trans h.f0, (World.frozen?_of_block (w := W) (a := ⟨b, 1, none⟩) hh).trans h.f1, (World.frozen?_of_block (w := W) (a := ⟨b, 2, none⟩) hh).trans h.f2, (World.frozen?_of_block (w := W) (a := ⟨b, 3, none⟩) hh).trans h.f3⟩
theorem Bx.bel {W W' : World} {b : Nat} {k : Int} {p t x : ByteArray} (h : Bx W b k p t x) (hB : Below W.heap.size W W') : Bx W' b k p t x := h.below hB (cell_ltR h.c0)
theorem fin4B {w W : World} {b n : Nat} {k k' : Int} {p t x p' t' x' : ByteArray} {C : World → Prop} (h : Bx W b k p t x) (hB : Below n w W) (hb : n ≤ b)
  (H : ∀ Wf, Bx Wf b k' p' t' x' → Below n w Wf → Kept b W Wf → C Wf) : C ((((W.setCell ⟨b, 0, none⟩ (.int .i64 k')).setCell ⟨b, 1, none⟩ (.string p')).setCell ⟨b, 2, none⟩ (.string t')).setCell ⟨b, 3, none⟩ (.string x')) :=
 H _ ((((h.set0 k').set1 p').set2 t').set3 x')
  ((((hB.setCell (p := ⟨b, 0, none⟩) hb _).setCell (p := ⟨b, 1, none⟩) hb _).setCell (p := ⟨b, 2, none⟩) hb _).setCell (p := ⟨b, 3, none⟩) hb _)
  ((((Kept.setCell W 0 _).trans (Kept.setCell _ 1 _)).trans (Kept.setCell _ 2 _)).trans (Kept.setCell _ 3 _))
set_option maxHeartbeats 1000000 in
set_option maxRecDepth 100000 in
theorem DrawTreeDo_any (w : World) (a : Option Addr) (len cap : Nat) (hl : len ≤ 1048576) (h : Cod w a len cap) :
  Calls Tryz.prog 9 #[.slice a len cap] w fun e w' => ∃ (v : Value) (es : List E) (k : Int) (p t x : ByteArray), e = .returned (.tuple #[v, .agg #[.int .i64 k, .string p, .string t, .string x]]) ∧ LieB w' w.heap.size v es ∧ Small 17 es ∧ p.size ≤ 16 ∧ okS t = true ∧ x.size ≤ 16 ∧ Below w.heap.size w w' := by
 obtain ⟨W0, hW0⟩ : ∃ W0, W0 = w.alloc (.cells #[.int .i64 0, .string ⟨#[]⟩, .string ⟨#[]⟩, .string ⟨#[]⟩] 25) := ⟨_, rfl⟩
 have hs0 : W0.heap.size = w.heap.size + 1 := by rw [hW0]; simp
 have HY0 : Hid (Bx W0 w.heap.size 0 ⟨#[]⟩ ⟨#[]⟩ ⟨#[]⟩) := by rw [hW0]; exact Bx.new w 0 ⟨#[]⟩ ⟨#[]⟩ ⟨#[]⟩ 25
 have HB0 : Hid (Below w.heap.size w W0) := by rw [hW0]; exact (Below.refl _ w).alloc (Nat.le_refl _) _
 have HC := hidR (h.below HB0.out); have HS0 := hidR hs0; clear h hs0; go_enter Tryz.func9, Tryz.ntmps9
 go_wp2_with fail
 rw [← hW0]; clear hW0; refine (l10Open_any _ a len cap hl HC.out).mono ?_; rintro e w1 ⟨rfl, hR1, hB1⟩; have HR1 := hidR hR1; have HB1 := hidR hB1; have hr := hR1.lt; clear hR1 hB1 HC; go_wp2_with fail
 refine (l2Tree_any _ W0.heap.size 0 (by omega) HR1.out).mono ?_; rintro e w2 ⟨v2, es2, q2, rfl, ht2, ho2, hq2, hR2, hK2⟩; have HR2 := hidR hR2; have HB2 := hidR (HB1.out.trans (hK2.below (Nat.le_refl _) (Nat.le_of_lt hr))); have HL2 := hidR ho2.lieB; have HS2 := hidR (small_tree ht2); have hw2 : w1.heap.size ≤ w2.heap.size := hK2.2.2.2.1; clear hR2 hK2 ho2 ht2 HR1 HB1; go_wp2_with fail
 refine (l2Bent_any _ W0.heap.size q2 w1.heap.size 16 v2 es2 (by omega) hr hw2 HL2.out HS2.out (by decide) HR2.out).mono ?_; rintro e w3 ⟨v3, es3, q3, rfl, hL3, hS3, hq3, hR3, hK3⟩; obtain ⟨a3, g3, o3, cap3, rfl, ha3, hE3, hc3, hg3⟩ := hL3; have HR3 := hidR hR3; have HB3 := hidR (HB2.out.trans (hK3.below (Nat.le_refl _) (by omega))); have HS3 := hidR hS3; have HE3 := hidR hE3; have HA3 := hidR ha3; have HG3 := hidR hg3; have hw3 : w2.heap.size ≤ w3.heap.size := hK3.2.2.2.1; clear hR3 hK3 hS3 hE3 ha3 hg3 HR2 HB2 HL2 HS2; go_wp2_with fail
 refine (l2Op_any _ W0.heap.size q3 a3 g3 o3 cap3 es3 (by omega) (by have := HS3.out.1; omega) HA3.out HE3.out (fun e he => (HS3.out.2 e he).1) (fun h => by have := HG3.out h; omega) HR3.out).mono ?_; rintro e w4 ⟨k, p, t, x, q4, rfl, z1, z2, z3, hq4, hR4, hK4⟩; have HB4 := hidR (HB3.out.trans (hK4.below (Nat.le_refl _) (by omega))); have HE4 := hidR (HE3.out.kept hK4 (fun h => by have := HG3.out h; omega)); have HZ := hidR z2; clear hR4 hK4 HR3 HB3 HE3 z2; obtain ⟨y0, y1, y2, y3, f0, f1, f2, f3⟩ := HY0.out.below HB4.out (by have := HS0.out; omega); go_wp2
 refine fin4B (C := bodyPost Tryz.prog Tryz.f9 _ _ _) (HY0.out.below HB4.out (by have := HS0.out; omega)) (B3' HB0.out HB4.out) (Nat.le_refl _) ?_; intro Wf hf hBf hKf; have hs0 := HS0.out; have hE5 := HE4.out.kept hKf (fun h => by have := HG3.out h; omega); obtain ⟨s0, s1, s2, s3, -, -, -, -⟩ := hf; exact bodyPost_ret (v := .tuple #[.slice a3 es3.length cap3, .agg #[.int .i64 k, .string p, .string t, .string x]]) (by simp [results, Tryz.results9, go_sem, s0, s1, s2, s3]) rfl ⟨_, es3, k, p, t, x, rfl, ⟨a3, g3, o3, cap3, rfl, HA3.out, hE5, hc3, fun h => by have := HG3.out h; omega⟩, HS3.out, z1, HZ.out, z3, hBf⟩
set_option maxHeartbeats 1000000 in
set_option maxRecDepth 100000 in
theorem DrawOpBack_any (w : World) (a : Option Addr) (len cap : Nat) (hl : len ≤ 1048576) (h : Cod w a len cap) :
  Calls Tryz.prog 4 #[.slice a len cap] w fun e w' => ∃ (v : Value) (es : List E) (k : Int) (p t x : ByteArray), e = .returned (.tuple #[v, .agg #[.int .i64 k, .string p, .string t, .string x]]) ∧ LieB w' w.heap.size v es ∧ Small 17 es ∧ p.size ≤ 16 ∧ okS t = true ∧ x.size ≤ 16 ∧ Below w.heap.size w w' := by
 obtain ⟨W0, hW0⟩ : ∃ W0, W0 = w.alloc (.cells #[.int .i64 0, .string ⟨#[]⟩, .string ⟨#[]⟩, .string ⟨#[]⟩] 25) := ⟨_, rfl⟩
 have hs0 : W0.heap.size = w.heap.size + 1 := by rw [hW0]; simp
 have HY0 : Hid (Bx W0 w.heap.size 0 ⟨#[]⟩ ⟨#[]⟩ ⟨#[]⟩) := by rw [hW0]; exact Bx.new w 0 ⟨#[]⟩ ⟨#[]⟩ ⟨#[]⟩ 25
 have HB0 : Hid (Below w.heap.size w W0) := by rw [hW0]; exact (Below.refl _ w).alloc (Nat.le_refl _) _
 have HC := hidR (h.below HB0.out); have HS0 := hidR hs0; clear h hs0; go_enter Tryz.func4, Tryz.ntmps4
 go_wp2_with fail
 rw [← hW0]; clear hW0; refine (DrawTreeDo_any _ a len cap hl HC.out).mono ?_; rintro e w1 ⟨v, es, k, p, t, x, rfl, hL, hS, zp, zt, zx, hB⟩; have HY1 := hidR (HY0.out.bel hB); have HB1 := hidR (B3' HB0.out hB); obtain ⟨a1, g1, o1, c1, rfl, ha1, hE, hc1, hg1⟩ := hL; have HE := hidR hE; have HG := hidR hg1; have HA := hidR ha1; have hs0 := HS0.out; clear hE hg1 ha1 hB; obtain ⟨y0, y1, y2, y3, f0, f1, f2, f3⟩ := HY1.out; go_wp2
 refine fin4B (C := bodyPost Tryz.prog Tryz.f4 _ _ _) HY1.out HB1.out (Nat.le_refl _) ?_; intro Wf hf hBf hKf; have hE5 := HE.out.kept hKf (fun h => by have := HG.out h; omega); obtain ⟨s0, s1, s2, s3, -, -, -, -⟩ := hf; exact bodyPost_ret (v := .tuple #[.slice a1 es.length c1, .agg #[.int .i64 k, .string p, .string t, .string x]]) (by simp [results, Tryz.results4, go_sem, s0, s1, s2, s3]) rfl ⟨_, es, k, p, t, x, rfl, ⟨a1, g1, o1, c1, rfl, HA.out, hE5, hc1, fun h => by have := HG.out h; omega⟩, hS, zp, zt, zx, hBf⟩
end Go.Proofs.YtafeddiijemnbaaGreatDoor
