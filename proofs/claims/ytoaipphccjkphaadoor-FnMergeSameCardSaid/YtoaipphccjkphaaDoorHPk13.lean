import Derived.Test.YtoaipphccjkphaaDoorHPk00
import Derived.Test.YtoaipphccjkphaaDoorHPk12
import Derived.Test.YtoaipphccjkphaaDoorHPk07
namespace Go.Proofs.YtoaipphccjkphaaDoor.Mg
open Go.RowKit Go.Lib
def Row (w : World) (v : Value) (es : List E) : Prop := ∃ a g o cap, v = .slice a es.length cap ∧ es.length ≤ 16777216 ∧ es.length ≤ cap ∧ (∀ e ∈ es, e.p.size ≤ 16777216 ∧ e.x.size ≤ 16777216) ∧ (0 < es.length → a = some ⟨g, o, none⟩) ∧ Ents w g o es
theorem Row.below {w w' : World} {v : Value} {es : List E} (h : Row w v es) (hb : Below w.heap.size w w') : Row w' v es := by
 obtain ⟨a, g, o, cap, rfl, h1, h2, h3, h4, h5⟩ := h; exact ⟨a, g, o, cap, rfl, h1, h2, h3, h4, h5.below hb⟩
theorem Row.sOk {w : World} {v : Value} {es : List E} (h : Row w v es) : Calls Tryd.prog 10 #[v] w fun r w' => r = .returned (.bool (treeE es)) ∧ Below w.heap.size w w' := by
 obtain ⟨a, g, o, cap, rfl, h1, h2, h3, h4, h5⟩ := h; exact sTreeOk_any w a g o cap es h1 h2 h3 h4 h5
theorem Row.sGet {w : World} {v : Value} {es : List E} (h : Row w v es) (s : ByteArray) : Calls Tryd.prog 49 #[v, .string s] w fun r w' => r = .returned (.tuple #[encE (getE es s).1, .bool (getE es s).2]) ∧ Below w.heap.size w w' := by
 obtain ⟨a, g, o, cap, rfl, h1, h2, h3, h4, h5⟩ := h; exact l2Get_any w a g o cap es s h1 h4 h5
set_option maxHeartbeats 1000000 in
set_option maxRecDepth 100000 in
theorem sl8Right_any (w : World) (v1 v2 v3 : Value) (t a b : List E) (h1 : Row w v1 t) (h2 : Row w v2 a) (h3 : Row w v3 b) :
  Calls Tryd.prog 25 #[v1, v2, v3] w fun r w' => r = .returned (.bool (trees3 t a b)) ∧ Below w.heap.size w w' := by
 have K1 := hidE h1.sOk; have K2 := hidE (fun (W : World) (h : Below w.heap.size w W) => (h2.below h).sOk); have K3 := hidE (fun (W : World) (h : Below w.heap.size w W) => (h3.below h).sOk); clear h1 h2 h3; unfold trees3; obtain ⟨x, hx⟩ : ∃ x, treeE t = x := ⟨_, rfl⟩
 obtain ⟨y, hy⟩ : ∃ y, treeE a = y := ⟨_, rfl⟩
 obtain ⟨z, hz⟩ : ∃ z, treeE b = z := ⟨_, rfl⟩
 rw [hx] at K1 ⊢; rw [hy] at K2 ⊢; rw [hz] at K3 ⊢; clear hx hy hz; cases x with
 | false =>
  go_enter Tryd.func25, Tryd.ntmps25
  go_wp2_with fail
  refine K1.out.mono ?_; rintro e w1 ⟨rfl, hB1⟩; have HB1 := hidE hB1; clear hB1; go_wp2
  go_ret
  exact ⟨rfl, HB1.out⟩
 | true =>
  cases y with
  | false =>
   go_enter Tryd.func25, Tryd.ntmps25
   go_wp2_with fail
   refine K1.out.mono ?_; rintro e w1 ⟨rfl, hB1⟩; have HB1 := hidE hB1; clear hB1; go_wp2_with fail
   refine (K2.out _ HB1.out).mono ?_; rintro e w2 ⟨rfl, hB2⟩; have HB2 := hidE (HB1.out.trans (hB2.mono HB1.out.size)); clear hB2; go_wp2
   go_ret
   exact ⟨rfl, HB2.out⟩
  | true =>
   go_enter Tryd.func25, Tryd.ntmps25
   go_wp2_with fail
   refine K1.out.mono ?_; rintro e w1 ⟨rfl, hB1⟩; have HB1 := hidE hB1; clear hB1; go_wp2_with fail
   refine (K2.out _ HB1.out).mono ?_; rintro e w2 ⟨rfl, hB2⟩; have HB2 := hidE (HB1.out.trans (hB2.mono HB1.out.size)); clear hB2; go_wp2_with fail
   refine (K3.out _ HB2.out).mono ?_; rintro e w3 ⟨rfl, hB3⟩; have HB3 := hidE (HB2.out.trans (hB3.mono HB2.out.size)); clear hB3; go_wp2
   go_ret
   exact ⟨rfl, HB3.out⟩
theorem box3c {w W : World} {p q r : Value} {T : TypeId} (h : Below (w.alloc (.cells #[p, q, r] T)).heap.size (w.alloc (.cells #[p, q, r] T)) W) :
  (W.cell? ⟨w.heap.size, 0, none⟩ = some p ∧ W.cell? ⟨w.heap.size, 1, none⟩ = some q ∧ W.cell? ⟨w.heap.size, 2, none⟩ = some r) ∧
  (W.frozen? ⟨w.heap.size, 0, none⟩ = false ∧ W.frozen? ⟨w.heap.size, 1, none⟩ = false ∧ W.frozen? ⟨w.heap.size, 2, none⟩ = false) := by
 have lt : w.heap.size < (w.alloc (.cells #[p, q, r] T)).heap.size := by simp
 have hb := box3one w T p q r
 exact ⟨⟨(h.cell (p := ⟨w.heap.size, 0, none⟩) lt).trans (hb 0 p rfl).1, (h.cell (p := ⟨w.heap.size, 1, none⟩) lt).trans (hb 1 q rfl).1, (h.cell (p := ⟨w.heap.size, 2, none⟩) lt).trans (hb 2 r rfl).1⟩,
  (h.frozen (p := ⟨w.heap.size, 0, none⟩) lt).trans (hb 0 p rfl).2, (h.frozen (p := ⟨w.heap.size, 1, none⟩) lt).trans (hb 1 q rfl).2, (h.frozen (p := ⟨w.heap.size, 2, none⟩) lt).trans (hb 2 r rfl).2⟩
theorem B3G {a b c : World} (h : Below a.heap.size a b) (k : Below b.heap.size b c) : Below a.heap.size a c := h.trans (k.mono h.size)
set_option maxHeartbeats 2000000 in
set_option maxRecDepth 100000 in
theorem sl8At_any (w : World) (v1 v2 v3 : Value) (t a b : List E) (s : ByteArray) (h1 : Row w v1 t) (h2 : Row w v2 a) (h3 : Row w v3 b) :
  Calls Tryd.prog 26 #[v1, v2, v3, .string s] w fun r w' => r = .returned (.tuple #[encE (at3 (getE t s) (getE a s) (getE b s)).1, .bool (at3 (getE t s) (getE a s) (getE b s)).2.1, .bool (at3 (getE t s) (getE a s) (getE b s)).2.2]) ∧ Below w.heap.size w w' := by
 obtain ⟨W0, hW0⟩ : ∃ W0, w.alloc (.cells #[.string ⟨#[]⟩, .bool false, .string ⟨#[]⟩] 27) = W0 := ⟨_, rfl⟩
 have hb0 : Below w.heap.size w W0 := by rw [← hW0]; exact (Below.refl _ w).alloc (Nat.le_refl _) _
 have HW0 := hidE hW0; have HB := hidE hb0; have H1 := hidE ((h1.below hb0).sGet s); have H2 := hidE (fun (W : World) (h : Below W0.heap.size W0 W) => ((h2.below hb0).below h).sGet s); have H3 := hidE (fun (W : World) (h : Below W0.heap.size W0 W) => ((h3.below hb0).below h).sGet s); clear h1 h2 h3 hb0; obtain ⟨x, hx⟩ : ∃ x, getE t s = x := ⟨_, rfl⟩
 obtain ⟨y, hy⟩ : ∃ y, getE a s = y := ⟨_, rfl⟩
 obtain ⟨z, hz⟩ : ∃ z, getE b s = z := ⟨_, rfl⟩
 rw [hx] at H1 ⊢; rw [hy] at H2 ⊢; rw [hz] at H3 ⊢; clear hx hy hz; obtain ⟨⟨xp, xd, xx⟩, xb⟩ := x; obtain ⟨⟨yp, yd, yx⟩, yb⟩ := y; obtain ⟨⟨zp, zd, zx⟩, zb⟩ := z; have hP1 := eqT_parts (⟨yp, yd, yx⟩, yb) (⟨xp, xd, xx⟩, xb); have hP2 := eqT_parts (⟨zp, zd, zx⟩, zb) (⟨xp, xd, xx⟩, xb); have hP3 := eqT_parts (⟨yp, yd, yx⟩, yb) (⟨zp, zd, zx⟩, zb); have HP1 := hidE hP1; have HP2 := hidE hP2; have HP3 := hidE hP3; clear hP1 hP2 hP3; go_enter Tryd.func26, Tryd.ntmps26
 go_wp2_with fail
 refine H1.out.mono ?_; rintro e w1 ⟨rfl, hB1⟩; obtain ⟨V1, hV1⟩ : ∃ V1, w1.alloc (.cells #[.string xp, .bool xd, .string xx] 27) = V1 := ⟨_, rfl⟩
 have HV1 := hidE hV1; have hA1 : Below w1.heap.size w1 V1 := by rw [← hV1]; exact (Below.refl _ w1).alloc (Nat.le_refl _) _
 have HC1 := hidE (B3G hB1 hA1); clear hB1 hA1; go_wp2_with fail
 refine (H2.out _ HC1.out).mono ?_; rintro e w2 ⟨rfl, hB2⟩; obtain ⟨V2, hV2⟩ : ∃ V2, w2.alloc (.cells #[.string yp, .bool yd, .string yx] 27) = V2 := ⟨_, rfl⟩
 have HV2 := hidE hV2; have hA2 : Below w2.heap.size w2 V2 := by rw [← hV2]; exact (Below.refl _ w2).alloc (Nat.le_refl _) _
 have HC2 := hidE (B3G hB2 hA2); clear hB2 hA2; go_wp2_with fail
 refine (H3.out _ (B3G HC1.out HC2.out)).mono ?_; rintro e w3 ⟨rfl, hB3⟩; obtain ⟨V3, hV3⟩ : ∃ V3, w3.alloc (.cells #[.string zp, .bool zd, .string zx] 27) = V3 := ⟨_, rfl⟩
 have HV3 := hidE hV3; have hA3 : Below w3.heap.size w3 V3 := by rw [← hV3]; exact (Below.refl _ w3).alloc (Nat.le_refl _) _
 have HC3 := hidE (B3G hB3 hA3); clear hB3 hA3; have HD1 := hidE (B3G HC2.out HC3.out); have HD0 := hidE (B3G HC1.out HD1.out); obtain ⟨⟨r0, r1, r2⟩, f0, f1, f2⟩ := box3c (W := V3) (by rw [HW0.out]; exact HD0.out); obtain ⟨⟨x0, x1, x2⟩, -⟩ := box3c (W := V3) (by rw [HV1.out]; exact HD1.out); obtain ⟨⟨y0, y1, y2⟩, -⟩ := box3c (W := V3) (by rw [HV2.out]; exact HC3.out); obtain ⟨⟨z0, z1, z2⟩, -⟩ := box3c (W := V3) (by rw [HV3.out]; exact Below.refl _ _); have HBV := hidE (B3G HB.out HD0.out); clear HD1 HD0 HC1 HC2 HC3 H1 H2 H3; clear HP1 HP2 HP3; go_wp2
 all_goals
  refine atSet3 (C := bodyPost Tryd.prog Tryd.f26 _ _ _) r0 r1 r2 HBV.out (Nat.le_refl _) ?_; intro Wf s0 s1 s2 hBf; refine bodyPost_ret (v := .tuple #[encE (at3 ((⟨xp, xd, xx⟩ : E), xb) ((⟨yp, yd, yx⟩ : E), yb) ((⟨zp, zd, zx⟩ : E), zb)).1, .bool (at3 ((⟨xp, xd, xx⟩ : E), xb) ((⟨yp, yd, yx⟩ : E), yb) ((⟨zp, zd, zx⟩ : E), zb)).2.1, .bool (at3 ((⟨xp, xd, xx⟩ : E), xb) ((⟨yp, yd, yx⟩ : E), yb) ((⟨zp, zd, zx⟩ : E), zb)).2.2]) ?_ rfl ⟨rfl, hBf⟩; clear HB HBV hW0 HW0 HV1 HV2 HV3 hV1 hV2 hV3 r0 r1 r2 f0 f1 f2 x0 x1 x2 y0 y1 y2 z0 z1 z2 hBf; simp [results, Tryd.results26, go_sem, s0, s1, s2]
  first
   | (simp [at3, eqT, sameT1, noneE, *]; done)
   | (exfalso; simp_all; done)
   | (simp_all [at3, eqT, sameT1, noneE]; done)
end Go.Proofs.YtoaipphccjkphaaDoor.Mg
