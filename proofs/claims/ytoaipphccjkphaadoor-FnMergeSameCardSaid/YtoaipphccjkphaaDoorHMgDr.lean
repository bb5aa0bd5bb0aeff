import Derived.Test.YtoaipphccjkphaaDoorHDrawMg
import Derived.Test.YtoaipphccjkphaaDoorHMgFin
import Derived.Test.YtoaipphccjkphaaDoorHPk21
import Derived.Test.YtoaipphccjkphaaDoorHSameI
namespace Go.Proofs.YtoaipphccjkphaaDoor.Mg
open Go.RowKit Go.Lib
theorem LieB.row {w : World} {base n : Nat} {v : Value} {es : List E} (h : LieB w base v es) (hs : Small n es) (hn : n ≤ 100) : Row w v es := by
 obtain ⟨a, g, o, cap, e, h1, h2, h3, -⟩ := h; have := hs.1; exact ⟨a, g, o, cap, e, by omega, h3, fun x hx => ⟨by have := (hs.2 x hx).1; omega, by have := (hs.2 x hx).2; omega⟩, h1, h2⟩
set_option maxHeartbeats 1000000 in
theorem DrawMerge_any (w : World) (a : Option Addr) (len cap : Nat) (hl : len ≤ 1048576) (h : Cod w a len cap) :
  Calls Tryd.prog 12 #[.slice a len cap] w fun e w' => ∃ (v1 v2 v3 : Value) (t x y : List E), e = .returned (.tuple #[v1, v2, v3]) ∧ Row w' v1 t ∧ Row w' v2 x ∧ Row w' v3 y ∧ Below w.heap.size w w' := by
 have HC := hidR h; clear h; go_enter Tryd.func12, Tryd.ntmps12
 go_wp2_with fail
 refine (l10Open_any _ a len cap hl HC.out).mono ?_; rintro e w1 ⟨rfl, hR1, hB1⟩; have HR1 := hidR hR1; have HB1 := hidR hB1; clear hR1 hB1 HC; go_wp2_with fail
 refine (l8Some_any _ w.heap.size 0 (by decide) HR1.out).mono ?_; rintro e w2 ⟨v1, v2, v3, t, x, y, q, rfl, l1, z1, l2, z2, l3, z3, -, -, hK⟩; have H1 := hidR (LieB.row l1 z1 (by decide)); have H2 := hidR (LieB.row l2 z2 (by decide)); have H3 := hidR (LieB.row l3 z3 (by decide)); have HB2 := hidR (HB1.out.trans (hK.below (Nat.le_refl _) (Nat.le_of_lt HR1.out.lt))); clear l1 z1 l2 z2 l3 z3 hK; go_wp2
 exact bodyPost_ret (v := .tuple #[v1, v2, v3]) (by simp [results, Tryd.results12, go_sem]) rfl ⟨v1, v2, v3, t, x, y, rfl, H1.out, H2.out, H3.out, HB2.out⟩
theorem sameT_reM : ∀ es : List E, sameT es es = true
 | [] => rfl
 | e :: r => by
  show (sameT1 e e && sameT r r) = true
  rw [sameT_reM r, Bool.and_true]; unfold sameT1; simp
theorem Row.same {w : World} {v v' : Value} {es : List E} (h : Row w v es) (h' : Row w v' es) : Calls Tryd.prog 15 #[v, v'] w fun r w' => r = .returned (.bool true) ∧ Below w.heap.size w w' := by
 obtain ⟨a, g, o, cap, rfl, h1, h2, h3, h4, h5⟩ := h; obtain ⟨a', g', o', cap', rfl, k1, k2, k3, k4, k5⟩ := h'; have := iTreeSame_any w a g o cap es a' g' o' cap' es h1 k1 h4 k4 h5 k5; rw [sameT_reM] at this; exact this
theorem mergeE_len (t a b : List E) : (mergeE t a b).length ≤ 16 := by
 unfold mergeE
 split
 ·
  rename_i h
  unfold mergeB at h; rw [Bool.and_eq_true, Bool.and_eq_true] at h; exact (treeE_tr h.2.2).2
 ·
  exact Nat.zero_le _
theorem mergeE_sm {t a b : List E} (h1 : Sm t) (h2 : Sm a) (h3 : Sm b) : Sm (mergeE t a b) := by
 unfold mergeE
 split
 ·
  exact mergeL_sm h1 h2 h3 _
 ·
  intro e he; cases he
theorem iMg {w : World} {v1 v2 v3 : Value} {t a b : List E} {ae : Int → Addr} {bad : Value} (hE : Errs3 w ae bad) (h1 : Row w v1 t) (h2 : Row w v2 a) (h3 : Row w v3 b) (bb : Bool) (m : List E) (hb : mergeB t a b = bb) (hm : mergeE t a b = m) :
  Calls Tryd.prog 13 #[v1, v2, v3] w fun r w' => ∃ v, r = .returned (.tuple #[v, .bool bb]) ∧ Row w' v m ∧ Below w.heap.size w w' := by
 subst hb hm; refine (iMerge_any w v1 v2 v3 t a b ae bad hE h1 h2 h3).mono ?_; rintro e w' ⟨v, rfl, ho, hB⟩; exact ⟨v, rfl, OwnE.row ho (by have := mergeE_len t a b; omega) (mergeE_sm h1.sm h2.sm h3.sm), hB⟩
theorem sMg {w : World} {v1 v2 v3 : Value} {t a b : List E} (h1 : Row w v1 t) (h2 : Row w v2 a) (h3 : Row w v3 b) (bb : Bool) (m : List E) (hb : mergeB t a b = bb) (hm : mergeE t a b = m) :
  Calls Tryd.prog 14 #[v1, v2, v3] w fun r w' => ∃ v, r = .returned (.tuple #[v, .bool bb]) ∧ Row w' v m ∧ Below w.heap.size w w' := by
 subst hb hm; refine (sMerge_any w v1 v2 v3 t a b h1 h2 h3).mono ?_; rintro e w' ⟨v, rfl, ho, hB⟩; exact ⟨v, rfl, OwnE.row ho (by have := mergeE_len t a b; omega) (mergeE_sm h1.sm h2.sm h3.sm), hB⟩
end Go.Proofs.YtoaipphccjkphaaDoor.Mg
