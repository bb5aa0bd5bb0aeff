import Derived.Test.YtoaipphccjkphaaDoorHDrawTree
namespace Go.Proofs.YtoaipphccjkphaaDoor
open Go.RowKit Go.Lib
def LieB (w : World) (base : Nat) (v : Value) (es : List E) : Prop := ∃ a g o cap, v = .slice a es.length cap ∧ (0 < es.length → a = some ⟨g, o, none⟩) ∧ Ents w g o es ∧ es.length ≤ cap ∧ (0 < es.length → base ≤ g)
def Small (n : Nat) (es : List E) : Prop := es.length ≤ n ∧ ∀ e ∈ es, e.p.size ≤ 16 ∧ e.x.size ≤ 16
theorem OwnE.lieB {w : World} {base : Nat} {v : Value} {es : List E} (h : OwnE w base v es) : LieB w base v es := by
 obtain ⟨a, g, cap, h1, h2, h3, h4, h5⟩ := h.at; exact ⟨a, g, 0, cap, h1, h2, h3, h4, h5⟩
theorem LieB.below {w w' : World} {base : Nat} {v : Value} {es : List E} (h : LieB w base v es) (k : Below w.heap.size w w') : LieB w' base v es := by
 obtain ⟨a, g, o, cap, h1, h2, h3, h4, h5⟩ := h; exact ⟨a, g, o, cap, h1, h2, h3.below k, h4, h5⟩
theorem LieB.lower {w : World} {base b : Nat} {v : Value} {es : List E} (h : LieB w base v es) (hb : b ≤ base) : LieB w b v es := by
 obtain ⟨a, g, o, cap, h1, h2, h3, h4, h5⟩ := h; exact ⟨a, g, o, cap, h1, h2, h3, h4, fun q => Nat.le_trans hb (h5 q)⟩
theorem OwnE.unfrozen {w : World} {base : Nat} {a : Option Addr} {n cap : Nat} {es : List E} (h : OwnE w base (.slice a n cap) es) {g : Nat} (hg : a = some ⟨g, 0, none⟩) (i : Nat) : w.frozen? ⟨g, i, none⟩ = false := by
 obtain ⟨_, ⟨e0, _⟩ | ⟨g', cap', cur, e5, _, hh, _⟩⟩ := h
 ·
  rw [hg] at e0; cases e0
 ·
  rw [hg] at e5; cases e5; unfold World.frozen?; rw [hh]; simp
theorem small_set {n k : Nat} {es : List E} (h : Small n es) (e : E) (he : e.p.size ≤ 16 ∧ e.x.size ≤ 16) : Small n (es.set k e) := by
 refine ⟨by rw [List.length_set]; exact h.1, fun f hf => ?_⟩; rcases List.mem_or_eq_of_mem_set hf with q | q
 ·
  exact h.2 f q
 ·
  rw [q]; exact he
theorem Ents.set0 {w : World} {g o k : Nat} {es : List E} (h : Ents w g o es) (hk : k < es.length) (z : ByteArray) : Ents (w.setCell ⟨g, o + k * 3, none⟩ (.string z)) g o (es.set k ⟨z, es[k].d, es[k].x⟩) := by
 intro i hi; rw [List.length_set] at hi; obtain ⟨c0, c1, c2⟩ := h i hi; by_cases hik : k = i
 ·
  subst hik; simp only [List.getElem_set_self]; exact ⟨cell_eq' _ c0, (cell_ne' _ _ _ _ _ (by omega)).trans c1, (cell_ne' _ _ _ _ _ (by omega)).trans c2⟩
 ·
  rw [List.getElem_set_ne hik]; exact ⟨(cell_ne' _ _ _ _ _ (by omega)).trans c0, (cell_ne' _ _ _ _ _ (by omega)).trans c1, (cell_ne' _ _ _ _ _ (by omega)).trans c2⟩
theorem Ents.set1 {w : World} {g o k : Nat} {es : List E} (h : Ents w g o es) (hk : k < es.length) (z : Bool) : Ents (w.setCell ⟨g, o + k * 3 + 1, none⟩ (.bool z)) g o (es.set k ⟨es[k].p, z, es[k].x⟩) := by
 intro i hi; rw [List.length_set] at hi; obtain ⟨c0, c1, c2⟩ := h i hi; by_cases hik : k = i
 ·
  subst hik; simp only [List.getElem_set_self]; exact ⟨(cell_ne' _ _ _ _ _ (by omega)).trans c0, cell_eq' _ c1, (cell_ne' _ _ _ _ _ (by omega)).trans c2⟩
 ·
  rw [List.getElem_set_ne hik]; exact ⟨(cell_ne' _ _ _ _ _ (by omega)).trans c0, (cell_ne' _ _ _ _ _ (by omega)).trans c1, (cell_ne' _ _ _ _ _ (by omega)).trans c2⟩
theorem Ents.set2 {w : World} {g o k : Nat} {es : List E} (h : Ents w g o es) (hk : k < es.length) (z : ByteArray) : Ents (w.setCell ⟨g, o + k * 3 + 2, none⟩ (.string z)) g o (es.set k ⟨es[k].p, es[k].d, z⟩) := by
 intro i hi; rw [List.length_set] at hi; obtain ⟨c0, c1, c2⟩ := h i hi; by_cases hik : k = i
 ·
  subst hik; simp only [List.getElem_set_self]; exact ⟨(cell_ne' _ _ _ _ _ (by omega)).trans c0, (cell_ne' _ _ _ _ _ (by omega)).trans c1, cell_eq' _ c2⟩
 ·
  rw [List.getElem_set_ne hik]; exact ⟨(cell_ne' _ _ _ _ _ (by omega)).trans c0, (cell_ne' _ _ _ _ _ (by omega)).trans c1, (cell_ne' _ _ _ _ _ (by omega)).trans c2⟩
set_option maxHeartbeats 2000000 in
set_option maxRecDepth 100000 in
theorem l2Bent_any (w : World) (r p base n : Nat) (v : Value) (es : List E) (hp : p ≤ 9000) (_hrb : r < base) (hbw : base ≤ w.heap.size) (hL : LieB w base v es) (hS : Small n es) (hn : n ≤ 60) (h : Rd w r p) :
  Calls Tryd.prog 44 #[.pointer (some ⟨r, 0, none⟩), v] w fun e w' => ∃ (v' : Value) (es' : List E) (q : Nat), e = .returned v' ∧ LieB w' base v' es' ∧ Small (n + 1) es' ∧ q ≤ p + 3 ∧ Rd w' r q ∧ Kept r w w' := by
 have hr := h.lt; obtain ⟨a, g, o, cap, rfl, ha, hE, hcap, hgb⟩ := hL; have hlen := hS.1; have HS := hidR hS; have HA := hidR ha; have HB0 := hidR ((Below.refl w.heap.size w).alloc (Nat.le_refl _) (.cells #[] 27)); have HE := hidR (hE.below HB0.out); have HR0 := hidR h; clear hE ha hgb hS h; go_enter Tryd.func44, Tryd.ntmps44
 go_wp2_with (first
  | (at_builtin; refine wpE_append rfl _ _ rfl w.heap.size (.slice (some ⟨w.heap.size, 0, none⟩) 0 0) [] rfl (OwnE.made w (Nat.le_refl _)) _ _ g o es es.length rfl rfl HA.out HE.out ?cc1 ?cc2 ?_)
  | fail)
 case cc1 => show 0 + _ ≤ _; omega
 case cc2 => exact HB0.out.size
 intro v5 w5 ho5 hg5; have HB5 := hidR (HB0.out.grown hg5 HB0.out.size (fun q hq => (World.ownsRow.lt (OwnE.made w (base := w.heap.size) (Nat.le_refl _)) q hq).1)); have HO5 : Hid (OwnE w5 w.heap.size v5 es) := ho5; have HR5 := hidR (HR0.out.below HB5.out); have hw5 := HB5.out.size; clear ho5 hg5; obtain ⟨a5, g5, cap5, rfl, ha5, hE5, hcap5, hgb5⟩ := HO5.out.at; by_cases h0 : es.length = 0
 ·
  go_wp2
  go_ret
  exact ⟨_, es, _, rfl, ⟨_, g5, 0, cap5, rfl, ha5, hE5, hcap5, fun h => by omega⟩, ⟨Nat.le_succ_of_le HS.out.1, HS.out.2⟩, Nat.le_add_right _ _, HR5.out, Kept.of_below HB5.out⟩
 ·
  have h0' : ((es.length : Int) == 0) = false := by rw [beq_eq_false_iff_ne]; omega
  obtain rfl := ha5 (by omega); have hgb5 := hgb5 (by omega); have HG : Hid (0 < es.length → g5 ≠ r) := fun _ => by omega
  have HE5 := hidR hE5; clear hE5 ha5; go_wp2_with fail
  refine (pick_any _ r p _ (by omega) (by omega) (by omega) HR5.out).mono ?_; rintro e w6 ⟨jj, rfl, jj0, jj1, hR, hK⟩; obtain ⟨i, rfl⟩ := Int.eq_ofNat_of_zero_le jj0; have hi : i < es.length := by omega
  have HR6 := hidR hR; have HK6 := hidR ((Kept.of_below (r := r) HB5.out).trans hK); have HO6 := hidR (HO5.out.kept hr hK); have HE6 := hidR (HE5.out.kept hK HG.out); clear hR hK HR5 HB5 HO5 HE5; go_wp2_with fail
  refine (pick_any _ r (p + 1) _ (by decide) (by decide) (by omega) HR6.out).mono ?_; rintro e w7 ⟨j, rfl, j0, j1, hR, hK⟩; have HR7 := hidR hR; have HK7 := hidR (HK6.out.trans hK); have HO7 := hidR (HO6.out.kept hr hK); have HE7 := hidR (HE6.out.kept hK HG.out); have hw7 := HK7.out.2.2.2.1; have hrw7 := hR.lt; clear hR hK HR6 HK6 HO6 HE6
  have hj : j = 0 ∨ j = 1 ∨ j = 2 ∨ j = 3 ∨ j = 4 ∨ (5 ≤ j ∧ (j == 0) = false ∧ (j == 1) = false ∧ (j == 2) = false ∧ (j == 3) = false ∧ (j == 4) = false) := by
   by_cases h5 : 5 ≤ j
   ·
    exact .inr (.inr (.inr (.inr (.inr ⟨h5, by rw [beq_eq_false_iff_ne]; omega, by rw [beq_eq_false_iff_ne]; omega, by rw [beq_eq_false_iff_ne]; omega, by rw [beq_eq_false_iff_ne]; omega, by rw [beq_eq_false_iff_ne]; omega⟩))))
   ·
    omega
  rcases hj with rfl | rfl | rfl | rfl | rfl | ⟨hj5, n0, n1, n2, n3, n4⟩
  ·
   obtain ⟨c0, c1, c2⟩ := HE7.out i hi; rw [Nat.zero_add] at c0 c1 c2; go_wp2_with (at_builtin; refine wpE_append rfl _ _ rfl w.heap.size (.slice (some ⟨g5, 0, none⟩) es.length cap5) es rfl (World.ownsRow.alloc HO7.out _) _ _ w7.heap.size 0 [es[i]] 1 rfl rfl (fun _ => rfl) (ents_new _ _) ?cd1 ?cd2 ?_)
   case cd1 => simp; omega
   case cd2 => simp; omega
   intro v8 w8 ho8 hg8; have hBa : Below w7.heap.size w7 (w7.alloc (.cells #[.string es[i].p, .bool es[i].d, .string es[i].x] 27)) := (Below.refl _ w7).alloc (Nat.le_refl _) _; have hk8 : Kept g5 (w7.alloc (.cells #[.string es[i].p, .bool es[i].d, .string es[i].x] 27)) w8 := ⟨hg8.os, hg8.tape, hg8.output, hg8.size, fun b hb hne => hg8.block b hb (fun q => hne (by simp [Value.ownBlock] at q; first | exact q | exact q.symm))⟩
   have HK8 := hidR (Kn.other (Kn.step (n := w.heap.size) HK7.out (Nat.le_refl _) (Kept.alloc w7 _)) (Nat.le_refl _) hgb5 hk8); have HR8 := hidR ((HR7.out.below hBa).keep hk8 (by omega)); clear hk8 hBa; have HO8 : Hid (OwnE w8 w.heap.size v8 (es ++ [es[i]])) := ho8
   have HS8 : Hid (Small (n + 1) (es ++ [es[i]])) := ⟨by rw [List.length_append]; have := HS.out.1; simp; omega, fun e he => by
    rcases List.mem_append.1 he with q | q
    ·
     exact HS.out.2 e q
    ·
     rw [List.mem_singleton.1 q]; exact HS.out.2 _ (List.getElem_mem _)⟩
   clear hg8 ho8; go_wp2
   go_ret
   exact ⟨_, es ++ [es[i]], _, rfl, HO8.out.lieB.lower hbw, HS8.out, by omega, HR8.out, HK8.out⟩
  ·
   go_wp2_with fail
   refine (of_P okS _ r (p + 1 + 1) w7.heap.size 4 4 (by decide) (by decide) (by omega) (by omega) (LstP.new okS w7 [⟨#[47]⟩, ⟨#[47, 97, 47, 98, 47, 99, 47, 100]⟩, ⟨#[47, 65]⟩, ⟨#[47, 99, 47, 99]⟩] 9 (by decide +kernel)) (HR7.out.below ((Below.refl _ w7).alloc (Nat.le_refl _) _))).mono ?_; rintro e w8 ⟨z, rfl, hz, hR, hK⟩; have hK' := (Kept.alloc w7 _).trans hK; have HO8 := hidR (HO7.out.kept hr hK'); obtain ⟨c0, c1, c2⟩ := HE7.out.kept hK' HG.out i hi; rw [Nat.zero_add] at c0 c1 c2; have f0 := HO8.out.unfrozen rfl; have HK8 := hidR ((Kn.step HK7.out (Nat.le_refl _) hK').other (Nat.le_refl _) hgb5 (Kept.setCell (r := g5) w8 (i * 3) (.string z))); have HR8 := hidR (hR.keep (Kept.setCell (r := g5) w8 (i * 3) (.string z)) (by omega)); have HE8 := hidR ((HE7.out.kept hK' HG.out).set0 hi z); rw [Nat.zero_add] at HE8; have HS8 := hidR (small_set (k := i) HS.out ⟨z, es[i].d, es[i].x⟩ ⟨okS_size hz, (HS.out.2 es[i] (List.getElem_mem _)).2⟩); clear hR hK hK' HK7 HR7 HE7 HO7; go_wp2
   go_ret
   exact ⟨_, es.set i ⟨z, es[i].d, es[i].x⟩, _, rfl, ⟨_, g5, 0, cap5, by rw [List.length_set]; rfl, fun _ => rfl, HE8.out, by rw [List.length_set]; exact hcap5, fun _ => by omega⟩, ⟨Nat.le_succ_of_le HS8.out.1, HS8.out.2⟩, by omega, HR8.out, HK8.out⟩
  ·
   obtain ⟨c0, c1, c2⟩ := HE7.out i hi; rw [Nat.zero_add] at c0 c1 c2; have f0 := HO7.out.unfrozen rfl; have HK8 := hidR (Kn.other HK7.out (Nat.le_refl _) hgb5 (Kept.setCell (r := g5) w7 (i * 3 + 1) (.bool (!es[i].d)))); have HR8 := hidR (HR7.out.keep (Kept.setCell (r := g5) w7 (i * 3 + 1) (.bool (!es[i].d))) (by omega)); have HE8 := hidR (HE7.out.set1 hi (!es[i].d)); rw [Nat.zero_add] at HE8; have HS8 := hidR (small_set (k := i) HS.out ⟨es[i].p, !es[i].d, es[i].x⟩ (HS.out.2 es[i] (List.getElem_mem _))); clear HK7 HR7 HE7 HO7; go_wp2
   go_ret
   exact ⟨_, es.set i ⟨es[i].p, !es[i].d, es[i].x⟩, _, rfl, ⟨_, g5, 0, cap5, by rw [List.length_set]; rfl, fun _ => rfl, HE8.out, by rw [List.length_set]; exact hcap5, fun _ => by omega⟩, ⟨Nat.le_succ_of_le HS8.out.1, HS8.out.2⟩, by omega, HR8.out, HK8.out⟩
  ·
   go_wp2_with fail
   refine (of_P okS _ r (p + 1 + 1) w7.heap.size 3 3 (by decide) (by decide) (by omega) (by omega) (LstP.new okS w7 [⟨#[113]⟩, ⟨#[65]⟩, ⟨#[97, 98, 99, 100, 101, 102, 103]⟩] 9 (by decide +kernel)) (HR7.out.below ((Below.refl _ w7).alloc (Nat.le_refl _) _))).mono ?_; rintro e w8 ⟨z, rfl, hz, hR, hK⟩; have hK' := (Kept.alloc w7 _).trans hK; have HO8 := hidR (HO7.out.kept hr hK'); obtain ⟨c0, c1, c2⟩ := HE7.out.kept hK' HG.out i hi; rw [Nat.zero_add] at c0 c1 c2; have f0 := HO8.out.unfrozen rfl; have HK8 := hidR ((Kn.step HK7.out (Nat.le_refl _) hK').other (Nat.le_refl _) hgb5 (Kept.setCell (r := g5) w8 (i * 3 + 2) (.string z))); have HR8 := hidR (hR.keep (Kept.setCell (r := g5) w8 (i * 3 + 2) (.string z)) (by omega)); have HE8 := hidR ((HE7.out.kept hK' HG.out).set2 hi z); rw [Nat.zero_add] at HE8; have HS8 := hidR (small_set (k := i) HS.out ⟨es[i].p, es[i].d, z⟩ ⟨(HS.out.2 es[i] (List.getElem_mem _)).1, okS_size hz⟩); clear hR hK hK' HK7 HR7 HE7 HO7; go_wp2
   go_ret
   exact ⟨_, es.set i ⟨es[i].p, es[i].d, z⟩, _, rfl, ⟨_, g5, 0, cap5, by rw [List.length_set]; rfl, fun _ => rfl, HE8.out, by rw [List.length_set]; exact hcap5, fun _ => by omega⟩, ⟨Nat.le_succ_of_le HS8.out.1, HS8.out.2⟩, by omega, HR8.out, HK8.out⟩
  ·
   have HD := hidR (ents_drop HE7.out 3 1 (.inl rfl)); have HSd : Hid (Small (n + 1) (es.drop 1)) := ⟨by rw [List.length_drop]; have := HS.out.1; omega, fun e he => HS.out.2 e (List.mem_of_mem_drop he)⟩
   by_cases h1 : cap5 ≤ 1
   ·
    have h1' : cap5 = 1 := by omega
    subst h1'; have HD2 : Hid (es.drop 1 = []) := List.drop_eq_nil_of_le (by omega); go_wp2
    go_ret
    exact ⟨_, es.drop 1, _, rfl, ⟨some ⟨g5, 0, none⟩, g5, 3, 0, by rw [HD2.out]; rfl, fun h => absurd h (by rw [HD2.out]; simp), HD.out, by rw [HD2.out]; simp, fun h => absurd h (by rw [HD2.out]; simp)⟩, HSd.out, by omega, HR7.out, HK7.out⟩
   ·
    go_wp2
    go_ret
    exact ⟨_, es.drop 1, _, rfl, ⟨some ⟨g5, 3, none⟩, g5, 3, cap5 - 1, by rw [List.length_drop]; rfl, fun _ => rfl, HD.out, by rw [List.length_drop]; omega, fun _ => by omega⟩, HSd.out, by omega, HR7.out, HK7.out⟩
  ·
   go_wp2
   go_ret
   exact ⟨_, es, _, rfl, ⟨_, g5, 0, cap5, rfl, fun _ => rfl, HE7.out, hcap5, fun _ => by omega⟩, ⟨Nat.le_succ_of_le HS.out.1, HS.out.2⟩, by omega, HR7.out, HK7.out⟩
end Go.Proofs.YtoaipphccjkphaaDoor
