import Derived.Test.YteppodogghjfhabGreatDoorHOvOf
import Derived.Test.YteppodogghjfhabGreatDoorHPk45
import Derived.Test.YteppodogghjfhabGreatDoorHPk41
namespace Go.Proofs.YteppodogghjfhabGreatDoor.Ly
open Go.RowKit Go.Lib
theorem jn_partsF {a b : List Mk.E} (h : Mk.jnB a b = true) : Mk.layB a = true ∧ Mk.layB b = true ∧ Mk.jnE a b = tidyM (joinM a b) ∧ Mk.layB (tidyM (joinM a b)) = true := by
 have hq : Mk.jnE a b = tidyM (joinM a b) := by unfold Mk.jnE; rw [h]; rfl
 unfold Mk.jnB at h; rw [Bool.and_eq_true, Bool.and_eq_true, decide_eq_true_eq] at h; obtain ⟨⟨h1, h2⟩, h3⟩ := h; exact ⟨h1, h2, hq, rt_lay (join_rt (lay_rt h1) (lay_rt h2)) h3⟩
theorem jn_szF {a b : List Mk.E} (hz : ∀ e ∈ a, e.p.size ≤ 16777216 ∧ e.x.size ≤ 16777216) (hz' : ∀ e ∈ b, e.p.size ≤ 16777216 ∧ e.x.size ≤ 16777216) : (Mk.jnE a b).length ≤ 32 ∧ ∀ e ∈ Mk.jnE a b, e.p.size ≤ 16777216 ∧ e.x.size ≤ 16777216 := by
 cases h : Mk.jnB a b with
 | false =>
  have : Mk.jnE a b = [] := by unfold Mk.jnE; rw [h]; rfl
  rw [this]; exact ⟨Nat.zero_le _, fun e he => by cases he⟩
 | true =>
  obtain ⟨g1, g2, g3, g4⟩ := jn_partsF h; refine ⟨by rw [g3]; exact Mk.lay_len g4, fun e he => ?_⟩; rw [g3] at he; obtain ⟨m, hm, hl⟩ := (tidy_mem (join_tr (lay_tr' g1) (lay_tr' g2)) e).1 he; have hmz := Mk.join_sz (lay_tr' g1) (lay_tr' g2) hz hz' m hm; refine ⟨by rw [left_path hl]; exact hmz.1, ?_⟩; unfold leftM at hl
  split at hl
  ·
   split at hl
   ·
    cases hl
   ·
    split at hl
    ·
     cases hl; exact hmz.2
    ·
     cases hl; exact hmz.2
  ·
   cases hl; exact hmz.2
end Go.Proofs.YteppodogghjfhabGreatDoor.Ly
namespace Go.Proofs.YteppodogghjfhabGreatDoor.Ov
open Go.RowKit Go.Lib Go.Sort
def jB : List (List Mk.E) → List Mk.E → Bool
 | [], _ => true
 | l :: r, a => Mk.jnB l a && jB r (Mk.jnE l a)
def jE : List (List Mk.E) → List Mk.E → List Mk.E
 | [], a => a
 | l :: r, a => jE r (Mk.jnE l a)
theorem jB_app : ∀ (a b : List (List Mk.E)) (t : List Mk.E), jB (a ++ b) t = (jB a t && jB b (jE a t))
 | [], b, t => by simp [jB, jE]
 | l :: r, b, t => by
  show (Mk.jnB l t && jB (r ++ b) (Mk.jnE l t)) = ((Mk.jnB l t && jB r (Mk.jnE l t)) && jB b (jE r (Mk.jnE l t)))
  rw [jB_app r b, Bool.and_assoc]
theorem jE_app : ∀ (a b : List (List Mk.E)) (t : List Mk.E), jE (a ++ b) t = jE b (jE a t)
 | [], _, _ => rfl
 | l :: r, b, t => by
  show jE (r ++ b) (Mk.jnE l t) = jE b (jE r (Mk.jnE l t))
  exact jE_app r b _
theorem jB_succ {ls : List (List Mk.E)} {t : List Mk.E} {k : Nat} (h : k < ls.length) : jB (ls.take (k + 1)) t = (jB (ls.take k) t && Mk.jnB ls[k] (jE (ls.take k) t)) := by
 rw [List.take_succ_eq_append_getElem h, jB_app]; show (_ && (Mk.jnB _ _ && true)) = _
 rw [Bool.and_true]
theorem jE_succ {ls : List (List Mk.E)} {t : List Mk.E} {k : Nat} (h : k < ls.length) : jE (ls.take (k + 1)) t = Mk.jnE ls[k] (jE (ls.take k) t) := by
 rw [List.take_succ_eq_append_getElem h, jE_app]; rfl
theorem jB_cut {ls : List (List Mk.E)} {t : List Mk.E} {k : Nat} (h : k < ls.length) (hn : Mk.jnB ls[k] (jE (ls.take k) t) = false) : jB ls t = false := by
 have h1 : jB (ls.take (k + 1)) t = false := by rw [jB_succ h, hn, Bool.and_false]
 have h2 := jB_app (ls.take (k + 1)) (ls.drop (k + 1)) t; rw [List.take_append_drop, h1, Bool.false_and] at h2; exact h2
theorem jE_sz : ∀ (ls : List (List Mk.E)) (t : List Mk.E), (∀ l ∈ ls, SmM l) → SmM t → SmM (jE ls t)
 | [], _, _, h => h
 | l :: r, _, hl, h => jE_sz r _ (fun k hk => hl k (List.mem_cons_of_mem _ hk)) (Ly.jn_szF (hl l (List.mem_cons_self ..)) h).2
theorem jE_len : ∀ (ls : List (List Mk.E)) (t : List Mk.E), (∀ l ∈ ls, SmM l) → SmM t → t.length ≤ 32 → (jE ls t).length ≤ 32
 | [], _, _, _, h => h
 | l :: r, _, hl, hs, _ => jE_len r _ (fun k hk => hl k (List.mem_cons_of_mem _ hk)) (Ly.jn_szF (hl l (List.mem_cons_self ..)) hs).2 (Ly.jn_szF (hl l (List.mem_cons_self ..)) hs).1
def hdL (x : O) : List Mk.E := x.l.headD []
def flJ (x : O) : Bool := decide (2 ≤ x.l.length) && jB (x.l.drop 1) (hdL x)
def flB (x : O) : Bool := okB x && flJ x
def flO (x : O) : O := if okB x = true then (if flJ x = true then ⟨x.b, [jE (x.l.drop 1) (hdL x)], x.u⟩ else x) else ⟨[], [], []⟩
theorem head_at (ls : List (List Mk.E)) (h : 0 < ls.length) : ls.headD [] = ls[0] := by
 cases ls with
 | nil => exact absurd h (by simp)
 | cons a r => rfl
theorem drop_at {x : O} {k : Nat} (h : k + 1 < x.l.length) : (x.l.drop 1)[k]'(by rw [List.length_drop]; omega) = x.l[k + 1] := by
 rw [List.getElem_drop]; congr 1; omega
theorem RM.sJoin {w : World} {v v' : Value} {l t : List Mk.E} (h : RM w v l) (h' : RM w v' t) :
  Calls Tryz.prog 36 #[v, v'] w fun r w' => ∃ u, r = .returned (.tuple #[u, .bool (Mk.jnB l t)]) ∧ RM w' u (Mk.jnE l t) ∧ Below w.heap.size w w' := by
 obtain ⟨a, g, o, cap, rfl, h1, h2, h3, h4, h5⟩ := h; obtain ⟨a', g', o', cap', rfl, k1, k2, k3, k4, k5⟩ := h'; refine (Mk.sLayerJoin_any w a g o cap l a' g' o' cap' t h1 k1 h2 k2 h3 k3 h4 k4 h5 k5).mono ?_; rintro e w1 ⟨u, rfl, ho, hB⟩; have := Ly.jn_szF h3 k3; exact ⟨u, rfl, own_rm ho (by omega) this.2, hB⟩
theorem RM.iJoin {w : World} {v v' : Value} {l t : List Mk.E} (h : RM w v l) (h' : RM w v' t) :
  Calls Tryz.prog 55 #[v, v'] w fun r w' => ∃ u, r = .returned (.tuple #[u, .bool (Mk.jnB l t)]) ∧ Mk.OwnE w' w.heap.size u (Mk.jnE l t) ∧ RM w' u (Mk.jnE l t) ∧ Below w.heap.size w w' := by
 obtain ⟨a, g, o, cap, rfl, h1, h2, h3, h4, h5⟩ := h; obtain ⟨a', g', o', cap', rfl, k1, k2, k3, k4, k5⟩ := h'; refine (Mk.iLayerJoin_any w a g o cap l a' g' o' cap' t (by omega) (by omega) h3 k3 h4 k4 h5 k5).mono ?_; rintro e w1 ⟨u, rfl, ho, hB⟩; have := Ly.jn_szF h3 k3; exact ⟨u, rfl, ho, own_rm ho (by omega) this.2, hB⟩
theorem ents_ne {w : World} {g o b : Nat} {es : List Mk.E} {a1 a2 a3 : Option Addr} {n1 n2 n3 c1 c2 c3 : Nat} {T : TypeId} {f : Nat × Nat} (h : Mk.Ents w g o es) (hp : 0 < es.length) (hb : w.heap[b]? = some (.cells #[.slice a1 n1 c1, .slice a2 n2 c2, .slice a3 n3 c3] T f)) : g ≠ b := by
 rintro rfl; have c := (h 0 hp).1; rw [cell_of_row w g _ _ _ _ hb] at c; rcases ho : o + 0 * 3 with _ | _ | _ | n <;> rw [ho] at c <;> simp at c
theorem RM.kept3 {w w' : World} {v : Value} {es : List Mk.E} {b : Nat} {a1 a2 a3 : Option Addr} {n1 n2 n3 c1 c2 c3 : Nat} {T : TypeId} {f : Nat × Nat} (h : RM w v es) (hb : w.heap[b]? = some (.cells #[.slice a1 n1 c1, .slice a2 n2 c2, .slice a3 n3 c3] T f)) (hg : OnlyB3 b w w') : RM w' v es := by
 obtain ⟨a, g, o, cap, rfl, h1, h2, h3, h4, h5⟩ := h; refine ⟨a, g, o, cap, rfl, h1, h2, h3, h4, fun i hi => ?_⟩; have hne := ents_ne h5 (by omega) hb; obtain ⟨q0, q1, q2⟩ := h5 i hi; have k : ∀ j v, w.cell? ⟨g, j, none⟩ = some v → w'.cell? ⟨g, j, none⟩ = some v := fun j v q => (World.cell?_of_block (w := w) (a := ⟨g, j, none⟩) (hg.block g hne)).trans q; exact ⟨k _ _ q0, k _ _ q1, k _ _ q2⟩
set_option maxHeartbeats 4000000 in
set_option maxRecDepth 100000 in
theorem sOverFlat_any (w : World) (v : Value) (x : O) (h : Lie w v x) :
  Calls Tryz.prog 13 #[v] w fun r w' => ∃ u, r = .returned (.tuple #[u, .bool (flB x)]) ∧ Lie w' u (flO x) ∧ Below w.heap.size w w' := by
 have hL := h; have hs := h.sm; obtain ⟨v0, v1, v2, rfl, h0, h1, h2⟩ := h; obtain ⟨a0, g0, o0, c0, rfl, hb0, -⟩ := id h0; obtain ⟨a1, g1, o1, c1, rfl, hb1, -⟩ := id h1; obtain ⟨a2, g2, o2, c2, rfl, hb2, -⟩ := id h2
 have HSz := hidE (fun l (hl : l ∈ x.l) => (show l.length ≤ 1048576 ∧ SmM l from by
  obtain ⟨_, _, _, _, _, _, _, _, q⟩ := h1; obtain ⟨i, hi, rfl⟩ := List.getElem_of_mem hl; obtain ⟨u, _, ⟨_, _, _, _, _, q1, _, q3, _⟩⟩ := q i hi
  exact ⟨q1, q3⟩))
 obtain ⟨V, hV⟩ : ∃ V, w.alloc (.cells #[.slice a0 x.b.length c0, .slice a1 x.l.length c1, .slice a2 x.u.length c2] 32) = V := ⟨_, rfl⟩
 have hX : C3 V w.heap.size (.slice a0 x.b.length c0) (.slice a1 x.l.length c1) (.slice a2 x.u.length c2) := by rw [← hV]; exact C3.new _ _ _ _ _
 have hVs : V.heap.size = w.heap.size + 1 := by rw [← hV]; simp
 have hVb : Below w.heap.size w V := by rw [← hV]; exact (Below.refl _ w).alloc (Nat.le_refl _) _
 obtain ⟨W0, hW0⟩ : ∃ W0, V.alloc (.cells #[.slice none 0 0, .slice none 0 0, .slice none 0 0] 32) = W0 := ⟨_, rfl⟩
 have hb1' : Below V.heap.size V W0 := by rw [← hW0]; exact (Below.refl _ V).alloc (Nat.le_refl _) _
 have hz0 : W0.heap.size = w.heap.size + 2 := by rw [← hW0]; simp [hVs]
 have hR : W0.heap[w.heap.size + 1]? = some (.cells #[.slice none 0 0, .slice none 0 0, .slice none 0 0] 32 (0, 0)) := by rw [← hW0, ← hVs]; exact heap_alloc_new V _
 have HX := hidE (fun (W : World) (hb : Below W0.heap.size W0 W) => (hX.below hb1').below hb); have HB := hidE (B3 hVb hb1'); have HR := hidE hR; have HS := hidE hs; have HO := hidE (sOverOk_any W0 _ x (hL.below (B3 hVb hb1'))); have HCp := hidE (fun (W : World) (hb : Below W0.heap.size W0 W) => sl4Copy_any W _ x ((hL.below (B3 hVb hb1')).below hb)); have HLo := hidE (fun (W : World) (hb : Below W0.heap.size W0 W) => sl4Lower_any W _ x ((hL.below (B3 hVb hb1')).below hb)); clear h0 h1 h2 hL hX hVb hb1' hR hs; obtain ⟨k0, k1, k2, -, -, -⟩ := HX.out W0 (Below.refl _ _); go_enter Tryz.func13, Tryz.ntmps13
 go_wp2_with fail
 refine HO.out.mono ?_; rintro e w1 ⟨rfl, hB⟩; have HB1 := hidE hB; have HR1 := hidE (blk_below HR.out hB); clear hB k0 k1 k2 hW0 hV HO HR; cases hok : okB x with
 | false =>
  have HK := hidE hok; have hzr := HR1.out; have hBb := B3 HB.out HB1.out; clear hok; obtain ⟨⟨q0, q0'⟩, q1, q2⟩ := set3_rules hzr; have q1a := fun u => (q1 u).1; have q1b := fun u => (q1 u).2; have q2a := fun u x => (q2 u x).1; have q2b := fun u x => (q2 u x).2; clear q1 q2; go_wp2
  have s3 := set3_is hzr (.slice none 0 0) (.slice none 0 0) (.slice none 0 0); have z0 := cell_of_row _ (w.heap.size + 1) 0 _ _ _ s3.2; have z1 := cell_of_row _ (w.heap.size + 1) 1 _ _ _ s3.2; have z2 := cell_of_row _ (w.heap.size + 1) 2 _ _ _ s3.2; exact bodyPost_ret (v := .tuple #[.agg #[.slice none 0 0, .slice none 0 0, .slice none 0 0], .bool false]) (by simp [results, Tryz.f13, go_sem, z0, z1, z2]) rfl ⟨_, by unfold flB; rw [HK.out]; rfl, by unfold flO; rw [HK.out]; exact lie_nil _, s3.1.below hBb (by omega)⟩
 | true =>
  have HK := hidE hok; clear hok; obtain ⟨k0, k1, k2, -, -, -⟩ := HX.out w1 HB1.out; go_wp2_with fail
  refine (HCp.out _ HB1.out).mono ?_; rintro e w2 ⟨u, rfl, -, hC, hB⟩; have HB2 := hidE (B3 HB1.out hB); have HR2 := hidE (blk_below HR1.out hB); have hz2 := hB.size; have hz1 := HB1.out.size; obtain ⟨p0, d0, p1, d1, p2, d2, rfl⟩ := hC.ex; obtain ⟨U, hU⟩ : ∃ U, w2.alloc (.cells #[.slice p0 x.b.length d0, .slice p1 x.l.length d1, .slice p2 x.u.length d2] 32) = U := ⟨_, rfl⟩
  have hUb : Below w2.heap.size w2 U := by rw [← hU]; exact (Below.refl _ w2).alloc (Nat.le_refl _) _
  have hUs : U.heap.size = w2.heap.size + 1 := by rw [← hU]; simp
  have hUk : U.heap[w2.heap.size]? = some (.cells #[.slice p0 x.b.length d0, .slice p1 x.l.length d1, .slice p2 x.u.length d2] 32 (0, 0)) := by rw [← hU]; exact heap_alloc_new w2 _
  have HUk := hidE hUk; have HUb := hidE hUb; have HC := hidE hC; clear hB k0 k1 k2 HCp HR1 hC; have HFO1 := hidE (fun (h : flJ x = false) => (show flO x = x from by unfold flO; rw [HK.out, h]; rfl)); have HFB1 := hidE (show flB x = flJ x from by unfold flB; rw [HK.out]; rfl); have HRL := hidE (fun (W : World) (hb : Below w2.heap.size w2 W) => (show RL W (.slice p1 x.l.length d1) x.l from by obtain ⟨_, _, _, e, -, r1, -⟩ := HC.out.below hb; cases e; exact r1.rl hb1 (fun l hl => HSz.out l hl))); have HUB := hidE hUb; have HU := hidE hUk; obtain ⟨⟨k0, k1, k2⟩, -⟩ := box_cell hUk; by_cases h2 : x.l.length < 2
  ·
   have hfj : flJ x = false := by unfold flJ; rw [decide_eq_false (by omega)]; rfl
   have HFO := hidE (HFO1.out hfj); have HFB := hidE (HFB1.out.trans hfj); have hzr := blk_below HR2.out hUb; have hBX := B3 HB.out (B3 HB2.out hUb); have HCx := HC.out.below hUb; clear hUb hUs k0 k1 k2; obtain ⟨⟨b0, b1, b2⟩, -⟩ := box_cell hUk; obtain ⟨⟨q0, q0'⟩, q1, q2⟩ := set3_rules hzr; have q1a := fun u => (q1 u).1; have q1b := fun u => (q1 u).2; have q2a := fun u x => (q2 u x).1; have q2b := fun u x => (q2 u x).2; clear q1 q2; go_wp2
   have s3 := set3_is hzr (.slice p0 x.b.length d0) (.slice p1 x.l.length d1) (.slice p2 x.u.length d2); have z0 := cell_of_row _ (w.heap.size + 1) 0 _ _ _ s3.2; have z1 := cell_of_row _ (w.heap.size + 1) 1 _ _ _ s3.2; have z2 := cell_of_row _ (w.heap.size + 1) 2 _ _ _ s3.2; have hgk := only_grown s3.1; exact bodyPost_ret (v := .tuple #[.agg #[.slice p0 x.b.length d0, .slice p1 x.l.length d1, .slice p2 x.u.length d2], .bool false]) (by simp [results, Tryz.f13, go_sem, z0, z1, z2]) rfl ⟨_, by rw [HFB.out], (by rw [HFO.out]; obtain ⟨_, _, _, e, r0, r1, r2⟩ := HCx.kept hzr hgk; cases e; exact ⟨_, _, _, rfl, own_re r0 hb0 HS.out.1, r1.rl hb1 (fun l hl => HSz.out l hl), own_rm r2 hb2 HS.out.2.2⟩), s3.1.below hBX (by omega)⟩
  ·
   obtain ⟨l0, hl0⟩ : ∃ l0, x.l[0]'(by omega) = l0 := ⟨_, rfl⟩
   have HH : Hid (hdL x = l0) := by show _ = _; rw [← hl0]; exact head_at x.l (by omega)
   obtain ⟨am, gm, om, cm, em, -, hcm, ham, hRm⟩ := HRL.out U hUb; cases em; obtain rfl := ham (by omega); obtain ⟨u0, c0', ru0⟩ := hRm 0 (by omega); rw [hl0] at ru0; rw [Nat.add_zero] at c0'; obtain ⟨au, gu, ou, cu, rfl, -⟩ := id ru0; have HU0 := hidE ru0; clear hRm ru0 hcm ham; obtain ⟨tl, htl⟩ : ∃ tl, x.l.drop 1 = tl := ⟨_, rfl⟩
   have HTL := hidE htl; have HTn : Hid (tl.length + 1 = x.l.length) := by show _ = _; rw [← htl, List.length_drop]; omega
   have HTa : Hid (∀ (k : Nat) (hk : k < tl.length), ∃ h' : k + 1 < x.l.length, tl[k] = x.l[k + 1]) := by
    subst htl; intro k hk; rw [List.length_drop] at hk; exact ⟨by omega, by rw [List.getElem_drop]; congr 1; omega⟩
   clear htl; go_wp2
   go_loopw [5, 6] (fun av iv wl => ∃ i k : Nat, Hid (i = k + 1) ∧ i ≤ x.l.length ∧ iv = .int .i64 i ∧ Hid (RM wl av (jE (tl.take k) l0)) ∧ Hid (jB (tl.take k) l0 = true) ∧ Hid (Below U.heap.size U wl)) (fun _ iv _ => x.l.length - (RowKit.intOf iv).toNat)
   case atStart => exact ⟨1, 0, rfl, by omega, rfl, HU0, rfl, Below.refl _ _⟩
   case round =>
    clear k0 k1 k2 c0'; obtain ⟨i, k, HIK, hi, rfl, HT, HA, HBk⟩ := hrel; have hb2k := B3 HUB.out HBk.out; have hUr := blk_below HU.out HBk.out; obtain ⟨⟨k0, k1, k2⟩, -⟩ := box_cell hUr; by_cases hlt : i < x.l.length
    ·
     obtain ⟨a9, g9, o9, c9, em, -, -, ham, hRm⟩ := HRL.out wr hb2k; cases em; have hgo := ham (by omega); simp only [Option.some.injEq, Addr.mk.injEq, and_true] at hgo; obtain ⟨rfl, rfl⟩ := hgo; obtain ⟨u, c0, ru⟩ := hRm i hlt; obtain ⟨au9, gu9, ou9, cu9, rfl, -⟩ := id ru; obtain ⟨av9, gv9, ov9, cv9, rfl, -⟩ := id HT.out; have HJ := hidE (ru.sJoin HT.out); have hkl : k < tl.length := by have := HTn.out; have := HIK.out; omega
     have hat : tl[k] = x.l[i] := by obtain ⟨_, e⟩ := HTa.out k hkl; rw [e]; congr 1; exact HIK.out.symm
     have HK1 := hidE (jE_succ (t := l0) hkl); have HK2 := hidE (jB_succ (t := l0) hkl); have HC9 := hidE (fun h => jB_cut (t := l0) hkl h); rw [hat] at HK1 HK2 HC9; have HB2k := hidE hb2k; clear ru hRm ham hkl hat hb2k hUr; go_wp2_with fail
     refine HJ.out.mono ?_; rintro e w3 ⟨u3, rfl, hR3, hB3⟩; have HB3' := hidE (B3 HBk.out hB3); have HB4 := hidE (B3 HB2k.out hB3); have HR3 := hidE hR3; have hUr := blk_below HU.out HB3'.out; obtain ⟨⟨k0, k1, k2⟩, -⟩ := box_cell hUr; clear hB3 hR3 HJ HBk HB2k c0; cases hj : Mk.jnB x.l[i] (jE (tl.take k) l0) with
     | false =>
      have hfj : flJ x = false := by unfold flJ; rw [HH.out, HTL.out, HC9.out hj, Bool.and_false]
      have HFO := hidE (HFO1.out hfj); have HFB := hidE (HFB1.out.trans hfj); have hzr := blk_below HR2.out HB4.out; have hBX := B3 HB.out (B3 HB2.out HB4.out); have HCx := HC.out.below HB4.out; obtain ⟨⟨b0, b1, b2⟩, -⟩ := box_cell hUr; obtain ⟨⟨q0, q0'⟩, q1, q2⟩ := set3_rules hzr; have q1a := fun u => (q1 u).1; have q1b := fun u => (q1 u).2; have q2a := fun u x => (q2 u x).1; have q2b := fun u x => (q2 u x).2; clear q1 q2; go_wp2
      have s3 := set3_is hzr (.slice p0 x.b.length d0) (.slice (some ⟨gm, om, none⟩) x.l.length d1) (.slice p2 x.u.length d2); have z0 := cell_of_row _ (w.heap.size + 1) 0 _ _ _ s3.2; have z1 := cell_of_row _ (w.heap.size + 1) 1 _ _ _ s3.2; have z2 := cell_of_row _ (w.heap.size + 1) 2 _ _ _ s3.2; have hgk := only_grown s3.1; exact bodyPost_ret (v := .tuple #[.agg #[.slice p0 x.b.length d0, .slice (some ⟨gm, om, none⟩) x.l.length d1, .slice p2 x.u.length d2], .bool false]) (by simp [results, Tryz.f13, go_sem, z0, z1, z2]) rfl ⟨_, by rw [HFB.out], (by rw [HFO.out]; obtain ⟨_, _, _, e, r0, r1, r2⟩ := HCx.kept hzr hgk; cases e; exact ⟨_, _, _, rfl, own_re r0 hb0 HS.out.1, r1.rl hb1 (fun l hl => HSz.out l hl), own_rm r2 hb2 HS.out.2.2⟩), s3.1.below hBX (by omega)⟩
     | true =>
      have HA2 : Hid (jB (tl.take (k + 1)) l0 = true) := by show _ = _; rw [HK2.out, HA.out, hj]; rfl
      go_wp2
      go_roundw
      case rel => exact ⟨i + 1, k + 1, by show _ = _; rw [HIK.out], by omega, by go_num, by rw [HK1.out]; exact HR3, HA2, HB3'⟩
      case measure => simp [RowKit.intOf]; omega
    ·
     have hke : tl.take k = tl := List.take_of_length_le (by have := HTn.out; have := HIK.out; omega); rw [hke] at HT HA; have hfj : flJ x = true := by unfold flJ; rw [HH.out, HTL.out, HA.out, decide_eq_true (by omega)]; rfl
     have HFO : Hid (flO x = ⟨x.b, [jE tl l0], x.u⟩) := by show _ = _; unfold flO; rw [HK.out, hfj, HH.out, HTL.out]; rfl
     have HFB := hidE (HFB1.out.trans hfj); obtain ⟨av9, gv9, ov9, cv9, rfl, tl1, tl2, -⟩ := id HT.out; obtain ⟨n, hn⟩ : ∃ n, wr.heap.size = n := ⟨_, rfl⟩
     obtain ⟨P, hP⟩ : ∃ P, wr.alloc (.cells #[.slice av9 (jE tl l0).length cv9] 30) = P := ⟨_, rfl⟩
     have hPb : Below wr.heap.size wr P := by rw [← hP]; exact (Below.refl _ wr).alloc (Nat.le_refl _) _
     have hPn : P.cell? ⟨n, 0, none⟩ = some (.slice av9 (jE tl l0).length cv9) := by rw [← hP, ← hn]; simp
     have hPk := blk_below hUr hPb; obtain ⟨X, hXe⟩ : ∃ X, P.setCell ⟨w2.heap.size, 1, none⟩ (.slice (some ⟨n, 0, none⟩) 1 1) = X := ⟨_, rfl⟩
     obtain ⟨j1, j2⟩ := set_mid hPk (.slice (some ⟨n, 0, none⟩) 1 1); rw [hXe] at j1 j2; obtain ⟨⟨-, y1, -⟩, -, g1', -⟩ := box_cell hPk; have hbP : Below w2.heap.size w2 P := B3 hb2k hPb; have hb2X : Below w2.heap.size w2 X := j2.below hbP (Nat.le_refl _); have hzr := blk_below HR2.out hb2X; have hBX : Below w.heap.size w X := B3 HB.out (B3 HB2.out hb2X); have HCx := ((HC.out.below hbP).kept hPk (only_grown j2))
     have hT2 := (HT.out.below hPb).kept3 hPk j2; have hzn : w2.heap.size < n := by have := HBk.out.size; rw [← hn]; omega
     have hXn : X.cell? ⟨n, 0, none⟩ = some (.slice av9 (jE tl l0).length cv9) := (World.cell?_of_block (w := P) (a := ⟨n, 0, none⟩) (j2.block n (by omega))).trans hPn; clear hPb hPk hbP hb2X HR2 hPn; obtain ⟨⟨b0, b1, b2⟩, -⟩ := box_cell j1; obtain ⟨⟨q0, q0'⟩, q1, q2⟩ := set3_rules hzr; have q1a := fun u => (q1 u).1; have q1b := fun u => (q1 u).2; have q2a := fun u x => (q2 u x).1; have q2b := fun u x => (q2 u x).2; clear q1 q2; go_wp2
     have s3 := set3_is hzr (.slice p0 x.b.length d0) (.slice (some ⟨n, 0, none⟩) 1 1) (.slice p2 x.u.length d2); have z0 := cell_of_row _ (w.heap.size + 1) 0 _ _ _ s3.2; have z1 := cell_of_row _ (w.heap.size + 1) 1 _ _ _ s3.2; have z2 := cell_of_row _ (w.heap.size + 1) 2 _ _ _ s3.2; have hgk := only_grown s3.1; exact bodyPost_ret (v := .tuple #[.agg #[.slice p0 x.b.length d0, .slice (some ⟨n, 0, none⟩) 1 1, .slice p2 x.u.length d2], .bool true]) (by simp [results, Tryz.f13, go_sem, z0, z1, z2]) rfl ⟨_, by rw [HFB.out], (by rw [HFO.out]; obtain ⟨_, _, _, e, r0, r1, r2⟩ := HCx.kept hzr hgk; cases e; exact ⟨_, _, _, rfl, own_re r0 hb0 HS.out.1, ⟨_, n, 0, 1, rfl, by simp, by simp, fun _ => rfl, fun i hi => by have hi0 : i = 0 := Nat.lt_one_iff.1 hi; subst hi0; exact ⟨_, (World.cell?_of_block (w := X) (a := ⟨n, 0, none⟩) (s3.1.block n (by omega))).trans hXn, hT2.kept3 hzr s3.1⟩⟩, own_rm r2 hb2 HS.out.2.2⟩), s3.1.below hBX (by omega)⟩
def flL (ls : List (List Mk.E)) : List (List Mk.E) := if (decide (2 ≤ ls.length) && jB (ls.drop 1) (ls.headD [])) = true then [jE (ls.drop 1) (ls.headD [])] else ls
def flE (ls : List (List Mk.E)) : Value := if (decide (2 ≤ ls.length) && jB (ls.drop 1) (ls.headD [])) = true then .nilIface else endV 8
theorem flL_no {ls : List (List Mk.E)} (h : (decide (2 ≤ ls.length) && jB (ls.drop 1) (ls.headD [])) = false) : flL ls = ls ∧ flE ls = endV 8 := by unfold flL flE; rw [h]; exact ⟨rfl, rfl⟩
theorem flL_yes {ls : List (List Mk.E)} (h : (decide (2 ≤ ls.length) && jB (ls.drop 1) (ls.headD [])) = true) : flL ls = [jE (ls.drop 1) (ls.headD [])] ∧ flE ls = .nilIface := by unfold flL flE; rw [h]; exact ⟨rfl, rfl⟩
def FlU (w w' : World) (v u : Value) (ls : List (List Mk.E)) : Prop := (u = v ∧ flL ls = ls) ∨ ∃ n m l, w.heap.size ≤ n ∧ u = .slice (some ⟨n, 0, none⟩) 1 1 ∧ w'.cell? ⟨n, 0, none⟩ = some m ∧ RM w' m l ∧ flL ls = [l]
theorem C5.mid {W : World} {b : Nat} {u0 u1 u2 u3 u4 : Value} (h : C5 W b u0 u1 u2 u3 u4) (y : Value) : C5 (W.setCell ⟨b, 1, none⟩ y) b u0 y u2 u3 u4 :=
 ⟨(Mk.cell_ne _ _ _ _ _ (by decide)).trans h.c0, Mk.cell_eq _ h.c1, (Mk.cell_ne _ _ _ _ _ (by decide)).trans h.c2, (Mk.cell_ne _ _ _ _ _ (by decide)).trans h.c3, (Mk.cell_ne _ _ _ _ _ (by decide)).trans h.c4, by rw [World.frozen?_setCell]; exact h.f0, by rw [World.frozen?_setCell]; exact h.f1, by rw [World.frozen?_setCell]; exact h.f2, by rw [World.frozen?_setCell]; exact h.f3, by rw [World.frozen?_setCell]; exact h.f4⟩
theorem C5.other {W : World} {b c j : Nat} {u0 u1 u2 u3 u4 : Value} (h : C5 W c u0 u1 u2 u3 u4) (hc : c ≠ b) (y : Value) : C5 (W.setCell ⟨b, j, none⟩ y) c u0 u1 u2 u3 u4 :=
 ⟨(cOther _ _ _ _ _ _ hc).trans h.c0, (cOther _ _ _ _ _ _ hc).trans h.c1, (cOther _ _ _ _ _ _ hc).trans h.c2, (cOther _ _ _ _ _ _ hc).trans h.c3, (cOther _ _ _ _ _ _ hc).trans h.c4, by rw [World.frozen?_setCell]; exact h.f0, by rw [World.frozen?_setCell]; exact h.f1, by rw [World.frozen?_setCell]; exact h.f2, by rw [World.frozen?_setCell]; exact h.f3, by rw [World.frozen?_setCell]; exact h.f4⟩
theorem ents_ne5 {w : World} {g o b : Nat} {es : List Mk.E} {a0 a1 a2 a3 a4 : Option Addr} {n0 n1 n2 n3 n4 c0 c1 c2 c3 c4 : Nat} {T : TypeId} {f : Nat × Nat} (h : Mk.Ents w g o es) (hp : 0 < es.length) (hb : w.heap[b]? = some (.cells #[.slice a0 n0 c0, .slice a1 n1 c1, .slice a2 n2 c2, .slice a3 n3 c3, .slice a4 n4 c4] T f)) : g ≠ b := by
 rintro rfl; have c := (h 0 hp).1; rw [cell_of_row w g _ _ _ _ hb] at c; rcases ho : o + 0 * 3 with _ | _ | _ | _ | _ | n <;> rw [ho] at c <;> simp at c
theorem RM.kept5 {w w' : World} {v : Value} {es : List Mk.E} {b : Nat} {a0 a1 a2 a3 a4 : Option Addr} {n0 n1 n2 n3 n4 c0 c1 c2 c3 c4 : Nat} {T : TypeId} {f : Nat × Nat} (h : RM w v es) (hb : w.heap[b]? = some (.cells #[.slice a0 n0 c0, .slice a1 n1 c1, .slice a2 n2 c2, .slice a3 n3 c3, .slice a4 n4 c4] T f)) (k : Win b (b + 1) w w') : RM w' v es := by
 obtain ⟨a, g, o, cap, rfl, h1, h2, h3, h4, h5⟩ := h; refine ⟨a, g, o, cap, rfl, h1, h2, h3, h4, fun i hi => ?_⟩; have hne := ents_ne5 h5 (by omega) hb; obtain ⟨q0, q1, q2⟩ := h5 i hi; exact ⟨k.cell q0 (by omega), k.cell q1 (by omega), k.cell q2 (by omega)⟩
theorem FlU.ex {w w' : World} {u : Value} {a : Option Addr} {c : Nat} {ls : List (List Mk.E)} (h : FlU w w' (.slice a ls.length c) u ls) : ∃ a' c', u = .slice a' (flL ls).length c' := by
 rcases h with ⟨rfl, e⟩ | ⟨n, m, l, -, rfl, -, -, e⟩
 ·
  rw [e]; exact ⟨_, _, rfl⟩
 ·
  rw [e]; exact ⟨_, _, rfl⟩
theorem FlU.rl {U w2 X : World} {v u : Value} {ls : List (List Mk.E)} {b : Nat} {a0 a1 a2 a3 a4 : Option Addr} {n0 n1 n2 n3 n4 c0 c1 c2 c3 c4 : Nat} {T : TypeId} {f : Nat × Nat} (h : FlU U w2 v u ls) (hr : RL X v ls) (k : Win b (b + 1) w2 X) (hb : b < U.heap.size) (hc : w2.heap[b]? = some (.cells #[.slice a0 n0 c0, .slice a1 n1 c1, .slice a2 n2 c2, .slice a3 n3 c3, .slice a4 n4 c4] T f)) : RL X u (flL ls) := by
 rcases h with ⟨rfl, e⟩ | ⟨n, m, l, hn, rfl, hm, hl, e⟩
 ·
  rw [e]; exact hr
 ·
  rw [e]; exact ⟨_, n, 0, 1, rfl, by simp, by simp, fun _ => rfl, fun i hi => by have hi0 : i = 0 := Nat.lt_one_iff.1 hi; subst hi0; exact ⟨_, k.cell hm (by omega), hl.kept5 hc k⟩⟩
theorem flL_len {ls : List (List Mk.E)} (h : ∀ l ∈ ls, SmM l ∧ l.length ≤ 32) : (flL ls).length ≤ ls.length ∧ ∀ l ∈ flL ls, l.length ≤ 32 := by
 cases hj : (decide (2 ≤ ls.length) && jB (ls.drop 1) (ls.headD [])) with
 | false => rw [(flL_no hj).1]; exact ⟨Nat.le_refl _, fun l hl => (h l hl).2⟩
 | true =>
  rw [(flL_yes hj).1]; rw [Bool.and_eq_true, decide_eq_true_eq] at hj
  have hm : ls.headD [] ∈ ls := by
   cases ls with
   | nil => simp at hj
   | cons a r => exact List.mem_cons_self ..
  refine ⟨by have := hj.1; rw [List.length_singleton]; omega, fun l hl => ?_⟩; obtain rfl := List.mem_singleton.1 hl; exact jE_len _ _ (fun k hk => (h k (List.mem_of_mem_drop hk)).1) (h _ hm).1 (h _ hm).2
theorem flO_is {x : O} (h : okB x = true) : flO x = ⟨x.b, flL x.l, x.u⟩ := by
 have e : flJ x = (decide (2 ≤ x.l.length) && jB (x.l.drop 1) (x.l.headD [])) := rfl; unfold flO; rw [if_pos h]; cases hj : flJ x with
 | true => rw [(flL_yes (e.symm.trans hj)).1]; rfl
 | false => rw [(flL_no (e.symm.trans hj)).1]; rfl
def flV (x : O) : Value := if okB x = true then flE x.l else endV 1
theorem flV_is (x : O) : (flB x = true ∧ flV x = .nilIface) ∨ (flB x = false ∧ ∃ k, flV x = endV k) := by
 unfold flB flV; cases hk : okB x with
 | false => exact .inr ⟨rfl, 1, rfl⟩
 | true =>
  cases hj : flJ x with
  | true => exact .inl ⟨rfl, (flL_yes (ls := x.l) hj).2⟩
  | false => exact .inr ⟨rfl, 8, (flL_no (ls := x.l) hj).2⟩
set_option maxHeartbeats 1000000 in
set_option maxRecDepth 100000 in
theorem flat_any (w : World) (x : O) (p0 p1 p2 p3 p4 : Option Addr) (n0 n2 n3 n4 d0 d1 d2 d3 d4 : Nat) (h : RL w (.slice p1 x.l.length d1) x.l) :
  Calls Tryz.prog 37 #[.agg #[.slice p0 n0 d0, .slice p1 x.l.length d1, .slice p2 n2 d2, .slice p3 n3 d3, .slice p4 n4 d4]] w fun r w' => ∃ u, r = .returned (.tuple #[.agg #[(.slice p0 n0 d0), u, (.slice p2 n2 d2), (.slice p3 n3 d3), (.slice p4 n4 d4)], flE x.l]) ∧ FlU w w' (.slice p1 x.l.length d1) u x.l ∧ Below w.heap.size w w' := by
 obtain ⟨a, g1, o1, c1, ev, hl1, hl2, ha1, hL⟩ := h; obtain ⟨rfl, -, rfl⟩ : p1 = a ∧ x.l.length = x.l.length ∧ d1 = c1 := by simpa using ev
 obtain ⟨V, hV⟩ : ∃ V, w.alloc (.cells #[.slice p0 n0 d0, .slice p1 x.l.length d1, .slice p2 n2 d2, .slice p3 n3 d3, .slice p4 n4 d4] 54) = V := ⟨_, rfl⟩
 obtain ⟨W0, hW0⟩ : ∃ W0, V.alloc (.cells #[.slice none 0 0, .slice none 0 0, .slice none 0 0, .slice none 0 0, .slice none 0 0] 54) = W0 := ⟨_, rfl⟩
 have hVs : V.heap.size = w.heap.size + 1 := by rw [← hV]; simp
 have hVb : Below w.heap.size w V := by rw [← hV]; exact (Below.refl _ w).alloc (Nat.le_refl _) _
 have hb1 : Below V.heap.size V W0 := by rw [← hW0]; exact (Below.refl _ V).alloc (Nat.le_refl _) _
 have hz0 : W0.heap.size = w.heap.size + 2 := by rw [← hW0]; simp [hVs]
 have HX := hidE (fun (W : World) (hb : Below W0.heap.size W0 W) => (show C5 V w.heap.size (.slice p0 n0 d0) (.slice p1 x.l.length d1) (.slice p2 n2 d2) (.slice p3 n3 d3) (.slice p4 n4 d4) from by rw [← hV]; exact C5.new _ _ _ _ _ _ _).below (B3 hb1 hb)); have HZ := hidE (fun (W : World) (hb : Below W0.heap.size W0 W) => (show C5 W0 (w.heap.size + 1) (.slice none 0 0) (.slice none 0 0) (.slice none 0 0) (.slice none 0 0) (.slice none 0 0) from by rw [← hW0, ← hVs]; exact C5.new _ _ _ _ _ _ _).below hb); have HB := hidE (B3 hVb hb1)
 have HLs := hidE (fun (W : World) (hb : Below W0.heap.size W0 W) (i : Nat) (hi : i < x.l.length) => show ∃ u, W.cell? ⟨g1, o1 + i, none⟩ = some u ∧ RM W u x.l[i] from by
  obtain ⟨u, c, r⟩ := hL i hi; have hb := B3 HB.out hb
  exact ⟨u, (hb.cell (p := ⟨g1, o1 + i, none⟩) (World.block_lt_of_cell? w ⟨g1, o1 + i, none⟩ c)).trans c, r.below hb⟩)
 have HR := hidE (blk_below (show V.heap[w.heap.size]? = some (.cells #[.slice p0 n0 d0, .slice p1 x.l.length d1, .slice p2 n2 d2, .slice p3 n3 d3, .slice p4 n4 d4] 54 (0, 0)) from by rw [← hV]; exact heap_alloc_new w _) hb1); have HRz := hidE (show W0.heap[w.heap.size + 1]? = some (.cells #[.slice none 0 0, .slice none 0 0, .slice none 0 0, .slice none 0 0, .slice none 0 0] 54 (0, 0)) from by rw [← hW0, ← hVs]; exact heap_alloc_new V _); clear hL hVb hb1 ev; obtain ⟨k0, k1, k2, k3, k4, f0, f1, f2, f3, f4⟩ := HX.out W0 (Below.refl _ _); obtain ⟨z0, z1, z2, z3, z4, y0, y1, y2, y3, y4⟩ := HZ.out W0 (Below.refl _ _); go_enter Tryz.func37, Tryz.ntmps37
 by_cases h2 : x.l.length < 2
 ·
  have HF := hidE (flL_no (ls := x.l) (by rw [decide_eq_false (by omega)]; rfl)); go_wp2
  refine atSet5 (C := bodyPost Tryz.prog Tryz.f37 _ _ _) z0 z1 z2 z3 z4 ?_; intro Wf s0 s1 s2 s3 s4 hW; have hbf := hW.belowE (B3 HB.out (Below.refl _ W0)) (B3 HB.out (Below.refl _ W0)).size (by omega); exact bodyPost_ret (v := .tuple #[.agg #[.slice p0 n0 d0, .slice p1 x.l.length d1, .slice p2 n2 d2, .slice p3 n3 d3, .slice p4 n4 d4], endV 8]) (by unfold endV; simp [results, Tryz.f37, go_sem, s0, s1, s2, s3, s4]) rfl ⟨_, by rw [HF.out.2], .inl ⟨rfl, HF.out.1⟩, hbf⟩
 ·
  obtain ⟨l0, hl0⟩ : ∃ l0, x.l[0]'(by omega) = l0 := ⟨_, rfl⟩
  have HH : Hid (x.l.headD [] = l0) := by show _ = _; rw [← hl0]; exact head_at x.l (by omega)
  obtain rfl := ha1 (by omega); obtain ⟨u0, c0, ru0⟩ := HLs.out W0 (Below.refl _ _) 0 (by omega); rw [hl0] at ru0; rw [Nat.add_zero] at c0; obtain ⟨au, gu, ou, cu, rfl, -⟩ := id ru0; have HU0 := hidE ru0; clear ru0; have hcap : ¬ (d1 ≤ 1) := by omega
  obtain ⟨tl, htl⟩ : ∃ tl, x.l.drop 1 = tl := ⟨_, rfl⟩
  have HTL := hidE htl; have HTn : Hid (tl.length + 1 = x.l.length) := by show _ = _; rw [← htl, List.length_drop]; omega
  have HTa : Hid (∀ (k : Nat) (hk : k < tl.length), ∃ h' : k + 1 < x.l.length, tl[k] = x.l[k + 1]) := by
   subst htl; intro k hk; rw [List.length_drop] at hk; exact ⟨by omega, by rw [List.getElem_drop]; congr 1; omega⟩
  clear htl; go_wp2
  clear hV hW0
  go_loopw [4, 27] (fun av iv wl => ∃ k : Nat, k + 1 ≤ x.l.length ∧ iv = .int .i64 k ∧ Hid (RM wl av (jE (tl.take k) l0)) ∧ Hid (jB (tl.take k) l0 = true) ∧ Hid (Below W0.heap.size W0 wl)) (fun _ iv _ => x.l.length - (RowKit.intOf iv).toNat)
  case atStart => exact ⟨0, by omega, rfl, HU0, rfl, Below.refl _ _⟩
  case round =>
   clear k0 k1 k2 k3 k4 f0 f1 f2 f3 f4 z0 z1 z2 z3 z4 y0 y1 y2 y3 y4 c0; obtain ⟨k, hk, rfl, HT, HA, HBk⟩ := hrel; by_cases hlt : k < x.l.length - 1
   ·
    obtain ⟨u, c0, hu⟩ := HLs.out wr HBk.out (k + 1) (by omega); have c1 : wr.cell? ⟨g1, o1 + 1 + k, none⟩ = some u := by rw [← c0]; congr 2; omega
    have c2 : wr.cell? ⟨g1, o1 + (1 + k), none⟩ = some u := by rw [← c0]; congr 2; omega
    obtain ⟨au9, gu9, ou9, cu9, rfl, -⟩ := id hu; obtain ⟨av9, gv9, ov9, cv9, rfl, -⟩ := id HT.out; have HJ := hidE (hu.iJoin HT.out); have hkl : k < tl.length := by have := HTn.out; omega
    have hat : tl[k] = x.l[k + 1] := by obtain ⟨_, e⟩ := HTa.out k hkl; exact e
    have HK1 := hidE (jE_succ (t := l0) hkl); have HK2 := hidE (jB_succ (t := l0) hkl); have HC9 := hidE (fun h => jB_cut (t := l0) hkl h); rw [hat] at HK1 HK2 HC9; clear hu HT hkl hat; have hlt' : k + 1 < x.l.length := by omega
    go_wp2_with fail
    refine HJ.out.mono ?_; rintro e w2 ⟨u2, rfl, -, hR2, hB2⟩; have HB2 := hidE (B3 HBk.out hB2); have HR2 := hidE hR2; clear hB2 hR2 HJ HBk c0 c1 c2; obtain ⟨k0, k1, k2, k3, k4, f0, f1, f2, f3, f4⟩ := HX.out w2 HB2.out; obtain ⟨z0, z1, z2, z3, z4, y0, y1, y2, y3, y4⟩ := HZ.out w2 HB2.out; cases hj : Mk.jnB x.l[k + 1] (jE (tl.take k) l0) with
    | false =>
     have HF := hidE (flL_no (ls := x.l) (by rw [HH.out, HTL.out, HC9.out hj, Bool.and_false])); go_wp2
     refine atSet5 (C := bodyPost Tryz.prog Tryz.f37 _ _ _) z0 z1 z2 z3 z4 ?_; intro Wf s0 s1 s2 s3 s4 hW; have hbf := hW.belowE (B3 HB.out HB2.out) (B3 HB.out HB2.out).size (by omega); exact bodyPost_ret (v := .tuple #[.agg #[.slice p0 n0 d0, .slice (some ⟨g1, o1, none⟩) x.l.length d1, .slice p2 n2 d2, .slice p3 n3 d3, .slice p4 n4 d4], endV 8]) (by unfold endV; simp [results, Tryz.f37, go_sem, s0, s1, s2, s3, s4]) rfl ⟨_, by rw [HF.out.2], .inl ⟨rfl, HF.out.1⟩, hbf⟩
    | true =>
     have HA2 : Hid (jB (tl.take (k + 1)) l0 = true) := by show _ = _; rw [HK2.out, HA.out, hj]; rfl
     go_wp2
     go_roundw
     case rel => exact ⟨k + 1, by omega, by go_num, by rw [HK1.out]; exact HR2, HA2, HB2⟩
     case measure => simp [RowKit.intOf]; omega
   ·
    have hke : tl.take k = tl := List.take_of_length_le (by have := HTn.out; omega); rw [hke] at HT HA; have HF := hidE (flL_yes (ls := x.l) (by rw [HH.out, HTL.out, HA.out, decide_eq_true (by omega)]; rfl)); rw [HH.out, HTL.out] at HF; obtain ⟨av9, gv9, ov9, cv9, rfl, -⟩ := id HT.out; obtain ⟨n, hn⟩ : ∃ n, wr.heap.size = n := ⟨_, rfl⟩
    obtain ⟨P, hP⟩ : ∃ P, wr.alloc (.cells #[.slice av9 (jE tl l0).length cv9] 30) = P := ⟨_, rfl⟩
    have hPb : Below wr.heap.size wr P := by rw [← hP]; exact (Below.refl _ wr).alloc (Nat.le_refl _) _
    have hPn : P.cell? ⟨n, 0, none⟩ = some (.slice av9 (jE tl l0).length cv9) := by rw [← hP, ← hn]; simp
    have hbP := B3 HBk.out hPb; have hXP := HX.out P hbP; have hZP := HZ.out P hbP; obtain ⟨X, hXe⟩ : ∃ X, P.setCell ⟨w.heap.size, 1, none⟩ (.slice (some ⟨n, 0, none⟩) 1 1) = X := ⟨_, rfl⟩
    have hXX := hXP.mid (.slice (some ⟨n, 0, none⟩) 1 1); have hZX := hZP.other (b := w.heap.size) (j := 1) (by omega) (.slice (some ⟨n, 0, none⟩) 1 1); have hWX := setW w.heap.size P 1 (.slice (some ⟨n, 0, none⟩) 1 1); rw [hXe] at hXX hZX hWX; have hwn : w.heap.size + 2 ≤ n := by have := HBk.out.size; rw [← hn]; omega
    have HT2 := hidE ((HT.out.below hPb).kept5 (blk_below HR.out hbP) hWX); have HXn := hidE (hWX.cell hPn (by omega)); have HXz := hidE ((hWX.block (w.heap.size + 1) (World.block_lt_of_cell? P ⟨w.heap.size + 1, 0, none⟩ hZP.c0) (by omega)).trans (blk_below HRz.out hbP)); have HBX := hidE (hWX.belowE (B3 HB.out hbP) (B3 HB.out hbP).size (by omega)); have HXs := hidE hWX.size; have HPs := hidE hPb.size; obtain ⟨k0, k1, k2, k3, k4, f0, f1, f2, f3, f4⟩ := hXP; obtain ⟨m0, m1, m2, m3, m4, -, -, -, -, -⟩ := hXX; obtain ⟨z0, z1, z2, z3, z4, y0, y1, y2, y3, y4⟩ := hZX; clear hPb hPn hbP hZP hWX HT; go_wp2
    refine atSet5 (C := bodyPost Tryz.prog Tryz.f37 _ _ _) z0 z1 z2 z3 z4 ?_; intro Wf s0 s1 s2 s3 s4 hW; have hbf := hW.belowE HBX.out HBX.out.size (by omega); exact bodyPost_ret (v := .tuple #[.agg #[(.slice p0 n0 d0), .slice (some ⟨n, 0, none⟩) 1 1, (.slice p2 n2 d2), (.slice p3 n3 d3), (.slice p4 n4 d4)], .nilIface]) (by simp [results, Tryz.f37, go_sem, s0, s1, s2, s3, s4]) rfl ⟨_, by rw [HF.out.2], .inr ⟨n, _, _, by omega, rfl, hW.cell HXn.out (by omega), HT2.out.kept5 HXz.out hW, HF.out.1⟩, hbf⟩
set_option maxHeartbeats 4000000 in
set_option maxRecDepth 100000 in
theorem overTurn_flat (w : World) (v : Value) (x : O) (ae : Int → Addr) (hErr : Errs2 w ae) (h : Lie w v x) :
  Calls Tryz.prog 25 #[v, .func (.func 37) #[] #[]] w fun r w' => ∃ u, r = .returned (.tuple #[u, flV x]) ∧ OO w.heap.size w'.heap.size w' u (flO x) ∧ Below w.heap.size w w' := by
 have hL := h; obtain ⟨v0, v1, v2, rfl, h0, h1, h2⟩ := h; obtain ⟨a0, g0, o0, c0, rfl, -⟩ := id h0; obtain ⟨a1, g1, o1, c1, rfl, -⟩ := id h1; obtain ⟨a2, g2, o2, c2, rfl, -⟩ := id h2; obtain ⟨V, hV⟩ : ∃ V, w.alloc (.cells #[.slice a0 x.b.length c0, .slice a1 x.l.length c1, .slice a2 x.u.length c2] 32) = V := ⟨_, rfl⟩
 have hX : C3 V w.heap.size (.slice a0 x.b.length c0) (.slice a1 x.l.length c1) (.slice a2 x.u.length c2) := by rw [← hV]; exact C3.new _ _ _ _ _
 have hVs : V.heap.size = w.heap.size + 1 := by rw [← hV]; simp
 have hVb : Below w.heap.size w V := by rw [← hV]; exact (Below.refl _ w).alloc (Nat.le_refl _) _
 obtain ⟨W0, hW0⟩ : ∃ W0, V.alloc (.cells #[.slice none 0 0, .slice none 0 0, .slice none 0 0] 32) = W0 := ⟨_, rfl⟩
 have hb1 : Below V.heap.size V W0 := by rw [← hW0]; exact (Below.refl _ V).alloc (Nat.le_refl _) _
 have hz0 : W0.heap.size = w.heap.size + 2 := by rw [← hW0]; simp [hVs]
 have hR : W0.heap[w.heap.size + 1]? = some (.cells #[.slice none 0 0, .slice none 0 0, .slice none 0 0] 32 (0, 0)) := by rw [← hW0, ← hVs]; exact heap_alloc_new V _
 have HX := hidE (hX.below hb1); have HB := hidE (B3 hVb hb1); have HR := hidE hR; have HO := hidE (overOf_any W0 _ x ae (hErr.below (B3 hVb hb1)) (hL.below (B3 hVb hb1)))
 have HSM := hidE (fun l (hl : l ∈ x.l) => (show SmM l from by
  obtain ⟨_, _, _, _, _, _, _, _, q⟩ := h1; obtain ⟨i, hi, rfl⟩ := List.getElem_of_mem hl; obtain ⟨u, _, ⟨_, _, _, _, _, _, _, q3, _⟩⟩ := q i hi
  exact q3))
 clear h0 h1 h2 hL hErr hX hVb hb1 hR; obtain ⟨k0, k1, k2, -, -, -⟩ := HX.out; go_enter Tryz.func25, Tryz.ntmps25
 go_wp2_with fail
 refine HO.out.mono ?_; rintro e w1 ⟨u, rfl, hT, hB⟩; have HB1 := hidE (B3 HB.out hB); have HR1 := hidE (blk_below HR.out hB); have hz1 := hB.size; obtain ⟨t0, t1, t2, t3, t4, rfl, r0, r1, r2, r3, r4⟩ := hT; obtain ⟨p0, y0, z0, d0, rfl, -⟩ := id r0; obtain ⟨p1, y1, z1, d1, rfl, -⟩ := id r1; obtain ⟨p2, y2, z2, d2, rfl, -⟩ := id r2; obtain ⟨p3, y3, z3, d3, rfl, -⟩ := id r3; obtain ⟨p4, y4, z4, d4, rfl, -⟩ := id r4; have HT := hidE (fun (W : World) (hb : Below w1.heap.size w1 W) => (And.intro (r0.below hb) ⟨r1.below hb, r2.below hb, r3.below hb, r4.below hb⟩ : RP W _ (ofO x).b ∧ RL W _ (ofO x).l ∧ RM W _ (ofO x).u ∧ RP W _ (loO x) ∧ RP W _ (seO x))); obtain ⟨U, hU⟩ : ∃ U, w1.alloc (.cells #[.slice p0 (ofO x).b.length d0, .slice p1 (ofO x).l.length d1, .slice p2 (ofO x).u.length d2, .slice p3 (loO x).length d3, .slice p4 (seO x).length d4] 54) = U := ⟨_, rfl⟩
 have hBU : Below w1.heap.size w1 U := by rw [← hU]; exact (Below.refl _ w1).alloc (Nat.le_refl _) _
 have HC := hidE (show C5 U w1.heap.size (.slice p0 (ofO x).b.length d0) (.slice p1 (ofO x).l.length d1) (.slice p2 (ofO x).u.length d2) (.slice p3 (loO x).length d3) (.slice p4 (seO x).length d4) from by rw [← hU]; exact C5.new _ _ _ _ _ _ _); have HBU := hidE hBU; have hlo := lo_len x; have hse := se_len x; clear r0 r1 r2 r3 r4 hB HB HO HX k0 k1 k2 hW0 hV HR; have tail : ∀ (X : World) (u' : Value) (y : O), Below w1.heap.size w1 X → OO X.heap.size X.heap.size X u' y → True := fun _ _ _ _ _ => trivial; clear tail; cases hok : okB x with
 | true =>
  have hx : ofO x = x := by unfold ofO; rw [hok]; rfl
  rw [show erO x = .nilIface by unfold erO; rw [hok]; rfl]; have HF := hidE (few_of hok); have HSM9 : ∀ l ∈ x.l, SmM l ∧ l.length ≤ 32 := fun l hl => ⟨HSM.out l hl, low_lay _ _ (lwB_low (ok_parts hok).1) l hl⟩; have HQ : Hid (Few (O.mk (ofO x).b (flL (ofO x).l) (ofO x).u)) := by rw [hx]; exact ⟨HF.out.b, by have := (flL_len HSM9).1; have := HF.out.l; show (flL x.l).length ≤ 1000; omega, fun l hl => by have := (flL_len HSM9).2 l hl; omega, HF.out.u⟩
  have HY : Hid (flO x = (O.mk (ofO x).b (flL (ofO x).l) (ofO x).u)) := by show _ = _; rw [flO_is hok, hx]
  have HER : Hid (flV x = flE (ofO x).l) := by show _ = _; unfold flV; rw [hok, hx]; rfl
  clear hok hx HF HSM9; obtain ⟨k0, k1, k2, k3, k4, f0, f1, f2, f3, f4⟩ := HC.out; go_wp2_with fail
  refine (flat_any _ (ofO x) p0 p1 p2 p3 p4 _ _ _ _ d0 d1 d2 d3 d4 (HT.out U HBU.out).2.1).mono ?_; rintro e w2 ⟨u9, rfl, hFU, hB2⟩; obtain ⟨a9, c9, rfl⟩ := hFU.ex; have hct := blk_below (show U.heap[w1.heap.size]? = some (.cells #[.slice p0 (ofO x).b.length d0, .slice p1 (ofO x).l.length d1, .slice p2 (ofO x).u.length d2, .slice p3 (loO x).length d3, .slice p4 (seO x).length d4] 54 (0, 0)) from by rw [← hU]; exact heap_alloc_new w1 _) hB2; have hc := HC.out.below hB2; have hz2 := hB2.size; have hzU : w1.heap.size < U.heap.size := by rw [← hU]; simp
  have HB2 := hidE (B3 HBU.out hB2); clear k0 k1 k2 k3 k4 f0 f1 f2 f3 f4 hB2 hU HC; obtain ⟨k0, k1, k2, k3, k4, f0, f1, f2, f3, f4⟩ := hc; obtain ⟨X, hX⟩ : ∃ X, (((((w2.setCell ⟨w1.heap.size, 0, none⟩ (.slice p0 (ofO x).b.length d0)).setCell ⟨w1.heap.size, 1, none⟩ (.slice a9 (flL (ofO x).l).length c9)).setCell ⟨w1.heap.size, 2, none⟩ (.slice p2 (ofO x).u.length d2)).setCell ⟨w1.heap.size, 3, none⟩ (.slice p3 (loO x).length d3)).setCell ⟨w1.heap.size, 4, none⟩ (.slice p4 (seO x).length d4)) = X := ⟨_, rfl⟩
  have hw : Win w1.heap.size (w1.heap.size + 1) w2 X ∧ (X.cell? ⟨w1.heap.size, 0, none⟩ = some (.slice p0 (ofO x).b.length d0) ∧ X.cell? ⟨w1.heap.size, 1, none⟩ = some (.slice a9 (flL (ofO x).l).length c9) ∧ X.cell? ⟨w1.heap.size, 2, none⟩ = some (.slice p2 (ofO x).u.length d2) ∧ X.cell? ⟨w1.heap.size, 3, none⟩ = some (.slice p3 (loO x).length d3) ∧ X.cell? ⟨w1.heap.size, 4, none⟩ = some (.slice p4 (seO x).length d4)) := by
   rw [← hX]; exact atSet5 (C := fun Wf => Win w1.heap.size (w1.heap.size + 1) w2 Wf ∧ (Wf.cell? ⟨w1.heap.size, 0, none⟩ = some (.slice p0 (ofO x).b.length d0) ∧ Wf.cell? ⟨w1.heap.size, 1, none⟩ = some (.slice a9 (flL (ofO x).l).length c9) ∧ Wf.cell? ⟨w1.heap.size, 2, none⟩ = some (.slice p2 (ofO x).u.length d2) ∧ Wf.cell? ⟨w1.heap.size, 3, none⟩ = some (.slice p3 (loO x).length d3) ∧ Wf.cell? ⟨w1.heap.size, 4, none⟩ = some (.slice p4 (seO x).length d4))) k0 k1 k2 k3 k4 (fun Wf s0 s1 s2 s3 s4 hw => ⟨hw, s0, s1, s2, s3, s4⟩)
  have hBX : Below w1.heap.size w1 X := hw.1.belowE HB2.out HB2.out.size (Nat.le_refl _); have hsX := hw.1.size; obtain ⟨s0, s1, s2, s3, s4⟩ := hw.2; have HR2 := hidE (blk_below HR1.out hBX); obtain ⟨r0, r1, r2, r3, r4⟩ := HT.out X hBX; have HTe := hidE (tell_any X _ (O.mk (ofO x).b (flL (ofO x).l) (ofO x).u) (loO x) (seO x) ⟨_, _, _, _, _, rfl, r0, hFU.rl r1 hw.1 (by omega) hct, r2, r3, r4⟩ HQ.out); have HB3 := hidE (B3 HB1.out hBX); have hs1 := HB1.out.size; clear r0 r1 r2 r3 r4 hw hBX HBU HR1 HT; go_wp2_with fail
  refine HTe.out.mono ?_; rintro e w3 ⟨u3, rfl, hO, hB3⟩; have HB4 := hidE (B3 HB3.out hB3); have hzr := blk_below HR2.out hB3; have hs3 := hB3.size; obtain ⟨e0, j0, e1, j1, e2, j2, rfl⟩ := hO.exT; have HO3 := hidE hO; clear hO hB3 k0 k1 k2 k3 k4 f0 f1 f2 f3 f4 s0 s1 s2 s3 s4 hX; obtain ⟨⟨q0, q0'⟩, q1, q2⟩ := set3_rules hzr; have q1a := fun u => (q1 u).1; have q1b := fun u => (q1 u).2; have q2a := fun u x => (q2 u x).1; have q2b := fun u x => (q2 u x).2; clear q1 q2; go_wp2
  have s3 := set3_is hzr (.slice e0 (ofO x).b.length j0) (.slice e1 (flL (ofO x).l).length j1) (.slice e2 (ofO x).u.length j2); have z0 := cell_of_row _ (w.heap.size + 1) 0 _ _ _ s3.2; have z1 := cell_of_row _ (w.heap.size + 1) 1 _ _ _ s3.2; have z2 := cell_of_row _ (w.heap.size + 1) 2 _ _ _ s3.2; exact bodyPost_ret (v := .tuple #[.agg #[.slice e0 (ofO x).b.length j0, .slice e1 (flL (ofO x).l).length j1, .slice e2 (ofO x).u.length j2], flE (ofO x).l]) (by simp [results, Tryz.f25, go_sem, z0, z1, z2]) rfl ⟨_, by rw [HER.out], by rw [HY.out]; exact (((HO3.out.win (setW _ _ _ _) (.inl (by omega))).win (setW _ _ _ _) (.inl (by omega))).win (setW _ _ _ _) (.inl (by omega))).mono (by omega) (by simp only [World.size_setCell]; omega), s3.1.below HB4.out (by omega)⟩
 | false =>
  have hx : ofO x = ⟨[], [], []⟩ := by unfold ofO; rw [hok]; rfl
  rw [show erO x = endV 1 by unfold erO; rw [hok]; rfl]; unfold endV; have HQ : Hid (Few (ofO x)) := by rw [hx]; exact ⟨Nat.zero_le _, Nat.zero_le _, fun l hl => absurd hl (by simp), Nat.zero_le _⟩
  have HY : Hid (flO x = ofO x) := by show _ = _; unfold flO; rw [hok, hx]; rfl
  have HER : Hid (flV x = endV 1) := by show _ = _; unfold flV; rw [hok]; rfl
  clear hok hx; obtain ⟨k0, k1, k2, k3, k4, f0, f1, f2, f3, f4⟩ := HC.out; obtain ⟨r0, r1, r2, r3, r4⟩ := HT.out U HBU.out; have HTe := hidE (tell_any U _ (ofO x) (loO x) (seO x) ⟨_, _, _, _, _, rfl, r0, r1, r2, r3, r4⟩ HQ.out); have HB3 := hidE (B3 HB1.out HBU.out); have HR2 := hidE (blk_below HR1.out HBU.out); have hs1 := HB1.out.size; have hsU := HBU.out.size; clear r0 r1 r2 r3 r4 HR1 HT; go_wp2_with fail
  refine HTe.out.mono ?_; rintro e w3 ⟨u3, rfl, hO, hB3⟩; have HB4 := hidE (B3 HB3.out hB3); have hzr := blk_below HR2.out hB3; have hs3 := hB3.size; obtain ⟨e0, j0, e1, j1, e2, j2, rfl⟩ := hO.exT; have HO3 := hidE hO; clear hO hB3 k0 k1 k2 k3 k4 f0 f1 f2 f3 f4 hU; obtain ⟨⟨q0, q0'⟩, q1, q2⟩ := set3_rules hzr; have q1a := fun u => (q1 u).1; have q1b := fun u => (q1 u).2; have q2a := fun u x => (q2 u x).1; have q2b := fun u x => (q2 u x).2; clear q1 q2; go_wp2
  have s3 := set3_is hzr (.slice e0 (ofO x).b.length j0) (.slice e1 (ofO x).l.length j1) (.slice e2 (ofO x).u.length j2); have z0 := cell_of_row _ (w.heap.size + 1) 0 _ _ _ s3.2; have z1 := cell_of_row _ (w.heap.size + 1) 1 _ _ _ s3.2; have z2 := cell_of_row _ (w.heap.size + 1) 2 _ _ _ s3.2; exact bodyPost_ret (v := .tuple #[.agg #[.slice e0 (ofO x).b.length j0, .slice e1 (ofO x).l.length j1, .slice e2 (ofO x).u.length j2], endV 1]) (by unfold endV; simp [results, Tryz.f25, go_sem, z0, z1, z2]) rfl ⟨_, by rw [HER.out], by rw [HY.out]; exact (((HO3.out.win (setW _ _ _ _) (.inl (by omega))).win (setW _ _ _ _) (.inl (by omega))).win (setW _ _ _ _) (.inl (by omega))).mono (by omega) (by simp only [World.size_setCell]; omega), s3.1.below HB4.out (by omega)⟩
set_option maxHeartbeats 2000000 in
set_option maxRecDepth 100000 in
theorem iOverFlat_any (w : World) (v : Value) (x : O) (ae : Int → Addr) (hErr : Errs2 w ae) (h : Lie w v x) :
  Calls Tryz.prog 14 #[v] w fun r w' => ∃ u, r = .returned (.tuple #[u, .bool (flB x)]) ∧ OO w.heap.size w'.heap.size w' u (flO x) ∧ Below w.heap.size w w' := by
 have hL := h; obtain ⟨v0, v1, v2, rfl, h0, h1, h2⟩ := h; obtain ⟨a0, g0, o0, c0, rfl, -⟩ := id h0; obtain ⟨a1, g1, o1, c1, rfl, -⟩ := id h1; obtain ⟨a2, g2, o2, c2, rfl, -⟩ := id h2; obtain ⟨V, hV⟩ : ∃ V, w.alloc (.cells #[.slice a0 x.b.length c0, .slice a1 x.l.length c1, .slice a2 x.u.length c2] 32) = V := ⟨_, rfl⟩
 have hX : C3 V w.heap.size (.slice a0 x.b.length c0) (.slice a1 x.l.length c1) (.slice a2 x.u.length c2) := by rw [← hV]; exact C3.new _ _ _ _ _
 have hVs : V.heap.size = w.heap.size + 1 := by rw [← hV]; simp
 have hVb : Below w.heap.size w V := by rw [← hV]; exact (Below.refl _ w).alloc (Nat.le_refl _) _
 obtain ⟨W0, hW0⟩ : ∃ W0, V.alloc (.cells #[.slice none 0 0, .slice none 0 0, .slice none 0 0] 32) = W0 := ⟨_, rfl⟩
 have hb1 : Below V.heap.size V W0 := by rw [← hW0]; exact (Below.refl _ V).alloc (Nat.le_refl _) _
 have hz0 : W0.heap.size = w.heap.size + 2 := by rw [← hW0]; simp [hVs]
 have hR : W0.heap[w.heap.size + 1]? = some (.cells #[.slice none 0 0, .slice none 0 0, .slice none 0 0] 32 (0, 0)) := by rw [← hW0, ← hVs]; exact heap_alloc_new V _
 have HX := hidE (hX.below hb1); have HB := hidE (B3 hVb hb1); have HR := hidE hR; have HO := hidE (overTurn_flat W0 _ x ae (hErr.below (B3 hVb hb1)) (hL.below (B3 hVb hb1))); clear h0 h1 h2 hL hErr hX hVb hb1 hR; obtain ⟨k0, k1, k2, -, -, -⟩ := HX.out; rcases flV_is x with ⟨hfb, hfv⟩ | ⟨hfb, k9, hfv⟩
 ·
  have HFB := hidE hfb; rw [hfv] at HO; clear hfb hfv; go_enter Tryz.func14, Tryz.ntmps14
  go_wp2_with fail
  refine HO.out.mono ?_; rintro e w1 ⟨u, rfl, hO, hB⟩; have hz1 := hB.size; obtain ⟨e0, j0, e1, j1, e2, j2, rfl⟩ := hO.exT; obtain ⟨U, hU⟩ : ∃ U, w1.alloc (.cells #[.slice e0 (flO x).b.length j0, .slice e1 (flO x).l.length j1, .slice e2 (flO x).u.length j2] 32) = U := ⟨_, rfl⟩
  have hUb : Below w1.heap.size w1 U := by rw [← hU]; exact (Below.refl _ w1).alloc (Nat.le_refl _) _
  obtain ⟨c0', c1', c2', -, -, -⟩ := (show C3 U w1.heap.size (.slice e0 (flO x).b.length j0) (.slice e1 (flO x).l.length j1) (.slice e2 (flO x).u.length j2) from by rw [← hU]; exact C3.new _ _ _ _ _)
  have hzr := blk_below HR.out (B3 hB hUb); have hBU := B3 HB.out (B3 hB hUb); have hOU := hO.below hUb; have hzU := hUb.size; have HOU := hidE hOU; have HBU := hidE hBU; clear hB hUb hBU hOU hO k0 k1 k2 hW0 hV; obtain ⟨⟨y0, y1, y2⟩, f0, f1, f2⟩ := box_cell hzr; go_wp2
  go_region_with (fail)
  all_goals go_wp2
  have s3 := set3_is hzr (.slice e0 (flO x).b.length j0) (.slice e1 (flO x).l.length j1) (.slice e2 (flO x).u.length j2); have z0 := cell_of_row _ (w.heap.size + 1) 0 _ _ _ s3.2; have z1 := cell_of_row _ (w.heap.size + 1) 1 _ _ _ s3.2; have z2 := cell_of_row _ (w.heap.size + 1) 2 _ _ _ s3.2; exact bodyPost_ret (v := .tuple #[.agg #[.slice e0 (flO x).b.length j0, .slice e1 (flO x).l.length j1, .slice e2 (flO x).u.length j2], .bool true]) (by simp [results, Tryz.f14, go_sem, z0, z1, z2]) rfl ⟨_, by rw [HFB.out], ((((HOU.out.win (setW _ _ _ _) (.inl (by omega))).win (setW _ _ _ _) (.inl (by omega))).win (setW _ _ _ _) (.inl (by omega))).below (Below.refl _ _).drew).mono (by omega) (by simp; omega), (s3.1.below HBU.out (by omega)).drew⟩
 ·
  have HFB := hidE hfb; rw [hfv] at HO; unfold endV at HO; clear hfb hfv; go_enter Tryz.func14, Tryz.ntmps14
  go_wp2_with fail
  refine HO.out.mono ?_; rintro e w1 ⟨u, rfl, hO, hB⟩; have hz1 := hB.size; obtain ⟨e0, j0, e1, j1, e2, j2, rfl⟩ := hO.exT; obtain ⟨U, hU⟩ : ∃ U, w1.alloc (.cells #[.slice e0 (flO x).b.length j0, .slice e1 (flO x).l.length j1, .slice e2 (flO x).u.length j2] 32) = U := ⟨_, rfl⟩
  have hUb : Below w1.heap.size w1 U := by rw [← hU]; exact (Below.refl _ w1).alloc (Nat.le_refl _) _
  obtain ⟨c0', c1', c2', -, -, -⟩ := (show C3 U w1.heap.size (.slice e0 (flO x).b.length j0) (.slice e1 (flO x).l.length j1) (.slice e2 (flO x).u.length j2) from by rw [← hU]; exact C3.new _ _ _ _ _)
  have hzr := blk_below HR.out (B3 hB hUb); have hBU := B3 HB.out (B3 hB hUb); have hOU := hO.below hUb; have hzU := hUb.size; have HOU := hidE hOU; have HBU := hidE hBU; clear hB hUb hBU hOU hO k0 k1 k2 hW0 hV; obtain ⟨⟨y0, y1, y2⟩, f0, f1, f2⟩ := box_cell hzr; go_wp2
  go_region_with (fail)
  all_goals go_wp2
  have s3 := set3_is hzr (.slice e0 (flO x).b.length j0) (.slice e1 (flO x).l.length j1) (.slice e2 (flO x).u.length j2); have z0 := cell_of_row _ (w.heap.size + 1) 0 _ _ _ s3.2; have z1 := cell_of_row _ (w.heap.size + 1) 1 _ _ _ s3.2; have z2 := cell_of_row _ (w.heap.size + 1) 2 _ _ _ s3.2; exact bodyPost_ret (v := .tuple #[.agg #[.slice e0 (flO x).b.length j0, .slice e1 (flO x).l.length j1, .slice e2 (flO x).u.length j2], .bool false]) (by simp [results, Tryz.f14, go_sem, z0, z1, z2]) rfl ⟨_, by rw [HFB.out], ((((HOU.out.win (setW _ _ _ _) (.inl (by omega))).win (setW _ _ _ _) (.inl (by omega))).win (setW _ _ _ _) (.inl (by omega))).below (Below.refl _ _).drew).mono (by omega) (by simp; omega), (s3.1.below HBU.out (by omega)).drew⟩
theorem flL_sm {ls : List (List Mk.E)} (h : ∀ l ∈ ls, SmM l) : ∀ l ∈ flL ls, SmM l := by
 cases hj : (decide (2 ≤ ls.length) && jB (ls.drop 1) (ls.headD [])) with
 | false => rw [(flL_no hj).1]; exact h
 | true =>
  rw [(flL_yes hj).1]; rw [Bool.and_eq_true, decide_eq_true_eq] at hj
  have hm : ls.headD [] ∈ ls := by
   cases ls with
   | nil => simp at hj
   | cons a r => exact List.mem_cons_self ..
  intro l hl; obtain rfl := List.mem_singleton.1 hl; exact jE_sz _ _ (fun k hk => h k (List.mem_of_mem_drop hk)) (h _ hm)
theorem flat_sz {x : O} (h : Sz 1048576 x) : Sz 16777216 (flO x) ∧ cntO (flO x) ≤ 1000 ∧ totO (flO x) ≤ 1048576 ∧ (flO x).l.length ≤ 1048576 := by
 cases hok : okB x with
 | false =>
  have e : flO x = ⟨[], [], []⟩ := by unfold flO; rw [hok]; rfl
  rw [e]; exact nil_sz
 | true =>
  rw [flO_is hok]; have hs := sz_sm h; obtain ⟨h1, h2, h3, h4, h5⟩ := ok_len hok; have hf := flL_len (ls := x.l) (fun l hl => ⟨hs.2.1 l hl, h3 l hl⟩); exact few_sz (y := ⟨x.b, flL x.l, x.u⟩) h1 hs.1 (by have := hf.1; show (flL x.l).length ≤ 5; omega) (fun l hl => ⟨hf.2 l hl, flL_sm hs.2.1 l hl⟩) h4 hs.2.2
end Go.Proofs.YteppodogghjfhabGreatDoor.Ov
