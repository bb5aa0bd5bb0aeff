import Derived.Test.YtoaipphccjkphaaDoorHPk05
import Derived.Test.YtoaipphccjkphaaDoorHPk13
import Derived.Test.YtoaipphccjkphaaDoorHPk17
import Derived.Maps.AppendAt
namespace Go.Proofs.YtoaipphccjkphaaDoor.Mg
open Go.RowKit Go.Lib
theorem map_succ (bs : List E) (k : Nat) (h : k < bs.length) : (bs.take (k + 1)).map (fun e => e.p) = (bs.take k).map (fun e => e.p) ++ [bs[k].p] := by
 rw [List.take_succ_eq_append_getElem h, List.map_append]; rfl
theorem Row.lies {w : World} {v : Value} {es : List E} (h : Row w v es) : Lies w v es := by
 obtain ⟨a, g, o, cap, rfl, h1, h2, h3, h4, h5⟩ := h; exact ⟨a, g, o, cap, rfl, h4, h5, h2⟩
set_option maxHeartbeats 4000000 in
set_option maxRecDepth 100000 in
theorem sl8Paths_any (w : World) (v1 v2 v3 : Value) (t a b : List E) (h1 : Row w v1 t) (h2 : Row w v2 a) (h3 : Row w v3 b) (l1 : t.length ≤ 65536) (l2 : a.length ≤ 65536) (l3 : b.length ≤ 65536) :
  Calls Tryd.prog 38 #[v1, v2, v3] w fun r w' => ∃ v, r = .returned v ∧ w'.ownsRow w.heap.size 9 1 v (pathsE t a b).length ((pathsE t a b).map Value.string) ∧ Below w.heap.size w w' := by
 obtain ⟨i0, hi, hzz0, hzz1, hzz2⟩ := info_parts Tryd.infoS; have HT0 := hidE h1.lies; obtain ⟨xa, ga, oa, ca, rfl, -, -, -, ha, hEa⟩ := h2; obtain ⟨xb, gb, ob, cb, rfl, -, -, -, hb, hEb⟩ := h3; obtain ⟨xt, gt, ot, ct, rfl, -, -, -, -, -⟩ := h1; have HA := hidE hEa; have HBb := hidE hEb; clear hEa hEb; go_enter Tryd.func38, Tryd.ntmps38
 go_wp2
 go_loopw [7, 8] (fun v iv wl => ∃ k : Nat, k ≤ a.length ∧ iv = .int .i64 k ∧ Hid (Lies wl v (bothE t (a.take k))) ∧ Hid (Below w.heap.size w wl)) (fun _ iv _ => a.length - (RowKit.intOf iv).toNat)
 case atStart => exact ⟨0, Nat.zero_le _, rfl, HT0.out, Below.refl _ _⟩
 case round =>
  obtain ⟨k, hk, rfl, HL, HB⟩ := hrel; by_cases hlt : k < a.length
  ·
   obtain rfl := ha (by omega); obtain ⟨c0, c1, c2⟩ := (HA.out.below HB.out) k hlt; have HK := hidE (both_succ t a k hlt); have hlen := _root_.Go.Proofs.YtoaipphccjkphaaDoor.both_len t a k hk; obtain ⟨pre, hpre⟩ : ∃ pre, bothE t (a.take k) = pre := ⟨_, rfl⟩
   rw [hpre] at HL HK hlen; clear hpre; obtain ⟨x4, g4, o4, c4, rfl, hb4, hLB⟩ := HL.out; obtain ⟨hLB, hcb⟩ := hLB; have HLB := hidE hLB; clear hLB HL; go_wp2_with fail
   refine (l2Put_any _ x4 g4 o4 c4 pre a[k].p a[k].d a[k].x (by omega) hcb hb4 HLB.out).mono ?_; rintro e w4 ⟨v, rfl, ho4, hB4⟩; have HB5 := hidE (HB.out.trans (hB4.mono HB.out.size)); have HL5 := hidE ho4.lies; clear ho4 hB4 HB; go_wp2
   go_roundw
   case rel => exact ⟨k + 1, by omega, by go_num, by rw [HK.out]; exact HL5, HB5⟩
   case measure => simp [RowKit.intOf]; omega
  ·
   have HT : Hid (bothE t a = bothE t (a.take k)) := by show _ = _; rw [List.take_of_length_le (by omega)]
   have hlen := _root_.Go.Proofs.YtoaipphccjkphaaDoor.both_len t a k hk; rw [← HT.out] at HL hlen; have HX : Hid (pathsE t a b = (bothE (bothE t a) b).map (fun e => e.p)) := show _ = _ from rfl; obtain ⟨us, hus⟩ : ∃ us, bothE t a = us := ⟨_, rfl⟩
   rw [hus] at HL hlen HX; clear HT hus; go_wp2
   obtain ⟨W1, rfl⟩ : ∃ W1, W1 = wr := ⟨wr, rfl⟩
   have HL1 := hidE HL.out; clear HL
   go_loopw [7, 9] (fun v iv wl => ∃ k : Nat, k ≤ b.length ∧ iv = .int .i64 k ∧ Hid (Lies wl v (bothE us (b.take k))) ∧ Hid (Below w.heap.size w wl)) (fun _ iv _ => b.length - (RowKit.intOf iv).toNat)
   case atStart => exact ⟨0, Nat.zero_le _, rfl, HL1.out, HB.out⟩
   case round =>
    obtain ⟨k2, hk2, rfl, HL, HB⟩ := hrel; by_cases hlt : k2 < b.length
    ·
     obtain rfl := hb (by omega); obtain ⟨c0, c1, c2⟩ := (HBb.out.below HB.out) k2 hlt; have HK := hidE (both_succ us b k2 hlt); have hlen := _root_.Go.Proofs.YtoaipphccjkphaaDoor.both_len us b k2 hk2; obtain ⟨pre, hpre⟩ : ∃ pre, bothE us (b.take k2) = pre := ⟨_, rfl⟩
     rw [hpre] at HL HK hlen; clear hpre; obtain ⟨x4, g4, o4, c4, rfl, hb4, hLB, hcb⟩ := HL.out; have HLB := hidE hLB; clear hLB HL; go_wp2_with fail
     refine (l2Put_any _ x4 g4 o4 c4 pre b[k2].p b[k2].d b[k2].x (by omega) hcb hb4 HLB.out).mono ?_; rintro e w4 ⟨v, rfl, ho4, hB4⟩; have HB5 := hidE (HB.out.trans (hB4.mono HB.out.size)); have HL5 := hidE ho4.lies; clear ho4 hB4 HB; go_wp2
     go_roundw
     case rel => exact ⟨k2 + 1, by omega, by go_num, by rw [HK.out]; exact HL5, HB5⟩
     case measure => simp [RowKit.intOf]; omega
    ·
     have HT : Hid (bothE us b = bothE us (b.take k2)) := by show _ = _; rw [List.take_of_length_le (by omega)]
     have hlen := _root_.Go.Proofs.YtoaipphccjkphaaDoor.both_len us b k2 hk2; rw [← HT.out] at HL hlen; obtain ⟨bs, hbs⟩ : ∃ bs, bothE us b = bs := ⟨_, rfl⟩
     rw [hbs] at HL hlen HX; clear HT hbs; obtain ⟨x4, g4, o4, c4, rfl, hb4, hLB, hcb⟩ := HL.out; have HLB := hidE hLB; have hz0 := HB.out.size; clear hLB HL; go_wp2
     obtain ⟨W2, rfl⟩ : ∃ W2, W2 = wr := ⟨wr, rfl⟩
     go_loopw [10, 11] (fun v iv wl => ∃ j : Nat, j ≤ bs.length ∧ iv = .int .i64 j ∧ Hid (wl.ownsRow W2.heap.size 9 1 v ((bs.take j).map (fun e => e.p)).length (((bs.take j).map (fun e => e.p)).map Value.string)) ∧ Hid (Below W2.heap.size W2 wl)) (fun _ iv _ => bs.length - (RowKit.intOf iv).toNat)
     case atStart => exact ⟨0, Nat.zero_le _, rfl, World.ownsRow_made W2 #[] 0 (Nat.le_refl _) (Nat.zero_le _) rfl, (Below.refl _ W2).alloc (Nat.le_refl _) _⟩
     case round =>
      obtain ⟨j, hj, rfl, HO, HB2⟩ := hrel; by_cases hlt2 : j < bs.length
      ·
       obtain rfl := hb4 (by omega); obtain ⟨c0, c1, c2⟩ := (HLB.out.below HB2.out) j hlt2; have HK := hidE (map_succ bs j hlt2); have hlen2 : ((bs.take j).map (fun e => e.p)).length ≤ 262144 := by simp; omega
       obtain ⟨pre, hpre⟩ : ∃ pre, (bs.take j).map (fun e => e.p) = pre := ⟨_, rfl⟩
       rw [hpre] at HO HK hlen2; clear hpre; have d0 := fun o => cellOn o c0; have hz2 := HB2.out.size
       go_wp2_with (first
        | (at_builtin; refine wpList_append_own _ rfl _ _ 40 rfl W2.heap.size 9 i0 (.string ByteArray.empty) 1 16 Tryd.underlying40 hi hzz0 hzz1 hzz2 rfl (by decide) _ _ _ rfl (HO.out.alloc _) ⟨wr.heap.size, 0, none⟩ 1 1 [.string bs[j].p] rfl rfl ?c1 ?c2 ?c3 ?c4 ?c5 ?_)
        | fail)
       try (case c1 => exact cell_one_new _ _ _)
       case c2 => first | rfl | (intro u hu; simp at hu; subst hu; rfl)
       case c3 => unfold maxLen; omega
       case c4 => omega
       case c5 => first | omega | (simp; omega)
       intro v' w5 hown' hgrow _; have HB6 := hidE ((HB2.out.alloc HB2.out.size _).grown hgrow (by simp; omega) (fun q hq => (World.ownsRow.lt HO.out q hq).1)); have ho6 : w5.ownsRow W2.heap.size 9 1 v' (pre ++ [bs[j].p]).length ((pre ++ [bs[j].p]).map Value.string) := by simpa using hown'
       have HO6 := hidE ho6; clear ho6; clear hown' hgrow HO HB2; go_wp2
       go_roundw
       case rel => exact ⟨j + 1, by omega, by go_num, by rw [HK.out]; exact HO6, HB6⟩
       case measure => simp [RowKit.intOf]; omega
      ·
       go_wp2
       go_ret
       have := HO.out; rw [List.take_of_length_le (by omega), ← HX.out] at this; exact ⟨_, rfl, rowlow this hz0, HB.out.trans (HB2.out.mono hz0)⟩
open Go.Maps
theorem cell_blk {w w' : World} {p : Addr} (h : w'.heap[p.block]? = w.heap[p.block]?) : w'.cell? p = w.cell? p := by
 unfold World.cell?; rw [h]
theorem strs_grown {w w' : World} {g : Nat} {ss : List ByteArray} {row : Option Nat} (h : StrB w g ss) (hg : w.grownBy w' row) (hne : ∀ r, row = some r → r ≠ g) : StrB w' g ss := fun i hi =>
 (cell_blk (p := ⟨g, i, none⟩) (hg.block g (World.block_lt_of_cell? w ⟨g, i, none⟩ (h i hi)) (fun e => hne g e.symm rfl))).trans (h i hi)
theorem strB_row {w : World} {base : Nat} {v : Value} {xs : List ByteArray} (h : w.ownsRow base 9 1 v xs.length (xs.map Value.string)) :
  ∃ a g cap, v = .slice a xs.length cap ∧ (0 < xs.length → a = some ⟨g, 0, none⟩) ∧ StrB w g xs ∧ base ≤ g := by
 have hc := fun (g : Nat) (hg : v.ownBlock = some g) => World.ownsRow.cells h hg; obtain ⟨_, ⟨rfl, e0⟩ | ⟨g, cap, cur, rfl, hb, _, hcap, _⟩⟩ := h
 ·
  exact ⟨none, base, 0, by rw [e0], fun h => by omega, fun i hi => by omega, Nat.le_refl _⟩
 ·
  refine ⟨_, g, cap, rfl, fun _ => rfl, fun i hi => ?_, hb⟩; have := hc g rfl i (.string xs[i]) (by rw [List.getElem?_map, List.getElem?_eq_getElem hi]; rfl); rw [add0, Nat.zero_add] at this; exact this
def Sm (es : List E) : Prop := ∀ e ∈ es, e.p.size ≤ 16777216 ∧ e.x.size ≤ 16777216
theorem getE_sm {es : List E} (h : Sm es) (s : ByteArray) : (getE es s).1.p.size ≤ 16777216 ∧ (getE es s).1.x.size ≤ 16777216 := by
 unfold getE
 split
 ·
  exact ⟨by decide, by decide⟩
 ·
  split
  ·
   rename_i e he
   split
   ·
    exact h e (List.mem_of_getElem? he)
   ·
    exact ⟨by decide, by decide⟩
  ·
   exact ⟨by decide, by decide⟩
theorem mk_sm {t a b : List E} (_ : Sm t) (h2 : Sm a) (h3 : Sm b) (s : ByteArray) : (mk t a b s).1.p.size ≤ 16777216 ∧ (mk t a b s).1.x.size ≤ 16777216 := by
 unfold mk at3
 split
 ·
  exact getE_sm h3 s
 ·
  split
  ·
   exact getE_sm h2 s
  ·
   exact ⟨by decide, by decide⟩
theorem mergeL_sm {t a b : List E} (h1 : Sm t) (h2 : Sm a) (h3 : Sm b) (q : List ByteArray) : Sm (mergeL t a b q) := fun e he => by
 unfold mergeL at he; obtain ⟨s, -, hs⟩ := List.mem_filterMap.1 he
 split at hs
 ·
  cases hs; exact mk_sm h1 h2 h3 s
 ·
  cases hs
theorem Row.sm {w : World} {v : Value} {es : List E} (h : Row w v es) : Sm es := by
 obtain ⟨a, g, o, cap, rfl, h1, h2, h3, h4, h5⟩ := h; exact h3
theorem OwnE.row {w : World} {base : Nat} {v : Value} {es : List E} (h : OwnE w base v es) (hl : es.length ≤ 16777216) (hs : Sm es) : Row w v es := by
 obtain ⟨a, g, cap, e, ha, hE, hc⟩ := h.ents; exact ⟨a, g, 0, cap, e, hl, hc, hs, ha, hE⟩
theorem clash_no {t a b : List E} {q : List ByteArray} {j : Nat} (hlt : j < q.length) (h : (mk t a b q[j]).2.2 = false) : (clashL t a b q).isEmpty = false := by
 have : q[j] ∈ clashL t a b q := by unfold clashL; exact List.mem_filter.2 ⟨List.getElem_mem hlt, by rw [h]; rfl⟩
 cases hc : clashL t a b q with
 | nil => rw [hc] at this; cases this
 | cons _ _ => rfl
set_option maxHeartbeats 4000000 in
set_option maxRecDepth 100000 in
theorem sMerge_any (w : World) (v1 v2 v3 : Value) (t a b : List E) (h1 : Row w v1 t) (h2 : Row w v2 a) (h3 : Row w v3 b) :
  Calls Tryd.prog 14 #[v1, v2, v3] w fun r w' => ∃ v, r = .returned (.tuple #[v, .bool (mergeB t a b)]) ∧ OwnE w' w.heap.size v (mergeE t a b) ∧ Below w.heap.size w w' := by
 obtain ⟨i0, hi, hzz0, hzz1, hzz2⟩ := info_parts Tryd.infoE'; obtain ⟨W0, hW0⟩ : ∃ W0, w.alloc (.cells #[] 27) = W0 := ⟨_, rfl⟩
 have hb0 : Below w.heap.size w W0 := by rw [← hW0]; exact (Below.refl _ w).alloc (Nat.le_refl _) _
 have HO0 : Hid (OwnE W0 w.heap.size (.slice (some ⟨w.heap.size, 0, none⟩) 0 0) []) := by
  rw [← hW0]; exact OwnE.made w (Nat.le_refl _)
 have HW0 := hidE hW0; have HB := hidE hb0; have K := hidE (sl8Right_any W0 v1 v2 v3 t a b (h1.below hb0) (h2.below hb0) (h3.below hb0)); have HSm := hidE (fun q => mergeL_sm h1.sm h2.sm h3.sm q); have H1 := hidE (fun (W : World) (h : Below w.heap.size w W) => h1.below h); have H2 := hidE (fun (W : World) (h : Below w.heap.size w W) => h2.below h); have H3 := hidE (fun (W : World) (h : Below w.heap.size w W) => h3.below h); clear h1 h2 h3 hb0; cases ht : trees3 t a b with
 | false =>
  have hc : mergeB t a b = false := by unfold mergeB; rw [ht]; rfl
  have hc2 : mergeE t a b = [] := by unfold mergeE; rw [hc]; rfl
  rw [hc, hc2]; rw [ht] at K; go_enter Tryd.func14, Tryd.ntmps14
  go_wp2_with fail
  clear hW0; refine K.out.mono ?_; rintro e w1 ⟨rfl, hB1⟩; have HB1 := hidE hB1; clear hB1; go_wp2
  go_ret2
  exact ⟨_, rfl, HO0.out.below HB1.out, B3G HB.out HB1.out⟩
 | true =>
  have HM : Hid (mergeB t a b = ((clashL t a b (pathsE t a b)).isEmpty && treeE (mergeL t a b (pathsE t a b)))) := by show _ = _; unfold mergeB; rw [ht]; rfl
  have HMe : Hid (mergeE t a b = if mergeB t a b = true then mergeL t a b (pathsE t a b) else []) := show _ = _ from rfl; obtain ⟨g1, g2, g3⟩ := trees_parts ht; have l1 := treeE_len g1; have l2 := treeE_len g2; have l3 := treeE_len g3; have hpl := paths_len t a b; have HP := hidE (fun (W : World) (h : Below w.heap.size w W) => sl8Paths_any W v1 v2 v3 t a b (H1.out W h) (H2.out W h) (H3.out W h) l1 l2 l3); rw [ht] at K; clear g1 g2 g3; obtain ⟨q, hq⟩ : ∃ q, pathsE t a b = q := ⟨_, rfl⟩
  rw [hq] at HP hpl HM HMe; clear hq; go_enter Tryd.func14, Tryd.ntmps14
  go_wp2_with fail
  clear hW0; refine K.out.mono ?_; rintro e w1 ⟨rfl, hB1⟩; have HB1 := hidE hB1; have HB1w := hidE (B3G HB.out HB1.out); have HO1 := hidE (HO0.out.below HB1.out); clear hB1 K; go_wp2_with fail
  refine (HP.out _ HB1w.out).mono ?_; rintro e w2 ⟨vq, rfl, hO2, hB2⟩; obtain ⟨aq, gq, cq, rfl, haq, hSq, hgq⟩ := strB_row hO2; have hs00 : W0.heap.size = w.heap.size + 1 := by rw [← HW0.out]; simp
  have hs01 : w.heap.size < w1.heap.size := by have := HB1.out.size; omega
  have HS01 := hidE hs01; have HGQ := hidE hgq; clear hs00 hs01 hgq; have HS := hidE hSq; have HB2 := hidE (B3G HB1w.out hB2); have HO2 := hidE (HO1.out.below hB2); clear hO2 hB2 hSq HB1 HP HO1 HO0; go_wp2
  go_loopw [8, 10] (fun v iv wl => ∃ j : Nat, j ≤ q.length ∧ iv = .int .i64 j ∧ Hid (OwnE wl w.heap.size v (mergeL t a b (q.take j))) ∧ Hid (Below w.heap.size w wl) ∧ Hid (StrB wl gq q) ∧ Hid (∀ g, v.ownBlock = some g → g ≠ gq) ∧ Hid (clashL t a b (q.take j) = [])) (fun _ iv _ => q.length - (RowKit.intOf iv).toNat)
  case atStart => exact ⟨0, Nat.zero_le _, rfl, HO2.out, HB2.out, HS.out, fun g hg => by have h1 := HS01.out; have h2 := HGQ.out; simp [Value.ownBlock] at hg; omega, rfl⟩
  case round =>
   obtain ⟨j, hj, rfl, HO, HB3, HS3, HN, HC⟩ := hrel; by_cases hlt : j < q.length
   ·
    obtain rfl := haq (by omega); have c0 := HS3.out j hlt; have HK := hidE (merge_succ t a b q j hlt); have HCK := hidE (clash_succ t a b q j hlt); have HNo := hidE (fun h => clash_no (t := t) (a := a) (b := b) hlt h); have hlen2 := mergeL_len t a b (q.take j); have hlen3 : (q.take j).length ≤ 262144 := by simp; omega
    obtain ⟨pre, hpre⟩ : ∃ pre, mergeL t a b (q.take j) = pre := ⟨_, rfl⟩
    rw [hpre] at HO HK hlen2; clear hpre; have HA := hidE (fun (W : World) (h : Below w.heap.size w W) => sl8At_any W v1 v2 v3 t a b q[j] (H1.out W h) (H2.out W h) (H3.out W h)); obtain ⟨⟨⟨mp, md, mx⟩, mh, mo⟩, hm⟩ : ∃ m, at3 (getE t q[j]) (getE a q[j]) (getE b q[j]) = m := ⟨_, rfl⟩
    have hm2 : mk t a b q[j] = (⟨mp, md, mx⟩, mh, mo) := hm; rw [hm2] at HK HCK HNo; rw [hm] at HA; clear hm hm2; obtain ⟨sq, hsq⟩ : ∃ sq, q[j] = sq := ⟨_, rfl⟩
    rw [hsq] at c0 HA HCK; clear hsq; go_wp2_with fail
    refine (HA.out _ HB3.out).mono ?_; rintro e w3 ⟨rfl, hB5⟩; obtain ⟨W3, hW3⟩ : ∃ W3, w3.alloc (.cells #[.string mp, .bool md, .string mx] 27) = W3 := ⟨_, rfl⟩
    have HB5 : Hid (Below wr.heap.size wr W3) := by rw [← hW3]; exact hB5.alloc hB5.size _
    have HX5 : Hid (W3.cell? ⟨w3.heap.size, 0, none⟩ = some (.string mp) ∧ W3.cell? ⟨w3.heap.size, 1, none⟩ = some (.bool md) ∧ W3.cell? ⟨w3.heap.size, 2, none⟩ = some (.string mx)) := by rw [← hW3]; exact ⟨by simp, by simp, by simp⟩
    clear hB5; have c1 := (HB5.out.cell (p := ⟨gq, j, none⟩) (World.block_lt_of_cell? wr ⟨gq, j, none⟩ c0)).trans c0; have HB6 := hidE (B3G HB3.out HB5.out); have HS6 := hidE (HS3.out.below HB5.out); have HO2 := hidE (HO.out.below HB5.out); clear HO HB3 HS3 c0 HA HB5; cases mo with
    | false =>
     have hn : mergeB t a b = false := by rw [HM.out, HNo.out rfl]; rfl
     have hn2 : mergeE t a b = [] := by rw [HMe.out, hn]; rfl
     have HN1 := hidE hn; have HN2 := hidE hn2; clear hn hn2; have hbz := HB6.out.size; go_wp2
     go_ret2
     exact ⟨_, by rw [HN1.out]; rfl, by rw [HN2.out]; exact OwnE.made _ hbz, HB6.out.alloc hbz _⟩
    | true =>
     have HC2 : Hid (clashL t a b (q.take (j + 1)) = []) := by show _ = _; rw [HCK.out, if_pos rfl, HC.out]; rfl
     cases mh with
     | false =>
      have HK2 : Hid (mergeL t a b (q.take (j + 1)) = pre) := by show _ = _; rw [HK.out, if_neg (by decide), List.append_nil]
      go_wp2
      go_roundw
      case rel => exact ⟨j + 1, by omega, by go_num, by rw [HK2.out]; exact HO2, HB6, HS6, HN, HC2⟩
      case measure => simp [RowKit.intOf]; omega
     | true =>
      have HK2 : Hid (mergeL t a b (q.take (j + 1)) = pre ++ [⟨mp, md, mx⟩]) := by show _ = _; rw [HK.out, if_pos rfl]
      obtain ⟨x0, x1, x2⟩ := HX5.out
      go_wp2_with (first
       | (at_builtin; refine wpList_append_own_at _ rfl _ _ 23 rfl w.heap.size 27 i0 _ 3 40 Tryd.underlying23 hi hzz0 hzz1 hzz2 rfl (by decide) _ _ _ rfl (HO2.out.below ((Below.refl _ W3).alloc (Nat.le_refl _) _)) ⟨W3.heap.size, 0, none⟩ 1 1 (cellsE ⟨mp, md, mx⟩) rfl rfl (cells_new W3 ⟨mp, md, mx⟩) rowE_one' ?c3 ?c4 ?c5 ?_)
       | fail)
      case c3 => unfold maxLen; omega
      case c4 => omega
      case c5 => (have h9 := HB6.out.size; first | omega | (simp; omega))
      intro v' w5 hown' hgrow _ hat; have HB9 := hidE ((HB6.out.alloc HB6.out.size _).grown hgrow (by have := HB6.out.size; simp; omega) (fun q hq => (World.ownsRow.lt HO2.out q hq).1)); have HS9 := hidE (strs_grown (HS6.out.below ((Below.refl _ W3).alloc (Nat.le_refl _) _)) hgrow HN.out)
      have HN9 : Hid (∀ g, v'.ownBlock = some g → g ≠ gq) := fun g hg => by
       rcases hat with h | h
       ·
        rw [h] at hg; exact HN.out g hg
       ·
        rw [h] at hg; have h5 := World.block_lt_of_cell? W3 ⟨gq, j, none⟩ c1; simp at hg h5; omega
      have HO6 := hidE (OwnE.push hown'); clear hown' hgrow HO2 x0 x1 x2; go_wp2
      go_roundw
      case rel => exact ⟨j + 1, by omega, by go_num, by rw [HK2.out]; exact HO6, HB9, HS9, HN9, HC2⟩
      case measure => simp [RowKit.intOf]; omega
   ·
    rw [List.take_of_length_le (by omega)] at HO HC; have hml := mergeL_len t a b q; have HR := hidE (OwnE.row HO.out (by omega) (HSm.out q)); have hM2 : mergeB t a b = treeE (mergeL t a b q) := by rw [HM.out, HC.out]; rfl
    have HM2 := hidE hM2; have HMe2 : Hid (mergeE t a b = if treeE (mergeL t a b q) = true then mergeL t a b q else []) := by show _ = _; rw [HMe.out, hM2]
    clear hM2 HM HMe hml; obtain ⟨ms, hms⟩ : ∃ ms, mergeL t a b q = ms := ⟨_, rfl⟩
    rw [hms] at HR HM2 HMe2 HO; clear hms; have HT := hidE HR.out.sOk; have HOk := hidE (fun (W : World) (h : Below wr.heap.size wr W) => HO.out.below h); have HBk := hidE HB3.out; clear HO HB3; cases htr : treeE ms with
    | false =>
     rw [htr] at HT HM2 HMe2; go_wp2_with fail
     refine HT.out.mono ?_; rintro e w4 ⟨rfl, hB4⟩; have HB4 := hidE (B3G HBk.out hB4); clear hB4; have hbz := HB4.out.size; go_wp2
     go_ret2
     exact ⟨_, by rw [HM2.out]; rfl, by rw [HMe2.out]; exact OwnE.made _ hbz, HB4.out.alloc hbz _⟩
    | true =>
     rw [htr] at HT HM2 HMe2; go_wp2_with fail
     refine HT.out.mono ?_; rintro e w4 ⟨rfl, hB4⟩; have HB4 := hidE (B3G HBk.out hB4); have HO4 := hidE (HOk.out _ hB4); clear hB4; go_wp2
     go_ret2
     exact ⟨_, by rw [HM2.out]; rfl, by rw [HMe2.out]; exact HO4.out, HB4.out⟩
end Go.Proofs.YtoaipphccjkphaaDoor.Mg
