import Derived.Deep.RegionHeld3
import Derived.Test.YteppodogghjfhabGreatDoorHPk20
import Derived.Test.YteppodogghjfhabGreatDoorHPk05
namespace Go.Proofs.YteppodogghjfhabGreatDoor.Ly
open Go.RowKit Go.Lib Go.Sort
theorem thru_succ {l : List Mk.E} {t : List E} {k : Nat} (h : k < t.length) : thruE l (t.take (k + 1)) = thruE l (t.take k) ++ (if Mk.hidesM l t[k].p = true then [] else [t[k]]) := by
 unfold thruE; rw [List.take_succ_eq_append_getElem h, List.filter_append]
 congr 1
 cases hh : Mk.hidesM l t[k].p <;> simp [hh]
theorem thru_len (l : List Mk.E) (t : List E) (k : Nat) : (thruE l (t.take k)).length ≤ k := by
 have := List.length_filter_le (fun e : E => !Mk.hidesM l e.p) (t.take k); rw [List.length_take] at this; unfold thruE; omega
theorem fold_succ {l : List Mk.E} {out : List E} {k : Nat} (h : k < l.length) : (l.take (k + 1)).foldl lay1 out = lay1 ((l.take k).foldl lay1 out) l[k] := by
 rw [List.take_succ_eq_append_getElem h, List.foldl_append]; rfl
theorem lay_len (out : List E) (m : Mk.E) : (lay1 out m).length ≤ out.length + 1 := by
 unfold lay1
 split
 ·
  exact put_len out _
 ·
  omega
theorem fold_len : ∀ (l : List Mk.E) (out : List E), (l.foldl lay1 out).length ≤ out.length + l.length
 | [], _ => Nat.le_refl _
 | m :: r, out => by
  show (r.foldl lay1 (lay1 out m)).length ≤ _
  have h1 := fold_len r (lay1 out m); have h2 := lay_len out m; rw [List.length_cons]; omega
set_option maxHeartbeats 2000000 in
set_option maxRecDepth 100000 in
theorem l3On_any (w : World) (a : Option Addr) (g o cap : Nat) (l : List Mk.E) (a' : Option Addr) (g' o' cap' : Nat) (t : List E) (hl : l.length ≤ 1000) (ht : t.length ≤ 1000) (hz : ∀ e ∈ l, e.p.size ≤ 16777216) (hz' : ∀ e ∈ t, e.p.size ≤ 16777216) (ha : 0 < l.length → a = some ⟨g, o, none⟩) (ha' : 0 < t.length → a' = some ⟨g', o', none⟩) (hE : Mk.Ents w g o l) (hF : Ents w g' o' t) :
  Calls Tryz.prog 83 #[.slice a l.length cap, .slice a' t.length cap'] w fun r w' => ∃ v, r = .returned v ∧ OwnE w' w.heap.size v (onM l t) ∧ Below w.heap.size w w' := by
 obtain ⟨i0, hi, hz0, hz1, hz2⟩ := info_parts Tryz.infoE'; have HE := hidE hE; have HF := hidE hF; have HZ := hidE hz; have HZ' := hidE hz'; clear hE hF hz hz'; go_enter Tryz.func83, Tryz.ntmps83
 go_wp2
 go_loopw [5, 6] (fun v iv wl => ∃ k : Nat, k ≤ t.length ∧ iv = .int .i64 k ∧ Hid (OwnE wl w.heap.size v (thruE l (t.take k))) ∧ Hid (Below w.heap.size w wl)) (fun _ iv _ => t.length - (RowKit.intOf iv).toNat)
 case atStart => exact ⟨0, Nat.zero_le _, rfl, OwnE.made w (Nat.le_refl _), (Below.refl _ w).alloc (Nat.le_refl _) _⟩
 case round =>
  obtain ⟨k, hk, rfl, HO, HB⟩ := hrel; by_cases hlt : k < t.length
  ·
   obtain rfl := ha' (by omega); obtain ⟨c0, c1, c2⟩ := (HF.out.below HB.out) k hlt; have HHd := hidE (Mk.l3Hides_any wr a g o cap l t[k].p (by omega) (HZ'.out _ (List.getElem_mem _)) HZ.out ha (HE.out.below HB.out)); have HK := hidE (thru_succ (l := l) hlt); have hlen := thru_len l t k; have hz3 := HB.out.size; obtain ⟨pre, hpre⟩ : ∃ pre, thruE l (t.take k) = pre := ⟨_, rfl⟩
   rw [hpre] at HO HK hlen; clear hpre; go_wp2_with fail
   refine HHd.out.mono ?_; rintro e w2 ⟨rfl, hB2⟩; have HO2 := hidE (HO.out.below hB2); have HB2 := hidE (HB.out.trans (hB2.mono hz3)); obtain ⟨c0, c1, c2⟩ := (HF.out.below HB2.out) k hlt; have hz4 := HB2.out.size; clear hB2 HO HB HHd; cases hb : Mk.hidesM l t[k].p with
   | true =>
    have HK2 : Hid (thruE l (t.take (k + 1)) = pre) := by
     show _ = _; rw [HK.out, hb]; simp
    clear HK; go_wp2
    go_roundw
    case rel => exact ⟨k + 1, by omega, by go_num, by rw [HK2.out]; exact HO2, HB2⟩
    case measure => simp [RowKit.intOf]; omega
   | false =>
    have HK2 : Hid (thruE l (t.take (k + 1)) = pre ++ [t[k]]) := by
     show _ = _; rw [HK.out, hb]; simp
    clear HK
    go_wp2_with (first
     | (at_builtin; refine wpE_append rfl _ _ rfl w.heap.size _ pre rfl (World.ownsRow.alloc HO2.out _) _ _ w2.heap.size 0 [t[k]] 1 rfl rfl (fun _ => rfl) (ents_new _ _) ?c1 ?c2 ?_)
     | fail)
    case c1 => simp; omega
    case c2 => simp; omega
    intro v' w4 hown' hgrow; have HB4 := hidE ((HB2.out.alloc hz4 _).grown hgrow (by simp; omega) (fun q hq => (World.ownsRow.lt HO2.out q hq).1)); have HO4 : Hid (OwnE w4 w.heap.size v' (pre ++ [t[k]])) := hown'; clear hown' hgrow HO2 HB2; go_wp2
    go_roundw
    case rel => exact ⟨k + 1, by omega, by go_num, by rw [HK2.out]; exact HO4, HB4⟩
    case measure => simp [RowKit.intOf]; omega
  ·
   have hke : t.take k = t := List.take_of_length_le (by omega); rw [hke] at HO; have htl : (thruE l t).length ≤ t.length := by have := thru_len l t t.length; rwa [List.take_length] at this
   clear hke; go_wp2
   go_loopw [5, 7] (fun v iv wl => ∃ k : Nat, k ≤ l.length ∧ iv = .int .i64 k ∧ Hid (OwnE wl w.heap.size v ((l.take k).foldl lay1 (thruE l t))) ∧ Hid (Below w.heap.size w wl)) (fun _ iv _ => l.length - (RowKit.intOf iv).toNat)
   case atStart => exact ⟨0, Nat.zero_le _, rfl, HO, HB⟩
   case round =>
    clear HO HB; obtain ⟨j, hj, rfl, HO, HB⟩ := hrel; by_cases hjt : j < l.length
    ·
     obtain rfl := ha (by omega); obtain ⟨c0, c1, c2⟩ := (HE.out.below HB.out) j hjt; have HK := hidE (fold_succ (out := thruE l t) hjt); have hfl := fold_len (l.take j) (thruE l t); rw [List.length_take] at hfl; have hz3 := HB.out.size; obtain ⟨pre, hpre⟩ : ∃ pre, (l.take j).foldl lay1 (thruE l t) = pre := ⟨_, rfl⟩
     rw [hpre] at HO HK hfl; clear hpre; by_cases h1 : l[j].d = 1
     ·
      rw [h1] at c1
      have HK2 : Hid ((l.take (j + 1)).foldl lay1 (thruE l t) = putE pre ⟨l[j].p, false, l[j].x⟩) := by
       show _ = _; rw [HK.out]; unfold lay1 entM; rw [if_pos h1]
      clear HK; obtain ⟨a5, g5, cap5, rfl, ha5, hE5, hcap5⟩ := HO.out.ents; have HPu := hidE (fun (W : World) (hW : Ents W g5 0 pre) => l2Put_any W a5 g5 0 cap5 pre l[j].p false l[j].x (by omega) hcap5 ha5 hW); have HE5 := hidE hE5; clear hE5 ha5; have AS : Hid (∀ W', Below wr.heap.size wr W' → (W'.cell? ⟨g, o + j * 3, none⟩ = some (.string l[j].p) ∧ W'.cell? ⟨g, o + j * 3 + 2, none⟩ = some (.string l[j].x))) := fun W' hW => ⟨((HE.out.below HB.out).below hW j hjt).1, ((HE.out.below HB.out).below hW j hjt).2.2⟩; go_wp2
      go_region_held3 (fun W' => W'.cell? ⟨g, o + j * 3, none⟩ = some (.string l[j].p) ∧ W'.cell? ⟨g, o + j * 3 + 2, none⟩ = some (.string l[j].x))
       ((refine AS.out _ ?_; repeat (first | exact Below.refl _ _ | refine Mk.tBelow ?_ hB3 | apply Below.drew)))
       (first | (go_at_call 84; refine (HPu.out _ (HE5.out.below (Below.refl _ wr).drew)).mono ?_; rintro e w3 ⟨v3, rfl, ho3, hB3⟩) | fail)
      have HO3 := hidE (ho3.lower (base' := w.heap.size) hz3); have HB3 := hidE (HB.out.trans ((Mk.tBelow (Below.refl _ wr).drew hB3).mono hz3)); clear ho3 hB3 HB HO; go_wp2
      go_roundw
      case rel => exact ⟨j + 1, by omega, by go_num, by rw [HK2.out]; exact HO3, HB3⟩
      case measure => simp [RowKit.intOf]; omega
     ·
      have h1' : (l[j].d == 1) = false := by rw [beq_eq_false_iff_ne]; exact h1
      by_cases h2 : l[j].d = 2
      ·
       rw [h2] at c1
       have HK2 : Hid ((l.take (j + 1)).foldl lay1 (thruE l t) = putE pre ⟨l[j].p, true, ⟨#[]⟩⟩) := by
        show _ = _; rw [HK.out]; unfold lay1 entM; rw [if_neg h1, if_pos (.inl h2)]
       clear HK; obtain ⟨a5, g5, cap5, rfl, ha5, hE5, hcap5⟩ := HO.out.ents; have HPu := hidE (fun (W : World) (hW : Ents W g5 0 pre) => l2Put_any W a5 g5 0 cap5 pre l[j].p true ⟨#[]⟩ (by omega) hcap5 ha5 hW); have HE5 := hidE hE5; clear hE5 ha5; go_wp2_with fail
       refine (HPu.out _ HE5.out).mono ?_; rintro e w3 ⟨v3, rfl, ho3, hB3⟩; have HO3 := hidE (ho3.lower (base' := w.heap.size) hz3); have HB3 := hidE (HB.out.trans (hB3.mono hz3)); clear ho3 hB3 HB HO; go_wp2
       go_roundw
       case rel => exact ⟨j + 1, by omega, by go_num, by rw [HK2.out]; exact HO3, HB3⟩
       case measure => simp [RowKit.intOf]; omega
      ·
       have h2' : (l[j].d == 2) = false := by rw [beq_eq_false_iff_ne]; exact h2
       by_cases h4 : l[j].d = 4
       ·
        rw [h4] at c1
        have HK2 : Hid ((l.take (j + 1)).foldl lay1 (thruE l t) = putE pre ⟨l[j].p, true, ⟨#[]⟩⟩) := by
         show _ = _; rw [HK.out]; unfold lay1 entM; rw [if_neg h1, if_pos (.inr h4)]
        clear HK; obtain ⟨a5, g5, cap5, rfl, ha5, hE5, hcap5⟩ := HO.out.ents; have HPu := hidE (fun (W : World) (hW : Ents W g5 0 pre) => l2Put_any W a5 g5 0 cap5 pre l[j].p true ⟨#[]⟩ (by omega) hcap5 ha5 hW); have HE5 := hidE hE5; clear hE5 ha5; go_wp2_with fail
        refine (HPu.out _ HE5.out).mono ?_; rintro e w3 ⟨v3, rfl, ho3, hB3⟩; have HO3 := hidE (ho3.lower (base' := w.heap.size) hz3); have HB3 := hidE (HB.out.trans (hB3.mono hz3)); clear ho3 hB3 HB HO; go_wp2
        go_roundw
        case rel => exact ⟨j + 1, by omega, by go_num, by rw [HK2.out]; exact HO3, HB3⟩
        case measure => simp [RowKit.intOf]; omega
       ·
        have h4' : (l[j].d == 4) = false := by rw [beq_eq_false_iff_ne]; exact h4
        have HK2 : Hid ((l.take (j + 1)).foldl lay1 (thruE l t) = pre) := by
         show _ = _; rw [HK.out]; unfold lay1 entM; rw [if_neg h1, if_neg (by omega)]
        clear HK; go_wp2
        go_roundw
        case rel => exact ⟨j + 1, by omega, by go_num, by rw [HK2.out]; exact HO, HB⟩
        case measure => simp [RowKit.intOf]; omega
    ·
     go_wp2
     go_ret
     rw [List.take_of_length_le (by omega)] at HO; exact ⟨_, rfl, HO.out, HB.out⟩
def onB (l : List Mk.E) (t : List E) : Bool := (Mk.layB l && treeE t) && decide ((onM l t).length ≤ 16)
def onE (l : List Mk.E) (t : List E) : List E := if onB l t = true then onM l t else []
set_option maxHeartbeats 1000000 in
set_option maxRecDepth 100000 in
theorem sLayerOn_any (w : World) (a : Option Addr) (g o cap : Nat) (l : List Mk.E) (a' : Option Addr) (g' o' cap' : Nat) (t : List E) (hl : l.length ≤ 1048576) (ht : t.length ≤ 1048576) (hcap : l.length ≤ cap) (hcap' : t.length ≤ cap') (hz : ∀ e ∈ l, e.p.size ≤ 16777216 ∧ e.x.size ≤ 16777216) (hz' : ∀ e ∈ t, e.p.size ≤ 16777216 ∧ e.x.size ≤ 16777216) (ha : 0 < l.length → a = some ⟨g, o, none⟩) (ha' : 0 < t.length → a' = some ⟨g', o', none⟩) (hE : Mk.Ents w g o l) (hF : Ents w g' o' t) :
  Calls Tryz.prog 57 #[.slice a l.length cap, .slice a' t.length cap'] w fun r w' => ∃ v, r = .returned (.tuple #[v, .bool (onB l t)]) ∧ OwnE w' w.heap.size v (onE l t) ∧ Below w.heap.size w w' := by
 have HE := hidE hE; have HF := hidE hF; have HO := hidE (fun (W : World) (hW : Mk.Ents W g o l) => Mk.sLayerOk_any W a g o cap l (by omega) hcap hz ha hW); have HT := hidE (fun (W : World) (hW : Ents W g' o' t) => sTreeOk_any W a' g' o' cap' t (by omega) hcap' hz' ha' hW); have HD : Hid (onB l t = ((Mk.layB l && treeE t) && decide ((onM l t).length ≤ 16))) := rfl; clear hE hF; go_enter Tryz.func57, Tryz.ntmps57
 go_wp2_with fail
 refine (HO.out _ HE.out).mono ?_; rintro e w1 ⟨rfl, hB⟩; have HB1 := hidE hB; have HE1 := hidE (HE.out.below hB); have HF1 := hidE (HF.out.below hB); clear hB; cases hly : Mk.layB l with
 | false =>
  have hn : onB l t = false := by rw [HD.out, hly]; rfl
  have hq : onE l t = [] := by unfold onE; rw [hn]; rfl
  go_wp2
  go_ret2
  exact ⟨_, by rw [hn]; rfl, by rw [hq]; exact OwnE.made _ HB1.out.size, HB1.out.alloc HB1.out.size _⟩
 | true =>
  go_wp2_with fail
  refine (HT.out _ HF1.out).mono ?_; rintro e w2 ⟨rfl, hB⟩; have HB2 := hidE (Mk.tBelow HB1.out hB); have HE2 := hidE (HE1.out.below hB); have HF2 := hidE (HF1.out.below hB); clear hB HB1 HE1 HF1; cases htr : treeE t with
  | false =>
   have hn : onB l t = false := by rw [HD.out, hly, htr]; rfl
   have hq : onE l t = [] := by unfold onE; rw [hn]; rfl
   go_wp2
   go_ret2
   exact ⟨_, by rw [hn]; rfl, by rw [hq]; exact OwnE.made _ HB2.out.size, HB2.out.alloc HB2.out.size _⟩
  | true =>
   have hll : l.length ≤ 32 := by
    unfold Mk.layB at hly; rw [Bool.and_eq_true] at hly; exact of_decide_eq_true hly.2
   have htl := (treeE_tr htr).2; go_wp2_with fail
   refine (l3On_any _ a g o cap l a' g' o' cap' t (by omega) (by omega) (fun e he => (hz e he).1) (fun e he => (hz' e he).1) ha ha' HE2.out HF2.out).mono ?_; rintro e w3 ⟨v3, rfl, ho3, hB⟩; have HO3 := hidE (ho3.lower (base' := w.heap.size) HB2.out.size); have HB3 := hidE (Mk.tBelow HB2.out hB); clear ho3 hB HB2 HE2 HF2; obtain ⟨a3, g3, c3, rfl, ha3, hE3, hc3⟩ := HO3.out.ents; clear ha3 hE3; by_cases h16 : (onM l t).length ≤ 16
   ·
    have hn : onB l t = true := by rw [HD.out, hly, htr, decide_eq_true h16]; rfl
    have hq : onE l t = onM l t := by unfold onE; rw [hn]; rfl
    go_wp2
    go_ret2
    exact ⟨_, by rw [hn]; rfl, by rw [hq]; exact HO3.out, HB3.out⟩
   ·
    have hn : onB l t = false := by rw [HD.out, hly, htr, decide_eq_false h16]; rfl
    have hq : onE l t = [] := by unfold onE; rw [hn]; rfl
    have h17 : (16 : Int) < (onM l t).length := by omega
    go_wp2
    go_ret2
    exact ⟨_, by rw [hn]; rfl, by rw [hq]; exact OwnE.made _ HB3.out.size, HB3.out.alloc HB3.out.size _⟩
theorem hideM_iff {s : ByteArray} {m : Mk.E} (hs : pathB s = true) (hm : pathB m.p = true) : Mk.hideM s m = true ↔ m.d ≠ 2 ∧ (m.p = s ∨ underI s m.p = true) := by
 unfold Mk.hideM; rw [Mk.underL_I hs hm, Bool.or_eq_true, Bool.and_eq_true, Bool.and_eq_true, bne_iff_ne, beq_iff_eq]
 constructor
 ·
  rintro (⟨h1, h2⟩ | ⟨h1, h2⟩)
  ·
   exact ⟨h2, .inl (toList_inj h1)⟩
  ·
   exact ⟨h1, .inr h2⟩
 ·
  rintro ⟨h1, h2 | h2⟩
  ·
   exact .inl ⟨by rw [h2], h1⟩
  ·
   exact .inr ⟨h1, h2⟩
theorem hides_iff {l : List Mk.E} (T : Mk.TrM l) {s : ByteArray} (hs : pathB s = true) : Mk.hidesM l s = true ↔ ∃ m ∈ l, m.d ≠ 2 ∧ (m.p = s ∨ underI s m.p = true) := by
 unfold Mk.hidesM; rw [List.any_eq_true]; exact ⟨fun ⟨m, hm, h⟩ => ⟨m, hm, (hideM_iff hs (T.path m hm)).1 h⟩, fun ⟨m, hm, h⟩ => ⟨m, hm, (hideM_iff hs (T.path m hm)).2 h⟩⟩
theorem lay_data {l : List Mk.E} (h : Mk.layB l = true) : ∀ m ∈ l, dataB m.x = true := fun m hm => by
 unfold Mk.layB at h; rw [Bool.and_eq_true, List.all_eq_true] at h; obtain ⟨i, hi, rfl⟩ := List.getElem_of_mem hm; have := h.1 i (List.mem_range.2 hi); rw [Mk.okM_is hi] at this; simp only [Bool.and_eq_true] at this; exact this.2.2.1
theorem ent_dir {m : Mk.E} (h : Mk.dirK m.d = true) : entM m = some ⟨m.p, true, ⟨#[]⟩⟩ := by
 unfold Mk.dirK at h; rw [Bool.or_eq_true, beq_iff_eq, beq_iff_eq] at h; unfold entM; rw [if_neg (by omega), if_pos h]
theorem on_tr {l : List Mk.E} {t : List E} (hx : ∀ m ∈ l, dataB m.x = true) (T : Mk.TrM l) (U : TrE t) : TrE (onM l t) where
 path := fun e he => by
  rcases (on_mem T U.sort e).1 he with ⟨m, hm, h⟩ | ⟨⟨h, -⟩, -⟩
  ·
   rw [ent_path h]; exact T.path m hm
  ·
   exact U.path e h
 sort := on_rise U.sort
 data := fun e he => by
  rcases (on_mem T U.sort e).1 he with ⟨m, hm, h⟩ | ⟨⟨h, -⟩, -⟩
  ·
   unfold entM at h
   split at h
   ·
    cases h; exact ⟨hx m hm, fun q => by cases q⟩
   ·
    split at h
    ·
     cases h; exact ⟨Mk.data_nil, fun _ => rfl⟩
    ·
     cases h
  ·
   exact U.data e h
 up := fun e he => by
  rcases (on_mem T U.sort e).1 he with ⟨m, hm, h⟩ | ⟨⟨h, hh⟩, hn⟩
  ·
   rw [ent_path h]; rcases T.up m hm with q | ⟨f, hf, hd⟩
   ·
    exact look_dir (.inl q)
   ·
    obtain ⟨hf1, hf2⟩ := Mk.look_mem hf; refine look_dir (.inr ⟨⟨f.p, true, ⟨#[]⟩⟩, ?_, rfl⟩); rw [← hf2]; exact look_self (on_rise U.sort) ((on_mem T U.sort _).2 (.inl ⟨f, hf1, ent_dir hd⟩))
  ·
   have hp := U.path e h; rcases dir_look (U.up e h) with q | ⟨f, hf, hd⟩
   ·
    exact look_dir (.inl q)
   ·
    obtain ⟨hf1, hf2⟩ := look_mem hf; have hu : pathB (upS e.p) = true := by rw [← hf2]; exact U.path f hf1
    have hno : ∀ m ∈ l, m.p = upS e.p → m.d = 2 := fun m hm q => Classical.byContradiction fun h2 => by
     have : Mk.hidesM l e.p = true := (hides_iff T hp).2 ⟨m, hm, h2, .inr (by rw [q]; exact up_under hp)⟩; rw [hh] at this; cases this
    have hfh : Mk.hidesM l f.p = false := by
     cases hc : Mk.hidesM l f.p with
     | false => rfl
     | true =>
      exfalso
      obtain ⟨m, hm, h2, h3⟩ := (hides_iff T (U.path f hf1)).1 hc
      have : Mk.hidesM l e.p = true := (hides_iff T hp).2 ⟨m, hm, h2, .inr (by
       rcases h3 with h3 | h3
       ·
        rw [h3, hf2]; exact up_under hp
       ·
        exact under_trans (up_under hp) (by rw [← hf2]; exact h3))⟩
      rw [hh] at this; cases this
    cases hl : Mk.lookE l (upS e.p) with
    | some m =>
     obtain ⟨hm1, hm2⟩ := Mk.look_mem hl; have h2 := hno m hm1 hm2; refine look_dir (.inr ⟨⟨m.p, true, ⟨#[]⟩⟩, ?_, rfl⟩); rw [← hm2]; exact look_self (on_rise U.sort) ((on_mem T U.sort _).2 (.inl ⟨m, hm1, ent_dir (by rw [h2]; rfl)⟩))
    | none =>
     refine look_dir (.inr ⟨f, ?_, hd⟩); rw [← hf2]; refine look_self (on_rise U.sort) ((on_mem T U.sort _).2 (.inr ⟨⟨hf1, hfh⟩, fun m hm _ q => ?_⟩)); exact Mk.look_none.1 hl m hm (q.trans hf2)
theorem on_is {l : List Mk.E} {t : List E} (h : onB l t = true) : Mk.layB l = true ∧ treeE t = true ∧ (onM l t).length ≤ 16 ∧ onE l t = onM l t := by
 have hE : onE l t = onM l t := by unfold onE; rw [h]; rfl
 unfold onB at h; rw [Bool.and_eq_true, Bool.and_eq_true] at h; exact ⟨h.1.1, h.1.2, of_decide_eq_true h.2, hE⟩
theorem lay_tr' {l : List Mk.E} (h : Mk.layB l = true) : Mk.TrM l := by
 unfold Mk.layB at h; rw [Bool.and_eq_true] at h; have := Mk.tr_take l.length (Nat.le_refl _) h.1
 rwa [List.take_length] at this
theorem mark_hides {l : List Mk.E} {m : Mk.E} (hm : m ∈ l) (h2 : m.d ≠ 2) : Mk.hidesM l m.p = true := by
 unfold Mk.hidesM; rw [List.any_eq_true]; refine ⟨m, hm, ?_⟩; unfold Mk.hideM; rw [Bool.or_eq_true, Bool.and_eq_true]; exact .inl ⟨by simp, by rw [bne_iff_ne]; exact h2⟩
structure RtM (l : List Mk.E) : Prop where
 tr : Mk.TrM l
 data : ∀ m ∈ l, dataB m.x = true
 plain : ∀ m ∈ l, m.d ≠ 1 → m.x = ⟨#[]⟩
 bare : ∀ m ∈ l, ∀ k ∈ l, k.d = 4 → underI m.p k.p = true → m.d ≤ 2
theorem bare_iff {l : List Mk.E} (T : Mk.TrM l) {s : ByteArray} (hs : pathB s = true) : Mk.bareM l s = true ↔ ∃ m ∈ l, m.d = 4 ∧ underI s m.p = true := by
 unfold Mk.bareM; rw [List.any_eq_true]
 constructor
 ·
  rintro ⟨m, hm, h⟩; rw [Bool.and_eq_true, beq_iff_eq, Mk.underL_I hs (T.path m hm)] at h; exact ⟨m, hm, h⟩
 ·
  rintro ⟨m, hm, h⟩; exact ⟨m, hm, by rw [Bool.and_eq_true, beq_iff_eq, Mk.underL_I hs (T.path m hm)]; exact h⟩
theorem take_mem {l : List Mk.E} (hs : Mk.Rise l) {i : Nat} (hi : i < l.length) {k : Mk.E} (hk : k ∈ l) (h : less k.p l[i].p) : k ∈ l.take i := by
 obtain ⟨j, hj, rfl⟩ := List.getElem_of_mem hk; by_cases q : j < i
 ·
  rw [List.mem_take_iff_getElem]; exact ⟨j, by omega, rfl⟩
 ·
  exfalso
  by_cases e : j = i
  ·
   subst e; exact less_irrefl _ h
  ·
   exact less_irrefl _ (less_trans h (List.pairwise_iff_getElem.1 hs i j hi hj (by omega)))
theorem under_less {a b : ByteArray} (hb : pathB b = true) (h : underI a b = true) : less b a := by
 obtain ⟨r, h1, h2⟩ := under_list hb (.inr h); have hne : a ≠ b := fun q => by rw [q] at h; have := under_lev b.size b b (Nat.le_refl _) h; omega
 rw [less_L, h1]; cases r with
 | nil => rw [List.append_nil] at h1; exact absurd (L_inj h1) hne
 | cons y r =>
  have := bless_pre (L b) [] (y :: r); rw [List.append_nil] at this; rw [this]; rfl
theorem lay_rt {l : List Mk.E} (h : Mk.layB l = true) : RtM l := by
 have T := lay_tr' h
 have key : ∀ (i : Nat) (hi : i < l.length), dataB l[i].x = true ∧ (l[i].d ≠ 1 → l[i].x = ⟨#[]⟩) ∧ (2 < l[i].d → Mk.bareM (l.take i) l[i].p = false) := fun i hi => by
  unfold Mk.layB at h; rw [Bool.and_eq_true, List.all_eq_true] at h; have := h.1 i (List.mem_range.2 hi); rw [Mk.okM_is hi] at this; simp only [Bool.and_eq_true] at this; obtain ⟨_, _, h1, h2, _, _, h3⟩ := this; refine ⟨h1, fun hd => ?_, fun hd => ?_⟩
  ·
   have e1 : (l[i].d != 1) = true := by simpa using hd
   rw [e1, Bool.true_and, Bool.not_not] at h2; exact notEmpty.1 h2
  ·
   rw [decide_eq_true hd, Bool.true_and] at h3
   simpa using h3
 refine ⟨T, lay_data h, fun m hm => ?_, fun m hm k hk h4 hu => ?_⟩
 ·
  obtain ⟨i, hi, rfl⟩ := List.getElem_of_mem hm; exact (key i hi).2.1
 ·
  obtain ⟨i, hi, rfl⟩ := List.getElem_of_mem hm; by_cases hd : 2 < l[i].d
  ·
   exfalso
   have h3 := (key i hi).2.2 hd; have hkt := take_mem T.sort hi hk (under_less (T.path k hk) hu)
   have : Mk.bareM (l.take i) l[i].p = true := by
    unfold Mk.bareM; rw [List.any_eq_true]; exact ⟨k, hkt, by rw [Bool.and_eq_true, beq_iff_eq, Mk.underL_I (T.path _ hm) (T.path k hk)]; exact ⟨h4, hu⟩⟩
   rw [h3] at this; cases this
  ·
   omega
theorem rt_lay {l : List Mk.E} (R : RtM l) (hl : l.length ≤ 32) : Mk.layB l = true := by
 have T := R.tr; unfold Mk.layB; rw [Bool.and_eq_true, List.all_eq_true]; refine ⟨fun i hi => ?_, decide_eq_true hl⟩; have hi := List.mem_range.1 hi; have hm := List.getElem_mem hi; rw [Mk.okM_is hi]; simp only [Bool.and_eq_true]; refine ⟨decide_eq_true (T.kind _ hm), T.path _ hm, R.data _ hm, ?_, ?_, ?_, ?_⟩
 ·
  by_cases h1 : l[i].d = 1
  ·
   rw [h1]; rfl
  ·
   rw [R.plain _ hm h1]; simp
 ·
  cases i with
  | zero => rfl
  | succ j =>
   have h1 : l[j + 1 - 1]? = some l[j] := by rw [show j + 1 - 1 = j from rfl, List.getElem?_eq_getElem (by omega)]
   rw [h1]; rw [Bool.or_eq_true]; exact .inr (List.pairwise_iff_getElem.1 T.sort j (j + 1) (by omega) hi (by omega))
 ·
  rw [Mk.inM_look]; refine (T.up _ hm).imp id fun ⟨f, h1, h2⟩ => ⟨f, ?_, h2⟩; obtain ⟨g1, g2⟩ := Mk.look_mem h1; have hup : underI l[i].p f.p = true := (under_up (T.path _ hm)).2 (.inl g2); have hft := take_mem T.sort hi g1 (under_less (T.path f g1) hup); rw [← g2]; exact Mk.look_self (T.sort.sublist (List.take_sublist i l)) hft
 ·
  rw [Bool.not_eq_true', Bool.and_eq_false_iff]; by_cases hd : 2 < l[i].d
  ·
   right
   cases hb : Mk.bareM (l.take i) l[i].p with
   | false => rfl
   | true =>
    unfold Mk.bareM at hb; rw [List.any_eq_true] at hb; obtain ⟨k, hk, h⟩ := hb; have hkl := List.mem_of_mem_take hk; rw [Bool.and_eq_true, beq_iff_eq, Mk.underL_I (T.path _ hm) (T.path k hkl)] at h; have := R.bare _ hm k hkl h.1 h.2; omega
  ·
   exact .inl (decide_eq_false hd)
/-! ### What two layers make, as they stand -/
def bothK (a b : Int) : Int := if a = 2 ∧ b ≠ 0 ∧ b ≠ 2 then 4 else a
theorem both_dir (a b : Int) : Mk.dirK (bothK a b) = Mk.dirK a := by
 unfold bothK
 split
 ·
  rename_i h; rw [h.1]; rfl
 ·
  rfl
theorem both_kind {a : Int} (h : 1 ≤ a ∧ a ≤ 4) (b : Int) : 1 ≤ bothK a b ∧ bothK a b ≤ 4 := by
 unfold bothK; split <;> omega
def overM (b : List Mk.E) (k : Mk.E) : Mk.E := ⟨k.p, bothK k.d (Mk.kindM b k.p), k.x⟩
def freeM (a : List Mk.E) (m : Mk.E) : Bool := !Mk.hidesM a m.p && (Mk.kindM a m.p == 0)
def joinM (a b : List Mk.E) : List Mk.E := a.foldl (fun o k => Mk.putE o (overM b k)) (b.foldl (fun o m => if freeM a m = true then Mk.putE o m else o) [])
theorem free_iff {a : List Mk.E} (T : Mk.TrM a) (m : Mk.E) : freeM a m = true ↔ Mk.hidesM a m.p = false ∧ Mk.lookE a m.p = none := by
 unfold freeM; rw [Bool.and_eq_true, Bool.not_eq_true', beq_iff_eq, Mk.kind_look]; refine and_congr Iff.rfl ?_; cases hl : Mk.lookE a m.p with
 | none => simp
 | some k =>
  have := (T.kind k (Mk.look_mem hl).1).1; show k.d = 0 ↔ _
  constructor
  ·
   intro h; omega
  ·
   intro h; cases h
theorem put_fold (f : Mk.E → Mk.E) (hf : ∀ m, (f m).p = m.p) : ∀ (l out : List Mk.E), Mk.Rise out → l.Pairwise (fun x y => less x.p y.p) →
  Mk.Rise (l.foldl (fun o m => Mk.putE o (f m)) out) ∧ ∀ m, m ∈ l.foldl (fun o m => Mk.putE o (f m)) out ↔ (∃ k ∈ l, m = f k) ∨ (m ∈ out ∧ ∀ k ∈ l, k.p ≠ m.p)
 | [], _, h, _ => ⟨h, fun m => by simp⟩
 | x :: r, out, h, hs => by
  obtain ⟨h1, h2⟩ := List.pairwise_cons.1 hs; obtain ⟨i1, i2⟩ := put_fold f hf r (Mk.putE out (f x)) (Mk.put_rise h _) h2; refine ⟨i1, fun m => ?_⟩; show m ∈ r.foldl _ _ ↔ _
  rw [i2, Mk.put_memQ h, hf]
  constructor
  ·
   rintro (⟨k, hk, e⟩ | ⟨e | ⟨g1, g2⟩, g3⟩)
   ·
    exact .inl ⟨k, List.mem_cons_of_mem _ hk, e⟩
   ·
    exact .inl ⟨x, List.mem_cons_self .., e⟩
   ·
    refine .inr ⟨g1, fun k hk => ?_⟩; rcases List.mem_cons.1 hk with rfl | hk
    ·
     exact fun q => g2 q.symm
    ·
     exact g3 k hk
  ·
   rintro (⟨k, hk, e⟩ | ⟨g1, g2⟩)
   ·
    rcases List.mem_cons.1 hk with rfl | hk
    ·
     refine .inr ⟨.inl e, fun j hj q => ?_⟩; have := h1 j hj; rw [q, e, hf] at this; exact less_irrefl _ this
    ·
     exact .inl ⟨k, hk, e⟩
   ·
    exact .inr ⟨.inr ⟨g1, fun q => g2 x (List.mem_cons_self ..) q.symm⟩, fun k hk => g2 k (List.mem_cons_of_mem _ hk)⟩
theorem fold_filter (p : Mk.E → Bool) : ∀ (l out : List Mk.E), l.foldl (fun o m => if p m = true then Mk.putE o m else o) out = (l.filter p).foldl (fun o m => Mk.putE o m) out
 | [], _ => rfl
 | x :: r, out => by
  rw [List.foldl_cons, fold_filter p r]; by_cases h : p x = true
  ·
   rw [List.filter_cons_of_pos h, if_pos h]; rfl
  ·
   rw [List.filter_cons_of_neg h, if_neg h]
theorem join_rise {a b : List Mk.E} (A : Mk.TrM a) (B : Mk.TrM b) : Mk.Rise (joinM a b) := by
 unfold joinM; rw [fold_filter]; exact (put_fold (overM b) (fun _ => rfl) a _ (put_fold id (fun _ => rfl) _ [] (by simp) (B.sort.filter _)).1 A.sort).1
theorem join_mem {a b : List Mk.E} (A : Mk.TrM a) (B : Mk.TrM b) (m : Mk.E) : m ∈ joinM a b ↔ (∃ k ∈ a, m = overM b k) ∨ (m ∈ b ∧ Mk.hidesM a m.p = false ∧ Mk.lookE a m.p = none) := by
 have h0 := put_fold id (fun _ => rfl) (b.filter (freeM a)) [] (by simp) (B.sort.filter _); unfold joinM; rw [fold_filter]; have h9 := (put_fold (overM b) (fun _ => rfl) a _ h0.1 A.sort).2 m; simp only [id_eq] at h9; rw [h9]; refine or_congr Iff.rfl ?_; have h1 := h0.2 m; simp only [id_eq] at h1; rw [h1]
 constructor
 ·
  rintro ⟨⟨k, hk, rfl⟩ | ⟨h, _⟩, h2⟩
  ·
   rw [List.mem_filter, free_iff A] at hk; exact hk
  ·
   cases h
 ·
  rintro ⟨g1, g2, g3⟩; exact ⟨.inl ⟨m, List.mem_filter.2 ⟨g1, (free_iff A m).2 ⟨g2, g3⟩⟩, rfl⟩, fun k hk q => Mk.look_none.1 g3 k hk q⟩
theorem hides_up {l : List Mk.E} (T : Mk.TrM l) {s q : ByteArray} (hs : pathB s = true) (hq : pathB q = true) (hu : underI s q = true) (h : Mk.hidesM l q = true) : Mk.hidesM l s = true := by
 obtain ⟨m, hm, h1, h2⟩ := (hides_iff T hq).1 h; refine (hides_iff T hs).2 ⟨m, hm, h1, .inr ?_⟩; rcases h2 with h2 | h2
 ·
  rw [h2]; exact hu
 ·
  exact under_trans hu h2
theorem join_look {a b : List Mk.E} (A : Mk.TrM a) (B : Mk.TrM b) (s : ByteArray) : Mk.lookE (joinM a b) s = match Mk.lookE a s with
  | some k => some (overM b k)
  | none => if Mk.hidesM a s = true then none else Mk.lookE b s := by
 cases hl : Mk.lookE a s with
 | some k =>
  obtain ⟨h1, h2⟩ := Mk.look_mem hl; exact (Mk.look_iffM (join_rise A B) s _).2 ⟨(join_mem A B _).2 (.inl ⟨k, h1, rfl⟩), h2⟩
 | none =>
  dsimp only
  have no : ∀ m ∈ joinM a b, m.p = s → m ∈ b ∧ Mk.hidesM a s = false := fun m hm hp => by
   rcases (join_mem A B m).1 hm with ⟨k, hk, rfl⟩ | ⟨h1, h2, _⟩
   ·
    exact absurd hp (Mk.look_none.1 hl k hk)
   ·
    rw [hp] at h2; exact ⟨h1, h2⟩
  cases hh : Mk.hidesM a s with
  | true =>
   rw [if_pos rfl, Mk.look_none]; intro m hm hp; have := (no m hm hp).2; rw [hh] at this; cases this
  | false =>
   rw [if_neg (by simp)]; cases hb : Mk.lookE b s with
   | some m =>
    obtain ⟨h1, h2⟩ := Mk.look_mem hb; exact (Mk.look_iffM (join_rise A B) s _).2 ⟨(join_mem A B _).2 (.inr ⟨h1, by rw [h2]; exact hh, by rw [h2]; exact hl⟩), h2⟩
   | none =>
    rw [Mk.look_none]; intro m hm hp; exact Mk.look_none.1 hb m (no m hm hp).1 hp
theorem join_tr {a b : List Mk.E} (A : Mk.TrM a) (B : Mk.TrM b) : Mk.TrM (joinM a b) where
 path m hm := by
  rcases (join_mem A B m).1 hm with ⟨k, hk, rfl⟩ | ⟨h1, _⟩
  ·
   exact A.path k hk
  ·
   exact B.path m h1
 sort := join_rise A B
 up m hm := by
  rcases (join_mem A B m).1 hm with ⟨k, hk, rfl⟩ | ⟨h1, h2, h3⟩
  ·
   refine (A.up k hk).imp id fun ⟨f, g1, g2⟩ => ⟨overM b f, ?_, (both_dir _ _).trans g2⟩; show Mk.lookE (joinM a b) (upS k.p) = _
   rw [join_look A B, g1]
  ·
   have hmp := B.path m h1; rcases B.up m h1 with g | ⟨f, g1, g2⟩
   ·
    exact .inl g
   ·
    right
    obtain ⟨f1, f2⟩ := Mk.look_mem g1; have hup : pathB (upS m.p) = true := by rw [← f2]; exact B.path f f1
    have hu : underI m.p (upS m.p) = true := (under_up hmp).2 (.inl rfl)
    have hnh : Mk.hidesM a (upS m.p) = false := by
     cases q : Mk.hidesM a (upS m.p) with
     | false => rfl
     | true => rw [hides_up A hmp hup hu q] at h2; cases h2
    rw [join_look A B]; cases hl : Mk.lookE a (upS m.p) with
    | none => dsimp only; rw [hnh, if_neg (by simp), g1]; exact ⟨f, rfl, g2⟩
    | some k =>
     refine ⟨_, rfl, (both_dir _ _).trans ?_⟩; obtain ⟨k1, k2⟩ := Mk.look_mem hl; by_cases q : k.d = 2
     ·
      rw [q]; rfl
     ·
      have := mark_hides k1 q; rw [k2, hnh] at this; cases this
 kind m hm := by
  rcases (join_mem A B m).1 hm with ⟨k, hk, rfl⟩ | ⟨h1, _⟩
  ·
   exact both_kind (A.kind k hk) _
  ·
   exact B.kind m h1
def tidy1 (out : List Mk.E) (m : Mk.E) : List Mk.E := if Mk.bareM out m.p = true then (if m.d = 3 then out else out ++ [if m.d = 4 then ⟨m.p, 2, m.x⟩ else m]) else out ++ [m]
def tidyM (l : List Mk.E) : List Mk.E := l.foldl tidy1 []
def leftM (l : List Mk.E) (m : Mk.E) : Option Mk.E := if Mk.bareM l m.p = true then (if m.d = 3 then none else if m.d = 4 then some ⟨m.p, 2, m.x⟩ else some m) else some m
theorem left_path {l : List Mk.E} {m k : Mk.E} (h : leftM l m = some k) : k.p = m.p := by
 unfold leftM at h
 split at h
 ·
  split at h
  ·
   cases h
  ·
   split at h
   ·
    cases h; rfl
   ·
    cases h; rfl
 ·
  cases h; rfl
theorem bare_top {l : List Mk.E} (T : Mk.TrM l) : ∀ (n : Nat) (s : ByteArray), s.size ≤ n → pathB s = true → Mk.bareM l s = true → ∃ k ∈ l, k.d = 4 ∧ underI s k.p = true ∧ Mk.bareM l k.p = false
 | n, s, hn, hp, h => by
  obtain ⟨k, hk, h1, h2⟩ := (bare_iff T hp).1 h; have hkp := T.path k hk
  have hlt : k.p.size < s.size := by
   obtain ⟨r, e1, e2⟩ := under_list hkp (.inr h2); have := congrArg List.length e1; rw [List.length_append, L_len, L_len] at this
   have hne : r ≠ [] := fun q => by
    rw [q, List.append_nil] at e1; have := L_inj e1; rw [this] at h2; have := under_lev k.p.size k.p k.p (Nat.le_refl _) h2; omega
   have : 0 < r.length := List.length_pos_iff.2 hne; omega
  cases hb : Mk.bareM l k.p with
  | false => exact ⟨k, hk, h1, h2, hb⟩
  | true =>
   match n, hn with
   | 0, hn => omega
   | n + 1, hn =>
    obtain ⟨j, g1, g2, g3, g4⟩ := bare_top T n k.p (by omega) hkp hb; exact ⟨j, g1, g2, under_trans h2 g3, g4⟩
theorem left_self {l : List Mk.E} {m : Mk.E} (h : Mk.bareM l m.p = false) : leftM l m = some m := by
 unfold leftM; rw [h, if_neg (by simp)]
theorem left_kind {l : List Mk.E} {m k : Mk.E} (h : leftM l m = some k) : k.d = m.d ∨ (m.d = 4 ∧ k.d = 2) := by
 unfold leftM at h
 split at h
 ·
  split at h
  ·
   cases h
  ·
   split at h
   ·
    rename_i h4; cases h; exact .inr ⟨h4, rfl⟩
   ·
    cases h; exact .inl rfl
 ·
  cases h; exact .inl rfl
theorem bare_left {l r : List Mk.E} {m : Mk.E} (T : Mk.TrM (l ++ m :: r)) : Mk.bareM (l.filterMap (leftM (l ++ m :: r))) m.p = Mk.bareM (l ++ m :: r) m.p := by
 have hm : m ∈ l ++ m :: r := by simp
 have hmp := T.path m hm
 have ahead : ∀ k ∈ l ++ m :: r, less k.p m.p → k ∈ l := fun k hk h => by
  rcases List.mem_append.1 hk with q | q
  ·
   exact q
  ·
   exfalso
   have hs := (List.pairwise_append.1 T.sort).2.1; rcases List.mem_cons.1 q with q | q
   ·
    rw [q] at h; exact less_irrefl _ h
   ·
    exact less_irrefl _ (less_trans h ((List.pairwise_cons.1 hs).1 k q))
 rw [Bool.eq_iff_iff]
 constructor
 ·
  intro h; unfold Mk.bareM at h; rw [List.any_eq_true] at h; obtain ⟨k, hk, h⟩ := h; obtain ⟨j, hj, e⟩ := List.mem_filterMap.1 hk; rw [Bool.and_eq_true, beq_iff_eq] at h; have hjl : j ∈ l ++ m :: r := List.mem_append_left _ hj
  have hjd : j.d = 4 := by
   rcases left_kind e with q | ⟨_, q⟩
   ·
    rw [← q]; exact h.1
   ·
    rw [q] at h; exact absurd h.1 (by decide)
  refine (bare_iff T hmp).2 ⟨j, hjl, hjd, ?_⟩; rw [← Mk.underL_I hmp (T.path j hjl), ← left_path e]; exact h.2
 ·
  intro h; obtain ⟨k, hk, h1, h2, h3⟩ := bare_top T m.p.size m.p (Nat.le_refl _) hmp h; unfold Mk.bareM; rw [List.any_eq_true]; refine ⟨k, List.mem_filterMap.2 ⟨k, ahead k hk (under_less (T.path k hk) h2), left_self h3⟩, ?_⟩; rw [Bool.and_eq_true, beq_iff_eq, Mk.underL_I hmp (T.path k hk)]; exact ⟨h1, h2⟩
theorem tidy_go {L : List Mk.E} (T : Mk.TrM L) : ∀ (r l : List Mk.E), L = l ++ r → r.foldl tidy1 (l.filterMap (leftM L)) = L.filterMap (leftM L)
 | [], l, h => by rw [h, List.append_nil]; rfl
 | m :: r, l, h => by
  have hb := bare_left (l := l) (m := m) (r := r) (by rw [← h]; exact T); rw [← h] at hb
  have e : tidy1 (l.filterMap (leftM L)) m = (l ++ [m]).filterMap (leftM L) := by
   rw [List.filterMap_append]; unfold tidy1; rw [hb]; cases hq : Mk.bareM L m.p with
   | false => rw [if_neg (by simp), List.filterMap_cons_some (left_self hq)]; rfl
   | true =>
    rw [if_pos rfl]; by_cases h3 : m.d = 3
    ·
     have : leftM L m = none := by unfold leftM; rw [hq, if_pos rfl, if_pos h3]
     rw [if_pos h3, List.filterMap_cons_none this]; simp
    ·
     have : leftM L m = some (if m.d = 4 then ⟨m.p, 2, m.x⟩ else m) := by
      unfold leftM; rw [hq, if_pos rfl, if_neg h3]; split <;> rfl
     rw [if_neg h3, List.filterMap_cons_some this]; rfl
  rw [List.foldl_cons, e]; exact tidy_go T r (l ++ [m]) (by rw [h]; simp)
theorem tidy_is {l : List Mk.E} (T : Mk.TrM l) : tidyM l = l.filterMap (leftM l) := tidy_go T l [] rfl
theorem tidy_mem {l : List Mk.E} (T : Mk.TrM l) (k : Mk.E) : k ∈ tidyM l ↔ ∃ m ∈ l, leftM l m = some k := by rw [tidy_is T, List.mem_filterMap]
theorem tidy_rise {l : List Mk.E} (T : Mk.TrM l) : Mk.Rise (tidyM l) := by
 rw [tidy_is T, Mk.Rise, List.pairwise_filterMap]
 exact T.sort.imp fun {a b} h x hx y hy => by
  rw [left_path hx, left_path hy]; exact h
theorem tidy_look {l : List Mk.E} (T : Mk.TrM l) (s : ByteArray) : Mk.lookE (tidyM l) s = (Mk.lookE l s).bind (leftM l) := by
 cases hl : Mk.lookE l s with
 | none =>
  show _ = none
  rw [Mk.look_none]; intro k hk hp; obtain ⟨m, hm, e⟩ := (tidy_mem T k).1 hk; exact Mk.look_none.1 hl m hm ((left_path e).symm.trans hp)
 | some m =>
  obtain ⟨h1, h2⟩ := Mk.look_mem hl; show _ = leftM l m
  cases hk : leftM l m with
  | some k => exact (Mk.look_iffM (tidy_rise T) s k).2 ⟨(tidy_mem T k).2 ⟨m, h1, hk⟩, (left_path hk).trans h2⟩
  | none =>
   rw [Mk.look_none]; intro k hk' hp; obtain ⟨m', hm', e⟩ := (tidy_mem T k).1 hk'; have : Mk.lookE l s = some m' := (Mk.look_iffM T.sort s m').2 ⟨hm', (left_path e).symm.trans hp⟩; rw [hl] at this; obtain rfl := Option.some.inj this; rw [hk] at e; cases e
theorem tidy_tr {l : List Mk.E} (T : Mk.TrM l) : Mk.TrM (tidyM l) where
 path k hk := by
  obtain ⟨m, hm, e⟩ := (tidy_mem T k).1 hk; rw [left_path e]; exact T.path m hm
 sort := tidy_rise T
 up k hk := by
  obtain ⟨m, hm, e⟩ := (tidy_mem T k).1 hk; rw [left_path e]; refine (T.up m hm).imp id fun ⟨f, h1, h2⟩ => ?_; rw [tidy_look T, h1]; have hd : f.d = 2 ∨ f.d = 4 := by unfold Mk.dirK at h2; rw [Bool.or_eq_true, beq_iff_eq, beq_iff_eq] at h2; exact h2
  show ∃ g, leftM l f = some g ∧ _
  unfold leftM
  split
  ·
   rw [if_neg (by omega)]
   split
   ·
    exact ⟨_, rfl, rfl⟩
   ·
    exact ⟨_, rfl, h2⟩
  ·
   exact ⟨_, rfl, h2⟩
 kind k hk := by
  obtain ⟨m, hm, e⟩ := (tidy_mem T k).1 hk; have := T.kind m hm; rcases left_kind e with q | ⟨_, q⟩ <;> omega
theorem join_rt {a b : List Mk.E} (A : RtM a) (B : RtM b) : RtM (tidyM (joinM a b)) := by
 have T := join_tr A.tr B.tr
 have hx : ∀ m ∈ joinM a b, dataB m.x = true ∧ (m.d ≠ 1 → m.x = ⟨#[]⟩) := fun m hm => by
  rcases (join_mem A.tr B.tr m).1 hm with ⟨k, hk, rfl⟩ | ⟨h, _⟩
  ·
   refine ⟨A.data k hk, fun h => A.plain k hk fun q => h ?_⟩; show bothK k.d _ = 1
   unfold bothK; rw [if_neg (by omega)]; exact q
  ·
   exact ⟨B.data m h, B.plain m h⟩
 have hl : ∀ {m k : Mk.E}, leftM (joinM a b) m = some k → k.x = m.x := fun {m k} e => by
  unfold leftM at e
  split at e
  ·
   split at e
   ·
    cases e
   ·
    split at e
    ·
     cases e; rfl
    ·
     cases e; rfl
  ·
   cases e; rfl
 refine ⟨tidy_tr T, fun k hk => ?_, fun k hk h => ?_, fun k hk j hj h4 hu => ?_⟩
 ·
  obtain ⟨m, hm, e⟩ := (tidy_mem T k).1 hk; rw [hl e]; exact (hx m hm).1
 ·
  obtain ⟨m, hm, e⟩ := (tidy_mem T k).1 hk; rw [hl e]; refine (hx m hm).2 fun q => ?_; rcases left_kind e with g | ⟨g, _⟩ <;> omega
 ·
  obtain ⟨m, hm, e⟩ := (tidy_mem T k).1 hk; obtain ⟨i, hi, e'⟩ := (tidy_mem T j).1 hj
  have hi4 : i.d = 4 := by
   rcases left_kind e' with g | ⟨_, g⟩ <;> omega
  have hb : Mk.bareM (joinM a b) m.p = true := (bare_iff T (T.path m hm)).2 ⟨i, hi, hi4, by rw [← left_path e', ← left_path e]; exact hu⟩; have hk := T.kind m hm; unfold leftM at e; rw [hb, if_pos rfl] at e
  split at e
  ·
   cases e
  ·
   split at e
   ·
    cases e; exact Int.le_refl _
   ·
    cases e; omega
def upA (b l : List Mk.E) : List Mk.E := l.foldl (fun o k => Mk.putE o (overM b k)) []
def loB (a b l : List Mk.E) : List Mk.E := l.foldl (fun o m => if freeM a m = true then Mk.putE o m else o) (upA b a)
theorem upA_snoc (b l : List Mk.E) (k : Mk.E) : upA b (l ++ [k]) = Mk.putE (upA b l) (overM b k) := by unfold upA; rw [List.foldl_append]; rfl
theorem loB_snoc (a b l : List Mk.E) (m : Mk.E) : loB a b (l ++ [m]) = if freeM a m = true then Mk.putE (loB a b l) m else loB a b l := by unfold loB; rw [List.foldl_append]; rfl
theorem upA_facts (b : List Mk.E) {l : List Mk.E} (h : Mk.Rise l) : Mk.Rise (upA b l) ∧ ∀ m, m ∈ upA b l ↔ ∃ k ∈ l, m = overM b k := by
 obtain ⟨h1, h2⟩ := put_fold (overM b) (fun _ => rfl) l [] (by simp) h; refine ⟨h1, fun m => ?_⟩; show m ∈ l.foldl (fun o k => Mk.putE o (overM b k)) [] ↔ _
 rw [h2]; simp
theorem pre_rise {l a : List Mk.E} (h : l <+: a) (hs : Mk.Rise a) : Mk.Rise l := hs.sublist h.sublist
theorem pre_ahead {l a : List Mk.E} {k : Mk.E} (h : l ++ [k] <+: a) (hs : Mk.Rise a) {f : Mk.E} (hf : f ∈ a) (hl : less f.p k.p) : f ∈ l := by
 obtain ⟨r, rfl⟩ := h; rcases List.mem_append.1 hf with q | q
 ·
  rcases List.mem_append.1 q with q | q
  ·
   exact q
  ·
   rw [List.mem_singleton.1 q] at hl; exact absurd hl (less_irrefl _)
 ·
  exfalso
  have := (List.pairwise_append.1 hs).2.2 k (by simp) f q; exact less_irrefl _ (less_trans hl this)
theorem pre_above {l a : List Mk.E} {k : Mk.E} (h : l ++ [k] <+: a) (hs : Mk.Rise a) : ∀ f ∈ l, less f.p k.p := fun f hf => by
 have := pre_rise h hs; exact (List.pairwise_append.1 this).2.2 f hf k (by simp)
theorem pre_in {l a : List Mk.E} {k : Mk.E} (h : l ++ [k] <+: a) : k ∈ a := h.subset (by simp)
theorem upA_next {a : List Mk.E} (A : Mk.TrM a) (b : List Mk.E) {l : List Mk.E} {k : Mk.E} (h : l ++ [k] <+: a) :
  (upS k.p = ⟨#[47]⟩ ∨ ∃ f, Mk.lookE (upA b l) (upS k.p) = some f ∧ Mk.dirK f.d = true) ∧ Mk.lookE (upA b l) k.p = none := by
 have hl : l <+: a := (List.prefix_append l [k]).trans h; obtain ⟨h1, h2⟩ := upA_facts b (pre_rise hl A.sort); have hk := pre_in h
 constructor
 ·
  refine (A.up k hk).imp id fun ⟨f, g1, g2⟩ => ⟨overM b f, ?_, (both_dir _ _).trans g2⟩; obtain ⟨f1, f2⟩ := Mk.look_mem g1; have hu : underI k.p f.p = true := (under_up (A.path k hk)).2 (.inl f2); exact (Mk.look_iffM h1 _ _).2 ⟨(h2 _).2 ⟨f, pre_ahead h A.sort f1 (under_less (A.path f f1) hu), rfl⟩, f2⟩
 ·
  rw [Mk.look_none]; intro m hm hp; obtain ⟨f, hf, rfl⟩ := (h2 m).1 hm; have := pre_above h A.sort f hf; have hp' : f.p = k.p := hp; rw [hp'] at this; exact less_irrefl _ this
theorem upA_tr {a : List Mk.E} (A : Mk.TrM a) (b : List Mk.E) {l : List Mk.E} (h : l <+: a) : Mk.TrM (upA b l) := by
 obtain ⟨h1, h2⟩ := upA_facts b (pre_rise h A.sort); refine ⟨fun m hm => ?_, h1, fun m hm => ?_, fun m hm => ?_⟩
 ·
  obtain ⟨k, hk, rfl⟩ := (h2 m).1 hm; exact A.path k (h.subset hk)
 ·
  obtain ⟨k, hk, rfl⟩ := (h2 m).1 hm; have hka := h.subset hk; refine (A.up k hka).imp id fun ⟨f, g1, g2⟩ => ⟨overM b f, ?_, (both_dir _ _).trans g2⟩; obtain ⟨f1, f2⟩ := Mk.look_mem g1; have hu : underI k.p f.p = true := (under_up (A.path k hka)).2 (.inl f2); have hlt := under_less (A.path f f1) hu
  have hfl : f ∈ l := by
   obtain ⟨r, rfl⟩ := h; rcases List.mem_append.1 f1 with q | q
   ·
    exact q
   ·
    exact absurd (less_trans hlt ((List.pairwise_append.1 A.sort).2.2 k hk f q)) (less_irrefl _)
  exact (Mk.look_iffM h1 _ _).2 ⟨(h2 _).2 ⟨f, hfl, rfl⟩, f2⟩
 ·
  obtain ⟨k, hk, rfl⟩ := (h2 m).1 hm; exact both_kind (A.kind k (h.subset hk)) _
theorem put_fold_if (p : Mk.E → Bool) (l out : List Mk.E) (h : Mk.Rise out) (hs : Mk.Rise l) : Mk.Rise (l.foldl (fun o m => if p m = true then Mk.putE o m else o) out) ∧
  ∀ m, m ∈ l.foldl (fun o m => if p m = true then Mk.putE o m else o) out ↔ (m ∈ l ∧ p m = true) ∨ (m ∈ out ∧ ∀ k ∈ l, p k = true → k.p ≠ m.p) := by
 rw [fold_filter]; obtain ⟨h1, h2⟩ := put_fold id (fun _ => rfl) (l.filter p) out h (hs.filter _); refine ⟨h1, fun m => ?_⟩; have := h2 m; simp only [id_eq] at this; rw [this]
 constructor
 ·
  rintro (⟨k, hk, rfl⟩ | ⟨g1, g2⟩)
  ·
   exact .inl (List.mem_filter.1 hk)
  ·
   exact .inr ⟨g1, fun k hk hpk => g2 k (List.mem_filter.2 ⟨hk, hpk⟩)⟩
 ·
  rintro (⟨g1, g2⟩ | ⟨g1, g2⟩)
  ·
   exact .inl ⟨m, List.mem_filter.2 ⟨g1, g2⟩, rfl⟩
  ·
   exact .inr ⟨g1, fun k hk => g2 k (List.mem_filter.1 hk).1 (List.mem_filter.1 hk).2⟩
theorem loB_facts {a b : List Mk.E} (A : Mk.TrM a) {l : List Mk.E} (hl : Mk.Rise l) : Mk.Rise (loB a b l) ∧ ∀ m, m ∈ loB a b l ↔ (∃ k ∈ a, m = overM b k) ∨ (m ∈ l ∧ freeM a m = true) := by
 obtain ⟨h1, h2⟩ := upA_facts b A.sort; obtain ⟨g1, g2⟩ := put_fold_if (freeM a) l (upA b a) h1 hl; refine ⟨g1, fun m => ?_⟩; show m ∈ l.foldl (fun o m => if freeM a m = true then Mk.putE o m else o) (upA b a) ↔ _
 rw [g2, h2]
 constructor
 ·
  rintro (h | ⟨h, _⟩)
  ·
   exact .inr h
  ·
   exact .inl h
 ·
  rintro (⟨k, hk, rfl⟩ | h)
  ·
   refine .inr ⟨⟨k, hk, rfl⟩, fun j _ hf q => ?_⟩; have hn := ((free_iff A j).1 hf).2; exact Mk.look_none.1 hn k hk q.symm
  ·
   exact .inl h
theorem loB_join {a b : List Mk.E} (A : Mk.TrM a) (B : Mk.TrM b) : loB a b b = joinM a b := by
 obtain ⟨g1, g2⟩ := loB_facts (b := b) A B.sort; refine Mk.look_extM g1 (join_rise A B) fun m => ?_; rw [g2, join_mem A B]; refine or_congr Iff.rfl ?_; rw [free_iff A]
theorem free_up {a b : List Mk.E} (A : Mk.TrM a) (B : Mk.TrM b) {m f : Mk.E} (hm : m ∈ b) (hf : freeM a m = true) (hff : f ∈ b) (hu : f.p = upS m.p) :
  freeM a f = true ∨ ∃ k ∈ a, k.p = f.p ∧ Mk.dirK k.d = true := by
 have hmp := B.path m hm; have hfp := B.path f hff; have hup : underI m.p f.p = true := (under_up hmp).2 (.inl hu); obtain ⟨h1, h2⟩ := (free_iff A m).1 hf
 have hnh : Mk.hidesM a f.p = false := by
  cases q : Mk.hidesM a f.p with
  | false => rfl
  | true => rw [hides_up A hmp hfp hup q] at h1; cases h1
 cases hl : Mk.lookE a f.p with
 | none => exact .inl ((free_iff A f).2 ⟨hnh, hl⟩)
 | some k =>
  obtain ⟨k1, k2⟩ := Mk.look_mem hl; refine .inr ⟨k, k1, k2, ?_⟩; by_cases q : k.d = 2
  ·
   rw [q]; rfl
  ·
   have := mark_hides k1 q; rw [k2, hnh] at this; cases this
theorem loB_at {a b : List Mk.E} (A : Mk.TrM a) (B : Mk.TrM b) {l : List Mk.E} (h : l <+: b) {m : Mk.E} (hm : m ∈ b) (hf : freeM a m = true) (hah : ∀ f ∈ b, less f.p m.p → f ∈ l) :
  upS m.p = ⟨#[47]⟩ ∨ ∃ f, Mk.lookE (loB a b l) (upS m.p) = some f ∧ Mk.dirK f.d = true := by
 obtain ⟨g1, g2⟩ := loB_facts (b := b) A (pre_rise h B.sort); refine (B.up m hm).imp id fun ⟨f, f1, f2⟩ => ?_; obtain ⟨e1, e2⟩ := Mk.look_mem f1; rcases free_up A B hm hf e1 e2 with q | ⟨k, k1, k2, k3⟩
 ·
  have hu : underI m.p f.p = true := (under_up (B.path m hm)).2 (.inl e2); exact ⟨f, (Mk.look_iffM g1 _ _).2 ⟨(g2 _).2 (.inr ⟨hah f e1 (under_less (B.path f e1) hu), q⟩), e2⟩, f2⟩
 ·
  exact ⟨overM b k, (Mk.look_iffM g1 _ _).2 ⟨(g2 _).2 (.inl ⟨k, k1, rfl⟩), k2.trans e2⟩, (both_dir _ _).trans k3⟩
theorem loB_next {a b : List Mk.E} (A : Mk.TrM a) (B : Mk.TrM b) {l : List Mk.E} {m : Mk.E} (h : l ++ [m] <+: b) (hf : freeM a m = true) :
  (upS m.p = ⟨#[47]⟩ ∨ ∃ f, Mk.lookE (loB a b l) (upS m.p) = some f ∧ Mk.dirK f.d = true) ∧ Mk.lookE (loB a b l) m.p = none := by
 have hl : l <+: b := (List.prefix_append l [m]).trans h; obtain ⟨g1, g2⟩ := loB_facts (b := b) A (pre_rise hl B.sort); refine ⟨loB_at A B hl (pre_in h) hf (fun f hf hlt => pre_ahead h B.sort hf hlt), ?_⟩; rw [Mk.look_none]; intro k hk hp; rcases (g2 k).1 hk with ⟨j, hj, rfl⟩ | ⟨q, _⟩
 ·
  exact Mk.look_none.1 ((free_iff A m).1 hf).2 j hj hp
 ·
  have := pre_above h B.sort k q; rw [hp] at this; exact less_irrefl _ this
theorem loB_tr {a b : List Mk.E} (A : Mk.TrM a) (B : Mk.TrM b) {l : List Mk.E} (h : l <+: b) : Mk.TrM (loB a b l) := by
 obtain ⟨g1, g2⟩ := loB_facts (b := b) A (pre_rise h B.sort); have hA := upA_tr A b (List.prefix_refl a); refine ⟨fun m hm => ?_, g1, fun m hm => ?_, fun m hm => ?_⟩
 ·
  rcases (g2 m).1 hm with ⟨k, hk, rfl⟩ | ⟨q, _⟩
  ·
   exact A.path k hk
  ·
   exact B.path m (h.subset q)
 ·
  rcases (g2 m).1 hm with ⟨k, hk, rfl⟩ | ⟨q, hf⟩
  ·
   refine (A.up k hk).imp id fun ⟨f, e1, e2⟩ => ?_; obtain ⟨f1, f2⟩ := Mk.look_mem e1; exact ⟨overM b f, (Mk.look_iffM g1 _ _).2 ⟨(g2 _).2 (.inl ⟨f, f1, rfl⟩), f2⟩, (both_dir _ _).trans e2⟩
  ·
   refine loB_at A B h (h.subset q) hf fun f hfb hlt => ?_; obtain ⟨r, rfl⟩ := h; rcases List.mem_append.1 hfb with z | z
   ·
    exact z
   ·
    exact absurd (less_trans hlt ((List.pairwise_append.1 B.sort).2.2 m q f z)) (less_irrefl _)
 ·
  rcases (g2 m).1 hm with ⟨k, hk, rfl⟩ | ⟨q, _⟩
  ·
   exact both_kind (A.kind k hk) _
  ·
   exact B.kind m (h.subset q)
def leA (L l : List Mk.E) : List Mk.E := l.filterMap (leftM L)
theorem leA_snoc (L l : List Mk.E) (m : Mk.E) : leA L (l ++ [m]) = leA L l ++ (leftM L m).toList := by
 unfold leA; rw [List.filterMap_append]; cases hk : leftM L m with
 | none => rw [List.filterMap_cons_none hk]; rfl
 | some k => rw [List.filterMap_cons_some hk]; rfl
theorem leA_next {L : List Mk.E} (T : Mk.TrM L) {l : List Mk.E} {m k : Mk.E} (h : l ++ [m] <+: L) (hk : leftM L m = some k) :
  (upS k.p = ⟨#[47]⟩ ∨ ∃ f, Mk.lookE (leA L l) (upS k.p) = some f ∧ Mk.dirK f.d = true) ∧ (∀ f ∈ leA L l, less f.p k.p) := by
 have hl : l <+: L := (List.prefix_append l [m]).trans h
 have habove : ∀ f ∈ leA L l, less f.p k.p := fun f hf => by
  obtain ⟨j, hj, e⟩ := List.mem_filterMap.1 hf; rw [left_path e, left_path hk]; exact pre_above h T.sort j hj
 refine ⟨?_, habove⟩; rw [left_path hk]; refine (T.up m (pre_in h)).imp id fun ⟨f, h1, h2⟩ => ?_; obtain ⟨f1, f2⟩ := Mk.look_mem h1; have hu : underI m.p f.p = true := (under_up (T.path m (pre_in h))).2 (.inl f2); have hfl := pre_ahead h T.sort f1 (under_less (T.path f f1) hu); have hd : f.d = 2 ∨ f.d = 4 := by unfold Mk.dirK at h2; rw [Bool.or_eq_true, beq_iff_eq, beq_iff_eq] at h2; exact h2
 have hs : Mk.Rise (leA L l) := by
  unfold leA; rw [Mk.Rise, List.pairwise_filterMap]; exact (pre_rise hl T.sort).imp fun {a b} g x hx y hy => by rw [left_path hx, left_path hy]; exact g
 have key : ∃ g, leftM L f = some g ∧ Mk.dirK g.d = true := by
  unfold leftM
  split
  ·
   rw [if_neg (by omega)]
   split
   ·
    exact ⟨_, rfl, rfl⟩
   ·
    exact ⟨_, rfl, h2⟩
  ·
   exact ⟨_, rfl, h2⟩
 obtain ⟨g, e1, e2⟩ := key; exact ⟨g, (Mk.look_iffM hs _ _).2 ⟨List.mem_filterMap.2 ⟨f, hfl, e1⟩, (left_path e1).trans f2⟩, e2⟩
theorem leA_tr {L : List Mk.E} (T : Mk.TrM L) {l : List Mk.E} (h : l <+: L) : Mk.TrM (leA L l) where
 path k hk := by
  obtain ⟨m, hm, e⟩ := List.mem_filterMap.1 hk; rw [left_path e]; exact T.path m (h.subset hm)
 sort := by
  unfold leA; rw [List.pairwise_filterMap]; exact (pre_rise h T.sort).imp fun {a b} g x hx y hy => by rw [left_path hx, left_path hy]; exact g
 up k hk := by
  obtain ⟨m, hm, e⟩ := List.mem_filterMap.1 hk
  have hs : Mk.Rise (leA L l) := by
   unfold leA; rw [Mk.Rise, List.pairwise_filterMap]; exact (pre_rise h T.sort).imp fun {a b} g x hx y hy => by rw [left_path hx, left_path hy]; exact g
  obtain ⟨l1, l2, rfl⟩ := List.append_of_mem hm; have hp : l1 ++ [m] <+: L := (List.prefix_append_right_inj l1).2 ⟨l2, rfl⟩ |>.trans h
  rcases (leA_next T hp e).1 with q | ⟨f, h1, h2⟩
  ·
   exact .inl q
  ·
   obtain ⟨g1, g2⟩ := Mk.look_mem h1; refine .inr ⟨f, (Mk.look_iffM hs _ _).2 ⟨?_, g2⟩, h2⟩; obtain ⟨j, hj, ej⟩ := List.mem_filterMap.1 g1; exact List.mem_filterMap.2 ⟨j, by simp [hj], ej⟩
 kind k hk := by
  obtain ⟨m, hm, e⟩ := List.mem_filterMap.1 hk; have := T.kind m (h.subset hm); rcases left_kind e with q | ⟨_, q⟩ <;> omega
theorem on_sz {l : List Mk.E} {t : List E} (T : Mk.TrM l) (U : TrE t) (h1 : ∀ e ∈ l, e.p.size ≤ 16777216 ∧ e.x.size ≤ 16777216) (h2 : ∀ e ∈ t, e.p.size ≤ 16777216 ∧ e.x.size ≤ 16777216) : ∀ e ∈ onM l t, e.p.size ≤ 16777216 ∧ e.x.size ≤ 16777216 := fun e he => by
 rcases (on_mem T U.sort e).1 he with ⟨m, hm, h⟩ | ⟨⟨h, -⟩, -⟩
 ·
  unfold entM at h
  split at h
  ·
   cases h; exact h1 m hm
  ·
   split at h
   ·
    cases h; exact ⟨(h1 m hm).1, Nat.zero_le _⟩
   ·
    cases h
 ·
  exact h2 e h
end Go.Proofs.YteppodogghjfhabGreatDoor.Ly
