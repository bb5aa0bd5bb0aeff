import Derived.Deep.RegionHeld3
import Derived.Test.YteppodogghjfhaaGreatDoorHPk20
import Derived.Test.YteppodogghjfhaaGreatDoorHPk05
namespace Go.Proofs.YteppodogghjfhaaGreatDoor.Ly
open Go.RowKit Go.Lib Go.Sort
theorem thru_succ {l : List Mk.E} {t : List E} {k : Nat} (h : k < t.length) : thruE l (t.take (k + 1)) = thruE l (t.take k) ++ (if Mk.hidesM l t[k].p = true then [] else [t[k]]) := by
 unfold thruE; rw [List.take_succ_eq_append_getElem h, List.filter_append]
 congr 1
 cases hh : Mk.hidesM l t[k].p <;> simp [hh]
theorem thru_len (l : List Mk.E) (t : List E) (k : Nat) : (thruE l (t.take k)).length ≤ k := by
 have := List.length_filter_le (fun e : E => !Mk.hidesM l e.p) (t.take k); rw [List.length_take] at this; unfold thruE; omega
theorem fold_succ {l : List Mk.E} {out : List E} {k : Nat} (h : k < l.length) : (l.take (k + 1)).foldl lay1 out = lay1 ((l.take k).foldl lay1 out) l[k] := by
 rw [List.take_succ_eq_append_getElem h, List.foldl_append]; rfl
theorem lay_len (out : List E) (m : Mk.E) : (lay1 out m).length ≤ out.length + 1 := by
 unfold lay1
 split
 ·
  exact put_len out _
 ·
  omega
theorem fold_len : ∀ (l : List Mk.E) (out : List E), (l.foldl lay1 out).length ≤ out.length + l.length
 | [], _ => Nat.le_refl _
 | m :: r, out => by
  show (r.foldl lay1 (lay1 out m)).length ≤ _
  have h1 := fold_len r (lay1 out m); have h2 := lay_len out m; rw [List.length_cons]; omega
set_option maxHeartbeats 2000000 in
set_option maxRecDepth 100000 in
theorem l3On_any (w : World) (a : Option Addr) (g o cap : Nat) (l : List Mk.E) (a' : Option Addr) (g' o' cap' : Nat) (t : List E) (hl : l.length ≤ 1000) (ht : t.length ≤ 1000) (hz : ∀ e ∈ l, e.p.size ≤ 16777216) (hz' : ∀ e ∈ t, e.p.size ≤ 16777216) (ha : 0 < l.length → a = some ⟨g, o, none⟩) (ha' : 0 < t.length → a' = some ⟨g', o', none⟩) (hE : Mk.Ents w g o l) (hF : Ents w g' o' t) :
  Calls Tryz.prog 99 #[.slice a l.length cap, .slice a' t.length cap'] w fun r w' => ∃ v, r = .returned v ∧ OwnE w' w.heap.size v (onM l t) ∧ Below w.heap.size w w' := by
 obtain ⟨i0, hi, hz0, hz1, hz2⟩ := info_parts Tryz.infoE'; have HE := hidE hE; have HF := hidE hF; have HZ := hidE hz; have HZ' := hidE hz'; clear hE hF hz hz'; go_enter Tryz.func99, Tryz.ntmps99
 go_wp2
 go_loopw [5, 6] (fun v iv wl => ∃ k : Nat, k ≤ t.length ∧ iv = .int .i64 k ∧ Hid (OwnE wl w.heap.size v (thruE l (t.take k))) ∧ Hid (Below w.heap.size w wl)) (fun _ iv _ => t.length - (RowKit.intOf iv).toNat)
 case atStart => exact ⟨0, Nat.zero_le _, rfl, OwnE.made w (Nat.le_refl _), (Below.refl _ w).alloc (Nat.le_refl _) _⟩
 case round =>
  obtain ⟨k, hk, rfl, HO, HB⟩ := hrel; by_cases hlt : k < t.length
  ·
   obtain rfl := ha' (by omega); obtain ⟨c0, c1, c2⟩ := (HF.out.below HB.out) k hlt; have HHd := hidE (Mk.l3Hides_any wr a g o cap l t[k].p (by omega) (HZ'.out _ (List.getElem_mem _)) HZ.out ha (HE.out.below HB.out)); have HK := hidE (thru_succ (l := l) hlt); have hlen := thru_len l t k; have hz3 := HB.out.size; obtain ⟨pre, hpre⟩ : ∃ pre, thruE l (t.take k) = pre := ⟨_, rfl⟩
   rw [hpre] at HO HK hlen; clear hpre; go_wp2_with fail
   refine HHd.out.mono ?_; rintro e w2 ⟨rfl, hB2⟩; have HO2 := hidE (HO.out.below hB2); have HB2 := hidE (HB.out.trans (hB2.mono hz3)); obtain ⟨c0, c1, c2⟩ := (HF.out.below HB2.out) k hlt; have hz4 := HB2.out.size; clear hB2 HO HB HHd; cases hb : Mk.hidesM l t[k].p with
   | true =>
    have HK2 : Hid (thruE l (t.take (k + 1)) = pre) := by
     show _ = _; rw [HK.out, hb]; simp
    clear HK; go_wp2
    go_roundw
    case rel => exact ⟨k + 1, by omega, by go_num, by rw [HK2.out]; exact HO2, HB2⟩
    case measure => simp [RowKit.intOf]; omega
   | false =>
    have HK2 : Hid (thruE l (t.take (k + 1)) = pre ++ [t[k]]) := by
     show _ = _; rw [HK.out, hb]; simp
    clear HK
    go_wp2_with (first
     | (at_builtin; refine wpE_append rfl _ _ rfl w.heap.size _ pre rfl (World.ownsRow.alloc HO2.out _) _ _ w2.heap.size 0 [t[k]] 1 rfl rfl (fun _ => rfl) (ents_new _ _) ?c1 ?c2 ?_)
     | fail)
    case c1 => simp; omega
    case c2 => simp; omega
    intro v' w4 hown' hgrow; have HB4 := hidE ((HB2.out.alloc hz4 _).grown hgrow (by simp; omega) (fun q hq => (World.ownsRow.lt HO2.out q hq).1)); have HO4 : Hid (OwnE w4 w.heap.size v' (pre ++ [t[k]])) := hown'; clear hown' hgrow HO2 HB2; go_wp2
    go_roundw
    case rel => exact ⟨k + 1, by omega, by go_num, by rw [HK2.out]; exact HO4, HB4⟩
    case measure => simp [RowKit.intOf]; omega
  ·
   have hke : t.take k = t := List.take_of_length_le (by omega); rw [hke] at HO; have htl : (thruE l t).length ≤ t.length := by have := thru_len l t t.length; rwa [List.take_length] at this
   clear hke; go_wp2
   go_loopw [5, 7] (fun v iv wl => ∃ k : Nat, k ≤ l.length ∧ iv = .int .i64 k ∧ Hid (OwnE wl w.heap.size v ((l.take k).foldl lay1 (thruE l t))) ∧ Hid (Below w.heap.size w wl)) (fun _ iv _ => l.length - (RowKit.intOf iv).toNat)
   case atStart => exact ⟨0, Nat.zero_le _, rfl, HO, HB⟩
   case round =>
    clear HO HB; obtain ⟨j, hj, rfl, HO, HB⟩ := hrel; by_cases hjt : j < l.length
    ·
     obtain rfl := ha (by omega); obtain ⟨c0, c1, c2⟩ := (HE.out.below HB.out) j hjt; have HK := hidE (fold_succ (out := thruE l t) hjt); have hfl := fold_len (l.take j) (thruE l t); rw [List.length_take] at hfl; have hz3 := HB.out.size; obtain ⟨pre, hpre⟩ : ∃ pre, (l.take j).foldl lay1 (thruE l t) = pre := ⟨_, rfl⟩
     rw [hpre] at HO HK hfl; clear hpre; by_cases h1 : l[j].d = 1
     ·
      rw [h1] at c1
      have HK2 : Hid ((l.take (j + 1)).foldl lay1 (thruE l t) = putE pre ⟨l[j].p, false, l[j].x⟩) := by
       show _ = _; rw [HK.out]; unfold lay1 entM; rw [if_pos h1]
      clear HK; obtain ⟨a5, g5, cap5, rfl, ha5, hE5, hcap5⟩ := HO.out.ents; have HPu := hidE (fun (W : World) (hW : Ents W g5 0 pre) => l2Put_any W a5 g5 0 cap5 pre l[j].p false l[j].x (by omega) hcap5 ha5 hW); have HE5 := hidE hE5; clear hE5 ha5; have AS : Hid (∀ W', Below wr.heap.size wr W' → (W'.cell? ⟨g, o + j * 3, none⟩ = some (.string l[j].p) ∧ W'.cell? ⟨g, o + j * 3 + 2, none⟩ = some (.string l[j].x))) := fun W' hW => ⟨((HE.out.below HB.out).below hW j hjt).1, ((HE.out.below HB.out).below hW j hjt).2.2⟩; go_wp2
      go_region_held3 (fun W' => W'.cell? ⟨g, o + j * 3, none⟩ = some (.string l[j].p) ∧ W'.cell? ⟨g, o + j * 3 + 2, none⟩ = some (.string l[j].x))
       ((refine AS.out _ ?_; repeat (first | exact Below.refl _ _ | refine Mk.tBelow ?_ hB3 | apply Below.drew)))
       (first | (go_at_call 100; refine (HPu.out _ (HE5.out.below (Below.refl _ wr).drew)).mono ?_; rintro e w3 ⟨v3, rfl, ho3, hB3⟩) | fail)
      have HO3 := hidE (ho3.lower (base' := w.heap.size) hz3); have HB3 := hidE (HB.out.trans ((Mk.tBelow (Below.refl _ wr).drew hB3).mono hz3)); clear ho3 hB3 HB HO; go_wp2
      go_roundw
      case rel => exact ⟨j + 1, by omega, by go_num, by rw [HK2.out]; exact HO3, HB3⟩
      case measure => simp [RowKit.intOf]; omega
     ·
      have h1' : (l[j].d == 1) = false := by rw [beq_eq_false_iff_ne]; exact h1
      by_cases h2 : l[j].d = 2
      ·
       rw [h2] at c1
       have HK2 : Hid ((l.take (j + 1)).foldl lay1 (thruE l t) = putE pre ⟨l[j].p, true, ⟨#[]⟩⟩) := by
        show _ = _; rw [HK.out]; unfold lay1 entM; rw [if_neg h1, if_pos (.inl h2)]
       clear HK; obtain ⟨a5, g5, cap5, rfl, ha5, hE5, hcap5⟩ := HO.out.ents; have HPu := hidE (fun (W : World) (hW : Ents W g5 0 pre) => l2Put_any W a5 g5 0 cap5 pre l[j].p true ⟨#[]⟩ (by omega) hcap5 ha5 hW); have HE5 := hidE hE5; clear hE5 ha5; go_wp2_with fail
       refine (HPu.out _ HE5.out).mono ?_; rintro e w3 ⟨v3, rfl, ho3, hB3⟩; have HO3 := hidE (ho3.lower (base' := w.heap.size) hz3); have HB3 := hidE (HB.out.trans (hB3.mono hz3)); clear ho3 hB3 HB HO; go_wp2
       go_roundw
       case rel => exact ⟨j + 1, by omega, by go_num, by rw [HK2.out]; exact HO3, HB3⟩
       case measure => simp [RowKit.intOf]; omega
      ·
       have h2' : (l[j].d == 2) = false := by rw [beq_eq_false_iff_ne]; exact h2
       by_cases h4 : l[j].d = 4
       ·
        rw [h4] at c1
        have HK2 : Hid ((l.take (j + 1)).foldl lay1 (thruE l t) = putE pre ⟨l[j].p, true, ⟨#[]⟩⟩) := by
         show _ = _; rw [HK.out]; unfold lay1 entM; rw [if_neg h1, if_pos (.inr h4)]
        clear HK; obtain ⟨a5, g5, cap5, rfl, ha5, hE5, hcap5⟩ := HO.out.ents; have HPu := hidE (fun (W : World) (hW : Ents W g5 0 pre) => l2Put_any W a5 g5 0 cap5 pre l[j].p true ⟨#[]⟩ (by omega) hcap5 ha5 hW); have HE5 := hidE hE5; clear hE5 ha5; go_wp2_with fail
        refine (HPu.out _ HE5.out).mono ?_; rintro e w3 ⟨v3, rfl, ho3, hB3⟩; have HO3 := hidE (ho3.lower (base' := w.heap.size) hz3); have HB3 := hidE (HB.out.trans (hB3.mono hz3)); clear ho3 hB3 HB HO; go_wp2
        go_roundw
        case rel => exact ⟨j + 1, by omega, by go_num, by rw [HK2.out]; exact HO3, HB3⟩
        case measure => simp [RowKit.intOf]; omega
       ·
        have h4' : (l[j].d == 4) = false := by rw [beq_eq_false_iff_ne]; exact h4
        have HK2 : Hid ((l.take (j + 1)).foldl lay1 (thruE l t) = pre) := by
         show _ = _; rw [HK.out]; unfold lay1 entM; rw [if_neg h1, if_neg (by omega)]
        clear HK; go_wp2
        go_roundw
        case rel => exact ⟨j + 1, by omega, by go_num, by rw [HK2.out]; exact HO, HB⟩
        case measure => simp [RowKit.intOf]; omega
    ·
     go_wp2
     go_ret
     rw [List.take_of_length_le (by omega)] at HO; exact ⟨_, rfl, HO.out, HB.out⟩
def onB (l : List Mk.E) (t : List E) : Bool := (Mk.layB l && treeE t) && decide ((onM l t).length ≤ 16)
def onE (l : List Mk.E) (t : List E) : List E := if onB l t = true then onM l t else []
set_option maxHeartbeats 1000000 in
set_option maxRecDepth 100000 in
theorem sLayerOn_any (w : World) (a : Option Addr) (g o cap : Nat) (l : List Mk.E) (a' : Option Addr) (g' o' cap' : Nat) (t : List E) (hl : l.length ≤ 1048576) (ht : t.length ≤ 1048576) (hcap : l.length ≤ cap) (hcap' : t.length ≤ cap') (hz : ∀ e ∈ l, e.p.size ≤ 16777216 ∧ e.x.size ≤ 16777216) (hz' : ∀ e ∈ t, e.p.size ≤ 16777216 ∧ e.x.size ≤ 16777216) (ha : 0 < l.length → a = some ⟨g, o, none⟩) (ha' : 0 < t.length → a' = some ⟨g', o', none⟩) (hE : Mk.Ents w g o l) (hF : Ents w g' o' t) :
  Calls Tryz.prog 67 #[.slice a l.length cap, .slice a' t.length cap'] w fun r w' => ∃ v, r = .returned (.tuple #[v, .bool (onB l t)]) ∧ OwnE w' w.heap.size v (onE l t) ∧ Below w.heap.size w w' := by
 have HE := hidE hE; have HF := hidE hF; have HO := hidE (fun (W : World) (hW : Mk.Ents W g o l) => Mk.sLayerOk_any W a g o cap l (by omega) hcap hz ha hW); have HT := hidE (fun (W : World) (hW : Ents W g' o' t) => sTreeOk_any W a' g' o' cap' t (by omega) hcap' hz' ha' hW); have HD : Hid (onB l t = ((Mk.layB l && treeE t) && decide ((onM l t).length ≤ 16))) := rfl; clear hE hF; go_enter Tryz.func67, Tryz.ntmps67
 go_wp2_with fail
 refine (HO.out _ HE.out).mono ?_; rintro e w1 ⟨rfl, hB⟩; have HB1 := hidE hB; have HE1 := hidE (HE.out.below hB); have HF1 := hidE (HF.out.below hB); clear hB; cases hly : Mk.layB l with
 | false =>
  have hn : onB l t = false := by rw [HD.out, hly]; rfl
  have hq : onE l t = [] := by unfold onE; rw [hn]; rfl
  go_wp2
  go_ret2
  exact ⟨_, by rw [hn]; rfl, by rw [hq]; exact OwnE.made _ HB1.out.size, HB1.out.alloc HB1.out.size _⟩
 | true =>
  go_wp2_with fail
  refine (HT.out _ HF1.out).mono ?_; rintro e w2 ⟨rfl, hB⟩; have HB2 := hidE (Mk.tBelow HB1.out hB); have HE2 := hidE (HE1.out.below hB); have HF2 := hidE (HF1.out.below hB); clear hB HB1 HE1 HF1; cases htr : treeE t with
  | false =>
   have hn : onB l t = false := by rw [HD.out, hly, htr]; rfl
   have hq : onE l t = [] := by unfold onE; rw [hn]; rfl
   go_wp2
   go_ret2
   exact ⟨_, by rw [hn]; rfl, by rw [hq]; exact OwnE.made _ HB2.out.size, HB2.out.alloc HB2.out.size _⟩
  | true =>
   have hll : l.length ≤ 32 := by
    unfold Mk.layB at hly; rw [Bool.and_eq_true] at hly; exact of_decide_eq_true hly.2
   have htl := (treeE_tr htr).2; go_wp2_with fail
   refine (l3On_any _ a g o cap l a' g' o' cap' t (by omega) (by omega) (fun e he => (hz e he).1) (fun e he => (hz' e he).1) ha ha' HE2.out HF2.out).mono ?_; rintro e w3 ⟨v3, rfl, ho3, hB⟩; have HO3 := hidE (ho3.lower (base' := w.heap.size) HB2.out.size); have HB3 := hidE (Mk.tBelow HB2.out hB); clear ho3 hB HB2 HE2 HF2; obtain ⟨a3, g3, c3, rfl, ha3, hE3, hc3⟩ := HO3.out.ents; clear ha3 hE3; by_cases h16 : (onM l t).length ≤ 16
   ·
    have hn : onB l t = true := by rw [HD.out, hly, htr, decide_eq_true h16]; rfl
    have hq : onE l t = onM l t := by unfold onE; rw [hn]; rfl
    go_wp2
    go_ret2
    exact ⟨_, by rw [hn]; rfl, by rw [hq]; exact HO3.out, HB3.out⟩
   ·
    have hn : onB l t = false := by rw [HD.out, hly, htr, decide_eq_false h16]; rfl
    have hq : onE l t = [] := by unfold onE; rw [hn]; rfl
    have h17 : (16 : Int) < (onM l t).length := by omega
    go_wp2
    go_ret2
    exact ⟨_, by rw [hn]; rfl, by rw [hq]; exact OwnE.made _ HB3.out.size, HB3.out.alloc HB3.out.size _⟩
theorem hideM_iff {s : ByteArray} {m : Mk.E} (hs : pathB s = true) (hm : pathB m.p = true) : Mk.hideM s m = true ↔ m.d ≠ 2 ∧ (m.p = s ∨ underI s m.p = true) := by
 unfold Mk.hideM; rw [Mk.underL_I hs hm, Bool.or_eq_true, Bool.and_eq_true, Bool.and_eq_true, bne_iff_ne, beq_iff_eq]
 constructor
 ·
  rintro (⟨h1, h2⟩ | ⟨h1, h2⟩)
  ·
   exact ⟨h2, .inl (toList_inj h1)⟩
  ·
   exact ⟨h1, .inr h2⟩
 ·
  rintro ⟨h1, h2 | h2⟩
  ·
   exact .inl ⟨by rw [h2], h1⟩
  ·
   exact .inr ⟨h1, h2⟩
theorem hides_iff {l : List Mk.E} (T : Mk.TrM l) {s : ByteArray} (hs : pathB s = true) : Mk.hidesM l s = true ↔ ∃ m ∈ l, m.d ≠ 2 ∧ (m.p = s ∨ underI s m.p = true) := by
 unfold Mk.hidesM; rw [List.any_eq_true]; exact ⟨fun ⟨m, hm, h⟩ => ⟨m, hm, (hideM_iff hs (T.path m hm)).1 h⟩, fun ⟨m, hm, h⟩ => ⟨m, hm, (hideM_iff hs (T.path m hm)).2 h⟩⟩
theorem lay_data {l : List Mk.E} (h : Mk.layB l = true) : ∀ m ∈ l, dataB m.x = true := fun m hm => by
 unfold Mk.layB at h; rw [Bool.and_eq_true, List.all_eq_true] at h; obtain ⟨i, hi, rfl⟩ := List.getElem_of_mem hm; have := h.1 i (List.mem_range.2 hi); rw [Mk.okM_is hi] at this; simp only [Bool.and_eq_true] at this; exact this.2.2.1
theorem ent_dir {m : Mk.E} (h : Mk.dirK m.d = true) : entM m = some ⟨m.p, true, ⟨#[]⟩⟩ := by
 unfold Mk.dirK at h; rw [Bool.or_eq_true, beq_iff_eq, beq_iff_eq] at h; unfold entM; rw [if_neg (by omega), if_pos h]
theorem on_tr {l : List Mk.E} {t : List E} (hx : ∀ m ∈ l, dataB m.x = true) (T : Mk.TrM l) (U : TrE t) : TrE (onM l t) where
 path := fun e he => by
  rcases (on_mem T U.sort e).1 he with ⟨m, hm, h⟩ | ⟨⟨h, -⟩, -⟩
  ·
   rw [ent_path h]; exact T.path m hm
  ·
   exact U.path e h
 sort := on_rise U.sort
 data := fun e he => by
  rcases (on_mem T U.sort e).1 he with ⟨m, hm, h⟩ | ⟨⟨h, -⟩, -⟩
  ·
   unfold entM at h
   split at h
   ·
    cases h; exact ⟨hx m hm, fun q => by cases q⟩
   ·
    split at h
    ·
     cases h; exact ⟨Mk.data_nil, fun _ => rfl⟩
    ·
     cases h
  ·
   exact U.data e h
 up := fun e he => by
  rcases (on_mem T U.sort e).1 he with ⟨m, hm, h⟩ | ⟨⟨h, hh⟩, hn⟩
  ·
   rw [ent_path h]; rcases T.up m hm with q | ⟨f, hf, hd⟩
   ·
    exact look_dir (.inl q)
   ·
    obtain ⟨hf1, hf2⟩ := Mk.look_mem hf; refine look_dir (.inr ⟨⟨f.p, true, ⟨#[]⟩⟩, ?_, rfl⟩); rw [← hf2]; exact look_self (on_rise U.sort) ((on_mem T U.sort _).2 (.inl ⟨f, hf1, ent_dir hd⟩))
  ·
   have hp := U.path e h; rcases dir_look (U.up e h) with q | ⟨f, hf, hd⟩
   ·
    exact look_dir (.inl q)
   ·
    obtain ⟨hf1, hf2⟩ := look_mem hf; have hu : pathB (upS e.p) = true := by rw [← hf2]; exact U.path f hf1
    have hno : ∀ m ∈ l, m.p = upS e.p → m.d = 2 := fun m hm q => Classical.byContradiction fun h2 => by
     have : Mk.hidesM l e.p = true := (hides_iff T hp).2 ⟨m, hm, h2, .inr (by rw [q]; exact up_under hp)⟩; rw [hh] at this; cases this
    have hfh : Mk.hidesM l f.p = false := by
     cases hc : Mk.hidesM l f.p with
     | false => rfl
     | true =>
      exfalso
      obtain ⟨m, hm, h2, h3⟩ := (hides_iff T (U.path f hf1)).1 hc
      have : Mk.hidesM l e.p = true := (hides_iff T hp).2 ⟨m, hm, h2, .inr (by
       rcases h3 with h3 | h3
       ·
        rw [h3, hf2]; exact up_under hp
       ·
        exact under_trans (up_under hp) (by rw [← hf2]; exact h3))⟩
      rw [hh] at this; cases this
    cases hl : Mk.lookE l (upS e.p) with
    | some m =>
     obtain ⟨hm1, hm2⟩ := Mk.look_mem hl; have h2 := hno m hm1 hm2; refine look_dir (.inr ⟨⟨m.p, true, ⟨#[]⟩⟩, ?_, rfl⟩); rw [← hm2]; exact look_self (on_rise U.sort) ((on_mem T U.sort _).2 (.inl ⟨m, hm1, ent_dir (by rw [h2]; rfl)⟩))
    | none =>
     refine look_dir (.inr ⟨f, ?_, hd⟩); rw [← hf2]; refine look_self (on_rise U.sort) ((on_mem T U.sort _).2 (.inr ⟨⟨hf1, hfh⟩, fun m hm _ q => ?_⟩)); exact Mk.look_none.1 hl m hm (q.trans hf2)
theorem on_is {l : List Mk.E} {t : List E} (h : onB l t = true) : Mk.layB l = true ∧ treeE t = true ∧ (onM l t).length ≤ 16 ∧ onE l t = onM l t := by
 have hE : onE l t = onM l t := by unfold onE; rw [h]; rfl
 unfold onB at h; rw [Bool.and_eq_true, Bool.and_eq_true] at h; exact ⟨h.1.1, h.1.2, of_decide_eq_true h.2, hE⟩
theorem lay_tr' {l : List Mk.E} (h : Mk.layB l = true) : Mk.TrM l := by
 unfold Mk.layB at h; rw [Bool.and_eq_true] at h; have := Mk.tr_take l.length (Nat.le_refl _) h.1
 rwa [List.take_length] at this
structure RtM (l : List Mk.E) : Prop where
 tr : Mk.TrM l
 data : ∀ m ∈ l, dataB m.x = true
 plain : ∀ m ∈ l, m.d ≠ 1 → m.x = ⟨#[]⟩
 bare : ∀ m ∈ l, ∀ k ∈ l, k.d = 4 → underI m.p k.p = true → m.d ≤ 2
theorem take_mem {l : List Mk.E} (hs : Mk.Rise l) {i : Nat} (hi : i < l.length) {k : Mk.E} (hk : k ∈ l) (h : less k.p l[i].p) : k ∈ l.take i := by
 obtain ⟨j, hj, rfl⟩ := List.getElem_of_mem hk; by_cases q : j < i
 ·
  rw [List.mem_take_iff_getElem]; exact ⟨j, by omega, rfl⟩
 ·
  exfalso
  by_cases e : j = i
  ·
   subst e; exact less_irrefl _ h
  ·
   exact less_irrefl _ (less_trans h (List.pairwise_iff_getElem.1 hs i j hi hj (by omega)))
theorem under_less {a b : ByteArray} (hb : pathB b = true) (h : underI a b = true) : less b a := by
 obtain ⟨r, h1, h2⟩ := under_list hb (.inr h); have hne : a ≠ b := fun q => by rw [q] at h; have := under_lev b.size b b (Nat.le_refl _) h; omega
 rw [less_L, h1]; cases r with
 | nil => rw [List.append_nil] at h1; exact absurd (L_inj h1) hne
 | cons y r =>
  have := bless_pre (L b) [] (y :: r); rw [List.append_nil] at this; rw [this]; rfl
theorem rt_lay {l : List Mk.E} (R : RtM l) (hl : l.length ≤ 32) : Mk.layB l = true := by
 have T := R.tr; unfold Mk.layB; rw [Bool.and_eq_true, List.all_eq_true]; refine ⟨fun i hi => ?_, decide_eq_true hl⟩; have hi := List.mem_range.1 hi; have hm := List.getElem_mem hi; rw [Mk.okM_is hi]; simp only [Bool.and_eq_true]; refine ⟨decide_eq_true (T.kind _ hm), T.path _ hm, R.data _ hm, ?_, ?_, ?_, ?_⟩
 ·
  by_cases h1 : l[i].d = 1
  ·
   rw [h1]; rfl
  ·
   rw [R.plain _ hm h1]; simp
 ·
  cases i with
  | zero => rfl
  | succ j =>
   have h1 : l[j + 1 - 1]? = some l[j] := by rw [show j + 1 - 1 = j from rfl, List.getElem?_eq_getElem (by omega)]
   rw [h1]; rw [Bool.or_eq_true]; exact .inr (List.pairwise_iff_getElem.1 T.sort j (j + 1) (by omega) hi (by omega))
 ·
  rw [Mk.inM_look]; refine (T.up _ hm).imp id fun ⟨f, h1, h2⟩ => ⟨f, ?_, h2⟩; obtain ⟨g1, g2⟩ := Mk.look_mem h1; have hup : underI l[i].p f.p = true := (under_up (T.path _ hm)).2 (.inl g2); have hft := take_mem T.sort hi g1 (under_less (T.path f g1) hup); rw [← g2]; exact Mk.look_self (T.sort.sublist (List.take_sublist i l)) hft
 ·
  rw [Bool.not_eq_true', Bool.and_eq_false_iff]; by_cases hd : 2 < l[i].d
  ·
   right
   cases hb : Mk.bareM (l.take i) l[i].p with
   | false => rfl
   | true =>
    unfold Mk.bareM at hb; rw [List.any_eq_true] at hb; obtain ⟨k, hk, h⟩ := hb; have hkl := List.mem_of_mem_take hk; rw [Bool.and_eq_true, beq_iff_eq, Mk.underL_I (T.path _ hm) (T.path k hkl)] at h; have := R.bare _ hm k hkl h.1 h.2; omega
  ·
   exact .inl (decide_eq_false hd)
/-! ### What two layers make, as they stand -/
def bothK (a b : Int) : Int := if a = 2 ∧ b ≠ 0 ∧ b ≠ 2 then 4 else a
def overM (b : List Mk.E) (k : Mk.E) : Mk.E := ⟨k.p, bothK k.d (Mk.kindM b k.p), k.x⟩
def freeM (a : List Mk.E) (m : Mk.E) : Bool := !Mk.hidesM a m.p && (Mk.kindM a m.p == 0)
def joinM (a b : List Mk.E) : List Mk.E := a.foldl (fun o k => Mk.putE o (overM b k)) (b.foldl (fun o m => if freeM a m = true then Mk.putE o m else o) [])
def tidy1 (out : List Mk.E) (m : Mk.E) : List Mk.E := if Mk.bareM out m.p = true then (if m.d = 3 then out else out ++ [if m.d = 4 then ⟨m.p, 2, m.x⟩ else m]) else out ++ [m]
def tidyM (l : List Mk.E) : List Mk.E := l.foldl tidy1 []
theorem on_sz {l : List Mk.E} {t : List E} (T : Mk.TrM l) (U : TrE t) (h1 : ∀ e ∈ l, e.p.size ≤ 16777216 ∧ e.x.size ≤ 16777216) (h2 : ∀ e ∈ t, e.p.size ≤ 16777216 ∧ e.x.size ≤ 16777216) : ∀ e ∈ onM l t, e.p.size ≤ 16777216 ∧ e.x.size ≤ 16777216 := fun e he => by
 rcases (on_mem T U.sort e).1 he with ⟨m, hm, h⟩ | ⟨⟨h, -⟩, -⟩
 ·
  unfold entM at h
  split at h
  ·
   cases h; exact h1 m hm
  ·
   split at h
   ·
    cases h; exact ⟨(h1 m hm).1, Nat.zero_le _⟩
   ·
    cases h
 ·
  exact h2 e h
end Go.Proofs.YteppodogghjfhaaGreatDoor.Ly
