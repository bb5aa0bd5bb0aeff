import Derived.Deep.RegionHeld3
import Derived.Test.YteppodogghjfhabGreatDoorHPk10
import Derived.Test.YteppodogghjfhabGreatDoorHPk20
import Derived.Test.YteppodogghjfhabGreatDoorHPk07
import Derived.Test.YteppodogghjfhabGreatDoorHPk22
namespace Go.Proofs.YteppodogghjfhabGreatDoor.Mk
open Go.RowKit Go.Lib Go.Sort
theorem l3Both_any (a b : Int) (w : World) : Calls Tryz.prog 78 #[.int .i64 a, .int .i64 b] w fun e w' => e = .returned (.int .i64 (Ly.bothK a b)) ∧ w' = w := by
 by_cases h1 : a = 2
 ·
  have e1 : (a == 2) = true := by rw [beq_iff_eq]; exact h1
  by_cases h2 : b = 0
  ·
   have e2 : (b != 0) = false := by rw [h2]; rfl
   have hq : Ly.bothK a b = a := by unfold Ly.bothK; rw [if_neg (fun q => q.2.1 h2)]
   rw [hq]; clear hq; subst h1 h2; go_enter Tryz.func78, Tryz.ntmps78
   go_wp2
   go_ret
   exact ⟨rfl, rfl⟩
  ·
   have e2 : (b != 0) = true := by rw [bne_iff_ne]; exact h2
   by_cases h3 : b = 2
   ·
    have hq : Ly.bothK a b = a := by unfold Ly.bothK; rw [if_neg (fun q => q.2.2 h3)]
    rw [hq]; clear hq; subst h1 h3; go_enter Tryz.func78, Tryz.ntmps78
    go_wp2
    go_ret
    exact ⟨rfl, rfl⟩
   ·
    have e3 : (b != 2) = true := by rw [bne_iff_ne]; exact h3
    have hq : Ly.bothK a b = 4 := by unfold Ly.bothK; rw [if_pos ⟨h1, h2, h3⟩]
    rw [hq]; clear hq; subst h1; go_enter Tryz.func78, Tryz.ntmps78
    go_wp2
    go_ret
    exact ⟨rfl, rfl⟩
 ·
  have e1 : (a == 2) = false := by rw [beq_eq_false_iff_ne]; exact h1
  have hq : Ly.bothK a b = a := by unfold Ly.bothK; rw [if_neg (fun q => h1 q.1)]
  rw [hq]; clear hq; go_enter Tryz.func78, Tryz.ntmps78
  go_wp2
  go_ret
  exact ⟨rfl, rfl⟩
def lowF (a : List E) (l : List E) : List E := l.foldl (fun o m => if Ly.freeM a m = true then putE o m else o) []
theorem lowF_succ {a l : List E} {k : Nat} (h : k < l.length) : lowF a (l.take (k + 1)) = if Ly.freeM a l[k] = true then putE (lowF a (l.take k)) l[k] else lowF a (l.take k) := by
 unfold lowF; rw [List.take_succ_eq_append_getElem h, List.foldl_append]; rfl
def uppF (b out l : List E) : List E := l.foldl (fun o k => putE o (Ly.overM b k)) out
theorem uppF_succ {b out l : List E} {k : Nat} (h : k < l.length) : uppF b out (l.take (k + 1)) = putE (uppF b out (l.take k)) (Ly.overM b l[k]) := by
 unfold uppF; rw [List.take_succ_eq_append_getElem h, List.foldl_append]; rfl
theorem put_lenS (es : List E) (e : E) : (putE es e).length ≤ es.length + 1 := by
 have h1 := rest_len e (es.dropWhile (ltP e)); have h2 : (es.takeWhile (ltP e)).length + (es.dropWhile (ltP e)).length = es.length := by rw [← List.length_append, List.takeWhile_append_dropWhile]
 unfold putE; simp only [List.length_append, List.length_singleton]; omega
theorem low_len (a : List E) : ∀ (l : List E) (k : Nat), k ≤ l.length → (lowF a (l.take k)).length ≤ k
 | _, 0, _ => by rw [List.take_zero]; exact Nat.le_refl _
 | l, k + 1, h => by
  rw [lowF_succ (by omega)]; have := low_len a l k (by omega)
  split
  ·
   have := put_lenS (lowF a (l.take k)) l[k]; omega
  ·
   omega
theorem upp_len (b out : List E) : ∀ (l : List E) (k : Nat), k ≤ l.length → (uppF b out (l.take k)).length ≤ out.length + k
 | _, 0, _ => by rw [List.take_zero]; exact Nat.le_refl _
 | l, k + 1, h => by
  rw [uppF_succ (by omega)]; have := upp_len b out l k (by omega); have := put_lenS (uppF b out (l.take k)) (Ly.overM b l[k]); omega
theorem Box3.put1 {W : World} {b : Nat} {u v x : Value} (h : Box3 W b u v x) (y : Value) : Box3 (W.setCell ⟨b, 1, none⟩ y) b u y x :=
 ⟨(World.cell?_setCell_other _ _ _ _ (fun q => by have e := congrArg Addr.off q; dsimp only at e; omega)).trans h.c0, World.cell?_setCell_same' _ _ _ (by rw [h.c1]; rfl), (World.cell?_setCell_other _ _ _ _ (fun q => by have e := congrArg Addr.off q; dsimp only at e; omega)).trans h.c2, by rw [World.frozen?_setCell]; exact h.f0, by rw [World.frozen?_setCell]; exact h.f1, by rw [World.frozen?_setCell]; exact h.f2⟩
set_option maxHeartbeats 4000000 in
set_option maxRecDepth 100000 in
theorem l3Join_any (w : World) (a : Option Addr) (g o cap : Nat) (l : List E) (a' : Option Addr) (g' o' cap' : Nat) (t : List E) (hl : l.length ≤ 1000) (ht : t.length ≤ 1000) (hz : ∀ e ∈ l, e.p.size ≤ 16777216) (hz' : ∀ e ∈ t, e.p.size ≤ 16777216) (ha : 0 < l.length → a = some ⟨g, o, none⟩) (ha' : 0 < t.length → a' = some ⟨g', o', none⟩) (hE : Ents w g o l) (hF : Ents w g' o' t) :
  Calls Tryz.prog 54 #[.slice a l.length cap, .slice a' t.length cap'] w fun r w' => ∃ v, r = .returned v ∧ OwnE w' w.heap.size v (Ly.joinM l t) ∧ Below w.heap.size w w' := by
 have HE := hidE hE; have HF := hidE hF; have HZ := hidE hz; have HZ' := hidE hz'; clear hE hF hz hz'; go_enter Tryz.func54, Tryz.ntmps54
 go_wp2
 go_loopw [5, 6] (fun v iv wl => ∃ k : Nat, k ≤ t.length ∧ iv = .int .i64 k ∧ Hid (OwnE wl w.heap.size v (lowF l (t.take k))) ∧ Hid (Below w.heap.size w wl)) (fun _ iv _ => t.length - (RowKit.intOf iv).toNat)
 case atStart => exact ⟨0, Nat.zero_le _, rfl, OwnE.made w (Nat.le_refl _), (Below.refl _ w).alloc (Nat.le_refl _) _⟩
 case round =>
  obtain ⟨k, hk, rfl, HO, HB⟩ := hrel; by_cases hlt : k < t.length
  ·
   obtain rfl := ha' (by omega); obtain ⟨c0, c1, c2⟩ := (HF.out.below HB.out) k hlt; have HHd := hidE (l3Hides_any wr a g o cap l t[k].p (by omega) (HZ'.out _ (List.getElem_mem _)) HZ.out ha (HE.out.below HB.out)); have HK := hidE (lowF_succ (a := l) hlt); have hlen := low_len l t k hk; have hz3 := HB.out.size; obtain ⟨pre, hpre⟩ : ∃ pre, lowF l (t.take k) = pre := ⟨_, rfl⟩
   rw [hpre] at HO HK hlen; clear hpre; go_wp2_with fail
   refine HHd.out.mono ?_; rintro e w2 ⟨rfl, hB2⟩; have HO2 := hidE (HO.out.below hB2); have HB2 := hidE (HB.out.trans (hB2.mono hz3)); obtain ⟨c0, c1, c2⟩ := (HF.out.below HB2.out) k hlt; have hz4 := HB2.out.size; clear hB2 HO HB HHd; cases hb : hidesM l t[k].p with
   | true =>
    have HK2 : Hid (lowF l (t.take (k + 1)) = pre) := by
     show _ = _; rw [HK.out]; unfold Ly.freeM; rw [hb]; rfl
    clear HK; go_wp2
    go_roundw
    case rel => exact ⟨k + 1, by omega, by go_num, by rw [HK2.out]; exact HO2, HB2⟩
    case measure => simp [RowKit.intOf]; omega
   | false =>
    have HKi := hidE (l3Kind_any w2 a g o cap l t[k].p (by omega) ha (HE.out.below HB2.out)); by_cases hkz : kindM l t[k].p = 0
    ·
     have HK2 : Hid (lowF l (t.take (k + 1)) = putE pre ⟨t[k].p, t[k].d, t[k].x⟩) := by
      show _ = _; rw [HK.out]; unfold Ly.freeM; rw [hb, hkz]; rfl
     clear HK; rw [hkz] at HKi; obtain ⟨a5, g5, cap5, rfl, ha5, hE5, hcap5⟩ := HO2.out.ents; have HPu := hidE (fun (W : World) (hW : Ents W g5 0 pre) => l3Put_any W a5 g5 0 cap5 pre t[k].p t[k].d t[k].x (by omega) hcap5 ha5 hW); have HE5 := hidE hE5; clear hE5 ha5; go_wp2_with fail
     refine HKi.out.mono ?_; rintro e w3 ⟨rfl, rfl⟩; go_wp2_with fail
     refine (HPu.out _ HE5.out).mono ?_; rintro e w4 ⟨v4, rfl, ho4, hB4⟩; have HO4 := hidE (ho4.lower (base' := w.heap.size) hz4); have HB4 := hidE (HB2.out.trans (hB4.mono hz4)); clear ho4 hB4 HO2 HB2; go_wp2
     go_roundw
     case rel => exact ⟨k + 1, by omega, by go_num, by rw [HK2.out]; exact HO4, HB4⟩
     case measure => simp [RowKit.intOf]; omega
    ·
     have hkz' : (kindM l t[k].p == 0) = false := by rw [beq_eq_false_iff_ne]; exact hkz
     have HK2 : Hid (lowF l (t.take (k + 1)) = pre) := by
      show _ = _; rw [HK.out]; unfold Ly.freeM; rw [hb, hkz']; rfl
     clear HK; go_wp2_with fail
     refine HKi.out.mono ?_; rintro e w3 ⟨rfl, rfl⟩; go_wp2
     go_roundw
     case rel => exact ⟨k + 1, by omega, by go_num, by rw [HK2.out]; exact HO2, HB2⟩
     case measure => simp [RowKit.intOf]; omega
  ·
   have hke : t.take k = t := List.take_of_length_le (by omega); rw [hke] at HO; have htl : (lowF l t).length ≤ t.length := by have := low_len l t t.length (Nat.le_refl _); rwa [List.take_length] at this
   obtain ⟨base, hbase⟩ : ∃ base, lowF l t = base := ⟨_, rfl⟩
   have HBase := hidE hbase; rw [hbase] at HO htl; clear hke hbase; go_wp2
   go_loopw [5, 7] (fun v iv wl => ∃ k : Nat, k ≤ l.length ∧ iv = .int .i64 k ∧ Hid (OwnE wl w.heap.size v (uppF t base (l.take k))) ∧ Hid (Below w.heap.size w wl)) (fun _ iv _ => l.length - (RowKit.intOf iv).toNat)
   case atStart => exact ⟨0, Nat.zero_le _, rfl, HO, HB⟩
   case round =>
    clear HO HB; obtain ⟨j, hj, rfl, HO, HB⟩ := hrel; by_cases hjt : j < l.length
    ·
     obtain rfl := ha (by omega); obtain ⟨c0, c1, c2⟩ := (HE.out.below HB.out) j hjt; have HK := hidE (uppF_succ (b := t) (out := base) hjt); have hfl := upp_len t base l j hj; have hz3 := HB.out.size; obtain ⟨pre, hpre⟩ : ∃ pre, uppF t base (l.take j) = pre := ⟨_, rfl⟩
     rw [hpre] at HO HK hfl; clear hpre; obtain ⟨p, hp⟩ : ∃ p, l[j].p = p := ⟨_, rfl⟩
     obtain ⟨d, hd⟩ : ∃ d, l[j].d = d := ⟨_, rfl⟩
     obtain ⟨x, hx⟩ : ∃ x, l[j].x = x := ⟨_, rfl⟩
     have HK2 : Hid (uppF t base (l.take (j + 1)) = putE pre ⟨p, Ly.bothK d (kindM t p), x⟩) := by
      show _ = _; rw [HK.out]; unfold Ly.overM; rw [hp, hd, hx]
     rw [hp] at c0; rw [hd] at c1; rw [hx] at c2; clear HK hp hd hx; have BM := Box3.new wr (.string p) (.int .i64 d) (.string x) 74; obtain ⟨W0, hW0⟩ : ∃ W0, W0 = wr.alloc (.cells #[.string p, .int .i64 d, .string x] 74) := ⟨_, rfl⟩
     have hBA : Below wr.heap.size wr W0 := by rw [hW0]; exact (Below.refl _ wr).alloc (Nat.le_refl _) _
     rw [← hW0] at BM; have hB0 := HB.out.trans (hBA.mono hz3); have hs0 : W0.heap.size = wr.heap.size + 1 := by rw [hW0]; simp
     have HO0 := hidE (HO.out.below hBA); have HB0 := hidE hB0; obtain ⟨a5, g5, cap5, rfl, ha5, hE5, hcap5⟩ := HO.out.ents; have HPu := hidE (fun (W : World) (hW : Ents W g5 0 pre) => l3Put_any W a5 g5 0 cap5 pre p (Ly.bothK d (kindM t p)) x (by omega) hcap5 ha5 hW); have HE5 := hidE hE5; have HBA := hidE hBA; clear hE5 ha5; have AS : Hid (∀ W', Below W0.heap.size W0 W' → Box3 W' wr.heap.size (.string p) (.int .i64 d) (.string x)) := fun W' hW => BM.below hW; have HKi := hidE (fun (W : World) (hW : Below W0.heap.size W0 W) => l3Kind_any W a' g' o' cap' t p (by omega) ha' ((HF.out.below hB0).below hW)); have HBo := hidE (fun (W : World) => l3Both_any d (kindM t p) W); go_wp2_with fail
     rw [← hW0]; clear hW0 hBA; obtain ⟨x0, x1, x2, x3, x4, x5⟩ := AS.out W0 (Below.refl _ _)
     go_region_with (first | (go_at_call 77; refine (HKi.out _ (by repeat (first | exact Below.refl _ _ | apply Below.drew))).mono ?_; rintro e w5 ⟨rfl, rfl⟩) | (go_at_call 78; refine (HBo.out _).mono ?_; rintro e w6 ⟨rfl, rfl⟩))
     all_goals
      have X5 := (AS.out W0 (Below.refl _ _)).put1 (.int .i64 (Ly.bothK d (kindM t p))); have hB5 : Below wr.heap.size wr (W0.setCell ⟨wr.heap.size, 1, none⟩ (.int .i64 (Ly.bothK d (kindM t p)))).drew := (HBA.out.setCell (p := ⟨wr.heap.size, 1, none⟩) (Nat.le_refl _) _).drew; obtain ⟨W5, hW5⟩ : ∃ W5, W5 = (W0.setCell ⟨wr.heap.size, 1, none⟩ (.int .i64 (Ly.bothK d (kindM t p)))).drew := ⟨_, rfl⟩
      have X6 : Box3 W5 wr.heap.size (.string p) (.int .i64 (Ly.bothK d (kindM t p))) (.string x) := by rw [hW5]; exact ⟨X5.c0, X5.c1, X5.c2, X5.f0, X5.f1, X5.f2⟩
      rw [← hW5] at hB5 ⊢; have HB5 := hidE (HB.out.trans (hB5.mono hz3)); have HE6 := hidE (HE5.out.below hB5); have hz5 := HB5.out.size; clear X5 hW5 hB5 x0 x1 x2 x3 x4 x5; obtain ⟨x0, x1, x2, x3, x4, x5⟩ := X6; go_wp2_with fail
      refine (HPu.out _ HE6.out).mono ?_; rintro e w7 ⟨v7, rfl, ho7, hB7⟩; have HO7 := hidE (ho7.lower (base' := w.heap.size) hz5); have HB7 := hidE (HB5.out.trans (hB7.mono hz5)); clear ho7 hB7; go_wp2
      go_roundw
      case rel => exact ⟨j + 1, by omega, by go_num, by rw [HK2.out]; exact HO7, HB7⟩
      case measure => simp [RowKit.intOf]; omega
    ·
     go_wp2
     go_ret
     rw [List.take_of_length_le (by omega)] at HO; refine ⟨_, rfl, ?_, HB.out⟩; have := HO.out; rw [← HBase.out] at this; exact this
def tidF (l : List E) : List E := l.foldl Ly.tidy1 []
theorem tidF_succ {l : List E} {k : Nat} (h : k < l.length) : tidF (l.take (k + 1)) = Ly.tidy1 (tidF (l.take k)) l[k] := by
 unfold tidF; rw [List.take_succ_eq_append_getElem h, List.foldl_append]; rfl
theorem tid_facts (l : List E) (hz : ∀ e ∈ l, e.p.size ≤ 16777216) : ∀ (k : Nat), k ≤ l.length → (tidF (l.take k)).length ≤ k ∧ ∀ e ∈ tidF (l.take k), e.p.size ≤ 16777216
 | 0, _ => by rw [List.take_zero]; exact ⟨Nat.le_refl _, fun e he => by cases he⟩
 | k + 1, h => by
  rw [tidF_succ (by omega)]; obtain ⟨h1, h2⟩ := tid_facts l hz k (by omega); have hm := hz l[k] (List.getElem_mem _); unfold Ly.tidy1
  split
  ·
   split
   ·
    exact ⟨by omega, h2⟩
   ·
    refine ⟨by rw [List.length_append, List.length_singleton]; omega, fun e he => ?_⟩; rcases List.mem_append.1 he with q | q
    ·
     exact h2 e q
    ·
     rw [List.mem_singleton.1 q]; split <;> exact hm
  ·
   refine ⟨by rw [List.length_append, List.length_singleton]; omega, fun e he => ?_⟩; rcases List.mem_append.1 he with q | q
   ·
    exact h2 e q
   ·
    rw [List.mem_singleton.1 q]; exact hm
set_option maxHeartbeats 4000000 in
set_option maxRecDepth 100000 in
theorem l3Tidy_any (w : World) (a : Option Addr) (g o cap : Nat) (l : List E) (hl : l.length ≤ 2000) (hz : ∀ e ∈ l, e.p.size ≤ 16777216) (ha : 0 < l.length → a = some ⟨g, o, none⟩) (hE : Ents w g o l) :
  Calls Tryz.prog 53 #[.slice a l.length cap] w fun r w' => ∃ v, r = .returned v ∧ OwnE w' w.heap.size v (Ly.tidyM l) ∧ Below w.heap.size w w' := by
 have HE := hidE hE; have HZ := hidE hz; clear hE hz; go_enter Tryz.func53, Tryz.ntmps53
 go_wp2
 go_loopw [3, 4] (fun v iv wl => ∃ k : Nat, k ≤ l.length ∧ iv = .int .i64 k ∧ Hid (OwnE wl w.heap.size v (tidF (l.take k))) ∧ Hid (Below w.heap.size w wl)) (fun _ iv _ => l.length - (RowKit.intOf iv).toNat)
 case atStart => exact ⟨0, Nat.zero_le _, rfl, OwnE.made w (Nat.le_refl _), (Below.refl _ w).alloc (Nat.le_refl _) _⟩
 case round =>
  obtain ⟨k, hk, rfl, HO, HB⟩ := hrel; by_cases hlt : k < l.length
  ·
   obtain rfl := ha (by omega); obtain ⟨c0, c1, c2⟩ := (HE.out.below HB.out) k hlt; obtain ⟨hfl, hfz⟩ := tid_facts l HZ.out k hk; have hpz := HZ.out l[k] (List.getElem_mem _); have HK := hidE (tidF_succ hlt); have hz3 := HB.out.size; obtain ⟨pre, hpre⟩ : ∃ pre, tidF (l.take k) = pre := ⟨_, rfl⟩
   rw [hpre] at HO HK hfl hfz; clear hpre; obtain ⟨p, hp⟩ : ∃ p, l[k].p = p := ⟨_, rfl⟩
   obtain ⟨d, hd⟩ : ∃ d, l[k].d = d := ⟨_, rfl⟩
   obtain ⟨x, hx⟩ : ∃ x, l[k].x = x := ⟨_, rfl⟩
   have HL := hidE (show l[k] = ⟨p, d, x⟩ by rw [← hp, ← hd, ← hx]); rw [hp] at c0 hpz; rw [hd] at c1; rw [hx] at c2; clear hp hd hx; have BM := Box3.new wr (.string p) (.int .i64 d) (.string x) 74; obtain ⟨W0, hW0⟩ : ∃ W0, W0 = wr.alloc (.cells #[.string p, .int .i64 d, .string x] 74) := ⟨_, rfl⟩
   have hBA : Below wr.heap.size wr W0 := by rw [hW0]; exact (Below.refl _ wr).alloc (Nat.le_refl _) _
   rw [← hW0] at BM; have HO0 := hidE (HO.out.below hBA); have HB0 := hidE (HB.out.trans (hBA.mono hz3)); have hz0 := HB0.out.size; obtain ⟨a5, g5, cap5, hv5, ha5, hE5, hcap5⟩ := HO0.out.ents; have HBr := hidE (l3Bare_any W0 a5 g5 0 cap5 pre p (by omega) hpz hfz ha5 hE5); obtain ⟨x0, x1, x2, x3, x4, x5⟩ := BM; subst hv5; clear hE5 ha5; have HBM := hidE (Box3.mk x0 x1 x2 x3 x4 x5); go_wp2_with fail
   rw [← hW0]; clear hW0; refine HBr.out.mono ?_; rintro e w2 ⟨rfl, hw2⟩; rw [hw2]; clear hw2; cases hb : bareM pre p with
   | false =>
    have HK2 : Hid (tidF (l.take (k + 1)) = pre ++ [⟨p, d, x⟩]) := by
     show _ = _; rw [HK.out, HL.out]; unfold Ly.tidy1; dsimp only; rw [hb]; rfl
    go_wp2_with (first
     | (at_builtin; refine wpE_append rfl _ _ rfl w.heap.size _ pre rfl (World.ownsRow.alloc HO0.out _) _ _ W0.heap.size 0 [⟨p, d, x⟩] 1 rfl rfl (fun _ => rfl) (ents_new _ ⟨p, d, x⟩) ?c1 ?c2 ?_)
     | fail)
    case c1 => simp; omega
    case c2 => simp; omega
    intro v' w4 hown' hgrow; have HB4 := hidE ((HB0.out.alloc hz0 _).grown hgrow (by simp; omega) (fun q hq => (World.ownsRow.lt HO0.out q hq).1)); have HO4 : Hid (OwnE w4 w.heap.size v' (pre ++ [⟨p, d, x⟩])) := hown'; clear hown' hgrow; go_wp2
    go_roundw
    case rel => exact ⟨k + 1, by omega, by go_num, by rw [HK2.out]; exact HO4, HB4⟩
    case measure => simp [RowKit.intOf]; omega
   | true =>
    by_cases h3 : d = 3
    ·
     have HK2 : Hid (tidF (l.take (k + 1)) = pre) := by
      show _ = _; rw [HK.out, HL.out]; unfold Ly.tidy1; dsimp only; rw [hb, if_pos rfl, if_pos h3]
     subst h3; go_wp2
     go_roundw
     case rel => exact ⟨k + 1, by omega, by go_num, by rw [HK2.out]; exact HO0, HB0⟩
     case measure => simp [RowKit.intOf]; omega
    ·
     have h3' : (d == 3) = false := by rw [beq_eq_false_iff_ne]; exact h3
     by_cases h4 : d = 4
     ·
      have HK2 : Hid (tidF (l.take (k + 1)) = pre ++ [⟨p, 2, x⟩]) := by
       show _ = _; rw [HK.out, HL.out]; unfold Ly.tidy1; dsimp only; rw [hb, if_pos rfl, if_neg h3, if_pos h4]
      subst h4; have X5 := HBM.out.put1 (.int .i64 2); have hB5 : Below wr.heap.size wr (W0.setCell ⟨wr.heap.size, 1, none⟩ (.int .i64 2)) := hBA.setCell (p := ⟨wr.heap.size, 1, none⟩) (Nat.le_refl _) _; obtain ⟨y0, y1, y2, y3, y4, y5⟩ := X5; have HB5 := hidE (HB.out.trans (hB5.mono hz3)); have HO5 := hidE (HO.out.below hB5); have hz5 := HB5.out.size; have hsz : (W0.setCell ⟨wr.heap.size, 1, none⟩ (.int .i64 2)).heap.size = W0.heap.size := by simp
      have hEn := ents_new (W0.setCell ⟨wr.heap.size, 1, none⟩ (.int .i64 2)) ⟨p, 2, x⟩; rw [hsz] at hEn hz5; have HEn := hidE hEn; clear hEn hsz
      go_wp2_with (first
       | (at_builtin; refine wpE_append rfl _ _ rfl w.heap.size _ pre rfl (World.ownsRow.alloc HO5.out _) _ _ W0.heap.size 0 [⟨p, 2, x⟩] 1 rfl rfl (fun _ => rfl) HEn.out ?c1 ?c2 ?_)
       | fail)
      case c1 => simp; omega
      case c2 => simp; omega
      intro v' w4 hown' hgrow; have HB4 := hidE ((HB5.out.alloc HB5.out.size _).grown hgrow (by simp; omega) (fun q hq => (World.ownsRow.lt HO5.out q hq).1)); have HO4 : Hid (OwnE w4 w.heap.size v' (pre ++ [⟨p, 2, x⟩])) := hown'; clear hown' hgrow; go_wp2
      go_roundw
      case rel => exact ⟨k + 1, by omega, by go_num, by rw [HK2.out]; exact HO4, HB4⟩
      case measure => simp [RowKit.intOf]; omega
     ·
      have h4' : (d == 4) = false := by rw [beq_eq_false_iff_ne]; exact h4
      have HK2 : Hid (tidF (l.take (k + 1)) = pre ++ [⟨p, d, x⟩]) := by
       show _ = _; rw [HK.out, HL.out]; unfold Ly.tidy1; dsimp only; rw [hb, if_pos rfl, if_neg h3, if_neg h4]
      go_wp2_with (first
       | (at_builtin; refine wpE_append rfl _ _ rfl w.heap.size _ pre rfl (World.ownsRow.alloc HO0.out _) _ _ W0.heap.size 0 [⟨p, d, x⟩] 1 rfl rfl (fun _ => rfl) (ents_new _ ⟨p, d, x⟩) ?c1 ?c2 ?_)
       | fail)
      case c1 => simp; omega
      case c2 => simp; omega
      intro v' w4 hown' hgrow; have HB4 := hidE ((HB0.out.alloc hz0 _).grown hgrow (by simp; omega) (fun q hq => (World.ownsRow.lt HO0.out q hq).1)); have HO4 : Hid (OwnE w4 w.heap.size v' (pre ++ [⟨p, d, x⟩])) := hown'; clear hown' hgrow; go_wp2
      go_roundw
      case rel => exact ⟨k + 1, by omega, by go_num, by rw [HK2.out]; exact HO4, HB4⟩
      case measure => simp [RowKit.intOf]; omega
  ·
   go_wp2
   go_ret
   rw [List.take_of_length_le (by omega)] at HO; exact ⟨_, rfl, HO.out, HB.out⟩
end Go.Proofs.YteppodogghjfhabGreatDoor.Mk
