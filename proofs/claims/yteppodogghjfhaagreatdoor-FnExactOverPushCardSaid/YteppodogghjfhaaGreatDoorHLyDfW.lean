import Derived.Deep.RegionHeld3
import Derived.Test.YteppodogghjfhaaGreatDoorHMkLie
import Derived.Test.YteppodogghjfhaaGreatDoorHPk20
import Derived.Test.YteppodogghjfhaaGreatDoorHPk07
import Derived.Test.YteppodogghjfhaaGreatDoorHPk10
import Derived.Test.YteppodogghjfhaaGreatDoorHPk05
import Derived.Test.YteppodogghjfhaaGreatDoorHLyDfI
namespace Go.Proofs.YteppodogghjfhaaGreatDoor.Ly
open Go.RowKit Go.Lib Go.Sort
set_option maxHeartbeats 1000000 in
set_option maxRecDepth 100000 in
theorem l3UpsG_any : ∀ (n : Nat) (w : World) (base : Nat) (v : Value) (es : List Mk.E) (s : ByteArray), s.size < n → pathB s = true → s.size ≤ 16777216 → es.length + n ≤ 2000 → base ≤ w.heap.size → Mk.LieB w base v es →
  Calls Tryz.prog 71 #[v, .string s] w fun e w' => ∃ (v' : Value), e = .returned v' ∧ Mk.LieB w' base v' (upsM n es s) ∧ Below w.heap.size w w'
 | 0, _, _, _, _, _, h, _, _, _, _, _ => by omega
 | n + 1, w, base, v, es, s, hn, hp, hs16, hl, hb, hL => by
  have hlt := Mk.up_lt hp; obtain ⟨a, g, o, cap, rfl, ha, hE, hcap, hgb⟩ := hL; have HE := hidE hE; have HA := hidE ha; have HG := hidE hgb; clear hE ha hgb; go_enter Tryz.func71, Tryz.ntmps71
  go_wp2_with fail
  refine (sPathUp_any s (by omega) _).mono ?_; rintro e w1 ⟨rfl, hB1⟩; have HB1 := hidE hB1; have HE1 := hidE (HE.out.below hB1); clear hB1; by_cases hr : upS s = ⟨#[47]⟩
  ·
   have HU : Hid (upsM (n + 1) es s = es) := by show _ = _; unfold upsM; rw [if_pos hr]
   have hr2 : (upS s).toList = [47] := by rw [hr, Lib.toList_data]
   have hr3 : ((upS s).toList == [47]) = true := by rw [hr2]; rfl
   clear hr; go_wp2
   go_ret
   exact ⟨_, rfl, by rw [HU.out]; exact ⟨_, g, o, cap, rfl, HA.out, HE1.out, hcap, HG.out⟩, HB1.out⟩
  ·
   have hu : pathB (upS s) = true := (stemOk_is (up_facts hp).1).resolve_left hr; have hr2 : ¬ (upS s).toList = [47] := fun q => hr ((isRoot_iff _).1 (by unfold isRoot; rw [q]; rfl)); have hr3 : ((upS s).toList == [47]) = false := by rw [beq_eq_false_iff_ne]; exact hr2
   have HU : Hid (upsM (n + 1) es s = upsM n (if Mk.kindM es (upS s) = 0 then Mk.putE es ⟨upS s, 2, ⟨#[]⟩⟩ else es) (upS s)) := by show _ = _; rw [upsM, if_neg hr]
   clear hr; have HKi := hidE (Mk.l3Kind_any w1 a g o cap es (upS s) (by omega) HA.out HE1.out); have hw1 := HB1.out.size; by_cases hk : Mk.kindM es (upS s) = 0
   ·
    have HU2 := HU.out; rw [if_pos hk] at HU2; have HU3 := hidE HU2; rw [hk] at HKi; have HPu := hidE (Mk.l3Put_any w1 a g o cap es (upS s) 2 ⟨#[]⟩ (by omega) hcap HA.out HE1.out); have hpl := Mk.put_len es ⟨upS s, 2, ⟨#[]⟩⟩; clear HU HU2 hk; go_wp2_with (first | (go_at_call 82; refine HKi.out.mono ?_; rintro e w2 ⟨rfl, rfl⟩) | (go_at_call 72; refine HPu.out.mono ?_; rintro e w3 ⟨v3, rfl, ho3, hB3⟩) | (go_at_call 71; refine (l3UpsG_any n _ base v3 _ (upS s) (by omega) hu (by omega) (by omega) (Nat.le_trans hb (Nat.le_trans hw1 hB3.size)) (ho3.lieB.lower (Nat.le_trans hb hw1))).mono ?_; rintro e w4 ⟨v4, rfl, hL4, hB4⟩) | fail)
    go_ret
    exact ⟨_, rfl, by rw [HU3.out]; exact hL4, Mk.tBelow (Mk.tBelow HB1.out hB3) hB4⟩
   ·
    have HU2 := HU.out; rw [if_neg hk] at HU2; have HU3 := hidE HU2; have hk' : (Mk.kindM es (upS s) == 0) = false := by rw [beq_eq_false_iff_ne]; exact hk
    have HL1 : Hid (Mk.LieB w1 base (.slice a es.length cap) es) := ⟨_, g, o, cap, rfl, HA.out, HE1.out, hcap, HG.out⟩
    clear HU HU2; go_wp2_with (first | (go_at_call 82; refine HKi.out.mono ?_; rintro e w2 ⟨rfl, rfl⟩) | (go_at_call 71; refine (l3UpsG_any n _ base _ es (upS s) (by omega) hu (by omega) (by omega) (Nat.le_trans hb hw1) HL1.out).mono ?_; rintro e w4 ⟨v4, rfl, hL4, hB4⟩) | fail)
    go_ret
    exact ⟨_, rfl, by rw [HU3.out]; exact hL4, Mk.tBelow HB1.out hB4⟩
theorem put1B {W : World} {b : Nat} {u v x : Value} (h : Mk.Box3 W b u v x) (y : Value) : Mk.Box3 (W.setCell ⟨b, 1, none⟩ y) b u y x :=
 ⟨(World.cell?_setCell_other _ _ _ _ (fun q => by have e := congrArg Addr.off q; dsimp only at e; omega)).trans h.c0, World.cell?_setCell_same' _ _ _ (by rw [h.c1]; rfl), (World.cell?_setCell_other _ _ _ _ (fun q => by have e := congrArg Addr.off q; dsimp only at e; omega)).trans h.c2, by rw [World.frozen?_setCell]; exact h.f0, by rw [World.frozen?_setCell]; exact h.f1, by rw [World.frozen?_setCell]; exact h.f2⟩
theorem fold1_succ {to : List E} {ss : List ByteArray} {k : Nat} (h : k < ss.length) : (ss.take (k + 1)).foldl (diff1 to) [] = diff1 to ((ss.take k).foldl (diff1 to) []) ss[k] := by
 rw [List.take_succ_eq_append_getElem h, List.foldl_append]; rfl
set_option maxHeartbeats 4000000 in
set_option maxRecDepth 100000 in
theorem l3Diff_any (w : World) (a : Option Addr) (g o cap : Nat) (es : List E) (a' : Option Addr) (g' o' cap' : Nat) (fs : List E) (hte : treeE es = true) (htf : treeE fs = true) (hcap : es.length ≤ cap) (ha : 0 < es.length → a = some ⟨g, o, none⟩) (ha' : 0 < fs.length → a' = some ⟨g', o', none⟩) (hE : Ents w g o es) (hF : Ents w g' o' fs) :
  Calls Tryz.prog 38 #[.slice a es.length cap, .slice a' fs.length cap'] w fun r w' => ∃ v, r = .returned v ∧ Mk.LieB w' w.heap.size v (diffM es fs) ∧ Below w.heap.size w w' := by
 have hl := (treeE_tr hte).2; have hl' := (treeE_tr htf).2; have hfacts := turned_facts (es := es) htf; have hte2 : turnedE es fs = turnE es fs := by unfold turnedE; rw [hte, htf]; rfl
 rw [hte2] at hfacts; have hdf : diffM es fs = (turnE es fs).foldl (diff1 fs) [] := rfl; obtain ⟨W0, hW0⟩ : ∃ W0, W0 = w.alloc (.cells #[] 99) := ⟨_, rfl⟩
 have HTu := hidE (fun (W : World) (hW : Below w.heap.size w W) => l2Turned_any W a g o cap es a' g' o' cap' fs (by omega) (by omega) hcap ha ha' (hE.below hW) (hF.below hW)); have HF := hidE (fun (W : World) (hW : Below w.heap.size w W) => hF.below hW); obtain ⟨ss, hss⟩ : ∃ ss, turnE es fs = ss := ⟨_, rfl⟩
 rw [hss] at HTu hfacts hdf; rw [hdf]; obtain ⟨-, hpaths, hlen, -⟩ := hfacts; have hsl : ss.length ≤ 32 := hlen; have HPa := hidE hpaths; clear hE hF hss hte2 hdf hpaths hlen; go_enter Tryz.func38, Tryz.ntmps38
 go_wp2_with fail
 refine (HTu.out _ (by repeat (first | exact Below.refl _ _ | refine Below.alloc ?_ (Nat.le_refl _) _))).mono ?_; rintro e w1 ⟨v1, rfl, ho1, hB1⟩; obtain ⟨av, gs, cs, rfl, has, hst⟩ := StrB.of_row ho1; have hB01 : Below w.heap.size w w1 := ((Below.refl _ w).alloc (Nat.le_refl _) _).trans (hB1.mono (by simp)); have HB1 := hidE hB01; have HS1 := hidE hst; have hL0 : Hid (Mk.LieB w1 w.heap.size (.slice (some ⟨w.heap.size, 0, none⟩) 0 0) []) := ⟨_, 0, 0, 0, rfl, fun h => absurd h (by simp), fun i hi => absurd hi (by simp), Nat.le_refl _, fun h => absurd h (by simp)⟩
 clear hB1 ho1 hst HTu hB01 hW0; go_wp2
 go_loopw [5, 7] (fun v iv wl => ∃ k : Nat, k ≤ ss.length ∧ iv = .int .i64 k ∧ Hid (Mk.LieB wl w.heap.size v ((ss.take k).foldl (diff1 fs) [])) ∧ Hid (Below w1.heap.size w1 wl)) (fun _ iv _ => ss.length - (RowKit.intOf iv).toNat)
 case atStart => exact ⟨0, Nat.zero_le _, rfl, hL0, Below.refl _ _⟩
 case round =>
  obtain ⟨k, hk, rfl, HL, HB⟩ := hrel; by_cases hlt : k < ss.length
  ·
   obtain rfl := has (by omega); have HBw := hidE (belowT HB1.out HB.out); have s0 := (HS1.out.below HB.out) k hlt; have hps := HPa.out ss[k] (List.getElem_mem _); have hsz : ss[k].size ≤ 12 := path_sizeD hps; have hfl := diff_len fs (ss.take k) (fun s hs => HPa.out s (List.mem_of_mem_take hs)); rw [List.length_take] at hfl; have HK := hidE (fold1_succ (to := fs) hlt); obtain ⟨pre, hpre⟩ : ∃ pre, (ss.take k).foldl (diff1 fs) [] = pre := ⟨_, rfl⟩
   rw [hpre] at HL HK hfl; clear hpre; have HSs := hidE (fun (W' : World) (h : Below wr.heap.size wr W') => ((HS1.out.below HB.out).below h) k hlt); obtain ⟨s, hs⟩ : ∃ s, ss[k] = s := ⟨_, rfl⟩
   rw [hs] at s0 hps hsz HK HSs; clear hs; obtain ⟨a5, g5, o5, cap5, rfl, ha5, hE5, hcap5, hgb5⟩ := HL.out; have HGe := hidE (l2Get_any wr a' g' o' cap' fs s (by omega) ha' (HF.out _ HBw.out)); have hbr := HBw.out.size; have HPu := hidE (fun (W' : World) (h : Below wr.heap.size wr W') (d : Int) (x : ByteArray) => Mk.l3Put_any W' a5 g5 o5 cap5 pre s d x (by omega) hcap5 ha5 (hE5.below h)); have HUs := hidE (fun (W' : World) (v : Value) (e : Mk.E) (hb : w.heap.size ≤ W'.heap.size) (hL : Mk.LieB W' w.heap.size v (Mk.putE pre e)) => l3UpsG_any (s.size + 1) W' w.heap.size v (Mk.putE pre e) s (Nat.lt_succ_self _) hps (by omega) (by have := Mk.put_len pre e; omega) hb hL); have HL5 : Hid (Mk.LieB wr w.heap.size (.slice a5 pre.length cap5) pre) := ⟨a5, g5, o5, cap5, rfl, ha5, hE5, hcap5, hgb5⟩
   clear hE5 ha5 hgb5 HL; cases hlk : lookE fs s with
   | some f =>
    have hkp : kept fs s = true := by unfold kept; rw [hlk]; rfl
    have hdm : dm fs s = ⟨s, if f.d = true then 2 else 1, f.x⟩ := by unfold dm; rw [hlk]
    rw [get_yes hps hlk] at HGe; obtain ⟨fp, fd, fx⟩ := f; have HK2 : Hid ((ss.take (k + 1)).foldl (diff1 fs) [] = upsM (s.size + 1) (Mk.putE pre ⟨s, if fd = true then 2 else 1, fx⟩) s) := by show _ = _; rw [HK.out]; unfold diff1; rw [if_pos hkp, hdm]
    clear HK hkp hdm hlk; go_wp2_with (first | (go_at_call 50; refine HGe.out.mono ?_; rintro e w2 ⟨rfl, hB2⟩; have s2 := HSs.out _ (belowA hB2 (.cells #[.string fp, .bool fd, .string fx] 43)); have s3 := HSs.out _ (belowA (belowA hB2 (.cells #[.string fp, .bool fd, .string fx] 43)) (.cells #[.string s, .int .i64 3, .string ⟨#[]⟩] 99))) | fail)
    go_region
    have hB4 : Below wr.heap.size wr ((w2.alloc (.cells #[.string fp, .bool fd, .string fx] 43)).alloc (.cells #[.string s, .int .i64 1, .string fx] 99)).drew := (belowA (belowA hB2 _) _).drew; have BM0 := Mk.Box3.new (w2.alloc (.cells #[.string fp, .bool fd, .string fx] 43)) (.string s) (.int .i64 1) (.string fx) 99; rw [World.size_alloc] at BM0; have BM1 : Mk.Box3 ((w2.alloc (.cells #[.string fp, .bool fd, .string fx] 43)).alloc (.cells #[.string s, .int .i64 1, .string fx] 99)).drew (w2.heap.size + 1) (.string s) (.int .i64 1) (.string fx) := ⟨BM0.c0, BM0.c1, BM0.c2, BM0.f0, BM0.f1, BM0.f2⟩
    have e1 : ((w2.alloc (.cells #[.string fp, .bool fd, .string fx] 43)).alloc (.cells #[.string s, .int .i64 1, .string fx] 99)).drew.cell? ⟨w2.heap.size, 1, none⟩ = some (.bool fd) := by simp
    obtain ⟨W4, hW4⟩ : ∃ W4, W4 = ((w2.alloc (.cells #[.string fp, .bool fd, .string fx] 43)).alloc (.cells #[.string s, .int .i64 1, .string fx] 99)).drew := ⟨_, rfl⟩
    rw [← hW4] at hB4 BM1 e1 ⊢; have HBW4 := hidE hB4; clear hW4 BM0 s2 s3 s0 hB4; cases fd with
    | true =>
     rw [if_pos rfl] at HK2; have BM := put1B BM1 (.int .i64 2); have hBs : Below wr.heap.size wr (W4.setCell ⟨w2.heap.size + 1, 1, none⟩ (.int .i64 2)) := HBW4.out.setCell (p := ⟨w2.heap.size + 1, 1, none⟩) (by have := hB2.size; show _ ≤ w2.heap.size + 1; omega) _; obtain ⟨c0, c1, c2, f0, f1, f2⟩ := BM1; go_wp2
     obtain ⟨W5, hW5⟩ : ∃ W5, W5 = W4.setCell ⟨w2.heap.size + 1, 1, none⟩ (.int .i64 2) := ⟨_, rfl⟩
     rw [← hW5] at hBs BM ⊢; have HBW5 := hidE hBs; clear hW5 hBs c0 c1 c2 f0 f1 f2 e1; have AS := hidE (fun (W' : World) (hW : Below W5.heap.size W5 W') => (show W'.cell? ⟨w2.heap.size + 1, 0, none⟩ = some (.string s) ∧ W'.cell? ⟨w2.heap.size + 1, 1, none⟩ = some (.int .i64 2) ∧ W'.cell? ⟨w2.heap.size + 1, 2, none⟩ = some (.string fx) ∧ W'.cell? ⟨gs, k, none⟩ = some (.string s) from ⟨(BM.below hW).c0, (BM.below hW).c1, (BM.below hW).c2, HSs.out _ (belowT HBW5.out hW)⟩))
     go_region_held3 (fun W' => W'.cell? ⟨w2.heap.size + 1, 0, none⟩ = some (.string s) ∧ W'.cell? ⟨w2.heap.size + 1, 1, none⟩ = some (.int .i64 2) ∧ W'.cell? ⟨w2.heap.size + 1, 2, none⟩ = some (.string fx) ∧ W'.cell? ⟨gs, k, none⟩ = some (.string s))
      ((refine AS.out _ ?_; repeat (first | exact Below.refl _ _ | refine belowT ?_ hB7 | refine belowT ?_ hB6 | apply Below.drew)))
      (first
       | (go_at_call 72; refine (HPu.out _ (belowT HBW5.out (by repeat (first | exact Below.refl _ _ | apply Below.drew))) 2 fx).mono ?_; rintro e w6 ⟨v6, rfl, ho6, hB6⟩)
       | (go_at_call 71; refine (HUs.out _ _ ⟨s, 2, fx⟩ (Nat.le_trans hbr (belowT (belowT HBW5.out (by repeat (first | exact Below.refl _ _ | apply Below.drew))) hB6).size) (ho6.lieB.lower (Nat.le_trans hbr (Below.size (belowT HBW5.out (by repeat (first | exact Below.refl _ _ | apply Below.drew))))))).mono ?_; rintro e w7 ⟨v7, rfl, hL7, hB7⟩))
     all_goals
      have hB67 : Below W5.heap.size W5 w7 := by repeat (first | exact Below.refl _ _ | refine belowT ?_ hB7 | refine belowT ?_ hB6 | apply Below.drew)
      go_wp2
      go_roundw
      case rel => exact ⟨k + 1, by omega, by go_num, by rw [HK2.out]; exact hL7, belowT HB.out (belowT HBW5.out hB67)⟩
      case measure => simp [RowKit.intOf]; omega
    | false =>
     rw [if_neg (by decide)] at HK2; have BM := BM1; have HBM := hidE BM1; clear BM1; go_wp2
     have AS := hidE (fun (W' : World) (hW : Below W4.heap.size W4 W') => (show W'.cell? ⟨w2.heap.size + 1, 0, none⟩ = some (.string s) ∧ W'.cell? ⟨w2.heap.size + 1, 1, none⟩ = some (.int .i64 1) ∧ W'.cell? ⟨w2.heap.size + 1, 2, none⟩ = some (.string fx) ∧ W'.cell? ⟨gs, k, none⟩ = some (.string s) from ⟨(BM.below hW).c0, (BM.below hW).c1, (BM.below hW).c2, HSs.out _ (belowT HBW4.out hW)⟩))
     go_region_held3 (fun W' => W'.cell? ⟨w2.heap.size + 1, 0, none⟩ = some (.string s) ∧ W'.cell? ⟨w2.heap.size + 1, 1, none⟩ = some (.int .i64 1) ∧ W'.cell? ⟨w2.heap.size + 1, 2, none⟩ = some (.string fx) ∧ W'.cell? ⟨gs, k, none⟩ = some (.string s))
      ((refine AS.out _ ?_; repeat (first | exact Below.refl _ _ | refine belowT ?_ hB7 | refine belowT ?_ hB6 | apply Below.drew)))
      (first
       | (go_at_call 72; refine (HPu.out _ (belowT HBW4.out (by repeat (first | exact Below.refl _ _ | apply Below.drew))) 1 fx).mono ?_; rintro e w6 ⟨v6, rfl, ho6, hB6⟩)
       | (go_at_call 71; refine (HUs.out _ _ ⟨s, 1, fx⟩ (Nat.le_trans hbr (belowT (belowT HBW4.out (by repeat (first | exact Below.refl _ _ | apply Below.drew))) hB6).size) (ho6.lieB.lower (Nat.le_trans hbr (Below.size (belowT HBW4.out (by repeat (first | exact Below.refl _ _ | apply Below.drew))))))).mono ?_; rintro e w7 ⟨v7, rfl, hL7, hB7⟩))
     all_goals
      have hB67 : Below W4.heap.size W4 w7 := by repeat (first | exact Below.refl _ _ | refine belowT ?_ hB7 | refine belowT ?_ hB6 | apply Below.drew)
      go_wp2
      go_roundw
      case rel => exact ⟨k + 1, by omega, by go_num, by rw [HK2.out]; exact hL7, belowT HB.out (belowT HBW4.out hB67)⟩
      case measure => simp [RowKit.intOf]; omega
   | none =>
    have hdir : kept fs s = dirE fs (upS s) := by unfold kept; rw [hlk]; rfl
    have hdm : dm fs s = ⟨s, 3, ⟨#[]⟩⟩ := by unfold dm; rw [hlk]
    rw [get_no hps hlk] at HGe; obtain ⟨ne, hne⟩ : ∃ ne, noneE = ne := ⟨_, rfl⟩
    rw [hne] at HGe; obtain ⟨np, nd, nx⟩ := ne; have HDr := hidE (fun (W' : World) (h : Below wr.heap.size wr W') => l2Dir_any W' a' g' o' cap' fs (upS s) (by omega) ha' (HF.out _ (belowT HBw.out h))); have HUp := hidE (fun (W' : World) => sPathUp_any s (by omega) W'); clear hne hlk; have fine : Hid (∀ W', Below wr.heap.size wr W' → W'.cell? ⟨gs, k, none⟩ = some (.string s)) := fun W' h => HSs.out W' h; cases hdr : dirE fs (upS s) with
    | true =>
     rw [hdr] at hdir HDr; have HK2 : Hid ((ss.take (k + 1)).foldl (diff1 fs) [] = upsM (s.size + 1) (Mk.putE pre ⟨s, 3, ⟨#[]⟩⟩) s) := by show _ = _; rw [HK.out]; unfold diff1; rw [if_pos hdir, hdm]
     clear HK hdir hdm hdr
     go_wp2_with (first
      | (go_at_call 50; refine HGe.out.mono ?_; rintro e w2 ⟨rfl, hB2⟩; have s2 := HSs.out _ (belowA hB2 (.cells #[.string np, .bool nd, .string nx] 43)); have s3 := HSs.out _ (belowA (belowA hB2 (.cells #[.string np, .bool nd, .string nx] 43)) (.cells #[.string s, .int .i64 3, .string ⟨#[]⟩] 99)))
      | (go_at_call 70; refine (HUp.out _).mono ?_; rintro e w3 ⟨rfl, hB3⟩)
      | (go_at_call 69; refine (HDr.out _ (belowT (belowA (belowA hB2 _) _) hB3)).mono ?_; rintro e w8 ⟨rfl, hw8⟩; rw [hw8]; clear hw8)
      | fail)
     have BM0 := Mk.Box3.new (w2.alloc (.cells #[.string np, .bool nd, .string nx] 43)) (.string s) (.int .i64 3) (.string ⟨#[]⟩) 99; rw [World.size_alloc] at BM0; have BM := BM0.below hB3; have HBw3 := hidE (belowT (belowA (belowA hB2 _) _) hB3); clear BM0 s2 s3 s0; have AS := hidE (fun (W' : World) (hW : Below w3.heap.size w3 W') => (show W'.cell? ⟨w2.heap.size + 1, 0, none⟩ = some (.string s) ∧ W'.cell? ⟨w2.heap.size + 1, 1, none⟩ = some (.int .i64 3) ∧ W'.cell? ⟨w2.heap.size + 1, 2, none⟩ = some (.string ⟨#[]⟩) ∧ W'.cell? ⟨gs, k, none⟩ = some (.string s) from ⟨(BM.below hW).c0, (BM.below hW).c1, (BM.below hW).c2, HSs.out _ (belowT HBw3.out hW)⟩))
     go_region_held3 (fun W' => W'.cell? ⟨w2.heap.size + 1, 0, none⟩ = some (.string s) ∧ W'.cell? ⟨w2.heap.size + 1, 1, none⟩ = some (.int .i64 3) ∧ W'.cell? ⟨w2.heap.size + 1, 2, none⟩ = some (.string ⟨#[]⟩) ∧ W'.cell? ⟨gs, k, none⟩ = some (.string s))
      ((refine AS.out _ ?_; repeat (first | exact Below.refl _ _ | refine belowT ?_ hB7 | refine belowT ?_ hB6 | apply Below.drew)))
      (first
       | (go_at_call 72; refine (HPu.out _ (belowT HBw3.out (by repeat (first | exact Below.refl _ _ | apply Below.drew))) 3 ⟨#[]⟩).mono ?_; rintro e w6 ⟨v6, rfl, ho6, hB6⟩)
       | (go_at_call 71; refine (HUs.out _ _ ⟨s, 3, ⟨#[]⟩⟩ (Nat.le_trans hbr (belowT (belowT HBw3.out (by repeat (first | exact Below.refl _ _ | apply Below.drew))) hB6).size) (ho6.lieB.lower (Nat.le_trans hbr (Below.size (belowT HBw3.out (by repeat (first | exact Below.refl _ _ | apply Below.drew))))))).mono ?_; rintro e w7 ⟨v7, rfl, hL7, hB7⟩))
     all_goals
      have hB67 : Below w3.heap.size w3 w7 := by repeat (first | exact Below.refl _ _ | refine belowT ?_ hB7 | refine belowT ?_ hB6 | apply Below.drew)
      go_wp2
      go_roundw
      case rel => exact ⟨k + 1, by omega, by go_num, by rw [HK2.out]; exact hL7, belowT HB.out (belowT HBw3.out hB67)⟩
      case measure => simp [RowKit.intOf]; omega
    | false =>
     rw [hdr] at hdir HDr; have HK2 : Hid ((ss.take (k + 1)).foldl (diff1 fs) [] = pre) := by show _ = _; rw [HK.out]; unfold diff1; rw [if_neg (by rw [hdir]; decide)]
     have HLp := hidE (show Mk.LieB wr w.heap.size (.slice a5 pre.length cap5) pre from HL5.out); clear HK hdir hdm hdr
     go_wp2_with (first
      | (go_at_call 50; refine HGe.out.mono ?_; rintro e w2 ⟨rfl, hB2⟩; have s2 := HSs.out _ (belowA hB2 (.cells #[.string np, .bool nd, .string nx] 43)); have s3 := HSs.out _ (belowA (belowA hB2 (.cells #[.string np, .bool nd, .string nx] 43)) (.cells #[.string s, .int .i64 3, .string ⟨#[]⟩] 99)))
      | (go_at_call 70; refine (HUp.out _).mono ?_; rintro e w3 ⟨rfl, hB3⟩)
      | (go_at_call 69; refine (HDr.out _ (belowT (belowA (belowA hB2 _) _) hB3)).mono ?_; rintro e w8 ⟨rfl, hw8⟩; rw [hw8]; clear hw8)
      | fail)
     have hBf := belowT (belowA (belowA hB2 (.cells #[.string np, .bool nd, .string nx] 43)) (.cells #[.string s, .int .i64 3, .string ⟨#[]⟩] 99)) hB3; go_roundw
     case rel => exact ⟨k + 1, by omega, by go_num, by rw [HK2.out]; exact HLp.out.below hBf, belowT HB.out hBf⟩
     case measure => simp [RowKit.intOf]; omega
  ·
   go_wp2
   go_ret
   rw [List.take_of_length_le (by omega)] at HL; exact ⟨_, rfl, HL.out, belowT HB1.out HB.out⟩
end Go.Proofs.YteppodogghjfhaaGreatDoor.Ly
