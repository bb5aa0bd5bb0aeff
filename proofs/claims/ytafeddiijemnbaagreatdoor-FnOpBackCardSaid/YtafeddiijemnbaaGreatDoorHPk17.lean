import Derived.WalkKit
import Derived.OwnWalk
import Derived.WalkSpells
import Derived.WalkLawsBesides
import Derived.Laws.Pointers
import Derived.Deep.QuietTactic
import Derived.BigQuiet
import Derived.Outline
import Derived.Below
import Derived.Lib.QuietBelow
import Derived.Test.YtafeddiijemnbaaGreatDoorHEntsDef
import Derived.Test.YtafeddiijemnbaaGreatDoorHPk14
import Derived.Test.YtafeddiijemnbaaGreatDoorProg
import Derived.Laws.ResultCell
import Derived.Maps.AppendAt
import Derived.Laws.IdiomStrings
namespace Go.Proofs.YtafeddiijemnbaaGreatDoor
open Go.RowKit Go.Lib Go.Sort
set_option maxHeartbeats 800000 in
set_option maxRecDepth 100000 in
theorem l2Data_any (s : ByteArray) (hs : s.size ≤ 4611686018427387904) (w : World) :
  Calls Tryz.prog 56 #[.string s] w fun e w' => e = .returned (.bool (dataB s)) ∧ w' = w := by
 go_enter Tryz.func56, Tryz.ntmps56
 go_wp2
 go_loop [3] (fun i => ∃ k : Nat, k ≤ s.size ∧ i = .int .i64 k ∧ Hid ((s.data.toList.take k).all dataC = true)) (fun i => s.size - (RowKit.intOf i).toNat)
 case atStart => exact ⟨0, Nat.zero_le _, rfl, rfl⟩
 case round =>
  obtain ⟨k, hk, rfl, HA⟩ := hrel; by_cases hlt : k < s.size
  ·
   have yes : dataC s[k] = true → Hid ((s.data.toList.take (k + 1)).all dataC = true) := fun h => by show _ = _; rw [data_take s k hlt, HA.out, h]; rfl
   have HY := hidE yes; clear yes; by_cases h1 : 97 ≤ s[k].toNat
   ·
    by_cases h2 : s[k].toNat ≤ 122
    ·
     have HT := HY.out (by unfold dataC low; rw [decide_eq_true ⟨h1, h2⟩]; rfl); go_wp2
     go_round
     case rel => exact ⟨k + 1, by omega, by go_num, HT⟩
     case measure => simp [RowKit.intOf]; omega
    ·
     have HN := hidE (data_bad s k hlt (by unfold dataC low; rw [decide_eq_false (by omega), decide_eq_false (by omega)]; rfl)); go_wp2
     go_ret
     exact ⟨ret_bE HN.out, rfl⟩
   ·
    by_cases h2 : 48 ≤ s[k].toNat
    ·
     by_cases h3 : s[k].toNat ≤ 57
     ·
      have HT := HY.out (by unfold dataC; rw [decide_eq_true ⟨h2, h3⟩, Bool.or_true]); go_wp2
      go_round
      case rel => exact ⟨k + 1, by omega, by go_num, HT⟩
      case measure => simp [RowKit.intOf]; omega
     ·
      have HN := hidE (data_bad s k hlt (by unfold dataC low; rw [decide_eq_false (by omega), decide_eq_false (by omega)]; rfl)); go_wp2
      go_ret
      exact ⟨ret_bE HN.out, rfl⟩
    ·
     have HN := hidE (data_bad s k hlt (by unfold dataC low; rw [decide_eq_false (by omega), decide_eq_false (by omega)]; rfl)); go_wp2
     go_ret
     exact ⟨ret_bE HN.out, rfl⟩
  ·
   have HD := hidE (data_all s k (by omega) HA.out); by_cases h6 : s.size ≤ 6
   ·
    go_wp2
    go_ret
    exact ⟨ret_bE (by rw [← HD.out, decide_eq_true h6]; exact decide_eq_true (by omega)), rfl⟩
   ·
    go_wp2
    go_ret
    exact ⟨ret_bE (by rw [← HD.out, decide_eq_false h6]; exact decide_eq_false (by omega)), rfl⟩
theorem sOk_is (s : ByteArray) (b : Bool) (h : pathB s = b) (hm : s.size ≤ 67108864) (w : World) :
  Calls Tryz.prog 55 #[.string s] w fun e w' => e = .returned (.bool b) ∧ Below w.heap.size w w' := by
 rw [← h]; exact sOk_any s hm w
theorem l2Data_is (s : ByteArray) (b : Bool) (h : dataB s = b) (hm : s.size ≤ 67108864) (w : World) :
  Calls Tryz.prog 56 #[.string s] w fun e w' => e = .returned (.bool b) ∧ Below w.heap.size w w' := by
 rw [← h]; exact (l2Data_any s (by omega) w).mono fun e w' ⟨h1, h2⟩ => ⟨h1, by rw [h2]; exact Below.refl _ _⟩
theorem cOk (W0 : World) (s : ByteArray) (b : Bool) (h : pathB s = b) (hm : s.size ≤ 67108864) : ∀ d os, Calls Tryz.prog 55 #[.string s] (grow (redrawn W0 d) os) fun e w'' => e = .returned (.bool b) ∧ ∃ p : Regrown, w'' = grow (redrawn W0 p.d) p.os :=
 fun _ _ => Calls.regrown_of (sOk_is s b h hm _)
theorem cData (W0 : World) (s : ByteArray) (b : Bool) (h : dataB s = b) (hm : s.size ≤ 67108864) : ∀ d os, Calls Tryz.prog 56 #[.string s] (grow (redrawn W0 d) os) fun e w'' => e = .returned (.bool b) ∧ ∃ p : Regrown, w'' = grow (redrawn W0 p.d) p.os :=
 fun _ _ => Calls.regrown_of (l2Data_is s b h hm _)
set_option maxHeartbeats 400000 in
set_option maxRecDepth 100000 in
theorem l2Find_any (w : World) (a : Option Addr) (g o cap : Nat) (es : List E) (s : ByteArray) (hl : es.length ≤ 16777216) (ha : 0 < es.length → a = some ⟨g, o, none⟩) (hE : Ents w g o es) :
  Calls Tryz.prog 66 #[.slice a es.length cap, .string s] w fun e w' => e = .returned (.int .i64 (findE es s)) ∧ w' = w := by
 have HE := hidE hE; clear hE; go_enter Tryz.func66, Tryz.ntmps66
 go_wp2
 go_loop [5] (fun i => ∃ k : Nat, k ≤ es.length ∧ i = .int .i64 k ∧ Hid (findL s (es.drop k) k = findE es s)) (fun i => es.length - (RowKit.intOf i).toNat)
 case atStart => exact ⟨0, Nat.zero_le _, rfl, rfl⟩
 case round =>
  obtain ⟨k, hk, rfl, HF⟩ := hrel; by_cases hlt : k < es.length
  ·
   obtain rfl := ha (by omega); obtain ⟨c0, c1, c2⟩ := HE.out k hlt; have HD := hidE (find_drop s es k hlt); cases hc : (es[k].p.toList == s.toList) with
   | true =>
    rw [hc] at HD; go_wp2
    go_ret
    exact ⟨ret_iE (by rw [← HF.out, HD.out]; rfl), rfl⟩
   | false =>
    rw [hc] at HD; go_wp2
    go_round
    case rel => exact ⟨k + 1, by omega, by go_num, by show _ = _; rw [← HF.out, HD.out]; rfl⟩
    case measure => simp [RowKit.intOf]; omega
  ·
   go_wp2
   go_ret
   exact ⟨ret_iE (by rw [← HF.out, List.drop_of_length_le (by omega)]; rfl), rfl⟩
set_option maxHeartbeats 400000 in
theorem l2Dir_any (w : World) (a : Option Addr) (g o cap : Nat) (es : List E) (s : ByteArray) (hl : es.length ≤ 16777216) (ha : 0 < es.length → a = some ⟨g, o, none⟩) (hE : Ents w g o es) :
  Calls Tryz.prog 57 #[.slice a es.length cap, .string s] w fun e w' => e = .returned (.bool (dirE es s)) ∧ w' = w := by
 have HE := hidE hE; clear hE; cases hr : (s.toList == [47]) with
 | true =>
  go_enter Tryz.func57, Tryz.ntmps57
  go_wp2
  go_ret
  exact ⟨ret_bE (by unfold dirE isRoot; rw [hr]; rfl), rfl⟩
 | false =>
  have HD : Hid (dirE es s = match es[(findE es s).toNat]? with | some e => decide (0 ≤ findE es s) && e.d | none => false) := by
   show _ = _; unfold dirE isRoot; rw [hr]; rfl
  have HF : Hid (∀ W : World, Ents W g o es → Calls Tryz.prog 66 #[.slice a es.length cap, .string s] W _) := fun W hW => l2Find_any W a g o cap es s hl ha hW; rcases findE_is es s with hf | ⟨j, hj, hf, _⟩
  ·
   rw [hf] at HD HF; go_enter Tryz.func57, Tryz.ntmps57
   go_wp2_with (go_at_call 66; refine (HF.out _ HE.out).mono ?_; rintro e w' ⟨rfl, rfl⟩)
   go_ret
   exact ⟨ret_bE (by rw [HD.out]; split <;> rfl), rfl⟩
  ·
   rw [hf] at HD HF; obtain rfl := ha (by omega); obtain ⟨c0, c1, c2⟩ := HE.out j hj; go_enter Tryz.func57, Tryz.ntmps57
   go_wp2_with (go_at_call 66; refine (HF.out _ HE.out).mono ?_; rintro e w' ⟨rfl, rfl⟩)
   go_ret
   exact ⟨ret_bE (by rw [HD.out]; simp [hj]), rfl⟩
theorem cUp (W0 : World) (s : ByteArray) (hm : s.size ≤ 16777216) : ∀ d os, Calls Tryz.prog 58 #[.string s] (grow (redrawn W0 d) os) fun e w'' => e = .returned (.string (upS s)) ∧ ∃ p : Regrown, w'' = grow (redrawn W0 p.d) p.os :=
 fun _ _ => Calls.regrown_of (sPathUp_any s hm _)
theorem cDir (W0 : World) (g o cap k : Nat) (es : List E) (s : ByteArray) (b : Bool) (hk : k ≤ es.length) (hl : es.length ≤ 16777216) (hE : Ents W0 g o es) (h : dirE (es.take k) s = b) : ∀ d os, Calls Tryz.prog 57 #[.slice (some ⟨g, o, none⟩) k cap, .string s] (grow (redrawn W0 d) os) fun e w'' => e = .returned (.bool b) ∧ ∃ p : Regrown, w'' = grow (redrawn W0 p.d) p.os :=
 fun d os => Calls.regrown_of (by
  have e : (es.take k).length = k := by rw [List.length_take]; omega
  have := l2Dir_any (grow (redrawn W0 d) os) (some ⟨g, o, none⟩) g o cap (es.take k) s (by omega) (fun _ => rfl) ((hE.below (below_regrown W0 d os)).take k); rw [e, h] at this
  exact this.mono fun _ _ ⟨h1, h2⟩ => ⟨h1, by rw [h2]; exact Below.refl _ _⟩)
set_option maxHeartbeats 8000000 in
set_option maxRecDepth 100000 in
theorem sTreeOk_any (w : World) (a : Option Addr) (g o cap : Nat) (es : List E) (hl : es.length ≤ 16777216) (hcap : es.length ≤ cap) (hz : ∀ e ∈ es, e.p.size ≤ 16777216 ∧ e.x.size ≤ 16777216) (ha : 0 < es.length → a = some ⟨g, o, none⟩) (hE : Ents w g o es) :
  Calls Tryz.prog 27 #[.slice a es.length cap] w fun e w' => e = .returned (.bool (treeE es)) ∧ Below w.heap.size w w' := by
 have HE := hidE hE; have HZ := hidE hz; clear hE hz; by_cases h16 : es.length ≤ 16
 ·
  go_enter Tryz.func27, Tryz.ntmps27
  go_wp2
  go_loopw [3] (fun i wl => ∃ k : Nat, k ≤ es.length ∧ i = .int .i64 k ∧ Hid (Below w.heap.size w wl) ∧ Hid ((List.range k).all (okAt es) = true)) (fun i _ => es.length - (RowKit.intOf i).toNat)
  case atStart => exact ⟨0, Nat.zero_le _, rfl, Below.refl _ _, rfl⟩
  case round =>
   obtain ⟨k, hk, rfl, HB, HA⟩ := hrel; by_cases hlt : k < es.length
   ·
    obtain rfl := ha (by omega); have hB := HB.out; have HEr := hidE (HE.out.below hB); obtain ⟨c0, c1, c2⟩ := HEr.out k hlt; obtain ⟨z0, z1⟩ := HZ.out es[k] (List.getElem_mem _); obtain ⟨p, hp⟩ : ∃ p, es[k].p = p := ⟨_, rfl⟩
    obtain ⟨d, hd⟩ : ∃ d, es[k].d = d := ⟨_, rfl⟩
    obtain ⟨x, hx⟩ : ∃ x, es[k].x = x := ⟨_, rfl⟩
    have HP := hidE hp; have HDd := hidE hd; have HX := hidE hx; rw [hp] at c0 z0; rw [hd] at c1; rw [hx] at c2 z1; clear hp hd hx; obtain ⟨W0, hW0⟩ : ∃ W0, wr.alloc (.cells #[.string p, .bool d, .string x] 53) = W0 := ⟨_, rfl⟩
    have hb0 : Below wr.heap.size wr W0 := by rw [← hW0]; exact (Below.refl _ wr).alloc (Nat.le_refl _) _
    have k0 := cell_regrown (show W0.cell? ⟨wr.heap.size, 0, none⟩ = some (.string p) by rw [← hW0]; simp); have k1 := cell_regrown (show W0.cell? ⟨wr.heap.size, 1, none⟩ = some (.bool d) by rw [← hW0]; simp); have k2 := cell_regrown (show W0.cell? ⟨wr.heap.size, 2, none⟩ = some (.string x) by rw [← hW0]; simp); have HE0 := hidE (HEr.out.below hb0); have HB0 := hidE (hB.trans (hb0.mono hB.size)); have HOK := hidE (okAt_is hlt); rw [HP.out, HDd.out, HX.out] at HOK; clear hb0; cases f1 : pathB p with
    | false =>
     rw [f1] at HOK; have a1 := cOk W0 p false f1 (by omega); go_wp2
     refine wp_region_quiet_below (by kernel_rfl) (by kernel_rfl) ?_
     repeat (go_big_quiet_step (first | exact a1 _ _))
     refine wpQuiet_nil ?_; intro _ hw'; obtain ⟨⟨dq, osq⟩, hw''⟩ := hw'; subst hw''; have HBq := hidE (HB0.out.trans ((below_regrown W0 dq osq).mono HB0.out.size)); clear HB0 HE0 k0 k1 k2 a1; go_wp2
     go_ret
     exact ⟨ret_bE (treeE_no hlt (by rw [HOK.out]; simp)), HBq.out⟩
    | true =>
     rw [f1] at HOK; have a1 := cOk W0 p true f1 (by omega); cases f2 : dataB x with
     | false =>
      rw [f2] at HOK; have a2 := cData W0 x false f2 (by omega); go_wp2
      refine wp_region_quiet_below (by kernel_rfl) (by kernel_rfl) ?_
      repeat (go_big_quiet_step (first | exact a1 _ _ | exact a2 _ _))
      refine wpQuiet_nil ?_; intro _ hw'; obtain ⟨⟨dq, osq⟩, hw''⟩ := hw'; subst hw''; have HBq := hidE (HB0.out.trans ((below_regrown W0 dq osq).mono HB0.out.size)); clear HB0 HE0 k0 k1 k2 a1 a2; go_wp2
      go_ret
      exact ⟨ret_bE (treeE_no hlt (by rw [HOK.out]; simp)), HBq.out⟩
     | true =>
      rw [f2] at HOK; have a2 := cData W0 x true f2 (by omega); have a3 := cUp W0 p (by omega); cases d with
      | true =>
       cases f3 : x.toList.isEmpty with
       | false =>
        rw [f3] at HOK; go_wp2
        refine wp_region_quiet_below (by kernel_rfl) (by kernel_rfl) ?_
        repeat (go_big_quiet_step (first | exact a1 _ _ | exact a2 _ _))
        refine wpQuiet_nil ?_; intro _ hw'; obtain ⟨⟨dq, osq⟩, hw''⟩ := hw'; subst hw''; have HBq := hidE (HB0.out.trans ((below_regrown W0 dq osq).mono HB0.out.size)); clear HB0 HE0 k0 k1 k2 a1 a2; go_wp2
        go_ret
        exact ⟨ret_bE (treeE_no hlt (by rw [HOK.out]; simp)), HBq.out⟩
       | true =>
        rw [f3] at HOK; by_cases hk0 : k = 0
        ·
         subst hk0; simp only [Nat.zero_mul, Nat.add_zero] at c0 c1 c2; cases f5 : dirE (es.take 0) (upS p) with
         | true =>
          rw [f5] at HOK; have a4 := cDir W0 g o cap 0 es (upS p) true (by omega) hl HE0.out f5; go_wp2
          refine wp_region_quiet_below (by kernel_rfl) (by kernel_rfl) ?_
          repeat (go_big_quiet_step (first | exact a1 _ _ | exact a2 _ _ | exact a3 _ _ | exact a4 _ _))
          refine wpQuiet_nil ?_; intro _ hw'; obtain ⟨⟨dq, osq⟩, hw''⟩ := hw'; subst hw''; have HBq := hidE (HB0.out.trans ((below_regrown W0 dq osq).mono HB0.out.size)); clear HB0 HE0 k0 k1 k2 a1 a2 a3 a4; go_wp2
          go_roundw
          case rel => exact ⟨0 + 1, by omega, by go_num, HBq, all_range_succ _ 0 HA.out (by rw [HOK.out]; simp)⟩
          case measure => simp [RowKit.intOf]; omega
         | false =>
          rw [f5] at HOK; have a4 := cDir W0 g o cap 0 es (upS p) false (by omega) hl HE0.out f5; go_wp2
          refine wp_region_quiet_below (by kernel_rfl) (by kernel_rfl) ?_
          repeat (go_big_quiet_step (first | exact a1 _ _ | exact a2 _ _ | exact a3 _ _ | exact a4 _ _))
          refine wpQuiet_nil ?_; intro _ hw'; obtain ⟨⟨dq, osq⟩, hw''⟩ := hw'; subst hw''; have HBq := hidE (HB0.out.trans ((below_regrown W0 dq osq).mono HB0.out.size)); clear HB0 HE0 k0 k1 k2 a1 a2 a3 a4; go_wp2
          go_ret
          exact ⟨ret_bE (treeE_no hlt (by rw [HOK.out]; simp)), HBq.out⟩
        ·
         obtain ⟨m, rfl⟩ : ∃ m, k = m + 1 := ⟨k - 1, by omega⟩
         have hm : m < es.length := by omega
         have hcap' : (m : Int) + 1 ≤ (cap : Int) := by omega
         have kq := cell_regrown (HE0.out m hm).1; rw [show m + 1 - 1 = m from rfl, List.getElem?_eq_getElem hm, Option.map_some, Option.getD_some] at HOK; obtain ⟨q, hq⟩ : ∃ q, es[m].p = q := ⟨_, rfl⟩
         rw [hq] at kq HOK; clear hq; have hpos : decide ((0 : Int) < (m : Int) + 1) = true := decide_eq_true (by omega); cases f4 : Op.bytesLess q.toList p.toList with
         | false =>
          rw [f4] at HOK; go_wp2
          refine wp_region_quiet_below (by kernel_rfl) (by kernel_rfl) ?_
          repeat (go_big_quiet_step (first | exact a1 _ _ | exact a2 _ _))
          refine wpQuiet_nil ?_; intro _ hw'; obtain ⟨⟨dq, osq⟩, hw''⟩ := hw'; subst hw''; have HBq := hidE (HB0.out.trans ((below_regrown W0 dq osq).mono HB0.out.size)); clear HB0 HE0 k0 k1 k2 kq a1 a2; go_wp2
          go_ret
          exact ⟨ret_bE (treeE_no hlt (by rw [HOK.out]; simp)), HBq.out⟩
         | true =>
          rw [f4] at HOK; cases f5 : dirE (es.take (m + 1)) (upS p) with
          | true =>
           rw [f5] at HOK; have a4 := cDir W0 g o cap (m + 1) es (upS p) true (by omega) hl HE0.out f5; go_wp2
           refine wp_region_quiet_below (by kernel_rfl) (by kernel_rfl) ?_
           repeat (go_big_quiet_step (first | exact a1 _ _ | exact a2 _ _ | exact a3 _ _ | exact a4 _ _))
           refine wpQuiet_nil ?_; intro _ hw'; obtain ⟨⟨dq, osq⟩, hw''⟩ := hw'; subst hw''; have HBq := hidE (HB0.out.trans ((below_regrown W0 dq osq).mono HB0.out.size)); clear HB0 HE0 k0 k1 k2 kq a1 a2 a3 a4; go_wp2
           go_roundw
           case rel => exact ⟨m + 1 + 1, by omega, by go_num, HBq, all_range_succ _ (m + 1) HA.out (by rw [HOK.out]; simp)⟩
           case measure => simp [RowKit.intOf]; omega
          | false =>
           rw [f5] at HOK; have a4 := cDir W0 g o cap (m + 1) es (upS p) false (by omega) hl HE0.out f5; go_wp2
           refine wp_region_quiet_below (by kernel_rfl) (by kernel_rfl) ?_
           repeat (go_big_quiet_step (first | exact a1 _ _ | exact a2 _ _ | exact a3 _ _ | exact a4 _ _))
           refine wpQuiet_nil ?_; intro _ hw'; obtain ⟨⟨dq, osq⟩, hw''⟩ := hw'; subst hw''; have HBq := hidE (HB0.out.trans ((below_regrown W0 dq osq).mono HB0.out.size)); clear HB0 HE0 k0 k1 k2 kq a1 a2 a3 a4; go_wp2
           go_ret
           exact ⟨ret_bE (treeE_no hlt (by rw [HOK.out]; simp)), HBq.out⟩
      | false =>
       by_cases hk0 : k = 0
       ·
        subst hk0; simp only [Nat.zero_mul, Nat.add_zero] at c0 c1 c2; cases f5 : dirE (es.take 0) (upS p) with
        | true =>
         rw [f5] at HOK; have a4 := cDir W0 g o cap 0 es (upS p) true (by omega) hl HE0.out f5; go_wp2
         refine wp_region_quiet_below (by kernel_rfl) (by kernel_rfl) ?_
         repeat (go_big_quiet_step (first | exact a1 _ _ | exact a2 _ _ | exact a3 _ _ | exact a4 _ _))
         refine wpQuiet_nil ?_; intro _ hw'; obtain ⟨⟨dq, osq⟩, hw''⟩ := hw'; subst hw''; have HBq := hidE (HB0.out.trans ((below_regrown W0 dq osq).mono HB0.out.size)); clear HB0 HE0 k0 k1 k2 a1 a2 a3 a4; go_wp2
         go_roundw
         case rel => exact ⟨0 + 1, by omega, by go_num, HBq, all_range_succ _ 0 HA.out (by rw [HOK.out]; simp)⟩
         case measure => simp [RowKit.intOf]; omega
        | false =>
         rw [f5] at HOK; have a4 := cDir W0 g o cap 0 es (upS p) false (by omega) hl HE0.out f5; go_wp2
         refine wp_region_quiet_below (by kernel_rfl) (by kernel_rfl) ?_
         repeat (go_big_quiet_step (first | exact a1 _ _ | exact a2 _ _ | exact a3 _ _ | exact a4 _ _))
         refine wpQuiet_nil ?_; intro _ hw'; obtain ⟨⟨dq, osq⟩, hw''⟩ := hw'; subst hw''; have HBq := hidE (HB0.out.trans ((below_regrown W0 dq osq).mono HB0.out.size)); clear HB0 HE0 k0 k1 k2 a1 a2 a3 a4; go_wp2
         go_ret
         exact ⟨ret_bE (treeE_no hlt (by rw [HOK.out]; simp)), HBq.out⟩
       ·
        obtain ⟨m, rfl⟩ : ∃ m, k = m + 1 := ⟨k - 1, by omega⟩
        have hm : m < es.length := by omega
        have hcap' : (m : Int) + 1 ≤ (cap : Int) := by omega
        have kq := cell_regrown (HE0.out m hm).1; rw [show m + 1 - 1 = m from rfl, List.getElem?_eq_getElem hm, Option.map_some, Option.getD_some] at HOK; obtain ⟨q, hq⟩ : ∃ q, es[m].p = q := ⟨_, rfl⟩
        rw [hq] at kq HOK; clear hq; have hpos : decide ((0 : Int) < (m : Int) + 1) = true := decide_eq_true (by omega); cases f4 : Op.bytesLess q.toList p.toList with
        | false =>
         rw [f4] at HOK; go_wp2
         refine wp_region_quiet_below (by kernel_rfl) (by kernel_rfl) ?_
         repeat (go_big_quiet_step (first | exact a1 _ _ | exact a2 _ _))
         refine wpQuiet_nil ?_; intro _ hw'; obtain ⟨⟨dq, osq⟩, hw''⟩ := hw'; subst hw''; have HBq := hidE (HB0.out.trans ((below_regrown W0 dq osq).mono HB0.out.size)); clear HB0 HE0 k0 k1 k2 kq a1 a2; go_wp2
         go_ret
         exact ⟨ret_bE (treeE_no hlt (by rw [HOK.out]; simp)), HBq.out⟩
        | true =>
         rw [f4] at HOK; cases f5 : dirE (es.take (m + 1)) (upS p) with
         | true =>
          rw [f5] at HOK; have a4 := cDir W0 g o cap (m + 1) es (upS p) true (by omega) hl HE0.out f5; go_wp2
          refine wp_region_quiet_below (by kernel_rfl) (by kernel_rfl) ?_
          repeat (go_big_quiet_step (first | exact a1 _ _ | exact a2 _ _ | exact a3 _ _ | exact a4 _ _))
          refine wpQuiet_nil ?_; intro _ hw'; obtain ⟨⟨dq, osq⟩, hw''⟩ := hw'; subst hw''; have HBq := hidE (HB0.out.trans ((below_regrown W0 dq osq).mono HB0.out.size)); clear HB0 HE0 k0 k1 k2 kq a1 a2 a3 a4; go_wp2
          go_roundw
          case rel => exact ⟨m + 1 + 1, by omega, by go_num, HBq, all_range_succ _ (m + 1) HA.out (by rw [HOK.out]; simp)⟩
          case measure => simp [RowKit.intOf]; omega
         | false =>
          rw [f5] at HOK; have a4 := cDir W0 g o cap (m + 1) es (upS p) false (by omega) hl HE0.out f5; go_wp2
          refine wp_region_quiet_below (by kernel_rfl) (by kernel_rfl) ?_
          repeat (go_big_quiet_step (first | exact a1 _ _ | exact a2 _ _ | exact a3 _ _ | exact a4 _ _))
          refine wpQuiet_nil ?_; intro _ hw'; obtain ⟨⟨dq, osq⟩, hw''⟩ := hw'; subst hw''; have HBq := hidE (HB0.out.trans ((below_regrown W0 dq osq).mono HB0.out.size)); clear HB0 HE0 k0 k1 k2 kq a1 a2 a3 a4; go_wp2
          go_ret
          exact ⟨ret_bE (treeE_no hlt (by rw [HOK.out]; simp)), HBq.out⟩
   ·
    have HT : Hid (treeE es = true) := by
     show _ = _
     unfold treeE; rw [decide_eq_true h16, Bool.true_and]; have := HA.out; rw [show k = es.length from by omega] at this; exact this
    go_wp2
    go_ret
    exact ⟨ret_bE HT.out.symm, HB.out⟩
 ·
  go_enter Tryz.func27, Tryz.ntmps27
  go_wp2
  go_ret
  exact ⟨ret_bE (by unfold treeE; rw [decide_eq_false h16]; rfl), Below.refl _ _⟩
set_option maxHeartbeats 400000 in
theorem l2Get_any (w : World) (a : Option Addr) (g o cap : Nat) (es : List E) (s : ByteArray) (hl : es.length ≤ 16777216) (ha : 0 < es.length → a = some ⟨g, o, none⟩) (hE : Ents w g o es) :
  Calls Tryz.prog 31 #[.slice a es.length cap, .string s] w fun r w' => r = .returned (.tuple #[encE (getE es s).1, .bool (getE es s).2]) ∧ Below w.heap.size w w' := by
 have hb : Below w.heap.size w (w.alloc (.cells #[.string ⟨#[]⟩, .bool false, .string ⟨#[]⟩] 53)) := (Below.refl _ w).alloc (Nat.le_refl _) _; have HE := hidE (hE.below hb); have HF := hidE (fun (W : World) (hW : Ents W g o es) => l2Find_any W a g o cap es s hl ha hW); clear hE hb; cases hr : (s.toList == [47]) with
 | true =>
  rw [getE_root hr]; go_enter Tryz.func31, Tryz.ntmps31
  go_wp2
  exact bodyPost_ret (v := .tuple #[encE rootE, .bool true]) (by simp [results, Tryz.results31, go_sem, rootE]) rfl ⟨rfl, (Below.refl _ w).alloc (Nat.le_refl _) _⟩
 | false =>
  rcases findE_is es s with hf | ⟨j, hj, hf, _⟩
  ·
   rw [getE_no hr hf]; rw [hf] at HF; go_enter Tryz.func31, Tryz.ntmps31
   go_wp2_with (go_at_call 66; refine (HF.out _ HE.out).mono ?_; rintro e w' ⟨rfl, rfl⟩)
   exact bodyPost_ret (v := .tuple #[encE noneE, .bool false]) (by simp [results, Tryz.results31, go_sem, noneE]) rfl ⟨rfl, (Below.refl _ w).alloc (Nat.le_refl _) _⟩
  ·
   rw [getE_at hr hj hf]; rw [hf] at HF; obtain rfl := ha (by omega); obtain ⟨c0, c1, c2⟩ := HE.out j hj; go_enter Tryz.func31, Tryz.ntmps31
   go_wp2_with (go_at_call 66; refine (HF.out _ HE.out).mono ?_; rintro e w' ⟨rfl, rfl⟩)
   exact bodyPost_ret (v := .tuple #[encE es[j], .bool true]) (by simp [results, Tryz.results31, go_sem]) rfl ⟨rfl, (Below.refl _ w).alloc (Nat.le_refl _) _⟩
set_option maxHeartbeats 800000 in
set_option maxRecDepth 100000 in
theorem l2Kids_any (w : World) (a : Option Addr) (g o cap : Nat) (es : List E) (s : ByteArray) (hl : es.length ≤ 1048576) (hz : ∀ e ∈ es, e.p.size ≤ 16777216 ∧ e.x.size ≤ 16777216) (ha : 0 < es.length → a = some ⟨g, o, none⟩) (hE : Ents w g o es) :
  Calls Tryz.prog 80 #[.slice a es.length cap, .string s] w fun r w' => ∃ v, r = .returned v ∧ w'.ownsRow w.heap.size 9 1 v (kidsE es s).length ((kidsE es s).map Value.string) ∧ Below w.heap.size w w' := by
 obtain ⟨i0, hi, hz0, hz1, hz2⟩ := info_parts Tryz.infoS; have HE := hidE hE; have HZ := hidE hz; clear hE hz; go_enter Tryz.func80, Tryz.ntmps80
 go_wp2
 go_loopw [5, 6] (fun v iv wl => ∃ k : Nat, k ≤ es.length ∧ iv = .int .i64 k ∧ wl.ownsRow w.heap.size 9 1 v (kidsE (es.take k) s).length ((kidsE (es.take k) s).map Value.string) ∧ Hid (Below w.heap.size w wl)) (fun _ iv _ => es.length - (RowKit.intOf iv).toNat)
 case atStart => exact ⟨0, Nat.zero_le _, rfl, World.ownsRow_made w #[] 0 (Nat.le_refl _) (Nat.zero_le _) rfl, (Below.refl _ w).alloc (Nat.le_refl _) _⟩
 case round =>
  obtain ⟨k, hk, rfl, hown, HB⟩ := hrel; by_cases hlt : k < es.length
  ·
   obtain rfl := ha (by omega); obtain ⟨c0, c1, c2⟩ := (HE.out.below HB.out) k hlt; obtain ⟨z0, z1⟩ := HZ.out es[k] (List.getElem_mem _); have HK := hidE (kids_succ es s k hlt); have hlen := kids_len es s k; obtain ⟨pre, hpre⟩ : ∃ pre, kidsE (es.take k) s = pre := ⟨_, rfl⟩
   rw [hpre] at hown HK hlen; clear hpre; go_wp2_with fail
   refine (sPathUp_any es[k].p z0 _).mono ?_; rintro e w2 ⟨rfl, hB2⟩; have HB2 := hidE (HB.out.trans (hB2.mono HB.out.size))
   have hown2 : w2.ownsRow w.heap.size 9 1 u5 pre.length (pre.map Value.string) := hown.kept (row := none) ⟨hB2.os, hB2.tape, hB2.output, hB2.size, fun b hb _ => hB2.block b hb⟩ (by
    cases hob : u5.ownBlock with
    | none => exact .inl rfl
    | some q => exact .inr (by simp))
   clear hB2 HB hown c0 c1 c2; cases hb : ((upS es[k].p).toList == s.toList) with
   | false =>
    have HK2 : Hid (kidsE (es.take (k + 1)) s = pre) := by
     show _ = _; rw [HK.out, show kidB s es[k] = false from hb]; simp
    clear HK; go_wp2
    go_roundw
    case rel => exact ⟨k + 1, by omega, by go_num, by rw [HK2.out]; exact hown2, HB2⟩
    case measure => simp [RowKit.intOf]; omega
   | true =>
    have HK2 : Hid (kidsE (es.take (k + 1)) s = pre ++ [nmS es[k].p]) := by
     show _ = _; rw [HK.out, show kidB s es[k] = true from hb]; simp
    clear HK; obtain ⟨c0, c1, c2⟩ := (HE.out.below HB2.out) k hlt; go_wp2_with fail
    refine (sPathName_any es[k].p z0 _).mono ?_; rintro e w3 ⟨rfl, hB3⟩; have HB3 := hidE (HB2.out.trans (hB3.mono HB2.out.size))
    have hown3 : w3.ownsRow w.heap.size 9 1 u5 pre.length (pre.map Value.string) := hown2.kept (row := none) ⟨hB3.os, hB3.tape, hB3.output, hB3.size, fun b hb _ => hB3.block b hb⟩ (by
     cases hob : u5.ownBlock with
     | none => exact .inl rfl
     | some q => exact .inr (by simp))
    have hz3 := HB3.out.size; clear hB3 HB2 hown2 c0 c1 c2; obtain ⟨nm, hnm⟩ : ∃ nm, nmS es[k].p = nm := ⟨_, rfl⟩
    rw [hnm] at HK2
    go_wp2_with (first
     | (at_builtin; refine wpList_append_own _ rfl _ _ 82 rfl w.heap.size 9 i0 (.string ByteArray.empty) 1 16 Tryz.underlying82 hi hz0 hz1 hz2 rfl (by decide) _ _ _ rfl (hown3.alloc _) ⟨w3.heap.size, 0, none⟩ 1 1 [.string nm] rfl rfl ?c1 ?c2 ?c3 ?c4 ?c5 ?_)
     | fail)
    case c1 => exact cell_one_new _ _ _
    case c2 => intro u hu; simp at hu; subst hu; rfl
    case c3 => unfold maxLen; omega
    case c4 => omega
    case c5 => simp; omega
    ·
     intro v' w4 hown' hgrow _; have HB4 := hidE ((HB3.out.alloc hz3 _).grown hgrow (by simp; omega) (fun q hq => (hown3.lt q hq).1)); have hown4 : w4.ownsRow w.heap.size 9 1 v' (pre ++ [nm]).length ((pre ++ [nm]).map Value.string) := by simpa using hown'
     clear hown' hgrow hown3 HB3; go_wp2
     go_roundw
     case rel => exact ⟨k + 1, by omega, by go_num, by rw [HK2.out]; exact hown4, HB4⟩
     case measure => simp [RowKit.intOf]; omega
  ·
   go_wp2
   go_ret
   rw [List.take_of_length_le (by omega)] at hown; exact ⟨_, rfl, hown, HB.out⟩
set_option maxHeartbeats 400000 in
theorem l2Up_any (w : World) (a : Option Addr) (g o cap : Nat) (es : List E) (s : ByteArray) (hl : es.length ≤ 16777216) (hs : s.size ≤ 16777216) (ha : 0 < es.length → a = some ⟨g, o, none⟩) (hE : Ents w g o es) :
  Calls Tryz.prog 77 #[.slice a es.length cap, .string s] w fun r w' => r = .returned (.int .i64 (upC es s)) ∧ Below w.heap.size w w' := by
 have HE := hidE hE; have HU : Hid (upC es s = if (getE es (upS s)).2 = false then 2 else if (getE es (upS s)).1.d = false then 3 else 0) := show _ = _ from rfl; clear hE; obtain ⟨⟨p, d, x⟩, b, hg⟩ : ∃ e b, getE es (upS s) = (e, b) := ⟨_, _, rfl⟩
 rw [hg] at HU; go_enter Tryz.func77, Tryz.ntmps77
 go_wp2_with fail
 refine (sPathUp_any s hs _).mono ?_; rintro e w1 ⟨rfl, hB1⟩; have HG := hidE (l2Get_any w1 a g o cap es (upS s) hl ha (HE.out.below hB1)); rw [hg] at HG; go_wp2_with fail
 refine HG.out.mono ?_; rintro e w2 ⟨rfl, hB2⟩; have HB := hidE (hB1.trans (hB2.mono hB1.size)); have hz2 := HB.out.size; clear hB1 hB2 HG; cases b with
 | false =>
  go_wp2
  go_ret
  exact ⟨ret_iE (by rw [HU.out]; rfl), HB.out.alloc hz2 _⟩
 | true =>
  cases d with
  | false =>
   go_wp2
   go_ret
   exact ⟨ret_iE (by rw [HU.out]; rfl), HB.out.alloc hz2 _⟩
  | true =>
   go_wp2
   go_ret
   exact ⟨ret_iE (by rw [HU.out]; rfl), HB.out.alloc hz2 _⟩
set_option maxHeartbeats 400000 in
theorem l2New_any (w : World) (a : Option Addr) (g o cap : Nat) (es : List E) (s : ByteArray) (hl : es.length ≤ 16777216) (hs : s.size ≤ 16777216) (ha : 0 < es.length → a = some ⟨g, o, none⟩) (hE : Ents w g o es) :
  Calls Tryz.prog 59 #[.slice a es.length cap, .string s] w fun r w' => r = .returned (.int .i64 (newC es s)) ∧ Below w.heap.size w w' := by
 have HE := hidE hE; have HU : Hid (newC es s = if upC es s ≠ 0 then upC es s else if (getE es s).2 = true then 4 else if 16 ≤ es.length then 8 else 0) := show _ = _ from rfl; have HS := hidE (fun (W : World) (hW : Ents W g o es) => l2Up_any W a g o cap es s hl hs ha hW); have HG := hidE (fun (W : World) (hW : Ents W g o es) => l2Get_any W a g o cap es s hl ha hW); clear hE; obtain ⟨⟨p, d, x⟩, b, hg⟩ : ∃ e b, getE es s = (e, b) := ⟨_, _, rfl⟩
 obtain ⟨c, hc⟩ : ∃ c, upC es s = c := ⟨_, rfl⟩
 rw [hg, hc] at HU; rw [hg] at HG; rw [hc] at HS; clear hc hg; go_enter Tryz.func59, Tryz.ntmps59
 go_wp2_with fail
 refine (HS.out _ HE.out).mono ?_; rintro e w1 ⟨rfl, hB1⟩; have HB1 := hidE hB1; clear hB1; go_wp2_with fail
 refine (HG.out _ (HE.out.below HB1.out)).mono ?_; rintro e w2 ⟨rfl, hB2⟩; have HB := hidE (HB1.out.trans (hB2.mono HB1.out.size)); have hz2 := HB.out.size; clear HB1 hB2 HG HS; by_cases h0 : c = 0
 ·
  subst h0; cases b with
  | true =>
   go_wp2
   go_ret
   exact ⟨ret_iE (by rw [HU.out]; rfl), by first | exact HB.out | exact HB.out.alloc hz2 _⟩
  | false =>
   by_cases h16 : 16 ≤ es.length
   ·
    go_wp2
    go_ret
    exact ⟨ret_iE (by rw [HU.out]; simp [h16]), by first | exact HB.out | exact HB.out.alloc hz2 _⟩
   ·
    go_wp2
    go_ret
    exact ⟨ret_iE (by rw [HU.out]; simp [h16]), by first | exact HB.out | exact HB.out.alloc hz2 _⟩
 ·
  have n0 : (c == 0) = false := by rw [beq_eq_false_iff_ne]; exact h0
  go_wp2
  go_ret
  exact ⟨ret_iE (by rw [HU.out, if_pos h0]), by first | exact HB.out | exact HB.out.alloc hz2 _⟩
set_option maxHeartbeats 400000 in
theorem l2PutCode_any (w : World) (a : Option Addr) (g o cap : Nat) (es : List E) (s : ByteArray) (hl : es.length ≤ 16777216) (hs : s.size ≤ 16777216) (ha : 0 < es.length → a = some ⟨g, o, none⟩) (hE : Ents w g o es) :
  Calls Tryz.prog 60 #[.slice a es.length cap, .string s] w fun r w' => r = .returned (.int .i64 (putC es s)) ∧ Below w.heap.size w w' := by
 have HE := hidE hE; have HU : Hid (putC es s = if newC es s = 4 then (if (getE es s).1.d = true then 5 else 0) else newC es s) := show _ = _ from rfl; have HS := hidE (fun (W : World) (hW : Ents W g o es) => l2New_any W a g o cap es s hl hs ha hW); have HG := hidE (fun (W : World) (hW : Ents W g o es) => l2Get_any W a g o cap es s hl ha hW); clear hE; obtain ⟨⟨p, d, x⟩, b, hg⟩ : ∃ e b, getE es s = (e, b) := ⟨_, _, rfl⟩
 obtain ⟨c, hc⟩ : ∃ c, newC es s = c := ⟨_, rfl⟩
 rw [hg, hc] at HU; rw [hg] at HG; rw [hc] at HS; clear hc hg; go_enter Tryz.func60, Tryz.ntmps60
 go_wp2_with fail
 refine (HS.out _ HE.out).mono ?_; rintro e w1 ⟨rfl, hB1⟩; have HB1 := hidE hB1; clear hB1; go_wp2_with fail
 refine (HG.out _ (HE.out.below HB1.out)).mono ?_; rintro e w2 ⟨rfl, hB2⟩; have HB := hidE (HB1.out.trans (hB2.mono HB1.out.size)); have hz2 := HB.out.size; clear HB1 hB2 HG HS; by_cases h4 : c = 4
 ·
  subst h4; cases d with
  | true =>
   go_wp2
   go_ret
   exact ⟨ret_iE (by rw [HU.out]; rfl), by first | exact HB.out | exact HB.out.alloc hz2 _⟩
  | false =>
   go_wp2
   go_ret
   exact ⟨ret_iE (by rw [HU.out]; rfl), by first | exact HB.out | exact HB.out.alloc hz2 _⟩
 ·
  have n0 : (c == 4) = false := by rw [beq_eq_false_iff_ne]; exact h4
  go_wp2
  go_ret
  exact ⟨ret_iE (by rw [HU.out, if_neg h4]), by first | exact HB.out | exact HB.out.alloc hz2 _⟩
theorem box4 {w w' : World} {a b c d : Value} {T : TypeId} (h : Below (w.alloc (.cells #[a, b, c, d] T)).heap.size (w.alloc (.cells #[a, b, c, d] T)) w') :
  w'.cell? ⟨w.heap.size, 0, none⟩ = some a ∧ w'.cell? ⟨w.heap.size, 1, none⟩ = some b ∧ w'.cell? ⟨w.heap.size, 2, none⟩ = some c ∧ w'.cell? ⟨w.heap.size, 3, none⟩ = some d := by
 have lt : w.heap.size < (w.alloc (.cells #[a, b, c, d] T)).heap.size := by simp
 exact ⟨(h.cell (p := ⟨w.heap.size, 0, none⟩) lt).trans (by simp), (h.cell (p := ⟨w.heap.size, 1, none⟩) lt).trans (by simp), (h.cell (p := ⟨w.heap.size, 2, none⟩) lt).trans (by simp), (h.cell (p := ⟨w.heap.size, 3, none⟩) lt).trans (by simp)⟩
set_option maxHeartbeats 2000000 in
theorem sOpOk_any (w : World) (k : Int) (p t x : ByteArray) (hp : p.size ≤ 16777216) (ht : t.size ≤ 16777216) (hx : x.size ≤ 16777216) :
  Calls Tryz.prog 28 #[.agg #[.int .i64 k, .string p, .string t, .string x]] w fun r w' => r = .returned (.bool (opB ⟨k, p, t, x⟩)) ∧ Below w.heap.size w w' := by
 have hb : Below w.heap.size w (w.alloc (.cells #[.int .i64 k, .string p, .string t, .string x] 25)) := (Below.refl _ w).alloc (Nat.le_refl _) _; have HB := hidE hb; clear hb; by_cases h1 : 1 ≤ k
 ·
  by_cases h5 : k ≤ 5
  ·
   have hr : (decide (1 ≤ k) && decide (k ≤ 5)) = true := by simp [h1, h5]
   cases fp : pathB p with
   | false =>
    go_enter Tryz.func28, Tryz.ntmps28
    go_wp2_with fail
    refine (sOk_any p (by omega) _).mono ?_; rintro e w1 ⟨rfl, hB1⟩; have hC1 := hB1; obtain ⟨c00, c01, c02, c03⟩ := box4 hC1; have HC1 := hidE hC1; go_wp2
    go_ret
    exact ⟨ret_bE (by unfold opB emptyB; simp [fp]), HB.out.trans (HC1.out.mono (by simp))⟩
   | true =>
    by_cases hk5 : k = 5
    ·
     subst hk5; cases ft : pathB t with
     | false =>
      go_enter Tryz.func28, Tryz.ntmps28
      go_wp2_with fail
      refine (sOk_any p (by omega) _).mono ?_; rintro e w1 ⟨rfl, hB1⟩; have hC1 := hB1; obtain ⟨c00, c01, c02, c03⟩ := box4 hC1; have HC1 := hidE hC1; go_wp2_with fail
      refine (sOk_any t (by omega) _).mono ?_; rintro e w2 ⟨rfl, hB2⟩; have hC2 := hC1.trans (hB2.mono hC1.size); obtain ⟨c10, c11, c12, c13⟩ := box4 hC2; have HC2 := hidE hC2; go_wp2
      go_ret
      exact ⟨ret_bE (by unfold opB emptyB; simp [fp, ft]), HB.out.trans (HC2.out.mono (by simp))⟩
     | true =>
      cases fx : x.toList.isEmpty with
      | false =>
       go_enter Tryz.func28, Tryz.ntmps28
       go_wp2_with fail
       refine (sOk_any p (by omega) _).mono ?_; rintro e w1 ⟨rfl, hB1⟩; have hC1 := hB1; obtain ⟨c00, c01, c02, c03⟩ := box4 hC1; have HC1 := hidE hC1; go_wp2_with fail
       refine (sOk_any t (by omega) _).mono ?_; rintro e w2 ⟨rfl, hB2⟩; have hC2 := hC1.trans (hB2.mono hC1.size); obtain ⟨c10, c11, c12, c13⟩ := box4 hC2; have HC2 := hidE hC2; go_wp2
       go_ret
       exact ⟨ret_bE (by unfold opB emptyB; simp [fp, ft, fx]), HB.out.trans (HC2.out.mono (by simp))⟩
      | true =>
       go_enter Tryz.func28, Tryz.ntmps28
       go_wp2_with fail
       refine (sOk_any p (by omega) _).mono ?_; rintro e w1 ⟨rfl, hB1⟩; have hC1 := hB1; obtain ⟨c00, c01, c02, c03⟩ := box4 hC1; have HC1 := hidE hC1; go_wp2_with fail
       refine (sOk_any t (by omega) _).mono ?_; rintro e w2 ⟨rfl, hB2⟩; have hC2 := hC1.trans (hB2.mono hC1.size); obtain ⟨c10, c11, c12, c13⟩ := box4 hC2; have HC2 := hidE hC2; go_wp2
       go_ret
       exact ⟨ret_bE (by unfold opB emptyB; simp [fp, ft, fx]), HB.out.trans (HC2.out.mono (by simp))⟩
    ·
     have n5 : (k == 5) = false := by rw [beq_eq_false_iff_ne]; exact hk5
     cases ft : t.toList.isEmpty with
     | false =>
      go_enter Tryz.func28, Tryz.ntmps28
      go_wp2_with fail
      refine (sOk_any p (by omega) _).mono ?_; rintro e w1 ⟨rfl, hB1⟩; have hC1 := hB1; obtain ⟨c00, c01, c02, c03⟩ := box4 hC1; have HC1 := hidE hC1; go_wp2
      go_ret
      exact ⟨ret_bE (by unfold opB emptyB; simp [fp, ft, hk5]), HB.out.trans (HC1.out.mono (by simp))⟩
     | true =>
      cases fx : dataB x with
      | false =>
       go_enter Tryz.func28, Tryz.ntmps28
       go_wp2_with fail
       refine (sOk_any p (by omega) _).mono ?_; rintro e w1 ⟨rfl, hB1⟩; have hC1 := hB1; obtain ⟨c00, c01, c02, c03⟩ := box4 hC1; have HC1 := hidE hC1; go_wp2_with fail
       refine (l2Data_any x (by omega) _).mono ?_; rintro e w2 ⟨rfl, rfl⟩; go_wp2
       go_ret
       exact ⟨ret_bE (by unfold opB emptyB; simp [fp, ft, fx, hk5]), HB.out.trans (HC1.out.mono (by simp))⟩
      | true =>
       by_cases hk2 : k = 2
       ·
        subst hk2; go_enter Tryz.func28, Tryz.ntmps28
        go_wp2_with fail
        refine (sOk_any p (by omega) _).mono ?_; rintro e w1 ⟨rfl, hB1⟩; have hC1 := hB1; obtain ⟨c00, c01, c02, c03⟩ := box4 hC1; have HC1 := hidE hC1; go_wp2_with fail
        refine (l2Data_any x (by omega) _).mono ?_; rintro e w2 ⟨rfl, rfl⟩; go_wp2
        go_ret
        exact ⟨ret_bE (by unfold opB emptyB; simp [fp, ft, fx]), HB.out.trans (HC1.out.mono (by simp))⟩
       ·
        have n2 : (k == 2) = false := by rw [beq_eq_false_iff_ne]; exact hk2
        cases fe : x.toList.isEmpty with
        | false =>
         go_enter Tryz.func28, Tryz.ntmps28
         go_wp2_with fail
         refine (sOk_any p (by omega) _).mono ?_; rintro e w1 ⟨rfl, hB1⟩; have hC1 := hB1; obtain ⟨c00, c01, c02, c03⟩ := box4 hC1; have HC1 := hidE hC1; go_wp2_with fail
         refine (l2Data_any x (by omega) _).mono ?_; rintro e w2 ⟨rfl, rfl⟩; go_wp2
         go_ret
         exact ⟨ret_bE (by unfold opB emptyB; simp [fp, ft, fx, fe, hk5, hk2]), HB.out.trans (HC1.out.mono (by simp))⟩
        | true =>
         go_enter Tryz.func28, Tryz.ntmps28
         go_wp2_with fail
         refine (sOk_any p (by omega) _).mono ?_; rintro e w1 ⟨rfl, hB1⟩; have hC1 := hB1; obtain ⟨c00, c01, c02, c03⟩ := box4 hC1; have HC1 := hidE hC1; go_wp2_with fail
         refine (l2Data_any x (by omega) _).mono ?_; rintro e w2 ⟨rfl, rfl⟩; go_wp2
         go_ret
         exact ⟨ret_bE (by unfold opB emptyB; simp [fp, ft, fx, fe, hk5, hk2, h1, h5]), HB.out.trans (HC1.out.mono (by simp))⟩
  ·
   go_enter Tryz.func28, Tryz.ntmps28
   go_wp2
   go_ret
   exact ⟨ret_bE (by unfold opB; rw [decide_eq_false (by show ¬ (1 ≤ k ∧ k ≤ 5); omega)]; rfl), HB.out⟩
 ·
  go_enter Tryz.func28, Tryz.ntmps28
  go_wp2
  go_ret
  exact ⟨ret_bE (by unfold opB; rw [decide_eq_false (by show ¬ (1 ≤ k ∧ k ≤ 5); omega)]; rfl), HB.out⟩
theorem row_slice {w : World} {base : Nat} {e : TypeId} {size : Nat} {v : Value} {n : Nat} {xs : List Value} (h : w.ownsRow base e size v n xs) : ∃ a cap, v = .slice a n cap := by
 obtain ⟨_, ⟨rfl, rfl⟩ | ⟨g, cap, cur, rfl, _⟩⟩ := h
 ·
  exact ⟨_, _, rfl⟩
 ·
  exact ⟨_, _, rfl⟩
set_option maxHeartbeats 2000000 in
theorem l2OffCode_any (w : World) (a : Option Addr) (g o cap : Nat) (es : List E) (k : Int) (p t x : ByteArray) (hl : es.length ≤ 1048576) (hz : ∀ e ∈ es, e.p.size ≤ 16777216 ∧ e.x.size ≤ 16777216) (ha : 0 < es.length → a = some ⟨g, o, none⟩) (hE : Ents w g o es) :
  Calls Tryz.prog 62 #[.slice a es.length cap, .agg #[.int .i64 k, .string p, .string t, .string x]] w fun r w' => r = .returned (.int .i64 (offC es k p)) ∧ Below w.heap.size w w' := by
 have hb : Below w.heap.size w (w.alloc (.cells #[.int .i64 k, .string p, .string t, .string x] 25)) := (Below.refl _ w).alloc (Nat.le_refl _) _; have HE := hidE (hE.below hb); have HB := hidE hb; have HU : Hid (offC es k p = if (getE es p).2 = false then 2 else if k = 3 ∧ (getE es p).1.d = true then 5 else if k = 4 ∧ (getE es p).1.d = false then 3 else if 0 < (kidsE es p).length then 6 else 0) := show _ = _ from rfl; have HG := hidE (fun (W : World) (hW : Ents W g o es) => l2Get_any W a g o cap es p (by omega) ha hW); have HK := hidE (fun (W : World) (hW : Ents W g o es) => l2Kids_any W a g o cap es p hl hz ha hW); clear hE hb hz; obtain ⟨⟨p', d, x'⟩, b, hg⟩ : ∃ e b, getE es p = (e, b) := ⟨_, _, rfl⟩
 obtain ⟨ks, hks⟩ : ∃ ks, kidsE es p = ks := ⟨_, rfl⟩
 have hkl : ks.length ≤ es.length := by
  have := kids_len es p es.length; rw [List.take_of_length_le (Nat.le_refl _), hks] at this; exact this
 rw [hg, hks] at HU; rw [hg] at HG; rw [hks] at HK; clear hg hks; go_enter Tryz.func62, Tryz.ntmps62
 go_wp2_with fail
 refine (HG.out _ HE.out).mono ?_; rintro e w1 ⟨rfl, hB1⟩; obtain ⟨c00, c01, c02, c03⟩ := box4 (hB1.alloc hB1.size (.cells #[.string p', .bool d, .string x'] 53)); have hz1 := hB1.size; simp only [World.size_alloc] at hz1; have HB1 := hidE (HB.out.trans (hB1.mono (by simp))); have HE1 := hidE ((HE.out.below hB1).below ((Below.refl _ w1).alloc (Nat.le_refl _) (.cells #[.string p', .bool d, .string x'] 53))); clear hB1 HB HE HG; have hlt1 : w.heap.size ≤ w1.heap.size := by omega
 have HB2 := hidE (HB1.out.alloc hlt1 (.cells #[.string p', .bool d, .string x'] 53)); clear HB1; cases b with
 | false =>
  go_wp2
  go_ret
  exact ⟨ret_iE (by rw [HU.out]; rfl), HB2.out⟩
 | true =>
  by_cases h3 : k = 3
  ·
   subst h3; cases d with
   | true =>
    go_wp2
    go_ret
    exact ⟨ret_iE (by rw [HU.out]; rfl), HB2.out⟩
   | false =>
    go_wp2_with fail
    refine (HK.out _ HE1.out).mono ?_; rintro e w3 ⟨v, rfl, hown, hB3⟩; obtain ⟨a3, cap3, rfl⟩ := row_slice hown; have HB3 := hidE (HB2.out.trans (hB3.mono (by simp; omega))); clear hB3 hown; cases h0 : decide (0 < ks.length) with
    | true =>
     have h0 := of_decide_eq_true h0; go_wp2
     go_ret
     exact ⟨ret_iE (by rw [HU.out]; simp [*]), HB3.out⟩
    | false =>
     have h0 := of_decide_eq_false h0; have h00 : ks.length = 0 := by omega
     go_wp2
     go_ret
     exact ⟨ret_iE (by rw [HU.out]; simp [*]), HB3.out⟩
  ·
   have n3 : (k == 3) = false := by rw [beq_eq_false_iff_ne]; exact h3
   by_cases h4 : k = 4
   ·
    subst h4; cases d with
    | false =>
     go_wp2
     go_ret
     exact ⟨ret_iE (by rw [HU.out]; rfl), HB2.out⟩
    | true =>
     go_wp2_with fail
     refine (HK.out _ HE1.out).mono ?_; rintro e w3 ⟨v, rfl, hown, hB3⟩; obtain ⟨a3, cap3, rfl⟩ := row_slice hown; have HB3 := hidE (HB2.out.trans (hB3.mono (by simp; omega))); clear hB3 hown; cases h0 : decide (0 < ks.length) with
     | true =>
      have h0 := of_decide_eq_true h0; go_wp2
      go_ret
      exact ⟨ret_iE (by rw [HU.out]; simp [*]), HB3.out⟩
     | false =>
      have h0 := of_decide_eq_false h0; have h00 : ks.length = 0 := by omega
      go_wp2
      go_ret
      exact ⟨ret_iE (by rw [HU.out]; simp [*]), HB3.out⟩
   ·
    have n4 : (k == 4) = false := by rw [beq_eq_false_iff_ne]; exact h4
    go_wp2_with fail
    refine (HK.out _ HE1.out).mono ?_; rintro e w3 ⟨v, rfl, hown, hB3⟩; obtain ⟨a3, cap3, rfl⟩ := row_slice hown; have HB3 := hidE (HB2.out.trans (hB3.mono (by simp; omega))); clear hB3 hown; cases h0 : decide (0 < ks.length) with
    | true =>
     have h0 := of_decide_eq_true h0; go_wp2
     go_ret
     exact ⟨ret_iE (by rw [HU.out]; simp [*]), HB3.out⟩
    | false =>
     have h0 := of_decide_eq_false h0; have h00 : ks.length = 0 := by omega
     go_wp2
     go_ret
     exact ⟨ret_iE (by rw [HU.out]; simp [*]), HB3.out⟩
theorem cMov (W0 : World) (s f t : ByteArray) (hs : s.size ≤ 16777216) (hf : f.size ≤ 16777216) (ht : t.size ≤ 16777216) (b : Bool) (h : movOk s f t = b) : ∀ d os, Calls Tryz.prog 79 #[.string s, .string f, .string t] (grow (redrawn W0 d) os) fun r w'' => r = .returned (.tuple #[.string (movS s f t), .bool b]) ∧ ∃ p : Regrown, w'' = grow (redrawn W0 p.d) p.os :=
 fun _ _ => Calls.regrown_of (by rw [← h]; exact sPathMove_any s f t hs hf ht _)
set_option maxHeartbeats 2000000 in
set_option maxRecDepth 100000 in
theorem l2MoveCode_any (w : World) (a : Option Addr) (g o cap : Nat) (es : List E) (k : Int) (p t x : ByteArray) (hl : es.length ≤ 1048576) (hp : p.size ≤ 16777216) (ht : t.size ≤ 16777216) (hz : ∀ e ∈ es, e.p.size ≤ 16777216 ∧ e.x.size ≤ 16777216) (ha : 0 < es.length → a = some ⟨g, o, none⟩) (hE : Ents w g o es) :
  Calls Tryz.prog 61 #[.slice a es.length cap, .agg #[.int .i64 k, .string p, .string t, .string x]] w fun r w' => r = .returned (.int .i64 (moveC es p t)) ∧ Below w.heap.size w w' := by
 have hb : Below w.heap.size w (w.alloc (.cells #[.int .i64 k, .string p, .string t, .string x] 25)) := (Below.refl _ w).alloc (Nat.le_refl _) _; have HE := hidE (hE.below hb); have HB := hidE hb; have HZ := hidE hz; have HU : Hid (moveC es p t = if (getE es p).2 = false then 2 else if upC es t ≠ 0 then upC es t else if (getE es t).2 = true then 4 else if underL t p = true then 7 else if fitE es p t = true then 0 else 8) := show _ = _ from rfl; have HG := hidE (fun (W : World) (hW : Ents W g o es) => l2Get_any W a g o cap es p (by omega) ha hW); have HT := hidE (fun (W : World) (hW : Ents W g o es) => l2Get_any W a g o cap es t (by omega) ha hW); have HC := hidE (fun (W : World) (hW : Ents W g o es) => l2Up_any W a g o cap es t (by omega) ht ha hW); have HL := hidE (fun (W : World) => l1Under_any t p ht hp W); clear hE hb hz; obtain ⟨⟨p', d, x'⟩, b, hg⟩ : ∃ e b, getE es p = (e, b) := ⟨_, _, rfl⟩
 obtain ⟨⟨p2, d2, x2⟩, b', hg2⟩ : ∃ e b, getE es t = (e, b) := ⟨_, _, rfl⟩
 obtain ⟨c, hc⟩ : ∃ c, upC es t = c := ⟨_, rfl⟩
 rw [hg, hg2, hc] at HU; rw [hg] at HG; rw [hg2] at HT; rw [hc] at HC; clear hg hg2 hc; go_enter Tryz.func61, Tryz.ntmps61
 go_wp2_with fail
 refine (HG.out _ HE.out).mono ?_; rintro e w1 ⟨rfl, hB1⟩; have HH1 := hidE (hB1.alloc hB1.size (.cells #[.string p', .bool d, .string x'] 53)); obtain ⟨c00, c01, c02, c03⟩ := box4 HH1.out; have hz1 := HH1.out.size; clear hB1 HG; go_wp2_with fail
 refine (HC.out _ (HE.out.below HH1.out)).mono ?_; rintro e w2 ⟨rfl, hB2⟩; have HH2 := hidE (HH1.out.trans (hB2.mono HH1.out.size)); clear c00 c01 c02 c03 hB2 HH1 HC hz1; obtain ⟨c00, c01, c02, c03⟩ := box4 HH2.out; have hz2 := HH2.out.size; go_wp2_with fail
 refine (HT.out _ (HE.out.below HH2.out)).mono ?_; rintro e w3 ⟨rfl, hB3⟩; have HH3 := hidE ((HH2.out.trans (hB3.mono HH2.out.size)).alloc (HH2.out.trans (hB3.mono HH2.out.size)).size (.cells #[.string p2, .bool d2, .string x2] 53)); clear c00 c01 c02 c03 hB3 HH2 HT hz2; obtain ⟨c00, c01, c02, c03⟩ := box4 HH3.out; have HF := hidE (HB.out.trans (HH3.out.mono (by simp))); cases b with
 | false =>
  go_wp2
  go_ret
  exact ⟨ret_iE (by rw [HU.out]; rfl), HF.out⟩
 | true =>
  by_cases h0 : c = 0
  ·
   subst h0; cases b' with
   | true =>
    go_wp2
    go_ret
    exact ⟨ret_iE (by rw [HU.out]; rfl), HF.out⟩
   | false =>
    cases hu : underL t p with
    | true =>
     rw [hu] at HL HU; go_wp2_with fail
     refine (HL.out _).mono ?_; rintro e w4 ⟨rfl, rfl⟩; go_wp2
     go_ret
     exact ⟨ret_iE (by rw [HU.out]; rfl), HF.out⟩
    | false =>
     rw [hu] at HL HU; go_wp2_with fail
     refine (HL.out _).mono ?_; rintro e w4 ⟨rfl, rfl⟩; go_wp2
     clear c00 c01 c02 c03 HF; obtain ⟨A3, hA3⟩ : ∃ A3, A3 = w3.alloc (Obj.cells #[Value.string p2, Value.bool d2, Value.string x2] 53) := ⟨_, rfl⟩
     rw [← hA3] at HH3 ⊢; clear hA3
     go_loopw [10] (fun iv wl => ∃ j : Nat, j ≤ es.length ∧ iv = .int .i64 j ∧ Hid (Below (w.alloc (.cells #[.int .i64 k, .string p, .string t, .string x] 25)).heap.size (w.alloc (.cells #[.int .i64 k, .string p, .string t, .string x] 25)) wl) ∧ Hid (fitE (es.take j) p t = true)) (fun iv _ => es.length - (RowKit.intOf iv).toNat)
     case atStart => exact ⟨0, Nat.zero_le _, rfl, HH3, rfl⟩
     case round =>
      clear HH3; obtain ⟨j, hj, rfl, HH, HA⟩ := hrel; by_cases hlt : j < es.length
      ·
       obtain rfl := ha (by omega); obtain ⟨c0, c1, c2⟩ := (HE.out.below HH.out) j hlt; obtain ⟨e0, e1, e2, e3⟩ := box4 HH.out; obtain ⟨z0, _⟩ := HZ.out es[j] (List.getElem_mem _); have k0 := cell_regrown c0; have k1 := cell_regrown c1; have k2 := cell_regrown c2; have q0 := cell_regrown e0; have q1 := cell_regrown e1; have q2 := cell_regrown e2; have q3 := cell_regrown e3; clear c0 c1 c2 e0 e1 e2 e3; cases hm : movOk es[j].p p t with
       | true =>
        have HA2 := hidE (fit_succ es p t j hlt HA.out hm); have a1 := cMov wr es[j].p p t z0 hp ht true hm; go_wp2
        refine wp_region_quiet_below (by kernel_rfl) (by kernel_rfl) ?_
        repeat (go_big_quiet_step (first | exact a1 _ _))
        refine wpQuiet_nil ?_; intro _ hw'; obtain ⟨⟨dq, osq⟩, hw''⟩ := hw'; subst hw''; have HBq := hidE (HH.out.trans ((below_regrown wr dq osq).mono HH.out.size)); clear HH k0 k1 k2 q0 q1 q2 q3 a1; go_wp2
        go_roundw
        case rel => exact ⟨j + 1, by omega, by go_num, HBq, HA2⟩
        case measure => simp [RowKit.intOf]; omega
       | false =>
        have HN := hidE (fit_no es p t j hlt hm); have a1 := cMov wr es[j].p p t z0 hp ht false hm; go_wp2
        refine wp_region_quiet_below (by kernel_rfl) (by kernel_rfl) ?_
        repeat (go_big_quiet_step (first | exact a1 _ _))
        refine wpQuiet_nil ?_; intro _ hw'; obtain ⟨⟨dq, osq⟩, hw''⟩ := hw'; subst hw''; have HBq := hidE (HH.out.trans ((below_regrown wr dq osq).mono HH.out.size)); clear HH k0 k1 k2 q0 q1 q2 q3 a1; go_wp2
        go_ret
        exact ⟨ret_iE (by rw [HU.out, HN.out]; rfl), HB.out.trans (HBq.out.mono (by simp))⟩
      ·
       have HN : Hid (fitE es p t = true) := by
        have := HA.out; rw [List.take_of_length_le (by omega)] at this; exact this
       go_wp2
       go_ret
       exact ⟨ret_iE (by rw [HU.out, HN.out]; rfl), HB.out.trans (HH.out.mono (by simp))⟩
  ·
   have n0 : (c == 0) = false := by rw [beq_eq_false_iff_ne]; exact h0
   go_wp2
   go_ret
   exact ⟨ret_iE (by rw [HU.out]; simp [h0]), HF.out⟩
theorem rowE_append (es fs : List E) : rowE (es ++ fs) = rowE es ++ rowE fs := by unfold rowE; exact List.flatMap_append
theorem rowE_one (e : E) : rowE [e] = cellsE e := by unfold rowE; simp
theorem rowE_at : ∀ (es : List E) (i : Nat) (h : i < es.length), (rowE es)[i * 3]? = some (.string es[i].p) ∧ (rowE es)[i * 3 + 1]? = some (.bool es[i].d) ∧ (rowE es)[i * 3 + 2]? = some (.string es[i].x)
 | e :: r, 0, _ => ⟨rfl, rfl, rfl⟩
 | e :: r, i + 1, h => by
  obtain ⟨q0, q1, q2⟩ := rowE_at r i (by simpa using h)
  have hd : ∀ j, (rowE (e :: r))[3 + j]? = (rowE r)[j]? := fun j => by
   show (cellsE e ++ rowE r)[3 + j]? = _
   rw [List.getElem?_append_right (by show 3 ≤ _; omega)]; show (rowE r)[3 + j - 3]? = _
   rw [Nat.add_sub_cancel_left]
  refine ⟨?_, ?_, ?_⟩
  ·
   rw [show (i + 1) * 3 = 3 + i * 3 from by omega, hd]; exact q0
  ·
   rw [show (i + 1) * 3 + 1 = 3 + (i * 3 + 1) from by omega, hd]; exact q1
  ·
   rw [show (i + 1) * 3 + 2 = 3 + (i * 3 + 2) from by omega, hd]; exact q2
theorem rowE_one' {e : E} : ∀ u ∈ cellsE e, u.oneCell' = true := by
 intro u hu; simp [cellsE] at hu; rcases hu with rfl | rfl | rfl <;> rfl
abbrev OwnE (w : World) (base : Nat) (v : Value) (es : List E) : Prop := w.ownsRow base 53 3 v es.length (rowE es)
theorem add0 (g j : Nat) : (⟨g, 0, none⟩ : Addr).add j = ⟨g, 0 + j, none⟩ := by
 cases j with
 | zero => rfl
 | succ j => simp [Addr.add]
theorem OwnE.ents {w : World} {base : Nat} {v : Value} {es : List E} (h : OwnE w base v es) :
  ∃ a g cap, v = .slice a es.length cap ∧ (0 < es.length → a = some ⟨g, 0, none⟩) ∧ Ents w g 0 es ∧ es.length ≤ cap := by
 have hc := fun (g : Nat) (hg : v.ownBlock = some g) => World.ownsRow.cells h hg; obtain ⟨_, ⟨rfl, e0⟩ | ⟨g, cap, cur, rfl, _, _, hcap, _⟩⟩ := h
 ·
  exact ⟨none, 0, 0, by rw [e0], fun h => by omega, fun i hi => by omega, by omega⟩
 ·
  refine ⟨_, g, cap, rfl, fun _ => rfl, fun i hi => ?_, hcap⟩; obtain ⟨q0, q1, q2⟩ := rowE_at es i hi; refine ⟨?_, ?_, ?_⟩
  ·
   have := hc g rfl _ _ q0; rw [add0] at this; exact this
  ·
   have := hc g rfl _ _ q1; rw [add0, ← Nat.add_assoc] at this; exact this
  ·
   have := hc g rfl _ _ q2; rw [add0, ← Nat.add_assoc] at this; exact this
theorem OwnE.below {w w' : World} {base : Nat} {v : Value} {es : List E} (h : OwnE w base v es) (hb : Below w.heap.size w w') : OwnE w' base v es :=
 World.ownsRow.kept (row := none) h ⟨hb.os, hb.tape, hb.output, hb.size, fun b hb' _ => hb.block b hb'⟩ (by
  cases hob : v.ownBlock with
  | none => exact .inl rfl
  | some q => exact .inr (by simp))
theorem OwnE.lower {w : World} {base base' : Nat} {v : Value} {es : List E} (h : OwnE w base v es) (hb : base' ≤ base) : OwnE w base' v es := by
 obtain ⟨h1, h2 | ⟨g, cap, cur, e1, e2, e3⟩⟩ := h
 ·
  exact ⟨h1, .inl h2⟩
 ·
  exact ⟨h1, .inr ⟨g, cap, cur, e1, Nat.le_trans hb e2, e3⟩⟩
theorem OwnE.made (w : World) {base : Nat} (hb : base ≤ w.heap.size) : OwnE (w.alloc (.cells #[] 53)) base (.slice (some ⟨w.heap.size, 0, none⟩) 0 0) [] := World.ownsRow_made w #[] 0 hb (Nat.zero_le _) rfl
theorem OwnE.push {w : World} {base : Nat} {v : Value} {es : List E} {e : E} (h : w.ownsRow base 53 3 v (es.length + 1) (rowE es ++ cellsE e)) : OwnE w base v (es ++ [e]) := by
 show World.ownsRow w base 53 3 v (es ++ [e]).length (rowE (es ++ [e]))
 rw [rowE_append, rowE_one, List.length_append]; exact h
theorem Tryz.infoE' : (Tryz.prog.info? 53).map (fun i => (i.zero, i.size, i.bytes)) = some (some (.agg #[.string ByteArray.empty, .bool false, .string ByteArray.empty]), 3, 40) := by kernel_rfl
theorem cells_new (w : World) (e : E) : ∀ j u, (cellsE e)[j]? = some u → (w.alloc (.cells #[.string e.p, .bool e.d, .string e.x] 53)).cell? ((⟨w.heap.size, 0, none⟩ : Addr).add j) = some u := by
 intro j u hj
 match j, hj with
 | 0, hj => simp [cellsE] at hj; subst hj; simp [Addr.add]
 | 1, hj => simp [cellsE] at hj; subst hj; simp [Addr.add]
 | 2, hj => simp [cellsE] at hj; subst hj; simp [Addr.add]
 | j + 3, hj => simp [cellsE] at hj
theorem run_append_no (w : World) (i0 : TypeInfo) (hi : Tryz.prog.info? 53 = some i0) (ty : TypeId) (base : Option Addr) (n cap : Nat) (hle : n ≤ cap) (ax : Option Addr) (c : Nat) :
  (Builtin.append_ #[23, 23] ty #[.slice base n cap, .slice ax 0 c]).run Tryz.prog w = .ok (.slice base n cap) w := by
 cases base <;> cases ax <;> simp [Builtin.append_, run_underlying Tryz.underlying23, sizeOf, typeInfo, hi, Builtin.lenOf, hle, Builtin.firstCells, loadCells, loadCellsFrom, storeCells]
theorem rowE_oneCell {es : List E} : ∀ u ∈ rowE es, u.oneCell' = true := by
 intro u hu; unfold rowE at hu; obtain ⟨e, _, h⟩ := List.mem_flatMap.1 hu; exact rowE_one' u h
theorem rowE_cells {w : World} {g o : Nat} {fs : List E} (hF : Ents w g o fs) : ∀ j u, (rowE fs)[j]? = some u → w.cell? ((⟨g, o, none⟩ : Addr).add j) = some u := by
 intro j u hj; have hlt : j < fs.length * 3 := by rw [← rowE_len]; exact (List.getElem?_eq_some_iff.1 hj).1
 have hq : j / 3 < fs.length := by omega
 obtain ⟨q0, q1, q2⟩ := rowE_at fs (j / 3) hq; obtain ⟨c0, c1, c2⟩ := hF (j / 3) hq
 have ad : (⟨g, o, none⟩ : Addr).add j = ⟨g, o + j, none⟩ := by
  cases j with
  | zero => rfl
  | succ j => simp [Addr.add]
 rw [ad]; have h3 : j = j / 3 * 3 ∨ j = j / 3 * 3 + 1 ∨ j = j / 3 * 3 + 2 := by omega
 rcases h3 with h | h | h
 ·
  rw [← h] at q0 c0; rw [q0] at hj; rw [c0, ← hj]
 ·
  rw [← h] at q1; rw [Nat.add_assoc, ← h] at c1; rw [q1] at hj; rw [c1, ← hj]
 ·
  rw [← h] at q2; rw [Nat.add_assoc, ← h] at c2; rw [q2] at hj; rw [c2, ← hj]
theorem wpE_append {w : World} {ops : Array Oper} {rest : List Oper} {o : Oper} {a : Act} {Q : Exit → Act → World → Prop} (hgd : o.guard = none) (s x : Operand)
  (ho : o.op = .call { callee := .builtin .append, args := #[s, x], argTypes := #[23, 23] })
  (base : Nat) (v : Value) (es : List E) (hs : a.eval s = v) (hown : OwnE w base v es)
  (ax : Option Addr) (c g of : Nat) (fs : List E) (m : Nat) (hm : fs.length = m) (hx : a.eval x = .slice ax m c) (hax : 0 < fs.length → ax = some ⟨g, of, none⟩) (hF : Ents w g of fs)
  (hl : es.length + fs.length ≤ 2097152) (hbase : base ≤ w.heap.size)
  (h : ∀ v' w', OwnE w' base v' (es ++ fs) → w.grownBy w' v.ownBlock → wpList Tryz.prog ops Q rest (a.put o.dst v') w') : wpList Tryz.prog ops Q (o :: rest) a w := by
 obtain ⟨i0, hi, hz0, hz1, hz2⟩ := info_parts Tryz.infoE'; subst hm; by_cases hm : 0 < fs.length
 ·
  obtain rfl := hax hm; refine wpList_append_own _ hgd s x 23 ho base 53 i0 _ 3 40 Tryz.underlying23 hi hz0 hz1 hz2 rfl (by decide) v es.length (rowE es) hs hown _ _ _ (rowE fs) hx (rowE_len fs) (rowE_cells hF) rowE_oneCell (by unfold maxLen; omega) (by omega) hbase ?_; intro v' w' ho' hg _; refine h v' w' ?_ hg; show World.ownsRow w' base 53 3 v' (es ++ fs).length (rowE (es ++ fs))
  rw [rowE_append, List.length_append]; exact ho'
 ·
  have h0 : fs = [] := List.length_eq_zero_iff.1 (by omega); subst h0; refine wpList_plain hgd fun K hK => ?_; unfold Oper.wp execOp
  have hv : ∃ b n cap, v = .slice b n cap ∧ n ≤ cap := by
   obtain ⟨_, ⟨rfl, _⟩ | ⟨g, cap, cur, rfl, _, _, hcap, _⟩⟩ := hown
   ·
    exact ⟨_, _, _, rfl, Nat.le_refl _⟩
   ·
    exact ⟨_, _, _, rfl, hcap⟩
  obtain ⟨b, n, cap, rfl, hle⟩ := hv; have hr := run_append_no w i0 hi o.type b n cap hle ax c; have hx' : a.eval x = .slice ax 0 c := hx; simp only [ho, resolve, invoke, builtin, Sem.run_bind, Sem.run_pure, Result.andThen_ok, List.map_toArray, List.map_cons, List.map_nil, hs, hx', hr]; exact hK _ _ (h _ _ (by rw [List.append_nil]; exact hown) ⟨rfl, rfl, rfl, Nat.le_refl _, fun _ _ _ => rfl⟩)
theorem ents_drop {w : World} {g o : Nat} {es : List E} (h : Ents w g o es) (o' j : Nat) (hj : o' = o + j * 3 ∨ es.length ≤ j) : Ents w g o' (es.drop j) := by
 intro i hi; rw [List.length_drop] at hi; rcases hj with rfl | hj
 ·
  rw [List.getElem_drop]; have := h (j + i) (by omega); rw [show o + (j + i) * 3 = o + j * 3 + i * 3 from by omega] at this; exact this
 ·
  omega
theorem ents_new (w : World) (f : E) : Ents (w.alloc (.cells #[.string f.p, .bool f.d, .string f.x] 53)) w.heap.size 0 [f] := by
 intro i hi; have : i = 0 := by simpa using hi
 subst this; exact ⟨by simp, by simp, by simp⟩
theorem below_draws2 {B : Nat} {a w : World} (h : Below B a w) (n : Nat) : Below B a (w.drewN n) := h.trans ⟨rfl, rfl, rfl, Nat.le_refl _, fun _ _ => rfl⟩
theorem OwnE.drew {w : World} {base : Nat} {v : Value} {es : List E} (h : OwnE w base v es) (n : Nat) : OwnE (w.drewN n) base v es := h.below (below_draws2 (Below.refl _ w) n)
theorem box3 {w w' : World} {a b c : Value} {T : TypeId} (h : Below (w.alloc (.cells #[a, b, c] T)).heap.size (w.alloc (.cells #[a, b, c] T)) w') :
  w'.cell? ⟨w.heap.size, 0, none⟩ = some a ∧ w'.cell? ⟨w.heap.size, 1, none⟩ = some b ∧ w'.cell? ⟨w.heap.size, 2, none⟩ = some c := by
 have lt : w.heap.size < (w.alloc (.cells #[a, b, c] T)).heap.size := by simp
 exact ⟨(h.cell (p := ⟨w.heap.size, 0, none⟩) lt).trans (by simp), (h.cell (p := ⟨w.heap.size, 1, none⟩) lt).trans (by simp), (h.cell (p := ⟨w.heap.size, 2, none⟩) lt).trans (by simp)⟩
set_option maxHeartbeats 1600000 in
set_option maxRecDepth 100000 in
theorem l2Put_any (w : World) (a : Option Addr) (g o cap : Nat) (es : List E) (p : ByteArray) (d : Bool) (x : ByteArray) (hl : es.length ≤ 1048576) (hcap : es.length ≤ cap) (ha : 0 < es.length → a = some ⟨g, o, none⟩) (hE : Ents w g o es) :
  Calls Tryz.prog 63 #[.slice a es.length cap, .agg #[.string p, .bool d, .string x]] w fun r w' => ∃ v, r = .returned v ∧ OwnE w' w.heap.size v (putE es ⟨p, d, x⟩) ∧ Below w.heap.size w w' := by
 obtain ⟨W0, hW0⟩ : ∃ W0, W0 = w.alloc (.cells #[.string p, .bool d, .string x] 53) := ⟨_, rfl⟩
 have hs0 : W0.heap.size = w.heap.size + 1 := by rw [hW0]; simp
 have HW := hidE hW0; have HB0 : Hid (Below w.heap.size w W0) := by rw [hW0]; exact (Below.refl _ w).alloc (Nat.le_refl _) _
 have HE := hidE (Ents.below hE HB0.out); clear hE; go_enter Tryz.func63, Tryz.ntmps63
 go_wp2
 rw [← hW0]; rw [← hs0]; have HS0 := hidE hs0; clear hW0 hs0
 go_loopw [5, 6] (fun v iv wl => ∃ k : Nat, k ≤ es.length ∧ iv = .int .i64 k ∧ Hid (OwnE wl W0.heap.size v (es.take k)) ∧ Hid (Below W0.heap.size W0 wl) ∧ Hid ((es.take k).all (ltP ⟨p, d, x⟩) = true)) (fun _ iv _ => es.length - (RowKit.intOf iv).toNat)
 case atStart => exact ⟨0, Nat.zero_le _, rfl, OwnE.made W0 (Nat.le_refl _), (Below.refl _ W0).alloc (Nat.le_refl _) _, rfl⟩
 case round =>
  obtain ⟨k, hk, rfl, HO, HB, HA⟩ := hrel; have hz3 := HB.out.size
  obtain ⟨b0, b1, b2⟩ : wr.cell? ⟨w.heap.size, 0, none⟩ = some (.string p) ∧ wr.cell? ⟨w.heap.size, 1, none⟩ = some (.bool d) ∧ wr.cell? ⟨w.heap.size, 2, none⟩ = some (.string x) := by
   have := HB.out; rw [HW.out] at this; exact box3 this
  by_cases hlt : k < es.length
  ·
   obtain rfl := ha (by omega); obtain ⟨c0, c1, c2⟩ := (HE.out.below HB.out) k hlt; cases hb : Op.bytesLess es[k].p.toList p.toList with
   | true =>
    have HA2 : Hid ((es.take (k + 1)).all (ltP ⟨p, d, x⟩) = true) := by
     show _ = _
     rw [List.take_succ_eq_append_getElem hlt, List.all_append, HA.out]; simp [ltP, hb]
    go_wp2
    go_quiet (fail)
    have HO1 := hidE (HO.out.drew nq); have HB1 := hidE (below_draws2 HB.out nq); clear HO HB
    go_wp2_with (first
     | (at_builtin; refine wpE_append rfl _ _ rfl W0.heap.size _ (es.take k) rfl (World.ownsRow.alloc HO1.out _) _ _ wr.heap.size 0 [es[k]] 1 rfl rfl (fun _ => rfl) (ents_new _ _) ?c1 ?c2 ?_)
     | fail)
    case c1 => rw [List.length_take]; simp; omega
    case c2 => simp; omega
    intro v' w4 hown' hgrow; have HB4 := hidE ((HB1.out.alloc hz3 _).grown hgrow (by simp; omega) (fun q hq => (World.ownsRow.lt HO1.out q hq).1))
    have HO4 : Hid (OwnE w4 W0.heap.size v' (es.take (k + 1))) := by
     show OwnE _ _ _ _
     first | exact hown' | (rw [List.take_succ_eq_append_getElem hlt]; exact hown')
    clear hown' hgrow HO1 HB1; go_wp2
    go_roundw
    case rel => exact ⟨k + 1, by omega, by go_num, HO4, HB4, HA2⟩
    case measure => simp [RowKit.intOf]; omega
   | false =>
    obtain ⟨S1, S2⟩ := span_at (q := ltP ⟨p, d, x⟩) es k hk HA.out (fun _ => hb); have HP : Hid (putE es ⟨p, d, x⟩ = es.take k ++ [⟨p, d, x⟩] ++ restE ⟨p, d, x⟩ (es.drop k)) := by show _ = _; unfold putE; rw [S1, S2]
    clear S1 S2; cases hq : (es[k].p.toList == p.toList) with
    | true =>
     have HP2 : Hid (putE es ⟨p, d, x⟩ = es.take k ++ [⟨p, d, x⟩] ++ es.drop (k + 1)) := by
      show _ = _; rw [HP.out, List.drop_eq_getElem_cons hlt]; exact congrArg _ (if_pos hq)
     have HQ := hidE hq; clear HP hq; go_wp2
     go_quiet (fail)
     have HO1 := hidE (HO.out.drew nq); have HB1 := hidE (below_draws2 HB.out nq); clear HO HB
     go_wp2_with (first
      | (at_builtin; refine wpE_append rfl _ _ rfl W0.heap.size _ (es.take k) rfl (World.ownsRow.alloc HO1.out _) _ _ wr.heap.size 0 [⟨p, d, x⟩] 1 rfl rfl (fun _ => rfl) (ents_new _ ⟨p, d, x⟩) ?c1 ?c2 ?_)
      | fail)
     case c1 => rw [List.length_take]; simp; omega
     case c2 => simp; omega
     intro v' w4 hown' hgrow; have HB4 := hidE ((HB1.out.alloc hz3 _).grown hgrow (by simp; omega) (fun q hq => (World.ownsRow.lt HO1.out q hq).1)); have HO4 : Hid (OwnE w4 W0.heap.size v' (es.take k ++ [⟨p, d, x⟩])) := hown'; have hz4 := HB4.out.size; clear hown' hgrow HO1 HB1 b0 b1 b2 c0 c1 c2
     obtain ⟨b0, b1, b2⟩ : w4.cell? ⟨w.heap.size, 0, none⟩ = some (.string p) ∧ w4.cell? ⟨w.heap.size, 1, none⟩ = some (.bool d) ∧ w4.cell? ⟨w.heap.size, 2, none⟩ = some (.string x) := by
      have := HB4.out; rw [HW.out] at this; exact box3 this
     obtain ⟨c0, c1, c2⟩ := (HE.out.below HB4.out) k hlt; have hq := HQ.out; have hq' : es[k].p.toList = p.toList := by simpa using hq
     by_cases hce : cap ≤ (k + 1)
     ·
      have hce' : cap = (k + 1) := by omega
      have hce2 : cap - (k + 1) = 0 := by omega
      go_wp2
      go_quiet (fail)
      have HO5 := hidE (HO4.out.drew nq); have HB5 := hidE (below_draws2 HB4.out nq); clear HO4 HB4
      go_wp2_with (first
       | (at_builtin; refine wpE_append rfl _ _ rfl W0.heap.size v' (es.take k ++ [⟨p, d, x⟩]) rfl HO5.out _ _ g o (es.drop (k + 1)) (es.length - (k + 1)) (List.length_drop ..) rfl (fun h => absurd h (by rw [List.length_drop]; omega)) ?hF ?c1 ?c2 ?_)
       | fail)
      case hF => exact ents_drop (HE.out.below HB5.out) _ _ (by omega)
      case c1 => rw [List.length_append, List.length_take, List.length_drop]; simp; omega
      case c2 => exact HB5.out.size
      intro v5 w5 ho5 hg5; have HB6 := hidE (HB5.out.grown hg5 HB5.out.size (fun q hq => (World.ownsRow.lt HO5.out q hq).1))
      have HO6 : Hid (OwnE w5 W0.heap.size v5 (es.take k ++ [⟨p, d, x⟩] ++ es.drop (k + 1))) := by
       show OwnE _ _ _ _
       first | exact ho5 | simpa using ho5
      clear ho5 hg5 HO5 HB5; go_wp2
      go_ret
      exact ⟨_, rfl, by rw [HP2.out]; exact HO6.out.lower (by rw [HS0.out]; omega), HB0.out.trans (HB6.out.mono (by rw [HS0.out]; omega))⟩
     ·
      have hce' : (k + 1) < cap := by omega
      have hce2 : ¬ (cap - (k + 1) = 0) := by omega
      go_wp2
      go_quiet (fail)
      have HO5 := hidE (HO4.out.drew nq); have HB5 := hidE (below_draws2 HB4.out nq); clear HO4 HB4
      go_wp2_with (first
       | (at_builtin; refine wpE_append rfl _ _ rfl W0.heap.size v' (es.take k ++ [⟨p, d, x⟩]) rfl HO5.out _ _ g (o + (k + 1) * 3) (es.drop (k + 1)) (es.length - (k + 1)) (List.length_drop ..) rfl (fun _ => rfl) ?hF ?c1 ?c2 ?_)
       | fail)
      case hF => exact ents_drop (HE.out.below HB5.out) _ _ (by omega)
      case c1 => rw [List.length_append, List.length_take, List.length_drop]; simp; omega
      case c2 => exact HB5.out.size
      intro v5 w5 ho5 hg5; have HB6 := hidE (HB5.out.grown hg5 HB5.out.size (fun q hq => (World.ownsRow.lt HO5.out q hq).1))
      have HO6 : Hid (OwnE w5 W0.heap.size v5 (es.take k ++ [⟨p, d, x⟩] ++ es.drop (k + 1))) := by
       show OwnE _ _ _ _
       first | exact ho5 | simpa using ho5
      clear ho5 hg5 HO5 HB5; go_wp2
      go_ret
      exact ⟨_, rfl, by rw [HP2.out]; exact HO6.out.lower (by rw [HS0.out]; omega), HB0.out.trans (HB6.out.mono (by rw [HS0.out]; omega))⟩
    | false =>
     have HP2 : Hid (putE es ⟨p, d, x⟩ = es.take k ++ [⟨p, d, x⟩] ++ es.drop k) := by
      show _ = _; rw [HP.out, List.drop_eq_getElem_cons hlt]; exact congrArg _ (if_neg (by rw [hq]; decide))
     have HQ := hidE hq; clear HP hq; go_wp2
     go_quiet (fail)
     have HO1 := hidE (HO.out.drew nq); have HB1 := hidE (below_draws2 HB.out nq); clear HO HB
     go_wp2_with (first
      | (at_builtin; refine wpE_append rfl _ _ rfl W0.heap.size _ (es.take k) rfl (World.ownsRow.alloc HO1.out _) _ _ wr.heap.size 0 [⟨p, d, x⟩] 1 rfl rfl (fun _ => rfl) (ents_new _ ⟨p, d, x⟩) ?c1 ?c2 ?_)
      | fail)
     case c1 => rw [List.length_take]; simp; omega
     case c2 => simp; omega
     intro v' w4 hown' hgrow; have HB4 := hidE ((HB1.out.alloc hz3 _).grown hgrow (by simp; omega) (fun q hq => (World.ownsRow.lt HO1.out q hq).1)); have HO4 : Hid (OwnE w4 W0.heap.size v' (es.take k ++ [⟨p, d, x⟩])) := hown'; have hz4 := HB4.out.size; clear hown' hgrow HO1 HB1 b0 b1 b2 c0 c1 c2
     obtain ⟨b0, b1, b2⟩ : w4.cell? ⟨w.heap.size, 0, none⟩ = some (.string p) ∧ w4.cell? ⟨w.heap.size, 1, none⟩ = some (.bool d) ∧ w4.cell? ⟨w.heap.size, 2, none⟩ = some (.string x) := by
      have := HB4.out; rw [HW.out] at this; exact box3 this
     obtain ⟨c0, c1, c2⟩ := (HE.out.below HB4.out) k hlt; have hq := HQ.out; have hq' : ¬ (es[k].p.toList = p.toList) := by simpa using hq
     by_cases hce : cap ≤ k
     ·
      exact absurd hlt (by omega)
     ·
      have hce' : k < cap := by omega
      have hce2 : ¬ (cap - k = 0) := by omega
      go_wp2
      go_quiet (fail)
      have HO5 := hidE (HO4.out.drew nq); have HB5 := hidE (below_draws2 HB4.out nq); clear HO4 HB4
      go_wp2_with (first
       | (at_builtin; refine wpE_append rfl _ _ rfl W0.heap.size v' (es.take k ++ [⟨p, d, x⟩]) rfl HO5.out _ _ g (o + k * 3) (es.drop k) (es.length - k) (List.length_drop ..) rfl (fun _ => rfl) ?hF ?c1 ?c2 ?_)
       | fail)
      case hF => exact ents_drop (HE.out.below HB5.out) _ _ (by omega)
      case c1 => rw [List.length_append, List.length_take, List.length_drop]; simp; omega
      case c2 => exact HB5.out.size
      intro v5 w5 ho5 hg5; have HB6 := hidE (HB5.out.grown hg5 HB5.out.size (fun q hq => (World.ownsRow.lt HO5.out q hq).1))
      have HO6 : Hid (OwnE w5 W0.heap.size v5 (es.take k ++ [⟨p, d, x⟩] ++ es.drop k)) := by
       show OwnE _ _ _ _
       first | exact ho5 | simpa using ho5
      clear ho5 hg5 HO5 HB5; go_wp2
      go_ret
      exact ⟨_, rfl, by rw [HP2.out]; exact HO6.out.lower (by rw [HS0.out]; omega), HB0.out.trans (HB6.out.mono (by rw [HS0.out]; omega))⟩
  ·
   obtain ⟨S1, S2⟩ := span_at (q := ltP ⟨p, d, x⟩) es k hk HA.out (fun h => absurd h hlt); have HP2 : Hid (putE es ⟨p, d, x⟩ = es.take k ++ [⟨p, d, x⟩]) := by show _ = _; unfold putE; rw [S1, S2, List.drop_of_length_le (by omega)]; exact List.append_nil _
   clear S1 S2; have hkl : es.length ≤ k := by omega
   go_wp2
   go_quiet (fail)
   have HO1 := hidE (HO.out.drew nq); have HB1 := hidE (below_draws2 HB.out nq); clear HO HB
   go_wp2_with (first
    | (at_builtin; refine wpE_append rfl _ _ rfl W0.heap.size _ (es.take k) rfl (World.ownsRow.alloc HO1.out _) _ _ wr.heap.size 0 [⟨p, d, x⟩] 1 rfl rfl (fun _ => rfl) (ents_new _ ⟨p, d, x⟩) ?c1 ?c2 ?_)
    | fail)
   case c1 => rw [List.length_take]; simp; omega
   case c2 => simp; omega
   intro v' w4 hown' hgrow; have HB4 := hidE ((HB1.out.alloc hz3 _).grown hgrow (by simp; omega) (fun q hq => (World.ownsRow.lt HO1.out q hq).1)); have HO4 : Hid (OwnE w4 W0.heap.size v' (es.take k ++ [⟨p, d, x⟩])) := hown'; have hz4 := HB4.out.size; clear hown' hgrow HO1 HB1 b0 b1 b2; cases a with
   | none =>
    by_cases hce : cap ≤ k
    ·
     have hce' : cap = k := by omega
     have hce2 : cap - k = 0 := by omega
     go_wp2
     go_quiet (fail)
     have HO5 := hidE (HO4.out.drew nq); have HB5 := hidE (below_draws2 HB4.out nq); clear HO4 HB4
     go_wp2_with (first
      | (at_builtin; refine wpE_append rfl _ _ rfl W0.heap.size v' (es.take k ++ [⟨p, d, x⟩]) rfl HO5.out _ _ 0 0 [] (es.length - k) (by show 0 = _; omega) rfl (fun h => absurd h (by decide)) (fun i hi => absurd hi (by simp)) ?c1 ?c2 ?_)
      | (at_builtin; refine wpE_append rfl _ _ rfl W0.heap.size v' (es.take k ++ [⟨p, d, x⟩]) rfl HO5.out _ _ 0 0 [] 0 rfl rfl (fun h => absurd h (by decide)) (fun i hi => absurd hi (by simp)) ?c1 ?c2 ?_)
      | fail)
     case c1 => simp; omega
     case c2 => exact HB5.out.size
     intro v5 w5 ho5 hg5; have HB6 := hidE (HB5.out.grown hg5 HB5.out.size (fun q hq => (World.ownsRow.lt HO5.out q hq).1))
     have HO6 : Hid (OwnE w5 W0.heap.size v5 (es.take k ++ [⟨p, d, x⟩])) := by
      show OwnE _ _ _ _
      first | exact ho5 | simpa using ho5
     clear ho5 hg5 HO5 HB5; go_wp2
     go_ret
     exact ⟨_, rfl, by rw [HP2.out]; exact HO6.out.lower (by rw [HS0.out]; omega), HB0.out.trans (HB6.out.mono (by rw [HS0.out]; omega))⟩
    ·
     have hce' : k < cap := by omega
     have hce2 : ¬ (cap - k = 0) := by omega
     go_wp2
     go_quiet (fail)
     have HO5 := hidE (HO4.out.drew nq); have HB5 := hidE (below_draws2 HB4.out nq); clear HO4 HB4
     go_wp2_with (first
      | (at_builtin; refine wpE_append rfl _ _ rfl W0.heap.size v' (es.take k ++ [⟨p, d, x⟩]) rfl HO5.out _ _ 0 0 [] (es.length - k) (by show 0 = _; omega) rfl (fun h => absurd h (by decide)) (fun i hi => absurd hi (by simp)) ?c1 ?c2 ?_)
      | (at_builtin; refine wpE_append rfl _ _ rfl W0.heap.size v' (es.take k ++ [⟨p, d, x⟩]) rfl HO5.out _ _ 0 0 [] 0 rfl rfl (fun h => absurd h (by decide)) (fun i hi => absurd hi (by simp)) ?c1 ?c2 ?_)
      | fail)
     case c1 => simp; omega
     case c2 => exact HB5.out.size
     intro v5 w5 ho5 hg5; have HB6 := hidE (HB5.out.grown hg5 HB5.out.size (fun q hq => (World.ownsRow.lt HO5.out q hq).1))
     have HO6 : Hid (OwnE w5 W0.heap.size v5 (es.take k ++ [⟨p, d, x⟩])) := by
      show OwnE _ _ _ _
      first | exact ho5 | simpa using ho5
     clear ho5 hg5 HO5 HB5; go_wp2
     go_ret
     exact ⟨_, rfl, by rw [HP2.out]; exact HO6.out.lower (by rw [HS0.out]; omega), HB0.out.trans (HB6.out.mono (by rw [HS0.out]; omega))⟩
   | some ad =>
    by_cases hce : cap ≤ k
    ·
     have hce' : cap = k := by omega
     have hce2 : cap - k = 0 := by omega
     go_wp2
     go_quiet (fail)
     have HO5 := hidE (HO4.out.drew nq); have HB5 := hidE (below_draws2 HB4.out nq); clear HO4 HB4
     go_wp2_with (first
      | (at_builtin; refine wpE_append rfl _ _ rfl W0.heap.size v' (es.take k ++ [⟨p, d, x⟩]) rfl HO5.out _ _ 0 0 [] (es.length - k) (by show 0 = _; omega) rfl (fun h => absurd h (by decide)) (fun i hi => absurd hi (by simp)) ?c1 ?c2 ?_)
      | (at_builtin; refine wpE_append rfl _ _ rfl W0.heap.size v' (es.take k ++ [⟨p, d, x⟩]) rfl HO5.out _ _ 0 0 [] 0 rfl rfl (fun h => absurd h (by decide)) (fun i hi => absurd hi (by simp)) ?c1 ?c2 ?_)
      | fail)
     case c1 => simp; omega
     case c2 => exact HB5.out.size
     intro v5 w5 ho5 hg5; have HB6 := hidE (HB5.out.grown hg5 HB5.out.size (fun q hq => (World.ownsRow.lt HO5.out q hq).1))
     have HO6 : Hid (OwnE w5 W0.heap.size v5 (es.take k ++ [⟨p, d, x⟩])) := by
      show OwnE _ _ _ _
      first | exact ho5 | simpa using ho5
     clear ho5 hg5 HO5 HB5; go_wp2
     go_ret
     exact ⟨_, rfl, by rw [HP2.out]; exact HO6.out.lower (by rw [HS0.out]; omega), HB0.out.trans (HB6.out.mono (by rw [HS0.out]; omega))⟩
    ·
     have hce' : k < cap := by omega
     have hce2 : ¬ (cap - k = 0) := by omega
     go_wp2
     go_quiet (fail)
     have HO5 := hidE (HO4.out.drew nq); have HB5 := hidE (below_draws2 HB4.out nq); clear HO4 HB4
     go_wp2_with (first
      | (at_builtin; refine wpE_append rfl _ _ rfl W0.heap.size v' (es.take k ++ [⟨p, d, x⟩]) rfl HO5.out _ _ 0 0 [] (es.length - k) (by show 0 = _; omega) rfl (fun h => absurd h (by decide)) (fun i hi => absurd hi (by simp)) ?c1 ?c2 ?_)
      | (at_builtin; refine wpE_append rfl _ _ rfl W0.heap.size v' (es.take k ++ [⟨p, d, x⟩]) rfl HO5.out _ _ 0 0 [] 0 rfl rfl (fun h => absurd h (by decide)) (fun i hi => absurd hi (by simp)) ?c1 ?c2 ?_)
      | fail)
     case c1 => simp; omega
     case c2 => exact HB5.out.size
     intro v5 w5 ho5 hg5; have HB6 := hidE (HB5.out.grown hg5 HB5.out.size (fun q hq => (World.ownsRow.lt HO5.out q hq).1))
     have HO6 : Hid (OwnE w5 W0.heap.size v5 (es.take k ++ [⟨p, d, x⟩])) := by
      show OwnE _ _ _ _
      first | exact ho5 | simpa using ho5
     clear ho5 hg5 HO5 HB5; go_wp2
     go_ret
     exact ⟨_, rfl, by rw [HP2.out]; exact HO6.out.lower (by rw [HS0.out]; omega), HB0.out.trans (HB6.out.mono (by rw [HS0.out]; omega))⟩
theorem cell_ne' (w : World) (g i j : Nat) (v : Value) (h : i ≠ j) : (w.setCell ⟨g, i, none⟩ v).cell? ⟨g, j, none⟩ = w.cell? ⟨g, j, none⟩ := World.cell?_setCell_other _ _ _ _ (fun q => by have e := congrArg Addr.off q; dsimp only at e; omega)
theorem cell_eq' {w : World} {g i : Nat} {u : Value} (v : Value) (h : w.cell? ⟨g, i, none⟩ = some u) : (w.setCell ⟨g, i, none⟩ v).cell? ⟨g, i, none⟩ = some v := World.cell?_setCell_same' _ _ _ (by rw [h]; rfl)
set_option maxHeartbeats 1600000 in
set_option maxRecDepth 100000 in
theorem l2Move_any (w : World) (a : Option Addr) (g o cap : Nat) (es : List E) (f t : ByteArray) (hl : es.length ≤ 1048576) (hf : f.size ≤ 16777216) (ht : t.size ≤ 16777216) (hz : ∀ e ∈ es, e.p.size ≤ 16777216 ∧ e.x.size ≤ 16777216) (ha : 0 < es.length → a = some ⟨g, o, none⟩) (hE : Ents w g o es) :
  Calls Tryz.prog 64 #[.slice a es.length cap, .string f, .string t] w fun r w' => ∃ v, r = .returned v ∧ OwnE w' w.heap.size v (movE es f t) ∧ Below w.heap.size w w' := by
 have HE := hidE hE; have HZ := hidE hz; clear hE hz; go_enter Tryz.func64, Tryz.ntmps64
 go_wp2
 go_loopw [7, 8] (fun v iv wl => ∃ k : Nat, k ≤ es.length ∧ iv = .int .i64 k ∧ Hid (OwnE wl w.heap.size v (movE (es.take k) f t)) ∧ Hid (Below w.heap.size w wl)) (fun _ iv _ => es.length - (RowKit.intOf iv).toNat)
 case atStart => exact ⟨0, Nat.zero_le _, rfl, OwnE.made w (Nat.le_refl _), (Below.refl _ w).alloc (Nat.le_refl _) _⟩
 case round =>
  obtain ⟨k, hk, rfl, HO, HB⟩ := hrel; have hz3 := HB.out.size; by_cases hlt : k < es.length
  ·
   obtain rfl := ha (by omega); obtain ⟨c0, c1, c2⟩ := (HE.out.below HB.out) k hlt; obtain ⟨z0, _⟩ := HZ.out es[k] (List.getElem_mem _); have HK := hidE (mov_succ es f t k hlt); have hlen := mov_len es f t k hk; obtain ⟨pre, hpre⟩ : ∃ pre, movE (es.take k) f t = pre := ⟨_, rfl⟩
   rw [hpre] at HO HK hlen; clear hpre; obtain ⟨a', g', cap', rfl, ha', hE', hcap'⟩ := HO.out.ents; have HE' := hidE hE'; have HB1 := hidE ((Below.refl wr.heap.size wr).alloc (Nat.le_refl _) (.cells #[.string es[k].p, .bool es[k].d, .string es[k].x] 53)); clear hE' HO; go_wp2_with fail
   refine (sPathMove_any es[k].p f t z0 hf ht _).mono ?_; rintro e w2 ⟨rfl, hB2⟩; have HB2 := hidE (HB1.out.trans (hB2.mono (by simp))); obtain ⟨b0, b1, b2⟩ := box3 hB2; have f0 : w2.frozen? ⟨wr.heap.size, 0, none⟩ = false := (hB2.frozen (p := ⟨wr.heap.size, 0, none⟩) (by simp)).trans (by simp); have hz2 : wr.heap.size < w2.heap.size := Nat.lt_of_lt_of_le (by simp) hB2.size; have HB3 := hidE (HB2.out.setCell (p := ⟨wr.heap.size, 0, none⟩) (Nat.le_refl _) (.string (movS es[k].p f t))); clear hB2 HB1 c0 c1 c2; have d0 := cell_eq' (.string (movS es[k].p f t)) b0; have d1 := (cell_ne' w2 wr.heap.size 0 1 (.string (movS es[k].p f t)) (by decide)).trans b1; have d2 := (cell_ne' w2 wr.heap.size 0 2 (.string (movS es[k].p f t)) (by decide)).trans b2; go_wp2_with fail
   refine (l2Put_any _ a' g' 0 cap' pre (movS es[k].p f t) es[k].d es[k].x (by omega) hcap' ha' (HE'.out.below HB3.out)).mono ?_; rintro e w4 ⟨v, rfl, ho4, hB4⟩; have HB5 := hidE (HB.out.trans ((HB3.out.trans (hB4.mono HB3.out.size)).mono hz3)); have HO5 := hidE (ho4.lower (base' := w.heap.size) (Nat.le_trans hz3 HB3.out.size)); clear ho4 hB4 HB HB3 b0 b1 b2 d0 d1 d2 f0; go_wp2
   go_roundw
   case rel => exact ⟨k + 1, by omega, by go_num, by rw [HK.out]; exact HO5, HB5⟩
   case measure => simp [RowKit.intOf]; omega
  ·
   go_wp2
   go_ret
   rw [List.take_of_length_le (by omega)] at HO; exact ⟨_, rfl, HO.out, HB.out⟩
theorem off_len (es : List E) (s : ByteArray) (k : Nat) : (offE (es.take k) s).length ≤ k := by
 unfold offE; have := List.length_filter_le (fun e : E => !(e.p.toList == s.toList)) (es.take k); rw [List.length_take] at this; omega
set_option maxHeartbeats 800000 in
set_option maxRecDepth 100000 in
theorem l2Off_any (w : World) (a : Option Addr) (g o cap : Nat) (es : List E) (s : ByteArray) (hl : es.length ≤ 1048576) (ha : 0 < es.length → a = some ⟨g, o, none⟩) (hE : Ents w g o es) :
  Calls Tryz.prog 65 #[.slice a es.length cap, .string s] w fun r w' => ∃ v, r = .returned v ∧ OwnE w' w.heap.size v (offE es s) ∧ Below w.heap.size w w' := by
 obtain ⟨i0, hi, hz0, hz1, hz2⟩ := info_parts Tryz.infoE'; have HE := hidE hE; clear hE; go_enter Tryz.func65, Tryz.ntmps65
 go_wp2
 go_loopw [5, 6] (fun v iv wl => ∃ k : Nat, k ≤ es.length ∧ iv = .int .i64 k ∧ Hid (OwnE wl w.heap.size v (offE (es.take k) s)) ∧ Hid (Below w.heap.size w wl)) (fun _ iv _ => es.length - (RowKit.intOf iv).toNat)
 case atStart => exact ⟨0, Nat.zero_le _, rfl, OwnE.made w (Nat.le_refl _), (Below.refl _ w).alloc (Nat.le_refl _) _⟩
 case round =>
  obtain ⟨k, hk, rfl, HO, HB⟩ := hrel; by_cases hlt : k < es.length
  ·
   obtain rfl := ha (by omega); obtain ⟨c0, c1, c2⟩ := (HE.out.below HB.out) k hlt; have HK := hidE (off_succ es s k hlt); have hlen := off_len es s k; have hz3 := HB.out.size; obtain ⟨pre, hpre⟩ : ∃ pre, offE (es.take k) s = pre := ⟨_, rfl⟩
   rw [hpre] at HO HK hlen; clear hpre; cases hb : (es[k].p.toList == s.toList) with
   | true =>
    have HK2 : Hid (offE (es.take (k + 1)) s = pre) := by
     show _ = _; rw [HK.out, hb]; simp
    clear HK; go_wp2
    go_roundw
    case rel => exact ⟨k + 1, by omega, by go_num, by rw [HK2.out]; exact HO, HB⟩
    case measure => simp [RowKit.intOf]; omega
   | false =>
    have HK2 : Hid (offE (es.take (k + 1)) s = pre ++ [es[k]]) := by
     show _ = _; rw [HK.out, hb]; simp
    clear HK
    go_wp2_with (first
     | (at_builtin; refine wpList_append_own _ rfl _ _ 23 rfl w.heap.size 53 i0 (.agg #[.string ByteArray.empty, .bool false, .string ByteArray.empty]) 3 40 Tryz.underlying23 hi hz0 hz1 hz2 rfl (by decide) _ _ _ rfl (World.ownsRow.alloc HO.out _) ⟨wr.heap.size, 0, none⟩ 1 1 (cellsE es[k]) rfl rfl ?c1 ?c2 ?c3 ?c4 ?c5 ?_)
     | fail)
    case c1 => first | exact cells_new _ _ | exact fun _ _ h => h
    case c2 => exact rowE_one'
    case c3 => unfold maxLen; omega
    case c4 => omega
    case c5 => first | omega | (simp; omega)
    ·
     intro v' w4 hown' hgrow _; have HB4 := hidE ((HB.out.alloc hz3 _).grown hgrow (by simp; omega) (fun q hq => (World.ownsRow.lt HO.out q hq).1)); have HO4 := hidE (OwnE.push hown'); clear hown' hgrow HO HB; go_wp2
     go_roundw
     case rel => exact ⟨k + 1, by omega, by go_num, by rw [HK2.out]; exact HO4, HB4⟩
     case measure => simp [RowKit.intOf]; omega
  ·
   go_wp2
   go_ret
   rw [List.take_of_length_le (by omega)] at HO; exact ⟨_, rfl, HO.out, HB.out⟩
set_option maxHeartbeats 800000 in
theorem l2Code_any (w : World) (a : Option Addr) (g o cap : Nat) (es : List E) (k : Int) (p t x : ByteArray) (hl : es.length ≤ 1048576) (hp : p.size ≤ 16777216) (ht : t.size ≤ 16777216) (hz : ∀ e ∈ es, e.p.size ≤ 16777216 ∧ e.x.size ≤ 16777216) (ha : 0 < es.length → a = some ⟨g, o, none⟩) (hE : Ents w g o es) :
  Calls Tryz.prog 29 #[.slice a es.length cap, .agg #[.int .i64 k, .string p, .string t, .string x]] w fun r w' => r = .returned (.int .i64 (codeC es k p t)) ∧ Below w.heap.size w w' := by
 have hb : Below w.heap.size w (w.alloc (.cells #[.int .i64 k, .string p, .string t, .string x] 25)) := (Below.refl _ w).alloc (Nat.le_refl _) _; have HE := hidE (hE.below hb); have HB := hidE hb; have HZ := hidE hz; clear hE hb hz; by_cases h1 : k = 1
 ·
  subst h1; go_enter Tryz.func29, Tryz.ntmps29
  go_wp2_with fail
  refine (l2New_any _ a g o cap es p (by omega) hp ha HE.out).mono ?_; rintro e w1 ⟨rfl, hB1⟩; have HB1 := hidE (HB.out.trans (hB1.mono (by simp))); clear hB1; go_wp2
  go_ret
  exact ⟨ret_iE rfl, HB1.out⟩
 ·
  have n1 : (k == 1) = false := by rw [beq_eq_false_iff_ne]; exact h1
  by_cases h2 : k = 2
  ·
   subst h2; go_enter Tryz.func29, Tryz.ntmps29
   go_wp2_with fail
   refine (l2PutCode_any _ a g o cap es p (by omega) hp ha HE.out).mono ?_; rintro e w1 ⟨rfl, hB1⟩; have HB1 := hidE (HB.out.trans (hB1.mono (by simp))); clear hB1; go_wp2
   go_ret
   exact ⟨ret_iE rfl, HB1.out⟩
  ·
   have n2 : (k == 2) = false := by rw [beq_eq_false_iff_ne]; exact h2
   by_cases h5 : k = 5
   ·
    subst h5; go_enter Tryz.func29, Tryz.ntmps29
    go_wp2_with fail
    refine (l2MoveCode_any _ a g o cap es 5 p t x hl hp ht HZ.out ha HE.out).mono ?_; rintro e w1 ⟨rfl, hB1⟩; have HB1 := hidE (HB.out.trans (hB1.mono (by simp))); clear hB1; go_wp2
    go_ret
    exact ⟨ret_iE rfl, HB1.out⟩
   ·
    have n5 : (k == 5) = false := by rw [beq_eq_false_iff_ne]; exact h5
    have HC : Hid (offC es k p = codeC es k p t) := by show _ = _; unfold codeC; rw [if_neg h1, if_neg h2, if_neg h5]
    go_enter Tryz.func29, Tryz.ntmps29
    go_wp2_with fail
    refine (l2OffCode_any _ a g o cap es k p t x hl HZ.out ha HE.out).mono ?_; rintro e w1 ⟨rfl, hB1⟩; have HB1 := hidE (HB.out.trans (hB1.mono (by simp))); clear hB1; go_wp2
    go_ret
    exact ⟨ret_iE HC.out, HB1.out⟩
set_option maxHeartbeats 800000 in
theorem l2Do_any (w : World) (a : Option Addr) (g o cap : Nat) (es : List E) (k : Int) (p t x : ByteArray) (hl : es.length ≤ 1048576) (hcap : es.length ≤ cap) (hp : p.size ≤ 16777216) (ht : t.size ≤ 16777216) (hz : ∀ e ∈ es, e.p.size ≤ 16777216 ∧ e.x.size ≤ 16777216) (ha : 0 < es.length → a = some ⟨g, o, none⟩) (hE : Ents w g o es) :
  Calls Tryz.prog 30 #[.slice a es.length cap, .agg #[.int .i64 k, .string p, .string t, .string x]] w fun r w' => ∃ v, r = .returned v ∧ OwnE w' w.heap.size v (madeE es k p t x) ∧ Below w.heap.size w w' := by
 have hb : Below w.heap.size w (w.alloc (.cells #[.int .i64 k, .string p, .string t, .string x] 25)) := (Below.refl _ w).alloc (Nat.le_refl _) _; have HE := hidE (hE.below hb); have HB := hidE hb; have HZ := hidE hz; clear hE hb hz; by_cases h1 : k = 1
 ·
  subst h1; go_enter Tryz.func30, Tryz.ntmps30
  go_wp2_with fail
  refine (l2Put_any _ a g o cap es p true ⟨#[]⟩ hl hcap ha HE.out).mono ?_; rintro e w1 ⟨v, rfl, ho1, hB1⟩; have HB1 := hidE (HB.out.trans (hB1.mono (by simp))); have HO1 := hidE (ho1.lower (base' := w.heap.size) (by simp)); clear hB1 ho1; go_wp2
  go_ret
  exact ⟨_, rfl, HO1.out, HB1.out⟩
 ·
  have n1 : (k == 1) = false := by rw [beq_eq_false_iff_ne]; exact h1
  by_cases h2 : k = 2
  ·
   subst h2; go_enter Tryz.func30, Tryz.ntmps30
   go_wp2_with fail
   refine (l2Put_any _ a g o cap es p false x hl hcap ha HE.out).mono ?_; rintro e w1 ⟨v, rfl, ho1, hB1⟩; have HB1 := hidE (HB.out.trans (hB1.mono (by simp))); have HO1 := hidE (ho1.lower (base' := w.heap.size) (by simp)); clear hB1 ho1; go_wp2
   go_ret
   exact ⟨_, rfl, HO1.out, HB1.out⟩
  ·
   have n2 : (k == 2) = false := by rw [beq_eq_false_iff_ne]; exact h2
   by_cases h5 : k = 5
   ·
    subst h5; go_enter Tryz.func30, Tryz.ntmps30
    go_wp2_with fail
    refine (l2Move_any _ a g o cap es p t hl hp ht HZ.out ha HE.out).mono ?_; rintro e w1 ⟨v, rfl, ho1, hB1⟩; have HB1 := hidE (HB.out.trans (hB1.mono (by simp))); have HO1 := hidE (ho1.lower (base' := w.heap.size) (by simp)); clear hB1 ho1; go_wp2
    go_ret
    exact ⟨_, rfl, HO1.out, HB1.out⟩
   ·
    have n5 : (k == 5) = false := by rw [beq_eq_false_iff_ne]; exact h5
    have HC : Hid (madeE es k p t x = offE es p) := by show _ = _; unfold madeE; rw [if_neg h1, if_neg h2, if_neg h5]
    go_enter Tryz.func30, Tryz.ntmps30
    go_wp2_with fail
    refine (l2Off_any _ a g o cap es p hl ha HE.out).mono ?_; rintro e w1 ⟨v, rfl, ho1, hB1⟩; have HB1 := hidE (HB.out.trans (hB1.mono (by simp))); have HO1 := hidE (ho1.lower (base' := w.heap.size) (by simp)); clear hB1 ho1; go_wp2
    go_ret
    exact ⟨_, rfl, by rw [HC.out]; exact HO1.out, HB1.out⟩
set_option maxHeartbeats 2000000 in
theorem sTreeDo_any (w : World) (a : Option Addr) (g o cap : Nat) (es : List E) (k : Int) (p t x : ByteArray) (hl : es.length ≤ 1048576) (hcap : es.length ≤ cap) (hp : p.size ≤ 16777216) (ht : t.size ≤ 16777216) (hx : x.size ≤ 16777216) (hz : ∀ e ∈ es, e.p.size ≤ 16777216 ∧ e.x.size ≤ 16777216) (ha : 0 < es.length → a = some ⟨g, o, none⟩) (hE : Ents w g o es) :
  Calls Tryz.prog 13 #[.slice a es.length cap, .agg #[.int .i64 k, .string p, .string t, .string x]] w fun r w' => ∃ v, r = .returned (.tuple #[v, .int .i64 (doC es ⟨k, p, t, x⟩)]) ∧ OwnE w' w.heap.size v (doE es ⟨k, p, t, x⟩) ∧ Below w.heap.size w w' := by
 obtain ⟨W0, hW0⟩ : ∃ W0, W0 = w.alloc (.cells #[.int .i64 k, .string p, .string t, .string x] 25) := ⟨_, rfl⟩
 have HW := hidE hW0; have HS0 : Hid (W0.heap.size = w.heap.size + 1) := by show _ = _; rw [hW0]; simp
 have HB0 : Hid (Below w.heap.size w W0) := by rw [hW0]; exact (Below.refl _ w).alloc (Nat.le_refl _) _
 have HE := hidE (Ents.below hE HB0.out); have HZ := hidE hz
 have box : ∀ W : World, Below W0.heap.size W0 W → W.cell? ⟨w.heap.size, 0, none⟩ = some (.int .i64 k) ∧ W.cell? ⟨w.heap.size, 1, none⟩ = some (.string p) ∧ W.cell? ⟨w.heap.size, 2, none⟩ = some (.string t) ∧ W.cell? ⟨w.heap.size, 3, none⟩ = some (.string x) := fun W hW => by
  rw [hW0] at hW; exact box4 hW
 have HX := hidE box; have HO := hidE (sTreeOk_any W0 a g o cap es (by omega) hcap hz ha HE.out); clear hE hz hW0 box; cases hT : treeE es with
 | false =>
  have HC : Hid (doC es ⟨k, p, t, x⟩ = 1) := by show _ = _; unfold doC; rw [hT]; rfl
  have HD : Hid (doE es ⟨k, p, t, x⟩ = []) := by show _ = _; unfold doE; rw [hT]; rfl
  rw [hT] at HO; rw [HC.out, HD.out]; go_enter Tryz.func13, Tryz.ntmps13
  go_wp2_with fail
  rw [← HW.out]; refine HO.out.mono ?_; rintro e w1 ⟨rfl, hB1⟩; have HB1 := hidE (HB0.out.trans (hB1.mono (by rw [HS0.out]; omega))); clear hB1; go_wp2
  exact bodyPost_ret (v := .tuple #[.slice (some ⟨w1.heap.size, 0, none⟩) 0 0, .int .i64 1]) (by simp [results, Tryz.results13, go_sem]) rfl ⟨_, rfl, OwnE.made w1 HB1.out.size, HB1.out.alloc HB1.out.size _⟩
 | true =>
  rw [hT] at HO; have HP := hidE (fun (W : World) => sOpOk_any W k p t x hp ht hx); cases hQ : opB ⟨k, p, t, x⟩ with
  | false =>
   have HC : Hid (doC es ⟨k, p, t, x⟩ = 1) := by show _ = _; unfold doC; rw [hT, hQ]; rfl
   have HD : Hid (doE es ⟨k, p, t, x⟩ = es) := by show _ = _; unfold doE; rw [hT, HC.out]; rfl
   rw [hQ] at HP; rw [HC.out, HD.out]; go_enter Tryz.func13, Tryz.ntmps13
   go_wp2_with fail
   rw [← HW.out]; refine HO.out.mono ?_; rintro e w1 ⟨rfl, hB1⟩; obtain ⟨c0, c1, c2, c3⟩ := HX.out w1 hB1; have HB1 := hidE hB1; clear hB1; go_wp2_with fail
   refine (HP.out _).mono ?_; rintro e w2 ⟨rfl, hB2⟩; have HB2 := hidE (HB1.out.trans (hB2.mono HB1.out.size)); have HB3 := hidE (HB2.out.alloc HB2.out.size (.cells #[] 53)); have hz2 := HB2.out.size; clear hB2 HB1 c0 c1 c2 c3
   go_wp2_with (first
    | (at_builtin; refine wpE_append rfl _ _ rfl W0.heap.size (.slice (some ⟨w2.heap.size, 0, none⟩) 0 0) [] rfl (OwnE.made w2 hz2) _ _ g o es es.length rfl rfl ha (HE.out.below HB3.out) ?c1 ?c2 ?_)
    | fail)
   case c1 => show 0 + _ ≤ _; omega
   case c2 => exact HB3.out.size
   intro v5 w5 ho5 hg5; have HB6 := hidE (HB3.out.grown hg5 HB3.out.size (fun q hq => (World.ownsRow.lt (OwnE.made w2 (base := W0.heap.size) hz2) q hq).1)); have HO6 : Hid (OwnE w5 W0.heap.size v5 es) := ho5; clear ho5 hg5 HB3; go_wp2
   exact bodyPost_ret (v := .tuple #[v5, .int .i64 1]) (by simp [results, Tryz.results13, go_sem]) rfl ⟨_, rfl, HO6.out.lower (by rw [HS0.out]; omega), HB0.out.trans (HB6.out.mono (by rw [HS0.out]; omega))⟩
  | true =>
   rw [hQ] at HP; have HC : Hid (doC es ⟨k, p, t, x⟩ = codeC es k p t) := by show _ = _; unfold doC; rw [hT, hQ]; rfl
   have HK := hidE (fun (W : World) (hW : Ents W g o es) => l2Code_any W a g o cap es k p t x hl hp ht HZ.out ha hW); by_cases h0 : codeC es k p t = 0
   ·
    have HD : Hid (doE es ⟨k, p, t, x⟩ = madeE es k p t x) := by show _ = _; unfold doE; rw [hT, HC.out, h0]; rfl
    rw [HC.out, HD.out, h0]; rw [h0] at HK; clear h0; go_enter Tryz.func13, Tryz.ntmps13
    go_wp2_with fail
    rw [← HW.out]; refine HO.out.mono ?_; rintro e w1 ⟨rfl, hB1⟩; obtain ⟨c0, c1, c2, c3⟩ := HX.out w1 hB1; have HB1 := hidE hB1; clear hB1; go_wp2_with fail
    refine (HP.out _).mono ?_; rintro e w2 ⟨rfl, hB2⟩; have HB2 := hidE (HB1.out.trans (hB2.mono HB1.out.size)); clear hB2 HB1 c0 c1 c2 c3; obtain ⟨c0, c1, c2, c3⟩ := HX.out w2 HB2.out; have hz2' := HB2.out.size; go_wp2_with fail
    refine (HK.out _ (HE.out.below HB2.out)).mono ?_; rintro e w3 ⟨rfl, hB3⟩; have HB4 := hidE (HB2.out.trans (hB3.mono HB2.out.size)); clear hB3 HB2 c0 c1 c2 c3; obtain ⟨c0, c1, c2, c3⟩ := HX.out w3 HB4.out; go_wp2_with fail
    refine (l2Do_any _ a g o cap es k p t x hl hcap hp ht HZ.out ha (HE.out.below HB4.out)).mono ?_; rintro e w4 ⟨v, rfl, ho5, hB5⟩; have HB6 := hidE (HB4.out.trans (hB5.mono HB4.out.size)); have HO6 := hidE (ho5.lower (base' := w.heap.size) (Nat.le_trans (by rw [HS0.out]; omega) HB4.out.size)); clear ho5 hB5 c0 c1 c2 c3 HB4; go_wp2
    exact bodyPost_ret (v := .tuple #[v, .int .i64 0]) (by simp [results, Tryz.results13, go_sem]) rfl ⟨_, rfl, HO6.out, HB0.out.trans (HB6.out.mono (by rw [HS0.out]; omega))⟩
   ·
    have HD : Hid (doE es ⟨k, p, t, x⟩ = es) := by show _ = _; unfold doE; rw [hT, HC.out, if_pos rfl, if_neg h0]
    rw [HC.out, HD.out]; obtain ⟨c, hc⟩ : ∃ c, codeC es k p t = c := ⟨_, rfl⟩
    rw [hc] at h0 HK ⊢; have n0 : (c == 0) = false := by rw [beq_eq_false_iff_ne]; exact h0
    clear hc; go_enter Tryz.func13, Tryz.ntmps13
    go_wp2_with fail
    rw [← HW.out]; refine HO.out.mono ?_; rintro e w1 ⟨rfl, hB1⟩; obtain ⟨c0, c1, c2, c3⟩ := HX.out w1 hB1; have HB1 := hidE hB1; clear hB1; go_wp2_with fail
    refine (HP.out _).mono ?_; rintro e w2 ⟨rfl, hB2⟩; have HB2 := hidE (HB1.out.trans (hB2.mono HB1.out.size)); clear hB2 HB1 c0 c1 c2 c3; obtain ⟨c0, c1, c2, c3⟩ := HX.out w2 HB2.out; have hz2' := HB2.out.size; go_wp2_with fail
    refine (HK.out _ (HE.out.below HB2.out)).mono ?_; rintro e w3 ⟨rfl, hB3⟩; have HB4 := hidE (HB2.out.trans (hB3.mono HB2.out.size)); clear hB3 HB2 c0 c1 c2 c3; obtain ⟨c0, c1, c2, c3⟩ := HX.out w3 HB4.out; have HB3 := hidE (HB4.out.alloc HB4.out.size (.cells #[] 53)); have hz2 := HB4.out.size; clear c0 c1 c2 c3
    go_wp2_with (first
     | (at_builtin; refine wpE_append rfl _ _ rfl W0.heap.size (.slice (some ⟨w3.heap.size, 0, none⟩) 0 0) [] rfl (OwnE.made w3 hz2) _ _ g o es es.length rfl rfl ha (HE.out.below HB3.out) ?c1 ?c2 ?_)
     | fail)
    case c1 => show 0 + _ ≤ _; omega
    case c2 => exact HB3.out.size
    intro v5 w5 ho5 hg5; have HB6 := hidE (HB3.out.grown hg5 HB3.out.size (fun q hq => (World.ownsRow.lt (OwnE.made w3 (base := W0.heap.size) hz2) q hq).1)); have HO6 : Hid (OwnE w5 W0.heap.size v5 es) := ho5; clear ho5 hg5 HB3; go_wp2
    exact bodyPost_ret (v := .tuple #[v5, .int .i64 c]) (by simp [results, Tryz.results13, go_sem]) rfl ⟨_, rfl, HO6.out.lower (by rw [HS0.out]; omega), HB0.out.trans (HB6.out.mono (by rw [HS0.out]; omega))⟩
end Go.Proofs.YtafeddiijemnbaaGreatDoor
