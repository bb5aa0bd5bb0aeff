import Derived.WalkKit
import Derived.OwnWalk
import Derived.WalkSpells
import Derived.WalkLawsBesides
import Derived.Laws.Pointers
import Derived.Deep.QuietTactic
import Derived.BigQuiet
import Derived.Outline
import Derived.Below
import Derived.Lib.QuietBelow
import Derived.Test.YteppodogghjfhaaGreatDoorHPk09
import Derived.Test.YteppodogghjfhaaGreatDoorHPk19
import Derived.Test.YteppodogghjfhaaGreatDoorProg
import Derived.Maps.AppendAt
import Derived.Test.YteppodogghjfhaaGreatDoorHPk10
import Derived.Test.YteppodogghjfhaaGreatDoorHPk00
import Derived.Laws.IdiomStrings
import Derived.Laws.ResultCell
namespace Go.Proofs.YteppodogghjfhaaGreatDoor
open Go.RowKit Go.Lib Go.Sort
set_option maxHeartbeats 800000 in
set_option maxRecDepth 100000 in
theorem l2Data_any (s : ByteArray) (hs : s.size ≤ 4611686018427387904) (w : World) :
  Calls Tryz.prog 97 #[.string s] w fun e w' => e = .returned (.bool (dataB s)) ∧ w' = w := by
 go_enter Tryz.func97, Tryz.ntmps97
 go_wp2
 go_loop [3] (fun i => ∃ k : Nat, k ≤ s.size ∧ i = .int .i64 k ∧ Hid ((s.data.toList.take k).all dataC = true)) (fun i => s.size - (RowKit.intOf i).toNat)
 case atStart => exact ⟨0, Nat.zero_le _, rfl, rfl⟩
 case round =>
  obtain ⟨k, hk, rfl, HA⟩ := hrel; by_cases hlt : k < s.size
  ·
   have yes : dataC s[k] = true → Hid ((s.data.toList.take (k + 1)).all dataC = true) := fun h => by show _ = _; rw [data_take s k hlt, HA.out, h]; rfl
   have HY := hidE yes; clear yes; by_cases h1 : 97 ≤ s[k].toNat
   ·
    by_cases h2 : s[k].toNat ≤ 122
    ·
     have HT := HY.out (by unfold dataC low; rw [decide_eq_true ⟨h1, h2⟩]; rfl); go_wp2
     go_round
     case rel => exact ⟨k + 1, by omega, by go_num, HT⟩
     case measure => simp [RowKit.intOf]; omega
    ·
     have HN := hidE (data_bad s k hlt (by unfold dataC low; rw [decide_eq_false (by omega), decide_eq_false (by omega)]; rfl)); go_wp2
     go_ret
     exact ⟨ret_bE HN.out, rfl⟩
   ·
    by_cases h2 : 48 ≤ s[k].toNat
    ·
     by_cases h3 : s[k].toNat ≤ 57
     ·
      have HT := HY.out (by unfold dataC; rw [decide_eq_true ⟨h2, h3⟩, Bool.or_true]); go_wp2
      go_round
      case rel => exact ⟨k + 1, by omega, by go_num, HT⟩
      case measure => simp [RowKit.intOf]; omega
     ·
      have HN := hidE (data_bad s k hlt (by unfold dataC low; rw [decide_eq_false (by omega), decide_eq_false (by omega)]; rfl)); go_wp2
      go_ret
      exact ⟨ret_bE HN.out, rfl⟩
    ·
     have HN := hidE (data_bad s k hlt (by unfold dataC low; rw [decide_eq_false (by omega), decide_eq_false (by omega)]; rfl)); go_wp2
     go_ret
     exact ⟨ret_bE HN.out, rfl⟩
  ·
   have HD := hidE (data_all s k (by omega) HA.out); by_cases h6 : s.size ≤ 6
   ·
    go_wp2
    go_ret
    exact ⟨ret_bE (by rw [← HD.out, decide_eq_true h6]; exact decide_eq_true (by omega)), rfl⟩
   ·
    go_wp2
    go_ret
    exact ⟨ret_bE (by rw [← HD.out, decide_eq_false h6]; exact decide_eq_false (by omega)), rfl⟩
theorem sOk_is (s : ByteArray) (b : Bool) (h : pathB s = b) (hm : s.size ≤ 67108864) (w : World) :
  Calls Tryz.prog 96 #[.string s] w fun e w' => e = .returned (.bool b) ∧ Below w.heap.size w w' := by
 rw [← h]; exact sOk_any s hm w
theorem l2Data_is (s : ByteArray) (b : Bool) (h : dataB s = b) (hm : s.size ≤ 67108864) (w : World) :
  Calls Tryz.prog 97 #[.string s] w fun e w' => e = .returned (.bool b) ∧ Below w.heap.size w w' := by
 rw [← h]; exact (l2Data_any s (by omega) w).mono fun e w' ⟨h1, h2⟩ => ⟨h1, by rw [h2]; exact Below.refl _ _⟩
theorem cOk (W0 : World) (s : ByteArray) (b : Bool) (h : pathB s = b) (hm : s.size ≤ 67108864) : ∀ d os, Calls Tryz.prog 96 #[.string s] (grow (redrawn W0 d) os) fun e w'' => e = .returned (.bool b) ∧ ∃ p : Regrown, w'' = grow (redrawn W0 p.d) p.os :=
 fun _ _ => Calls.regrown_of (sOk_is s b h hm _)
theorem cData (W0 : World) (s : ByteArray) (b : Bool) (h : dataB s = b) (hm : s.size ≤ 67108864) : ∀ d os, Calls Tryz.prog 97 #[.string s] (grow (redrawn W0 d) os) fun e w'' => e = .returned (.bool b) ∧ ∃ p : Regrown, w'' = grow (redrawn W0 p.d) p.os :=
 fun _ _ => Calls.regrown_of (l2Data_is s b h hm _)
set_option maxHeartbeats 400000 in
set_option maxRecDepth 100000 in
theorem l2Find_any (w : World) (a : Option Addr) (g o cap : Nat) (es : List E) (s : ByteArray) (hl : es.length ≤ 16777216) (ha : 0 < es.length → a = some ⟨g, o, none⟩) (hE : Ents w g o es) :
  Calls Tryz.prog 81 #[.slice a es.length cap, .string s] w fun e w' => e = .returned (.int .i64 (findE es s)) ∧ w' = w := by
 have HE := hidE hE; clear hE; go_enter Tryz.func81, Tryz.ntmps81
 go_wp2
 go_loop [5] (fun i => ∃ k : Nat, k ≤ es.length ∧ i = .int .i64 k ∧ Hid (findL s (es.drop k) k = findE es s)) (fun i => es.length - (RowKit.intOf i).toNat)
 case atStart => exact ⟨0, Nat.zero_le _, rfl, rfl⟩
 case round =>
  obtain ⟨k, hk, rfl, HF⟩ := hrel; by_cases hlt : k < es.length
  ·
   obtain rfl := ha (by omega); obtain ⟨c0, c1, c2⟩ := HE.out k hlt; have HD := hidE (find_drop s es k hlt); cases hc : (es[k].p.toList == s.toList) with
   | true =>
    rw [hc] at HD; go_wp2
    go_ret
    exact ⟨ret_iE (by rw [← HF.out, HD.out]; rfl), rfl⟩
   | false =>
    rw [hc] at HD; go_wp2
    go_round
    case rel => exact ⟨k + 1, by omega, by go_num, by show _ = _; rw [← HF.out, HD.out]; rfl⟩
    case measure => simp [RowKit.intOf]; omega
  ·
   go_wp2
   go_ret
   exact ⟨ret_iE (by rw [← HF.out, List.drop_of_length_le (by omega)]; rfl), rfl⟩
set_option maxHeartbeats 400000 in
theorem l2Dir_any (w : World) (a : Option Addr) (g o cap : Nat) (es : List E) (s : ByteArray) (hl : es.length ≤ 16777216) (ha : 0 < es.length → a = some ⟨g, o, none⟩) (hE : Ents w g o es) :
  Calls Tryz.prog 69 #[.slice a es.length cap, .string s] w fun e w' => e = .returned (.bool (dirE es s)) ∧ w' = w := by
 have HE := hidE hE; clear hE; cases hr : (s.toList == [47]) with
 | true =>
  go_enter Tryz.func69, Tryz.ntmps69
  go_wp2
  go_ret
  exact ⟨ret_bE (by unfold dirE isRoot; rw [hr]; rfl), rfl⟩
 | false =>
  have HD : Hid (dirE es s = match es[(findE es s).toNat]? with | some e => decide (0 ≤ findE es s) && e.d | none => false) := by
   show _ = _; unfold dirE isRoot; rw [hr]; rfl
  have HF : Hid (∀ W : World, Ents W g o es → Calls Tryz.prog 81 #[.slice a es.length cap, .string s] W _) := fun W hW => l2Find_any W a g o cap es s hl ha hW; rcases findE_is es s with hf | ⟨j, hj, hf, _⟩
  ·
   rw [hf] at HD HF; go_enter Tryz.func69, Tryz.ntmps69
   go_wp2_with (go_at_call 81; refine (HF.out _ HE.out).mono ?_; rintro e w' ⟨rfl, rfl⟩)
   go_ret
   exact ⟨ret_bE (by rw [HD.out]; split <;> rfl), rfl⟩
  ·
   rw [hf] at HD HF; obtain rfl := ha (by omega); obtain ⟨c0, c1, c2⟩ := HE.out j hj; go_enter Tryz.func69, Tryz.ntmps69
   go_wp2_with (go_at_call 81; refine (HF.out _ HE.out).mono ?_; rintro e w' ⟨rfl, rfl⟩)
   go_ret
   exact ⟨ret_bE (by rw [HD.out]; simp [hj]), rfl⟩
theorem cUp (W0 : World) (s : ByteArray) (hm : s.size ≤ 16777216) : ∀ d os, Calls Tryz.prog 70 #[.string s] (grow (redrawn W0 d) os) fun e w'' => e = .returned (.string (upS s)) ∧ ∃ p : Regrown, w'' = grow (redrawn W0 p.d) p.os :=
 fun _ _ => Calls.regrown_of (sPathUp_any s hm _)
theorem cDir (W0 : World) (g o cap k : Nat) (es : List E) (s : ByteArray) (b : Bool) (hk : k ≤ es.length) (hl : es.length ≤ 16777216) (hE : Ents W0 g o es) (h : dirE (es.take k) s = b) : ∀ d os, Calls Tryz.prog 69 #[.slice (some ⟨g, o, none⟩) k cap, .string s] (grow (redrawn W0 d) os) fun e w'' => e = .returned (.bool b) ∧ ∃ p : Regrown, w'' = grow (redrawn W0 p.d) p.os :=
 fun d os => Calls.regrown_of (by
  have e : (es.take k).length = k := by rw [List.length_take]; omega
  have := l2Dir_any (grow (redrawn W0 d) os) (some ⟨g, o, none⟩) g o cap (es.take k) s (by omega) (fun _ => rfl) ((hE.below (below_regrown W0 d os)).take k); rw [e, h] at this
  exact this.mono fun _ _ ⟨h1, h2⟩ => ⟨h1, by rw [h2]; exact Below.refl _ _⟩)
set_option maxHeartbeats 8000000 in
set_option maxRecDepth 100000 in
theorem sTreeOk_any (w : World) (a : Option Addr) (g o cap : Nat) (es : List E) (hl : es.length ≤ 16777216) (hcap : es.length ≤ cap) (hz : ∀ e ∈ es, e.p.size ≤ 16777216 ∧ e.x.size ≤ 16777216) (ha : 0 < es.length → a = some ⟨g, o, none⟩) (hE : Ents w g o es) :
  Calls Tryz.prog 66 #[.slice a es.length cap] w fun e w' => e = .returned (.bool (treeE es)) ∧ Below w.heap.size w w' := by
 have HE := hidE hE; have HZ := hidE hz; clear hE hz; by_cases h16 : es.length ≤ 16
 ·
  go_enter Tryz.func66, Tryz.ntmps66
  go_wp2
  go_loopw [3] (fun i wl => ∃ k : Nat, k ≤ es.length ∧ i = .int .i64 k ∧ Hid (Below w.heap.size w wl) ∧ Hid ((List.range k).all (okAt es) = true)) (fun i _ => es.length - (RowKit.intOf i).toNat)
  case atStart => exact ⟨0, Nat.zero_le _, rfl, Below.refl _ _, rfl⟩
  case round =>
   obtain ⟨k, hk, rfl, HB, HA⟩ := hrel; by_cases hlt : k < es.length
   ·
    obtain rfl := ha (by omega); have hB := HB.out; have HEr := hidE (HE.out.below hB); obtain ⟨c0, c1, c2⟩ := HEr.out k hlt; obtain ⟨z0, z1⟩ := HZ.out es[k] (List.getElem_mem _); obtain ⟨p, hp⟩ : ∃ p, es[k].p = p := ⟨_, rfl⟩
    obtain ⟨d, hd⟩ : ∃ d, es[k].d = d := ⟨_, rfl⟩
    obtain ⟨x, hx⟩ : ∃ x, es[k].x = x := ⟨_, rfl⟩
    have HP := hidE hp; have HDd := hidE hd; have HX := hidE hx; rw [hp] at c0 z0; rw [hd] at c1; rw [hx] at c2 z1; clear hp hd hx; obtain ⟨W0, hW0⟩ : ∃ W0, wr.alloc (.cells #[.string p, .bool d, .string x] 43) = W0 := ⟨_, rfl⟩
    have hb0 : Below wr.heap.size wr W0 := by rw [← hW0]; exact (Below.refl _ wr).alloc (Nat.le_refl _) _
    have k0 := cell_regrown (show W0.cell? ⟨wr.heap.size, 0, none⟩ = some (.string p) by rw [← hW0]; simp); have k1 := cell_regrown (show W0.cell? ⟨wr.heap.size, 1, none⟩ = some (.bool d) by rw [← hW0]; simp); have k2 := cell_regrown (show W0.cell? ⟨wr.heap.size, 2, none⟩ = some (.string x) by rw [← hW0]; simp); have HE0 := hidE (HEr.out.below hb0); have HB0 := hidE (hB.trans (hb0.mono hB.size)); have HOK := hidE (okAt_is hlt); rw [HP.out, HDd.out, HX.out] at HOK; clear hb0; cases f1 : pathB p with
    | false =>
     rw [f1] at HOK; have a1 := cOk W0 p false f1 (by omega); go_wp2
     refine wp_region_quiet_below (by kernel_rfl) (by kernel_rfl) ?_
     repeat (go_big_quiet_step (first | exact a1 _ _))
     refine wpQuiet_nil ?_; intro _ hw'; obtain ⟨⟨dq, osq⟩, hw''⟩ := hw'; subst hw''; have HBq := hidE (HB0.out.trans ((below_regrown W0 dq osq).mono HB0.out.size)); clear HB0 HE0 k0 k1 k2 a1; go_wp2
     go_ret
     exact ⟨ret_bE (treeE_no hlt (by rw [HOK.out]; simp)), HBq.out⟩
    | true =>
     rw [f1] at HOK; have a1 := cOk W0 p true f1 (by omega); cases f2 : dataB x with
     | false =>
      rw [f2] at HOK; have a2 := cData W0 x false f2 (by omega); go_wp2
      refine wp_region_quiet_below (by kernel_rfl) (by kernel_rfl) ?_
      repeat (go_big_quiet_step (first | exact a1 _ _ | exact a2 _ _))
      refine wpQuiet_nil ?_; intro _ hw'; obtain ⟨⟨dq, osq⟩, hw''⟩ := hw'; subst hw''; have HBq := hidE (HB0.out.trans ((below_regrown W0 dq osq).mono HB0.out.size)); clear HB0 HE0 k0 k1 k2 a1 a2; go_wp2
      go_ret
      exact ⟨ret_bE (treeE_no hlt (by rw [HOK.out]; simp)), HBq.out⟩
     | true =>
      rw [f2] at HOK; have a2 := cData W0 x true f2 (by omega); have a3 := cUp W0 p (by omega); cases d with
      | true =>
       cases f3 : x.toList.isEmpty with
       | false =>
        rw [f3] at HOK; go_wp2
        refine wp_region_quiet_below (by kernel_rfl) (by kernel_rfl) ?_
        repeat (go_big_quiet_step (first | exact a1 _ _ | exact a2 _ _))
        refine wpQuiet_nil ?_; intro _ hw'; obtain ⟨⟨dq, osq⟩, hw''⟩ := hw'; subst hw''; have HBq := hidE (HB0.out.trans ((below_regrown W0 dq osq).mono HB0.out.size)); clear HB0 HE0 k0 k1 k2 a1 a2; go_wp2
        go_ret
        exact ⟨ret_bE (treeE_no hlt (by rw [HOK.out]; simp)), HBq.out⟩
       | true =>
        rw [f3] at HOK; by_cases hk0 : k = 0
        ·
         subst hk0; simp only [Nat.zero_mul, Nat.add_zero] at c0 c1 c2; cases f5 : dirE (es.take 0) (upS p) with
         | true =>
          rw [f5] at HOK; have a4 := cDir W0 g o cap 0 es (upS p) true (by omega) hl HE0.out f5; go_wp2
          refine wp_region_quiet_below (by kernel_rfl) (by kernel_rfl) ?_
          repeat (go_big_quiet_step (first | exact a1 _ _ | exact a2 _ _ | exact a3 _ _ | exact a4 _ _))
          refine wpQuiet_nil ?_; intro _ hw'; obtain ⟨⟨dq, osq⟩, hw''⟩ := hw'; subst hw''; have HBq := hidE (HB0.out.trans ((below_regrown W0 dq osq).mono HB0.out.size)); clear HB0 HE0 k0 k1 k2 a1 a2 a3 a4; go_wp2
          go_roundw
          case rel => exact ⟨0 + 1, by omega, by go_num, HBq, all_range_succ _ 0 HA.out (by rw [HOK.out]; simp)⟩
          case measure => simp [RowKit.intOf]; omega
         | false =>
          rw [f5] at HOK; have a4 := cDir W0 g o cap 0 es (upS p) false (by omega) hl HE0.out f5; go_wp2
          refine wp_region_quiet_below (by kernel_rfl) (by kernel_rfl) ?_
          repeat (go_big_quiet_step (first | exact a1 _ _ | exact a2 _ _ | exact a3 _ _ | exact a4 _ _))
          refine wpQuiet_nil ?_; intro _ hw'; obtain ⟨⟨dq, osq⟩, hw''⟩ := hw'; subst hw''; have HBq := hidE (HB0.out.trans ((below_regrown W0 dq osq).mono HB0.out.size)); clear HB0 HE0 k0 k1 k2 a1 a2 a3 a4; go_wp2
          go_ret
          exact ⟨ret_bE (treeE_no hlt (by rw [HOK.out]; simp)), HBq.out⟩
        ·
         obtain ⟨m, rfl⟩ : ∃ m, k = m + 1 := ⟨k - 1, by omega⟩
         have hm : m < es.length := by omega
         have hcap' : (m : Int) + 1 ≤ (cap : Int) := by omega
         have kq := cell_regrown (HE0.out m hm).1; rw [show m + 1 - 1 = m from rfl, List.getElem?_eq_getElem hm, Option.map_some, Option.getD_some] at HOK; obtain ⟨q, hq⟩ : ∃ q, es[m].p = q := ⟨_, rfl⟩
         rw [hq] at kq HOK; clear hq; have hpos : decide ((0 : Int) < (m : Int) + 1) = true := decide_eq_true (by omega); cases f4 : Op.bytesLess q.toList p.toList with
         | false =>
          rw [f4] at HOK; go_wp2
          refine wp_region_quiet_below (by kernel_rfl) (by kernel_rfl) ?_
          repeat (go_big_quiet_step (first | exact a1 _ _ | exact a2 _ _))
          refine wpQuiet_nil ?_; intro _ hw'; obtain ⟨⟨dq, osq⟩, hw''⟩ := hw'; subst hw''; have HBq := hidE (HB0.out.trans ((below_regrown W0 dq osq).mono HB0.out.size)); clear HB0 HE0 k0 k1 k2 kq a1 a2; go_wp2
          go_ret
          exact ⟨ret_bE (treeE_no hlt (by rw [HOK.out]; simp)), HBq.out⟩
         | true =>
          rw [f4] at HOK; cases f5 : dirE (es.take (m + 1)) (upS p) with
          | true =>
           rw [f5] at HOK; have a4 := cDir W0 g o cap (m + 1) es (upS p) true (by omega) hl HE0.out f5; go_wp2
           refine wp_region_quiet_below (by kernel_rfl) (by kernel_rfl) ?_
           repeat (go_big_quiet_step (first | exact a1 _ _ | exact a2 _ _ | exact a3 _ _ | exact a4 _ _))
           refine wpQuiet_nil ?_; intro _ hw'; obtain ⟨⟨dq, osq⟩, hw''⟩ := hw'; subst hw''; have HBq := hidE (HB0.out.trans ((below_regrown W0 dq osq).mono HB0.out.size)); clear HB0 HE0 k0 k1 k2 kq a1 a2 a3 a4; go_wp2
           go_roundw
           case rel => exact ⟨m + 1 + 1, by omega, by go_num, HBq, all_range_succ _ (m + 1) HA.out (by rw [HOK.out]; simp)⟩
           case measure => simp [RowKit.intOf]; omega
          | false =>
           rw [f5] at HOK; have a4 := cDir W0 g o cap (m + 1) es (upS p) false (by omega) hl HE0.out f5; go_wp2
           refine wp_region_quiet_below (by kernel_rfl) (by kernel_rfl) ?_
           repeat (go_big_quiet_step (first | exact a1 _ _ | exact a2 _ _ | exact a3 _ _ | exact a4 _ _))
           refine wpQuiet_nil ?_; intro _ hw'; obtain ⟨⟨dq, osq⟩, hw''⟩ := hw'; subst hw''; have HBq := hidE (HB0.out.trans ((below_regrown W0 dq osq).mono HB0.out.size)); clear HB0 HE0 k0 k1 k2 kq a1 a2 a3 a4; go_wp2
           go_ret
           exact ⟨ret_bE (treeE_no hlt (by rw [HOK.out]; simp)), HBq.out⟩
      | false =>
       by_cases hk0 : k = 0
       ·
        subst hk0; simp only [Nat.zero_mul, Nat.add_zero] at c0 c1 c2; cases f5 : dirE (es.take 0) (upS p) with
        | true =>
         rw [f5] at HOK; have a4 := cDir W0 g o cap 0 es (upS p) true (by omega) hl HE0.out f5; go_wp2
         refine wp_region_quiet_below (by kernel_rfl) (by kernel_rfl) ?_
         repeat (go_big_quiet_step (first | exact a1 _ _ | exact a2 _ _ | exact a3 _ _ | exact a4 _ _))
         refine wpQuiet_nil ?_; intro _ hw'; obtain ⟨⟨dq, osq⟩, hw''⟩ := hw'; subst hw''; have HBq := hidE (HB0.out.trans ((below_regrown W0 dq osq).mono HB0.out.size)); clear HB0 HE0 k0 k1 k2 a1 a2 a3 a4; go_wp2
         go_roundw
         case rel => exact ⟨0 + 1, by omega, by go_num, HBq, all_range_succ _ 0 HA.out (by rw [HOK.out]; simp)⟩
         case measure => simp [RowKit.intOf]; omega
        | false =>
         rw [f5] at HOK; have a4 := cDir W0 g o cap 0 es (upS p) false (by omega) hl HE0.out f5; go_wp2
         refine wp_region_quiet_below (by kernel_rfl) (by kernel_rfl) ?_
         repeat (go_big_quiet_step (first | exact a1 _ _ | exact a2 _ _ | exact a3 _ _ | exact a4 _ _))
         refine wpQuiet_nil ?_; intro _ hw'; obtain ⟨⟨dq, osq⟩, hw''⟩ := hw'; subst hw''; have HBq := hidE (HB0.out.trans ((below_regrown W0 dq osq).mono HB0.out.size)); clear HB0 HE0 k0 k1 k2 a1 a2 a3 a4; go_wp2
         go_ret
         exact ⟨ret_bE (treeE_no hlt (by rw [HOK.out]; simp)), HBq.out⟩
       ·
        obtain ⟨m, rfl⟩ : ∃ m, k = m + 1 := ⟨k - 1, by omega⟩
        have hm : m < es.length := by omega
        have hcap' : (m : Int) + 1 ≤ (cap : Int) := by omega
        have kq := cell_regrown (HE0.out m hm).1; rw [show m + 1 - 1 = m from rfl, List.getElem?_eq_getElem hm, Option.map_some, Option.getD_some] at HOK; obtain ⟨q, hq⟩ : ∃ q, es[m].p = q := ⟨_, rfl⟩
        rw [hq] at kq HOK; clear hq; have hpos : decide ((0 : Int) < (m : Int) + 1) = true := decide_eq_true (by omega); cases f4 : Op.bytesLess q.toList p.toList with
        | false =>
         rw [f4] at HOK; go_wp2
         refine wp_region_quiet_below (by kernel_rfl) (by kernel_rfl) ?_
         repeat (go_big_quiet_step (first | exact a1 _ _ | exact a2 _ _))
         refine wpQuiet_nil ?_; intro _ hw'; obtain ⟨⟨dq, osq⟩, hw''⟩ := hw'; subst hw''; have HBq := hidE (HB0.out.trans ((below_regrown W0 dq osq).mono HB0.out.size)); clear HB0 HE0 k0 k1 k2 kq a1 a2; go_wp2
         go_ret
         exact ⟨ret_bE (treeE_no hlt (by rw [HOK.out]; simp)), HBq.out⟩
        | true =>
         rw [f4] at HOK; cases f5 : dirE (es.take (m + 1)) (upS p) with
         | true =>
          rw [f5] at HOK; have a4 := cDir W0 g o cap (m + 1) es (upS p) true (by omega) hl HE0.out f5; go_wp2
          refine wp_region_quiet_below (by kernel_rfl) (by kernel_rfl) ?_
          repeat (go_big_quiet_step (first | exact a1 _ _ | exact a2 _ _ | exact a3 _ _ | exact a4 _ _))
          refine wpQuiet_nil ?_; intro _ hw'; obtain ⟨⟨dq, osq⟩, hw''⟩ := hw'; subst hw''; have HBq := hidE (HB0.out.trans ((below_regrown W0 dq osq).mono HB0.out.size)); clear HB0 HE0 k0 k1 k2 kq a1 a2 a3 a4; go_wp2
          go_roundw
          case rel => exact ⟨m + 1 + 1, by omega, by go_num, HBq, all_range_succ _ (m + 1) HA.out (by rw [HOK.out]; simp)⟩
          case measure => simp [RowKit.intOf]; omega
         | false =>
          rw [f5] at HOK; have a4 := cDir W0 g o cap (m + 1) es (upS p) false (by omega) hl HE0.out f5; go_wp2
          refine wp_region_quiet_below (by kernel_rfl) (by kernel_rfl) ?_
          repeat (go_big_quiet_step (first | exact a1 _ _ | exact a2 _ _ | exact a3 _ _ | exact a4 _ _))
          refine wpQuiet_nil ?_; intro _ hw'; obtain ⟨⟨dq, osq⟩, hw''⟩ := hw'; subst hw''; have HBq := hidE (HB0.out.trans ((below_regrown W0 dq osq).mono HB0.out.size)); clear HB0 HE0 k0 k1 k2 kq a1 a2 a3 a4; go_wp2
          go_ret
          exact ⟨ret_bE (treeE_no hlt (by rw [HOK.out]; simp)), HBq.out⟩
   ·
    have HT : Hid (treeE es = true) := by
     show _ = _
     unfold treeE; rw [decide_eq_true h16, Bool.true_and]; have := HA.out; rw [show k = es.length from by omega] at this; exact this
    go_wp2
    go_ret
    exact ⟨ret_bE HT.out.symm, HB.out⟩
 ·
  go_enter Tryz.func66, Tryz.ntmps66
  go_wp2
  go_ret
  exact ⟨ret_bE (by unfold treeE; rw [decide_eq_false h16]; rfl), Below.refl _ _⟩
theorem rowE_append (es fs : List E) : rowE (es ++ fs) = rowE es ++ rowE fs := by unfold rowE; exact List.flatMap_append
theorem rowE_one (e : E) : rowE [e] = cellsE e := by unfold rowE; simp
theorem rowE_at : ∀ (es : List E) (i : Nat) (h : i < es.length), (rowE es)[i * 3]? = some (.string es[i].p) ∧ (rowE es)[i * 3 + 1]? = some (.bool es[i].d) ∧ (rowE es)[i * 3 + 2]? = some (.string es[i].x)
 | e :: r, 0, _ => ⟨rfl, rfl, rfl⟩
 | e :: r, i + 1, h => by
  obtain ⟨q0, q1, q2⟩ := rowE_at r i (by simpa using h)
  have hd : ∀ j, (rowE (e :: r))[3 + j]? = (rowE r)[j]? := fun j => by
   show (cellsE e ++ rowE r)[3 + j]? = _
   rw [List.getElem?_append_right (by show 3 ≤ _; omega)]; show (rowE r)[3 + j - 3]? = _
   rw [Nat.add_sub_cancel_left]
  refine ⟨?_, ?_, ?_⟩
  ·
   rw [show (i + 1) * 3 = 3 + i * 3 from by omega, hd]; exact q0
  ·
   rw [show (i + 1) * 3 + 1 = 3 + (i * 3 + 1) from by omega, hd]; exact q1
  ·
   rw [show (i + 1) * 3 + 2 = 3 + (i * 3 + 2) from by omega, hd]; exact q2
theorem rowE_one' {e : E} : ∀ u ∈ cellsE e, u.oneCell' = true := by
 intro u hu; simp [cellsE] at hu; rcases hu with rfl | rfl | rfl <;> rfl
abbrev OwnE (w : World) (base : Nat) (v : Value) (es : List E) : Prop := w.ownsRow base 43 3 v es.length (rowE es)
theorem add0 (g j : Nat) : (⟨g, 0, none⟩ : Addr).add j = ⟨g, 0 + j, none⟩ := by
 cases j with
 | zero => rfl
 | succ j => simp [Addr.add]
theorem OwnE.ents {w : World} {base : Nat} {v : Value} {es : List E} (h : OwnE w base v es) :
  ∃ a g cap, v = .slice a es.length cap ∧ (0 < es.length → a = some ⟨g, 0, none⟩) ∧ Ents w g 0 es ∧ es.length ≤ cap := by
 have hc := fun (g : Nat) (hg : v.ownBlock = some g) => World.ownsRow.cells h hg; obtain ⟨_, ⟨rfl, e0⟩ | ⟨g, cap, cur, rfl, _, _, hcap, _⟩⟩ := h
 ·
  exact ⟨none, 0, 0, by rw [e0], fun h => by omega, fun i hi => by omega, by omega⟩
 ·
  refine ⟨_, g, cap, rfl, fun _ => rfl, fun i hi => ?_, hcap⟩; obtain ⟨q0, q1, q2⟩ := rowE_at es i hi; refine ⟨?_, ?_, ?_⟩
  ·
   have := hc g rfl _ _ q0; rw [add0] at this; exact this
  ·
   have := hc g rfl _ _ q1; rw [add0, ← Nat.add_assoc] at this; exact this
  ·
   have := hc g rfl _ _ q2; rw [add0, ← Nat.add_assoc] at this; exact this
theorem OwnE.below {w w' : World} {base : Nat} {v : Value} {es : List E} (h : OwnE w base v es) (hb : Below w.heap.size w w') : OwnE w' base v es :=
 World.ownsRow.kept (row := none) h ⟨hb.os, hb.tape, hb.output, hb.size, fun b hb' _ => hb.block b hb'⟩ (by
  cases hob : v.ownBlock with
  | none => exact .inl rfl
  | some q => exact .inr (by simp))
theorem OwnE.lower {w : World} {base base' : Nat} {v : Value} {es : List E} (h : OwnE w base v es) (hb : base' ≤ base) : OwnE w base' v es := by
 obtain ⟨h1, h2 | ⟨g, cap, cur, e1, e2, e3⟩⟩ := h
 ·
  exact ⟨h1, .inl h2⟩
 ·
  exact ⟨h1, .inr ⟨g, cap, cur, e1, Nat.le_trans hb e2, e3⟩⟩
theorem OwnE.made (w : World) {base : Nat} (hb : base ≤ w.heap.size) : OwnE (w.alloc (.cells #[] 43)) base (.slice (some ⟨w.heap.size, 0, none⟩) 0 0) [] := World.ownsRow_made w #[] 0 hb (Nat.zero_le _) rfl
theorem OwnE.push {w : World} {base : Nat} {v : Value} {es : List E} {e : E} (h : w.ownsRow base 43 3 v (es.length + 1) (rowE es ++ cellsE e)) : OwnE w base v (es ++ [e]) := by
 show World.ownsRow w base 43 3 v (es ++ [e]).length (rowE (es ++ [e]))
 rw [rowE_append, rowE_one, List.length_append]; exact h
theorem Tryz.infoE' : (Tryz.prog.info? 43).map (fun i => (i.zero, i.size, i.bytes)) = some (some (.agg #[.string ByteArray.empty, .bool false, .string ByteArray.empty]), 3, 40) := by kernel_rfl
theorem cells_new (w : World) (e : E) : ∀ j u, (cellsE e)[j]? = some u → (w.alloc (.cells #[.string e.p, .bool e.d, .string e.x] 43)).cell? ((⟨w.heap.size, 0, none⟩ : Addr).add j) = some u := by
 intro j u hj
 match j, hj with
 | 0, hj => simp [cellsE] at hj; subst hj; simp [Addr.add]
 | 1, hj => simp [cellsE] at hj; subst hj; simp [Addr.add]
 | 2, hj => simp [cellsE] at hj; subst hj; simp [Addr.add]
 | j + 3, hj => simp [cellsE] at hj
def StrB (w : World) (g : Nat) (xs : List ByteArray) : Prop := ∀ i (h : i < xs.length), w.cell? ⟨g, i, none⟩ = some (.string xs[i])
theorem StrB.below {w w' : World} {g : Nat} {xs : List ByteArray} (h : StrB w g xs) (hb : Below w.heap.size w w') : StrB w' g xs := fun i hi =>
 (hb.cell (p := ⟨g, i, none⟩) (World.block_lt_of_cell? w ⟨g, i, none⟩ (h i hi))).trans (h i hi)
theorem StrB.of_row {w : World} {base : Nat} {v : Value} {xs : List ByteArray} (h : w.ownsRow base 9 1 v xs.length (xs.map Value.string)) :
  ∃ a g cap, v = .slice a xs.length cap ∧ (0 < xs.length → a = some ⟨g, 0, none⟩) ∧ StrB w g xs := by
 have hc := fun (g : Nat) (hg : v.ownBlock = some g) => World.ownsRow.cells h hg; obtain ⟨_, ⟨rfl, e0⟩ | ⟨g, cap, cur, rfl, _, _, hcap, _⟩⟩ := h
 ·
  exact ⟨none, 0, 0, by rw [e0], fun h => by omega, fun i hi => by omega⟩
 ·
  refine ⟨_, g, cap, rfl, fun _ => rfl, fun i hi => ?_⟩; have := hc g rfl i (.string xs[i]) (by rw [List.getElem?_map, List.getElem?_eq_getElem hi]; rfl); rw [add0, Nat.zero_add] at this; exact this
theorem run_append_no (w : World) (i0 : TypeInfo) (hi : Tryz.prog.info? 43 = some i0) (ty : TypeId) (base : Option Addr) (n cap : Nat) (hle : n ≤ cap) (ax : Option Addr) (c : Nat) :
  (Builtin.append_ #[29, 29] ty #[.slice base n cap, .slice ax 0 c]).run Tryz.prog w = .ok (.slice base n cap) w := by
 cases base <;> cases ax <;> simp [Builtin.append_, run_underlying Tryz.underlying29, sizeOf, typeInfo, hi, Builtin.lenOf, hle, Builtin.firstCells, loadCells, loadCellsFrom, storeCells]
theorem rowE_oneCell {es : List E} : ∀ u ∈ rowE es, u.oneCell' = true := by
 intro u hu; unfold rowE at hu; obtain ⟨e, _, h⟩ := List.mem_flatMap.1 hu; exact rowE_one' u h
theorem rowE_cells {w : World} {g o : Nat} {fs : List E} (hF : Ents w g o fs) : ∀ j u, (rowE fs)[j]? = some u → w.cell? ((⟨g, o, none⟩ : Addr).add j) = some u := by
 intro j u hj; have hlt : j < fs.length * 3 := by rw [← rowE_len]; exact (List.getElem?_eq_some_iff.1 hj).1
 have hq : j / 3 < fs.length := by omega
 obtain ⟨q0, q1, q2⟩ := rowE_at fs (j / 3) hq; obtain ⟨c0, c1, c2⟩ := hF (j / 3) hq
 have ad : (⟨g, o, none⟩ : Addr).add j = ⟨g, o + j, none⟩ := by
  cases j with
  | zero => rfl
  | succ j => simp [Addr.add]
 rw [ad]; have h3 : j = j / 3 * 3 ∨ j = j / 3 * 3 + 1 ∨ j = j / 3 * 3 + 2 := by omega
 rcases h3 with h | h | h
 ·
  rw [← h] at q0 c0; rw [q0] at hj; rw [c0, ← hj]
 ·
  rw [← h] at q1; rw [Nat.add_assoc, ← h] at c1; rw [q1] at hj; rw [c1, ← hj]
 ·
  rw [← h] at q2; rw [Nat.add_assoc, ← h] at c2; rw [q2] at hj; rw [c2, ← hj]
theorem wpE_append {w : World} {ops : Array Oper} {rest : List Oper} {o : Oper} {a : Act} {Q : Exit → Act → World → Prop} (hgd : o.guard = none) (s x : Operand)
  (ho : o.op = .call { callee := .builtin .append, args := #[s, x], argTypes := #[29, 29] })
  (base : Nat) (v : Value) (es : List E) (hs : a.eval s = v) (hown : OwnE w base v es)
  (ax : Option Addr) (c g of : Nat) (fs : List E) (m : Nat) (hm : fs.length = m) (hx : a.eval x = .slice ax m c) (hax : 0 < fs.length → ax = some ⟨g, of, none⟩) (hF : Ents w g of fs)
  (hl : es.length + fs.length ≤ 2097152) (hbase : base ≤ w.heap.size)
  (h : ∀ v' w', OwnE w' base v' (es ++ fs) → w.grownBy w' v.ownBlock → wpList Tryz.prog ops Q rest (a.put o.dst v') w') : wpList Tryz.prog ops Q (o :: rest) a w := by
 obtain ⟨i0, hi, hz0, hz1, hz2⟩ := info_parts Tryz.infoE'; subst hm; by_cases hm : 0 < fs.length
 ·
  obtain rfl := hax hm; refine wpList_append_own _ hgd s x 29 ho base 43 i0 _ 3 40 Tryz.underlying29 hi hz0 hz1 hz2 rfl (by decide) v es.length (rowE es) hs hown _ _ _ (rowE fs) hx (rowE_len fs) (rowE_cells hF) rowE_oneCell (by unfold maxLen; omega) (by omega) hbase ?_; intro v' w' ho' hg _; refine h v' w' ?_ hg; show World.ownsRow w' base 43 3 v' (es ++ fs).length (rowE (es ++ fs))
  rw [rowE_append, List.length_append]; exact ho'
 ·
  have h0 : fs = [] := List.length_eq_zero_iff.1 (by omega); subst h0; refine wpList_plain hgd fun K hK => ?_; unfold Oper.wp execOp
  have hv : ∃ b n cap, v = .slice b n cap ∧ n ≤ cap := by
   obtain ⟨_, ⟨rfl, _⟩ | ⟨g, cap, cur, rfl, _, _, hcap, _⟩⟩ := hown
   ·
    exact ⟨_, _, _, rfl, Nat.le_refl _⟩
   ·
    exact ⟨_, _, _, rfl, hcap⟩
  obtain ⟨b, n, cap, rfl, hle⟩ := hv; have hr := run_append_no w i0 hi o.type b n cap hle ax c; have hx' : a.eval x = .slice ax 0 c := hx; simp only [ho, resolve, invoke, builtin, Sem.run_bind, Sem.run_pure, Result.andThen_ok, List.map_toArray, List.map_cons, List.map_nil, hs, hx', hr]; exact hK _ _ (h _ _ (by rw [List.append_nil]; exact hown) ⟨rfl, rfl, rfl, Nat.le_refl _, fun _ _ _ => rfl⟩)
theorem ents_drop {w : World} {g o : Nat} {es : List E} (h : Ents w g o es) (o' j : Nat) (hj : o' = o + j * 3 ∨ es.length ≤ j) : Ents w g o' (es.drop j) := by
 intro i hi; rw [List.length_drop] at hi; rcases hj with rfl | hj
 ·
  rw [List.getElem_drop]; have := h (j + i) (by omega); rw [show o + (j + i) * 3 = o + j * 3 + i * 3 from by omega] at this; exact this
 ·
  omega
theorem ents_new (w : World) (f : E) : Ents (w.alloc (.cells #[.string f.p, .bool f.d, .string f.x] 43)) w.heap.size 0 [f] := by
 intro i hi; have : i = 0 := by simpa using hi
 subst this; exact ⟨by simp, by simp, by simp⟩
theorem below_draws2 {B : Nat} {a w : World} (h : Below B a w) (n : Nat) : Below B a (w.drewN n) := h.trans ⟨rfl, rfl, rfl, Nat.le_refl _, fun _ _ => rfl⟩
theorem OwnE.drew {w : World} {base : Nat} {v : Value} {es : List E} (h : OwnE w base v es) (n : Nat) : OwnE (w.drewN n) base v es := h.below (below_draws2 (Below.refl _ w) n)
theorem box3 {w w' : World} {a b c : Value} {T : TypeId} (h : Below (w.alloc (.cells #[a, b, c] T)).heap.size (w.alloc (.cells #[a, b, c] T)) w') :
  w'.cell? ⟨w.heap.size, 0, none⟩ = some a ∧ w'.cell? ⟨w.heap.size, 1, none⟩ = some b ∧ w'.cell? ⟨w.heap.size, 2, none⟩ = some c := by
 have lt : w.heap.size < (w.alloc (.cells #[a, b, c] T)).heap.size := by simp
 exact ⟨(h.cell (p := ⟨w.heap.size, 0, none⟩) lt).trans (by simp), (h.cell (p := ⟨w.heap.size, 1, none⟩) lt).trans (by simp), (h.cell (p := ⟨w.heap.size, 2, none⟩) lt).trans (by simp)⟩
set_option maxHeartbeats 1600000 in
set_option maxRecDepth 100000 in
theorem l2Put_any (w : World) (a : Option Addr) (g o cap : Nat) (es : List E) (p : ByteArray) (d : Bool) (x : ByteArray) (hl : es.length ≤ 1048576) (hcap : es.length ≤ cap) (ha : 0 < es.length → a = some ⟨g, o, none⟩) (hE : Ents w g o es) :
  Calls Tryz.prog 100 #[.slice a es.length cap, .agg #[.string p, .bool d, .string x]] w fun r w' => ∃ v, r = .returned v ∧ OwnE w' w.heap.size v (putE es ⟨p, d, x⟩) ∧ Below w.heap.size w w' := by
 obtain ⟨W0, hW0⟩ : ∃ W0, W0 = w.alloc (.cells #[.string p, .bool d, .string x] 43) := ⟨_, rfl⟩
 have hs0 : W0.heap.size = w.heap.size + 1 := by rw [hW0]; simp
 have HW := hidE hW0; have HB0 : Hid (Below w.heap.size w W0) := by rw [hW0]; exact (Below.refl _ w).alloc (Nat.le_refl _) _
 have HE := hidE (Ents.below hE HB0.out); clear hE; go_enter Tryz.func100, Tryz.ntmps100
 go_wp2
 rw [← hW0]; rw [← hs0]; have HS0 := hidE hs0; clear hW0 hs0
 go_loopw [5, 6] (fun v iv wl => ∃ k : Nat, k ≤ es.length ∧ iv = .int .i64 k ∧ Hid (OwnE wl W0.heap.size v (es.take k)) ∧ Hid (Below W0.heap.size W0 wl) ∧ Hid ((es.take k).all (ltP ⟨p, d, x⟩) = true)) (fun _ iv _ => es.length - (RowKit.intOf iv).toNat)
 case atStart => exact ⟨0, Nat.zero_le _, rfl, OwnE.made W0 (Nat.le_refl _), (Below.refl _ W0).alloc (Nat.le_refl _) _, rfl⟩
 case round =>
  obtain ⟨k, hk, rfl, HO, HB, HA⟩ := hrel; have hz3 := HB.out.size
  obtain ⟨b0, b1, b2⟩ : wr.cell? ⟨w.heap.size, 0, none⟩ = some (.string p) ∧ wr.cell? ⟨w.heap.size, 1, none⟩ = some (.bool d) ∧ wr.cell? ⟨w.heap.size, 2, none⟩ = some (.string x) := by
   have := HB.out; rw [HW.out] at this; exact box3 this
  by_cases hlt : k < es.length
  ·
   obtain rfl := ha (by omega); obtain ⟨c0, c1, c2⟩ := (HE.out.below HB.out) k hlt; cases hb : Op.bytesLess es[k].p.toList p.toList with
   | true =>
    have HA2 : Hid ((es.take (k + 1)).all (ltP ⟨p, d, x⟩) = true) := by
     show _ = _
     rw [List.take_succ_eq_append_getElem hlt, List.all_append, HA.out]; simp [ltP, hb]
    go_wp2
    go_quiet (fail)
    have HO1 := hidE (HO.out.drew nq); have HB1 := hidE (below_draws2 HB.out nq); clear HO HB
    go_wp2_with (first
     | (at_builtin; refine wpE_append rfl _ _ rfl W0.heap.size _ (es.take k) rfl (World.ownsRow.alloc HO1.out _) _ _ wr.heap.size 0 [es[k]] 1 rfl rfl (fun _ => rfl) (ents_new _ _) ?c1 ?c2 ?_)
     | fail)
    case c1 => rw [List.length_take]; simp; omega
    case c2 => simp; omega
    intro v' w4 hown' hgrow; have HB4 := hidE ((HB1.out.alloc hz3 _).grown hgrow (by simp; omega) (fun q hq => (World.ownsRow.lt HO1.out q hq).1))
    have HO4 : Hid (OwnE w4 W0.heap.size v' (es.take (k + 1))) := by
     show OwnE _ _ _ _
     first | exact hown' | (rw [List.take_succ_eq_append_getElem hlt]; exact hown')
    clear hown' hgrow HO1 HB1; go_wp2
    go_roundw
    case rel => exact ⟨k + 1, by omega, by go_num, HO4, HB4, HA2⟩
    case measure => simp [RowKit.intOf]; omega
   | false =>
    obtain ⟨S1, S2⟩ := span_at (q := ltP ⟨p, d, x⟩) es k hk HA.out (fun _ => hb); have HP : Hid (putE es ⟨p, d, x⟩ = es.take k ++ [⟨p, d, x⟩] ++ restE ⟨p, d, x⟩ (es.drop k)) := by show _ = _; unfold putE; rw [S1, S2]
    clear S1 S2; cases hq : (es[k].p.toList == p.toList) with
    | true =>
     have HP2 : Hid (putE es ⟨p, d, x⟩ = es.take k ++ [⟨p, d, x⟩] ++ es.drop (k + 1)) := by
      show _ = _; rw [HP.out, List.drop_eq_getElem_cons hlt]; exact congrArg _ (if_pos hq)
     have HQ := hidE hq; clear HP hq; go_wp2
     go_quiet (fail)
     have HO1 := hidE (HO.out.drew nq); have HB1 := hidE (below_draws2 HB.out nq); clear HO HB
     go_wp2_with (first
      | (at_builtin; refine wpE_append rfl _ _ rfl W0.heap.size _ (es.take k) rfl (World.ownsRow.alloc HO1.out _) _ _ wr.heap.size 0 [⟨p, d, x⟩] 1 rfl rfl (fun _ => rfl) (ents_new _ ⟨p, d, x⟩) ?c1 ?c2 ?_)
      | fail)
     case c1 => rw [List.length_take]; simp; omega
     case c2 => simp; omega
     intro v' w4 hown' hgrow; have HB4 := hidE ((HB1.out.alloc hz3 _).grown hgrow (by simp; omega) (fun q hq => (World.ownsRow.lt HO1.out q hq).1)); have HO4 : Hid (OwnE w4 W0.heap.size v' (es.take k ++ [⟨p, d, x⟩])) := hown'; have hz4 := HB4.out.size; clear hown' hgrow HO1 HB1 b0 b1 b2 c0 c1 c2
     obtain ⟨b0, b1, b2⟩ : w4.cell? ⟨w.heap.size, 0, none⟩ = some (.string p) ∧ w4.cell? ⟨w.heap.size, 1, none⟩ = some (.bool d) ∧ w4.cell? ⟨w.heap.size, 2, none⟩ = some (.string x) := by
      have := HB4.out; rw [HW.out] at this; exact box3 this
     obtain ⟨c0, c1, c2⟩ := (HE.out.below HB4.out) k hlt; have hq := HQ.out; have hq' : es[k].p.toList = p.toList := by simpa using hq
     by_cases hce : cap ≤ (k + 1)
     ·
      have hce' : cap = (k + 1) := by omega
      have hce2 : cap - (k + 1) = 0 := by omega
      go_wp2
      go_quiet (fail)
      have HO5 := hidE (HO4.out.drew nq); have HB5 := hidE (below_draws2 HB4.out nq); clear HO4 HB4
      go_wp2_with (first
       | (at_builtin; refine wpE_append rfl _ _ rfl W0.heap.size v' (es.take k ++ [⟨p, d, x⟩]) rfl HO5.out _ _ g o (es.drop (k + 1)) (es.length - (k + 1)) (List.length_drop ..) rfl (fun h => absurd h (by rw [List.length_drop]; omega)) ?hF ?c1 ?c2 ?_)
       | fail)
      case hF => exact ents_drop (HE.out.below HB5.out) _ _ (by omega)
      case c1 => rw [List.length_append, List.length_take, List.length_drop]; simp; omega
      case c2 => exact HB5.out.size
      intro v5 w5 ho5 hg5; have HB6 := hidE (HB5.out.grown hg5 HB5.out.size (fun q hq => (World.ownsRow.lt HO5.out q hq).1))
      have HO6 : Hid (OwnE w5 W0.heap.size v5 (es.take k ++ [⟨p, d, x⟩] ++ es.drop (k + 1))) := by
       show OwnE _ _ _ _
       first | exact ho5 | simpa using ho5
      clear ho5 hg5 HO5 HB5; go_wp2
      go_ret
      exact ⟨_, rfl, by rw [HP2.out]; exact HO6.out.lower (by rw [HS0.out]; omega), HB0.out.trans (HB6.out.mono (by rw [HS0.out]; omega))⟩
     ·
      have hce' : (k + 1) < cap := by omega
      have hce2 : ¬ (cap - (k + 1) = 0) := by omega
      go_wp2
      go_quiet (fail)
      have HO5 := hidE (HO4.out.drew nq); have HB5 := hidE (below_draws2 HB4.out nq); clear HO4 HB4
      go_wp2_with (first
       | (at_builtin; refine wpE_append rfl _ _ rfl W0.heap.size v' (es.take k ++ [⟨p, d, x⟩]) rfl HO5.out _ _ g (o + (k + 1) * 3) (es.drop (k + 1)) (es.length - (k + 1)) (List.length_drop ..) rfl (fun _ => rfl) ?hF ?c1 ?c2 ?_)
       | fail)
      case hF => exact ents_drop (HE.out.below HB5.out) _ _ (by omega)
      case c1 => rw [List.length_append, List.length_take, List.length_drop]; simp; omega
      case c2 => exact HB5.out.size
      intro v5 w5 ho5 hg5; have HB6 := hidE (HB5.out.grown hg5 HB5.out.size (fun q hq => (World.ownsRow.lt HO5.out q hq).1))
      have HO6 : Hid (OwnE w5 W0.heap.size v5 (es.take k ++ [⟨p, d, x⟩] ++ es.drop (k + 1))) := by
       show OwnE _ _ _ _
       first | exact ho5 | simpa using ho5
      clear ho5 hg5 HO5 HB5; go_wp2
      go_ret
      exact ⟨_, rfl, by rw [HP2.out]; exact HO6.out.lower (by rw [HS0.out]; omega), HB0.out.trans (HB6.out.mono (by rw [HS0.out]; omega))⟩
    | false =>
     have HP2 : Hid (putE es ⟨p, d, x⟩ = es.take k ++ [⟨p, d, x⟩] ++ es.drop k) := by
      show _ = _; rw [HP.out, List.drop_eq_getElem_cons hlt]; exact congrArg _ (if_neg (by rw [hq]; decide))
     have HQ := hidE hq; clear HP hq; go_wp2
     go_quiet (fail)
     have HO1 := hidE (HO.out.drew nq); have HB1 := hidE (below_draws2 HB.out nq); clear HO HB
     go_wp2_with (first
      | (at_builtin; refine wpE_append rfl _ _ rfl W0.heap.size _ (es.take k) rfl (World.ownsRow.alloc HO1.out _) _ _ wr.heap.size 0 [⟨p, d, x⟩] 1 rfl rfl (fun _ => rfl) (ents_new _ ⟨p, d, x⟩) ?c1 ?c2 ?_)
      | fail)
     case c1 => rw [List.length_take]; simp; omega
     case c2 => simp; omega
     intro v' w4 hown' hgrow; have HB4 := hidE ((HB1.out.alloc hz3 _).grown hgrow (by simp; omega) (fun q hq => (World.ownsRow.lt HO1.out q hq).1)); have HO4 : Hid (OwnE w4 W0.heap.size v' (es.take k ++ [⟨p, d, x⟩])) := hown'; have hz4 := HB4.out.size; clear hown' hgrow HO1 HB1 b0 b1 b2 c0 c1 c2
     obtain ⟨b0, b1, b2⟩ : w4.cell? ⟨w.heap.size, 0, none⟩ = some (.string p) ∧ w4.cell? ⟨w.heap.size, 1, none⟩ = some (.bool d) ∧ w4.cell? ⟨w.heap.size, 2, none⟩ = some (.string x) := by
      have := HB4.out; rw [HW.out] at this; exact box3 this
     obtain ⟨c0, c1, c2⟩ := (HE.out.below HB4.out) k hlt; have hq := HQ.out; have hq' : ¬ (es[k].p.toList = p.toList) := by simpa using hq
     by_cases hce : cap ≤ k
     ·
      exact absurd hlt (by omega)
     ·
      have hce' : k < cap := by omega
      have hce2 : ¬ (cap - k = 0) := by omega
      go_wp2
      go_quiet (fail)
      have HO5 := hidE (HO4.out.drew nq); have HB5 := hidE (below_draws2 HB4.out nq); clear HO4 HB4
      go_wp2_with (first
       | (at_builtin; refine wpE_append rfl _ _ rfl W0.heap.size v' (es.take k ++ [⟨p, d, x⟩]) rfl HO5.out _ _ g (o + k * 3) (es.drop k) (es.length - k) (List.length_drop ..) rfl (fun _ => rfl) ?hF ?c1 ?c2 ?_)
       | fail)
      case hF => exact ents_drop (HE.out.below HB5.out) _ _ (by omega)
      case c1 => rw [List.length_append, List.length_take, List.length_drop]; simp; omega
      case c2 => exact HB5.out.size
      intro v5 w5 ho5 hg5; have HB6 := hidE (HB5.out.grown hg5 HB5.out.size (fun q hq => (World.ownsRow.lt HO5.out q hq).1))
      have HO6 : Hid (OwnE w5 W0.heap.size v5 (es.take k ++ [⟨p, d, x⟩] ++ es.drop k)) := by
       show OwnE _ _ _ _
       first | exact ho5 | simpa using ho5
      clear ho5 hg5 HO5 HB5; go_wp2
      go_ret
      exact ⟨_, rfl, by rw [HP2.out]; exact HO6.out.lower (by rw [HS0.out]; omega), HB0.out.trans (HB6.out.mono (by rw [HS0.out]; omega))⟩
  ·
   obtain ⟨S1, S2⟩ := span_at (q := ltP ⟨p, d, x⟩) es k hk HA.out (fun h => absurd h hlt); have HP2 : Hid (putE es ⟨p, d, x⟩ = es.take k ++ [⟨p, d, x⟩]) := by show _ = _; unfold putE; rw [S1, S2, List.drop_of_length_le (by omega)]; exact List.append_nil _
   clear S1 S2; have hkl : es.length ≤ k := by omega
   go_wp2
   go_quiet (fail)
   have HO1 := hidE (HO.out.drew nq); have HB1 := hidE (below_draws2 HB.out nq); clear HO HB
   go_wp2_with (first
    | (at_builtin; refine wpE_append rfl _ _ rfl W0.heap.size _ (es.take k) rfl (World.ownsRow.alloc HO1.out _) _ _ wr.heap.size 0 [⟨p, d, x⟩] 1 rfl rfl (fun _ => rfl) (ents_new _ ⟨p, d, x⟩) ?c1 ?c2 ?_)
    | fail)
   case c1 => rw [List.length_take]; simp; omega
   case c2 => simp; omega
   intro v' w4 hown' hgrow; have HB4 := hidE ((HB1.out.alloc hz3 _).grown hgrow (by simp; omega) (fun q hq => (World.ownsRow.lt HO1.out q hq).1)); have HO4 : Hid (OwnE w4 W0.heap.size v' (es.take k ++ [⟨p, d, x⟩])) := hown'; have hz4 := HB4.out.size; clear hown' hgrow HO1 HB1 b0 b1 b2; cases a with
   | none =>
    by_cases hce : cap ≤ k
    ·
     have hce' : cap = k := by omega
     have hce2 : cap - k = 0 := by omega
     go_wp2
     go_quiet (fail)
     have HO5 := hidE (HO4.out.drew nq); have HB5 := hidE (below_draws2 HB4.out nq); clear HO4 HB4
     go_wp2_with (first
      | (at_builtin; refine wpE_append rfl _ _ rfl W0.heap.size v' (es.take k ++ [⟨p, d, x⟩]) rfl HO5.out _ _ 0 0 [] (es.length - k) (by show 0 = _; omega) rfl (fun h => absurd h (by decide)) (fun i hi => absurd hi (by simp)) ?c1 ?c2 ?_)
      | (at_builtin; refine wpE_append rfl _ _ rfl W0.heap.size v' (es.take k ++ [⟨p, d, x⟩]) rfl HO5.out _ _ 0 0 [] 0 rfl rfl (fun h => absurd h (by decide)) (fun i hi => absurd hi (by simp)) ?c1 ?c2 ?_)
      | fail)
     case c1 => simp; omega
     case c2 => exact HB5.out.size
     intro v5 w5 ho5 hg5; have HB6 := hidE (HB5.out.grown hg5 HB5.out.size (fun q hq => (World.ownsRow.lt HO5.out q hq).1))
     have HO6 : Hid (OwnE w5 W0.heap.size v5 (es.take k ++ [⟨p, d, x⟩])) := by
      show OwnE _ _ _ _
      first | exact ho5 | simpa using ho5
     clear ho5 hg5 HO5 HB5; go_wp2
     go_ret
     exact ⟨_, rfl, by rw [HP2.out]; exact HO6.out.lower (by rw [HS0.out]; omega), HB0.out.trans (HB6.out.mono (by rw [HS0.out]; omega))⟩
    ·
     have hce' : k < cap := by omega
     have hce2 : ¬ (cap - k = 0) := by omega
     go_wp2
     go_quiet (fail)
     have HO5 := hidE (HO4.out.drew nq); have HB5 := hidE (below_draws2 HB4.out nq); clear HO4 HB4
     go_wp2_with (first
      | (at_builtin; refine wpE_append rfl _ _ rfl W0.heap.size v' (es.take k ++ [⟨p, d, x⟩]) rfl HO5.out _ _ 0 0 [] (es.length - k) (by show 0 = _; omega) rfl (fun h => absurd h (by decide)) (fun i hi => absurd hi (by simp)) ?c1 ?c2 ?_)
      | (at_builtin; refine wpE_append rfl _ _ rfl W0.heap.size v' (es.take k ++ [⟨p, d, x⟩]) rfl HO5.out _ _ 0 0 [] 0 rfl rfl (fun h => absurd h (by decide)) (fun i hi => absurd hi (by simp)) ?c1 ?c2 ?_)
      | fail)
     case c1 => simp; omega
     case c2 => exact HB5.out.size
     intro v5 w5 ho5 hg5; have HB6 := hidE (HB5.out.grown hg5 HB5.out.size (fun q hq => (World.ownsRow.lt HO5.out q hq).1))
     have HO6 : Hid (OwnE w5 W0.heap.size v5 (es.take k ++ [⟨p, d, x⟩])) := by
      show OwnE _ _ _ _
      first | exact ho5 | simpa using ho5
     clear ho5 hg5 HO5 HB5; go_wp2
     go_ret
     exact ⟨_, rfl, by rw [HP2.out]; exact HO6.out.lower (by rw [HS0.out]; omega), HB0.out.trans (HB6.out.mono (by rw [HS0.out]; omega))⟩
   | some ad =>
    by_cases hce : cap ≤ k
    ·
     have hce' : cap = k := by omega
     have hce2 : cap - k = 0 := by omega
     go_wp2
     go_quiet (fail)
     have HO5 := hidE (HO4.out.drew nq); have HB5 := hidE (below_draws2 HB4.out nq); clear HO4 HB4
     go_wp2_with (first
      | (at_builtin; refine wpE_append rfl _ _ rfl W0.heap.size v' (es.take k ++ [⟨p, d, x⟩]) rfl HO5.out _ _ 0 0 [] (es.length - k) (by show 0 = _; omega) rfl (fun h => absurd h (by decide)) (fun i hi => absurd hi (by simp)) ?c1 ?c2 ?_)
      | (at_builtin; refine wpE_append rfl _ _ rfl W0.heap.size v' (es.take k ++ [⟨p, d, x⟩]) rfl HO5.out _ _ 0 0 [] 0 rfl rfl (fun h => absurd h (by decide)) (fun i hi => absurd hi (by simp)) ?c1 ?c2 ?_)
      | fail)
     case c1 => simp; omega
     case c2 => exact HB5.out.size
     intro v5 w5 ho5 hg5; have HB6 := hidE (HB5.out.grown hg5 HB5.out.size (fun q hq => (World.ownsRow.lt HO5.out q hq).1))
     have HO6 : Hid (OwnE w5 W0.heap.size v5 (es.take k ++ [⟨p, d, x⟩])) := by
      show OwnE _ _ _ _
      first | exact ho5 | simpa using ho5
     clear ho5 hg5 HO5 HB5; go_wp2
     go_ret
     exact ⟨_, rfl, by rw [HP2.out]; exact HO6.out.lower (by rw [HS0.out]; omega), HB0.out.trans (HB6.out.mono (by rw [HS0.out]; omega))⟩
    ·
     have hce' : k < cap := by omega
     have hce2 : ¬ (cap - k = 0) := by omega
     go_wp2
     go_quiet (fail)
     have HO5 := hidE (HO4.out.drew nq); have HB5 := hidE (below_draws2 HB4.out nq); clear HO4 HB4
     go_wp2_with (first
      | (at_builtin; refine wpE_append rfl _ _ rfl W0.heap.size v' (es.take k ++ [⟨p, d, x⟩]) rfl HO5.out _ _ 0 0 [] (es.length - k) (by show 0 = _; omega) rfl (fun h => absurd h (by decide)) (fun i hi => absurd hi (by simp)) ?c1 ?c2 ?_)
      | (at_builtin; refine wpE_append rfl _ _ rfl W0.heap.size v' (es.take k ++ [⟨p, d, x⟩]) rfl HO5.out _ _ 0 0 [] 0 rfl rfl (fun h => absurd h (by decide)) (fun i hi => absurd hi (by simp)) ?c1 ?c2 ?_)
      | fail)
     case c1 => simp; omega
     case c2 => exact HB5.out.size
     intro v5 w5 ho5 hg5; have HB6 := hidE (HB5.out.grown hg5 HB5.out.size (fun q hq => (World.ownsRow.lt HO5.out q hq).1))
     have HO6 : Hid (OwnE w5 W0.heap.size v5 (es.take k ++ [⟨p, d, x⟩])) := by
      show OwnE _ _ _ _
      first | exact ho5 | simpa using ho5
     clear ho5 hg5 HO5 HB5; go_wp2
     go_ret
     exact ⟨_, rfl, by rw [HP2.out]; exact HO6.out.lower (by rw [HS0.out]; omega), HB0.out.trans (HB6.out.mono (by rw [HS0.out]; omega))⟩
end Go.Proofs.YteppodogghjfhaaGreatDoor
namespace Go.Proofs.YteppodogghjfhaaGreatDoor.Mk
open Go.RowKit Go.Lib
set_option maxHeartbeats 400000 in
set_option maxRecDepth 100000 in
theorem l3Find_any (w : World) (a : Option Addr) (g o cap : Nat) (es : List E) (s : ByteArray) (hl : es.length ≤ 16777216) (ha : 0 < es.length → a = some ⟨g, o, none⟩) (hE : Ents w g o es) :
  Calls Tryz.prog 116 #[.slice a es.length cap, .string s] w fun e w' => e = .returned (.int .i64 (findE es s)) ∧ w' = w := by
 have HE := hidE hE; clear hE; go_enter Tryz.func116, Tryz.ntmps116
 go_wp2
 go_loop [5] (fun i => ∃ k : Nat, k ≤ es.length ∧ i = .int .i64 k ∧ Hid (findL s (es.drop k) k = findE es s)) (fun i => es.length - (RowKit.intOf i).toNat)
 case atStart => exact ⟨0, Nat.zero_le _, rfl, rfl⟩
 case round =>
  obtain ⟨k, hk, rfl, HF⟩ := hrel; by_cases hlt : k < es.length
  ·
   obtain rfl := ha (by omega); obtain ⟨c0, c1, c2⟩ := HE.out k hlt; have HD := hidE (find_drop s es k hlt); cases hc : (es[k].p.toList == s.toList) with
   | true =>
    rw [hc] at HD; go_wp2
    go_ret
    exact ⟨ret_iE (by rw [← HF.out, HD.out]; rfl), rfl⟩
   | false =>
    rw [hc] at HD; go_wp2
    go_round
    case rel => exact ⟨k + 1, by omega, by go_num, by show _ = _; rw [← HF.out, HD.out]; rfl⟩
    case measure => simp [RowKit.intOf]; omega
  ·
   go_wp2
   go_ret
   exact ⟨ret_iE (by rw [← HF.out, List.drop_of_length_le (by omega)]; rfl), rfl⟩
set_option maxHeartbeats 400000 in
theorem l3Kind_any (w : World) (a : Option Addr) (g o cap : Nat) (es : List E) (s : ByteArray) (hl : es.length ≤ 16777216) (ha : 0 < es.length → a = some ⟨g, o, none⟩) (hE : Ents w g o es) :
  Calls Tryz.prog 82 #[.slice a es.length cap, .string s] w fun e w' => e = .returned (.int .i64 (kindM es s)) ∧ w' = w := by
 have HE := hidE hE; clear hE; have HF := hidE (fun (W : World) (hW : Ents W g o es) => l3Find_any W a g o cap es s hl ha hW); rcases findE_is es s with hf | ⟨j, hj, hf, _⟩
 ·
  rw [kind_no hf]; rw [hf] at HF; go_enter Tryz.func82, Tryz.ntmps82
  go_wp2_with (go_at_call 116; refine (HF.out _ HE.out).mono ?_; rintro e w' ⟨rfl, rfl⟩)
  go_ret
  exact ⟨rfl, rfl⟩
 ·
  rw [kind_at hj hf]; rw [hf] at HF; obtain rfl := ha (by omega); obtain ⟨c0, c1, c2⟩ := HE.out j hj; go_enter Tryz.func82, Tryz.ntmps82
  go_wp2_with (go_at_call 116; refine (HF.out _ HE.out).mono ?_; rintro e w' ⟨rfl, rfl⟩)
  go_ret
  exact ⟨rfl, rfl⟩
set_option maxHeartbeats 800000 in
set_option maxRecDepth 100000 in
theorem l3Bare_any (w : World) (a : Option Addr) (g o cap : Nat) (es : List E) (s : ByteArray) (hl : es.length ≤ 16777216) (hs : s.size ≤ 16777216) (hz : ∀ e ∈ es, e.p.size ≤ 16777216) (ha : 0 < es.length → a = some ⟨g, o, none⟩) (hE : Ents w g o es) :
  Calls Tryz.prog 142 #[.slice a es.length cap, .string s] w fun e w' => e = .returned (.bool (bareM es s)) ∧ w' = w := by
 have HE := hidE hE; have HZ := hidE hz; clear hE hz; go_enter Tryz.func142, Tryz.ntmps142
 go_wp2
 go_loop [5] (fun i => ∃ k : Nat, k ≤ es.length ∧ i = .int .i64 k ∧ Hid (bareM (es.drop k) s = bareM es s)) (fun i => es.length - (RowKit.intOf i).toNat)
 case atStart => exact ⟨0, Nat.zero_le _, rfl, rfl⟩
 case round =>
  obtain ⟨k, hk, rfl, HF⟩ := hrel; by_cases hlt : k < es.length
  ·
   obtain rfl := ha (by omega); obtain ⟨c0, c1, c2⟩ := HE.out k hlt; have HD := hidE (bare_drop es s k hlt); have hz1 := HZ.out es[k] (List.getElem_mem _); by_cases h4 : es[k].d = 4
   ·
    have h4' : (es[k].d == 4) = true := by rw [beq_iff_eq]; exact h4
    have HU := hidE (l1Under_any s es[k].p hs hz1); rw [h4'] at HD; rw [h4] at c1; cases hu : underL s es[k].p with
    | true =>
     rw [hu] at HD HU; go_wp2_with (go_at_call 166; refine (HU.out _).mono ?_; rintro e w' ⟨rfl, rfl⟩)
     go_ret
     exact ⟨ret_bE (by rw [← HF.out, HD.out]; rfl), rfl⟩
    | false =>
     rw [hu] at HD HU; go_wp2_with (go_at_call 166; refine (HU.out _).mono ?_; rintro e w' ⟨rfl, rfl⟩)
     go_round
     case rel => exact ⟨k + 1, by omega, by go_num, by show _ = _; rw [← HF.out, HD.out]; rfl⟩
     case measure => simp [RowKit.intOf]; omega
   ·
    have h4' : (es[k].d == 4) = false := by rw [beq_eq_false_iff_ne]; exact h4
    rw [h4'] at HD; go_wp2
    go_round
    case rel => exact ⟨k + 1, by omega, by go_num, by show _ = _; rw [← HF.out, HD.out]; rfl⟩
    case measure => simp [RowKit.intOf]; omega
  ·
   go_wp2
   go_ret
   exact ⟨ret_bE (by rw [← HF.out, List.drop_of_length_le (by omega)]; rfl), rfl⟩
set_option maxHeartbeats 800000 in
set_option maxRecDepth 100000 in
theorem l3In_any (w : World) (a : Option Addr) (g o cap : Nat) (es : List E) (s : ByteArray) (hl : es.length ≤ 16777216) (hs : s.size ≤ 16777216) (ha : 0 < es.length → a = some ⟨g, o, none⟩) (hE : Ents w g o es) :
  Calls Tryz.prog 141 #[.slice a es.length cap, .string s] w fun e w' => e = .returned (.bool (inM es s)) ∧ Below w.heap.size w w' := by
 have HE := hidE hE; clear hE; have hin : inM es s = (((upS s).toList == [47]) || ((kindM es (upS s) == 2) || (kindM es (upS s) == 4))) := rfl; rw [hin]; clear hin; have HKi := hidE (fun (W : World) (hW : Ents W g o es) => l3Kind_any W a g o cap es (upS s) hl ha hW); obtain ⟨kk, hkk⟩ : ∃ kk, kindM es (upS s) = kk := ⟨_, rfl⟩
 rw [hkk] at HKi ⊢; clear hkk; go_enter Tryz.func141, Tryz.ntmps141
 go_wp2_with fail
 refine (sPathUp_any s hs _).mono ?_; rintro e w1 ⟨rfl, hB1⟩; have HE1 := hidE (HE.out.below hB1); have HB1 := hidE hB1; clear hB1; go_wp2_with fail
 refine (HKi.out _ HE1.out).mono ?_; rintro e w2 ⟨rfl, rfl⟩; cases hr : ((upS s).toList == [47]) with
 | true =>
  have hr2 : (upS s).toList = [47] := by simpa using hr
  go_wp2
  go_ret
  exact ⟨ret_bE (by rw [hr]; rfl), HB1.out⟩
 | false =>
  have hr2 : ¬ (upS s).toList = [47] := by simpa using hr
  by_cases h2 : kk = 2
  ·
   subst h2; go_wp2
   go_ret
   exact ⟨ret_bE (by rw [hr]; rfl), HB1.out⟩
  ·
   have h2' : (kk == 2) = false := by rw [beq_eq_false_iff_ne]; exact h2
   go_wp2
   go_ret
   exact ⟨ret_bE (by rw [hr, h2']; rfl), HB1.out⟩
set_option maxHeartbeats 1600000 in
set_option maxRecDepth 100000 in
theorem l3Hides_any (w : World) (a : Option Addr) (g o cap : Nat) (es : List E) (s : ByteArray) (hl : es.length ≤ 16777216) (hs : s.size ≤ 16777216) (hz : ∀ e ∈ es, e.p.size ≤ 16777216) (ha : 0 < es.length → a = some ⟨g, o, none⟩) (hE : Ents w g o es) :
  Calls Tryz.prog 143 #[.slice a es.length cap, .string s] w fun e w' => e = .returned (.bool (hidesM es s)) ∧ Below w.heap.size w w' := by
 have HE := hidE hE; have HZ := hidE hz; clear hE hz; go_enter Tryz.func143, Tryz.ntmps143
 go_wp2
 go_loopw [5] (fun i wl => ∃ k : Nat, k ≤ es.length ∧ i = .int .i64 k ∧ Hid (Below w.heap.size w wl) ∧ Hid (hidesM (es.drop k) s = hidesM es s)) (fun i _ => es.length - (RowKit.intOf i).toNat)
 case atStart => exact ⟨0, Nat.zero_le _, rfl, Below.refl _ _, rfl⟩
 case round =>
  obtain ⟨k, hk, rfl, HB, HF⟩ := hrel; by_cases hlt : k < es.length
  ·
   obtain rfl := ha (by omega); obtain ⟨c0, c1, c2⟩ := (HE.out.below HB.out) k hlt; have HD := hidE (hides_drop es s k hlt); have hz1 := HZ.out es[k] (List.getElem_mem _); have HU := hidE (l1Under_any s es[k].p hs hz1); obtain ⟨u, hu⟩ : ∃ u, underL s es[k].p = u := ⟨_, rfl⟩
   have HM : Hid (hideM s es[k] = (((es[k].p.toList == s.toList) && (es[k].d != 2)) || ((es[k].d != 2) && u))) := by rw [← hu]; rfl
   rw [HM.out] at HD; rw [hu] at HU; clear hu HM; by_cases h2 : es[k].d = 2
   ·
    have h2' : (es[k].d != 2) = false := by simp [h2]
    rw [h2'] at HD; rw [h2] at c1; cases hc : (es[k].p.toList == s.toList) with
    | true =>
     rw [hc] at HD; go_wp2
     refine ⟨⟨k + 1, by omega, by go_num, HB, by show _ = _; rw [← HF.out, HD.out]; rfl⟩, ?_⟩; simp [RowKit.intOf]; omega
    | false =>
     rw [hc] at HD; go_wp2
     refine ⟨⟨k + 1, by omega, by go_num, HB, by show _ = _; rw [← HF.out, HD.out]; rfl⟩, ?_⟩; simp [RowKit.intOf]; omega
   ·
    have h2' : (es[k].d != 2) = true := by simp [h2]
    have h2n : (es[k].d == 2) = false := by rw [beq_eq_false_iff_ne]; exact h2
    rw [h2'] at HD; cases hc : (es[k].p.toList == s.toList) with
    | true =>
     rw [hc] at HD; go_wp2
     go_ret
     exact ⟨ret_bE (by rw [← HF.out, HD.out]; rfl), HB.out⟩
    | false =>
     rw [hc] at HD; cases u with
     | true =>
      go_wp2_with (go_at_call 166; refine (HU.out _).mono ?_; rintro e w' ⟨rfl, rfl⟩)
      go_ret
      exact ⟨ret_bE (by rw [← HF.out, HD.out]; rfl), HB.out⟩
     | false =>
      go_wp2_with (go_at_call 166; refine (HU.out _).mono ?_; rintro e w' ⟨rfl, rfl⟩)
      refine ⟨⟨k + 1, by omega, by go_num, HB, by show _ = _; rw [← HF.out, HD.out]; rfl⟩, ?_⟩; simp [RowKit.intOf]; omega
  ·
   go_wp2
   go_ret
   exact ⟨ret_bE (by rw [← HF.out, List.drop_of_length_le (by omega)]; rfl), HB.out⟩
open Go.Sort
theorem tBelow {a b c : World} (h : Below a.heap.size a b) (k : Below b.heap.size b c) : Below a.heap.size a c := h.trans (k.mono h.size)
theorem tCell {W W' : World} {b i : Nat} {v : Value} (hB : Below W.heap.size W W') (h : W.cell? ⟨b, i, none⟩ = some v) : W'.cell? ⟨b, i, none⟩ = some v :=
 (hB.cell (p := ⟨b, i, none⟩) (World.block_lt_of_cell? W ⟨b, i, none⟩ h)).trans h
set_option maxHeartbeats 4000000 in
set_option maxRecDepth 100000 in
theorem sLayerOk_any (w : World) (a : Option Addr) (g o cap : Nat) (es : List E) (hl : es.length ≤ 16777216) (hcap : es.length ≤ cap) (hz : ∀ e ∈ es, e.p.size ≤ 16777216 ∧ e.x.size ≤ 16777216) (ha : 0 < es.length → a = some ⟨g, o, none⟩) (hE : Ents w g o es) :
  Calls Tryz.prog 98 #[.slice a es.length cap] w fun e w' => e = .returned (.bool (layB es)) ∧ Below w.heap.size w w' := by
 have HE := hidE hE; have HZ := hidE hz; clear hE hz; go_enter Tryz.func98, Tryz.ntmps98
 go_wp2
 go_loopw [3] (fun i wl => ∃ k : Nat, k ≤ es.length ∧ i = .int .i64 k ∧ Hid (Below w.heap.size w wl) ∧ Hid ((List.range k).all (okM es) = true)) (fun i _ => es.length - (RowKit.intOf i).toNat)
 case atStart => exact ⟨0, Nat.zero_le _, rfl, Below.refl _ _, rfl⟩
 case round =>
  obtain ⟨k, hk, rfl, HB, HA⟩ := hrel; by_cases hlt : k < es.length
  ·
   obtain rfl := ha (by omega); have hB := HB.out; have HEr := hidE (HE.out.below hB); obtain ⟨c0, c1, c2⟩ := HEr.out k hlt; obtain ⟨z0, z1⟩ := HZ.out es[k] (List.getElem_mem _); have HOK := hidE (okM_is hlt); obtain ⟨p, hp⟩ : ∃ p, es[k].p = p := ⟨_, rfl⟩
   obtain ⟨d, hd⟩ : ∃ d, es[k].d = d := ⟨_, rfl⟩
   obtain ⟨x, hx⟩ : ∃ x, es[k].x = x := ⟨_, rfl⟩
   rw [hp] at c0 z0 HOK; rw [hd] at c1 HOK; rw [hx] at c2 z1 HOK; clear hp hd hx hB; obtain ⟨W0, hW0⟩ : ∃ W0, W0 = (wr.alloc (.cells #[.string p, .int .i64 d, .string x] 99)) := ⟨_, rfl⟩
   have HM0 : Hid (W0.cell? ⟨wr.heap.size, 0, none⟩ = some (.string p)) := by show _ = _; rw [hW0]; simp
   have HM1 : Hid (W0.cell? ⟨wr.heap.size, 1, none⟩ = some (.int .i64 d)) := by show _ = _; rw [hW0]; simp
   have HM2 : Hid (W0.cell? ⟨wr.heap.size, 2, none⟩ = some (.string x)) := by show _ = _; rw [hW0]; simp
   have hB0 : Below wr.heap.size wr W0 := by rw [hW0]; exact (Below.refl _ _).alloc (Nat.le_refl _) _
   have HB0 := hidE (tBelow HB.out hB0); have HE0 := hidE (HEr.out.below hB0); have HWeq := hidE hW0; clear hB0 hW0; have no : ∀ {b : Bool} {W : World}, okM es k = false → Hid (Below w.heap.size w W) → b = false → Ending.returned (.bool b) = .returned (.bool (layB es)) ∧ Below w.heap.size w W := fun h1 h2 h3 => ⟨ret_bE (h3.trans (layB_no hlt h1)), h2.out⟩; have HPk := hidE (sOk_any p (by omega)); have HDa := hidE (l2Data_any x (by omega)); by_cases d1 : d < 1
   ·
    have HBc := HB0; rw [HWeq.out] at HBc; have e1 : decide (1 ≤ d ∧ d ≤ 4) = false := decide_eq_false (by omega); go_wp2
    go_ret
    exact no (by rw [HOK.out]; rw [e1]; rfl) HBc rfl
   ·
    by_cases d4 : 4 < d
    ·
     have HBc := HB0; rw [HWeq.out] at HBc; have e1 : decide (1 ≤ d ∧ d ≤ 4) = false := decide_eq_false (by omega); go_wp2
     go_ret
     exact no (by rw [HOK.out]; rw [e1]; rfl) HBc rfl
    ·
     have e1 : decide (1 ≤ d ∧ d ≤ 4) = true := decide_eq_true (by omega); rw [e1] at HOK; go_wp2_with fail
     rw [← HWeq.out]; refine (HPk.out _).mono ?_; rintro e w1 ⟨rfl, hB⟩; have HB1 := hidE (tBelow HB0.out hB); have HE1 := hidE (HE0.out.below hB); have m0 := tCell hB HM0.out; have m1 := tCell hB HM1.out; have m2 := tCell hB HM2.out; have HA0 := hidE m0; have HA1 := hidE m1; have HA2 := hidE m2; clear hB; cases hpb : pathB p with
     | false =>
      rw [hpb] at HOK; have HBc := HB1; go_wp2
      go_ret
      exact no (by rw [HOK.out]; rfl) HBc rfl
     | true =>
      rw [hpb] at HOK; go_wp2_with fail
      refine (HDa.out _).mono ?_; rintro e w2 ⟨rfl, hw2⟩; subst hw2; have HB2 := HB1; cases hdb : dataB x with
      | false =>
       rw [hdb] at HOK; have HBc := HB2; go_wp2
       go_ret
       exact no (by rw [HOK.out]; rfl) HBc rfl
      | true =>
       rw [hdb] at HOK
       have hcd : ((d != 1) = true ∧ x.toList.isEmpty = false) ∨ (d = 1 ∨ (d ≠ 1 ∧ x.toList.isEmpty = true)) := by
        by_cases h : d = 1
        ·
         exact .inr (.inl h)
        ·
         cases he : x.toList.isEmpty with
         | true => exact .inr (.inr ⟨h, rfl⟩)
         | false => exact .inl ⟨by simp [h], rfl⟩
       rcases hcd with ⟨h1, h2⟩ | hcd
       ·
        rw [h1, h2] at HOK; have h1' : (d == 1) = false := by rw [beq_eq_false_iff_ne]; intro q; rw [q] at h1; cases h1
        have h2' : (x.toList == []) = false := by cases hx : x.toList with | nil => rw [hx] at h2; cases h2 | cons => rfl
        have h2p : ¬ x.toList = [] := by simpa using h2'
        have HBc := HB2; go_wp2
        go_ret
        exact no (by rw [HOK.out]; rfl) HBc rfl
       ·
        have HOK2 : Hid (okM es k = ((k == 0 || Op.bytesLess ((es[k - 1]?.map (·.p.toList)).getD []) p.toList) && (inM (es.take k) p && !(decide (2 < d) && bareM (es.take k) p)))) := by
         show _ = _
         rw [HOK.out]; rcases hcd with h | ⟨h, h'⟩
         ·
          rw [h]; rfl
         ·
          rw [h']; simp
        clear HOK; have HIn := hidE (fun (W : World) (hW : Ents W g o es) => l3In_any W (some ⟨g, o, none⟩) g o cap (es.take k) p (by rw [List.length_take]; omega) (by omega) (fun _ => rfl) (hW.take k)); have HBa := hidE (fun (W : World) (hW : Ents W g o es) => l3Bare_any W (some ⟨g, o, none⟩) g o cap (es.take k) p (by rw [List.length_take]; omega) (by omega) (fun e he => (HZ.out e (List.mem_of_mem_take he)).1) (fun _ => rfl) (hW.take k)); have htk : (es.take k).length = k := by rw [List.length_take]; omega
        rw [htk] at HIn HBa; clear htk; obtain ⟨bi, hbi⟩ : ∃ bi, inM (es.take k) p = bi := ⟨_, rfl⟩
        obtain ⟨bb, hbb⟩ : ∃ bb, bareM (es.take k) p = bb := ⟨_, rfl⟩
        rw [hbi] at HIn HOK2; rw [hbb] at HBa HOK2; clear hbi hbb
        have hd1 : (d = 1 ∧ (d == 1) = true) ∨ ((d == 1) = false ∧ (x.toList == []) = true ∧ x.toList = []) := by
         rcases hcd with h | ⟨h, h'⟩
         ·
          exact .inl ⟨h, by rw [beq_iff_eq]; exact h⟩
         ·
          refine .inr ⟨by rw [beq_eq_false_iff_ne]; exact h, ?_⟩; cases hx : x.toList with
          | nil => exact ⟨rfl, rfl⟩
          | cons => rw [hx] at h'; cases h'
        clear hcd; obtain ⟨dl, hdl⟩ : ∃ dl, decide (2 < d) = dl := ⟨_, rfl⟩
        rw [hdl] at HOK2; have HDl := hidE hdl; clear hdl; rcases hd1 with ⟨rfl, hd1⟩ | ⟨hd1, hxe, hxp⟩
        ·
         by_cases hk0 : k = 0
         ·
          subst hk0; have k0 := cell_regrown m0; have k1 := cell_regrown m1; have r0 := fun (d : Nat) (os : Array Obj) => Calls.regrown_of (HIn.out (grow (redrawn w2 d) os) (HE1.out.below (below_regrown w2 d os))); go_wp2
          refine wp_region_quiet_below (by kernel_rfl) (by kernel_rfl) ?_
          repeat (go_big_quiet_step (first | exact r0 _ _))
          refine wpQuiet_nil ?_; intro w3 hw'; obtain ⟨⟨dq, osq⟩, hw''⟩ := hw'; have hB : Below w2.heap.size w2 w3 := by rw [hw'']; exact below_regrown w2 dq osq
          clear hw'' r0 k0 k1; have HB3 := hidE (tBelow HB2.out hB); have HE3 := hidE (HE1.out.below hB); have q1 := tCell hB m1; have q0 := tCell hB m0; clear hB m0 m1 m2; cases bi with
          | false =>
           have HBc := HB3; go_wp2
           go_ret
           exact no (by rw [HOK2.out]; simp) HBc rfl
          | true =>
           cases dl with
           | false =>
            have hd3 := HDl.out; have k0 := cell_regrown q0; have k1 := cell_regrown q1; go_wp2
            refine wp_region_quiet_below (by kernel_rfl) (by kernel_rfl) ?_
            repeat (go_big_quiet_step (fail))
            refine wpQuiet_nil ?_; intro w4 hw'; obtain ⟨⟨dq, osq⟩, hw''⟩ := hw'; have hB : Below w3.heap.size w3 w4 := by rw [hw'']; exact below_regrown w3 dq osq
            have HB4 := hidE (tBelow HB3.out hB); clear hw'' k0 k1 hB; go_wp2
            refine ⟨⟨0 + 1, by omega, by go_num, HB4, all_range_succ _ _ HA.out (by rw [HOK2.out]; rfl)⟩, ?_⟩; simp [RowKit.intOf]; omega
           | true =>
            have hd2 : 2 < 1 := of_decide_eq_true HDl.out; exact absurd hd2 (by decide)
         ·
          obtain ⟨m, rfl⟩ : ∃ m, k = m + 1 := ⟨k - 1, by omega⟩
          have hm : m < es.length := by omega
          have hcap' : (m : Int) + 1 ≤ (cap : Int) := by omega
          have kq := (HE1.out m hm).1; rw [show m + 1 - 1 = m from rfl, List.getElem?_eq_getElem hm, Option.map_some, Option.getD_some] at HOK2; obtain ⟨q, hq⟩ : ∃ q, es[m].p = q := ⟨_, rfl⟩
          rw [hq] at kq HOK2; clear hq; have hpos : decide ((0 : Int) < (m : Int) + 1) = true := decide_eq_true (by omega); have kq' := cell_regrown kq; cases f4 : Op.bytesLess q.toList p.toList with
          | false =>
           have k0 := cell_regrown m0; have k1 := cell_regrown m1; have r0 := fun (d : Nat) (os : Array Obj) => Calls.regrown_of (HIn.out (grow (redrawn w2 d) os) (HE1.out.below (below_regrown w2 d os))); go_wp2
           refine wp_region_quiet_below (by kernel_rfl) (by kernel_rfl) ?_
           repeat (go_big_quiet_step (first | exact r0 _ _))
           refine wpQuiet_nil ?_; intro w3 hw'; obtain ⟨⟨dq, osq⟩, hw''⟩ := hw'; have hB : Below w2.heap.size w2 w3 := by rw [hw'']; exact below_regrown w2 dq osq
           clear hw'' r0 k0 k1; have HBc := hidE (tBelow HB2.out hB); go_wp2
           go_ret
           exact no (by rw [HOK2.out, f4]; simp) HBc rfl
          | true =>
           have k0 := cell_regrown m0; have k1 := cell_regrown m1; have r0 := fun (d : Nat) (os : Array Obj) => Calls.regrown_of (HIn.out (grow (redrawn w2 d) os) (HE1.out.below (below_regrown w2 d os))); go_wp2
           refine wp_region_quiet_below (by kernel_rfl) (by kernel_rfl) ?_
           repeat (go_big_quiet_step (first | exact r0 _ _))
           refine wpQuiet_nil ?_; intro w3 hw'; obtain ⟨⟨dq, osq⟩, hw''⟩ := hw'; have hB : Below w2.heap.size w2 w3 := by rw [hw'']; exact below_regrown w2 dq osq
           clear hw'' r0 k0 k1; have HB3 := hidE (tBelow HB2.out hB); have HE3 := hidE (HE1.out.below hB); have q1 := tCell hB m1; have q0 := tCell hB m0; clear hB m0 m1 m2; cases bi with
           | false =>
            have HBc := HB3; go_wp2
            go_ret
            exact no (by rw [HOK2.out]; simp) HBc rfl
           | true =>
            cases dl with
            | false =>
             have hd3 := HDl.out; have k0 := cell_regrown q0; have k1 := cell_regrown q1; go_wp2
             refine wp_region_quiet_below (by kernel_rfl) (by kernel_rfl) ?_
             repeat (go_big_quiet_step (fail))
             refine wpQuiet_nil ?_; intro w4 hw'; obtain ⟨⟨dq, osq⟩, hw''⟩ := hw'; have hB : Below w3.heap.size w3 w4 := by rw [hw'']; exact below_regrown w3 dq osq
             have HB4 := hidE (tBelow HB3.out hB); clear hw'' k0 k1 hB; go_wp2
             refine ⟨⟨m + 1 + 1, by omega, by go_num, HB4, all_range_succ _ _ HA.out (by rw [HOK2.out, f4]; rfl)⟩, ?_⟩; simp [RowKit.intOf]; omega
            | true =>
             have hd2 : 2 < 1 := of_decide_eq_true HDl.out; exact absurd hd2 (by decide)
        ·
         have hdn : ¬ d = 1 := by simpa using hd1
         have hdb2 : (d != 1) = true := by simp [hdn]
         by_cases hk0 : k = 0
         ·
          subst hk0; have k0 := cell_regrown m0; have k1 := cell_regrown m1; have r0 := fun (d : Nat) (os : Array Obj) => Calls.regrown_of (HIn.out (grow (redrawn w2 d) os) (HE1.out.below (below_regrown w2 d os))); go_wp2
          refine wp_region_quiet_below (by kernel_rfl) (by kernel_rfl) ?_
          repeat (go_big_quiet_step (first | exact r0 _ _))
          refine wpQuiet_nil ?_; intro w3 hw'; obtain ⟨⟨dq, osq⟩, hw''⟩ := hw'; have hB : Below w2.heap.size w2 w3 := by rw [hw'']; exact below_regrown w2 dq osq
          clear hw'' r0 k0 k1; have HB3 := hidE (tBelow HB2.out hB); have HE3 := hidE (HE1.out.below hB); have q1 := tCell hB m1; have q0 := tCell hB m0; clear hB m0 m1 m2; cases bi with
          | false =>
           have HBc := HB3; go_wp2
           go_ret
           exact no (by rw [HOK2.out]; simp) HBc rfl
          | true =>
           cases dl with
           | false =>
            have hd3 := HDl.out; have k0 := cell_regrown q0; have k1 := cell_regrown q1; go_wp2
            refine wp_region_quiet_below (by kernel_rfl) (by kernel_rfl) ?_
            repeat (go_big_quiet_step (fail))
            refine wpQuiet_nil ?_; intro w4 hw'; obtain ⟨⟨dq, osq⟩, hw''⟩ := hw'; have hB : Below w3.heap.size w3 w4 := by rw [hw'']; exact below_regrown w3 dq osq
            have HB4 := hidE (tBelow HB3.out hB); clear hw'' k0 k1 hB; go_wp2
            refine ⟨⟨0 + 1, by omega, by go_num, HB4, all_range_succ _ _ HA.out (by rw [HOK2.out]; rfl)⟩, ?_⟩; simp [RowKit.intOf]; omega
           | true =>
            have hd2 : 2 < d := of_decide_eq_true HDl.out; have hd3 := HDl.out; cases bb with
            | true =>
             have k0 := cell_regrown q0; have k1 := cell_regrown q1; have r1 := fun (d : Nat) (os : Array Obj) => Calls.regrown_of ((HBa.out (grow (redrawn w3 d) os) (HE3.out.below (below_regrown w3 d os))).mono fun _ _ hh => ⟨hh.1, by rw [hh.2]; exact Below.refl _ _⟩); go_wp2
             refine wp_region_quiet_below (by kernel_rfl) (by kernel_rfl) ?_
             repeat (go_big_quiet_step (exact r1 _ _))
             refine wpQuiet_nil ?_; intro w4 hw'; obtain ⟨⟨dq, osq⟩, hw''⟩ := hw'; have hB : Below w3.heap.size w3 w4 := by rw [hw'']; exact below_regrown w3 dq osq
             have HB4 := hidE (tBelow HB3.out hB); clear hw'' k0 k1 hB r1; have HBc := HB4; go_wp2
             go_ret
             exact no (by rw [HOK2.out]; simp) HBc rfl
            | false =>
             have k0 := cell_regrown q0; have k1 := cell_regrown q1; have r1 := fun (d : Nat) (os : Array Obj) => Calls.regrown_of ((HBa.out (grow (redrawn w3 d) os) (HE3.out.below (below_regrown w3 d os))).mono fun _ _ hh => ⟨hh.1, by rw [hh.2]; exact Below.refl _ _⟩); go_wp2
             refine wp_region_quiet_below (by kernel_rfl) (by kernel_rfl) ?_
             repeat (go_big_quiet_step (exact r1 _ _))
             refine wpQuiet_nil ?_; intro w4 hw'; obtain ⟨⟨dq, osq⟩, hw''⟩ := hw'; have hB : Below w3.heap.size w3 w4 := by rw [hw'']; exact below_regrown w3 dq osq
             have HB4 := hidE (tBelow HB3.out hB); clear hw'' k0 k1 hB r1; go_wp2
             refine ⟨⟨0 + 1, by omega, by go_num, HB4, all_range_succ _ _ HA.out (by rw [HOK2.out]; rfl)⟩, ?_⟩; simp [RowKit.intOf]; omega
         ·
          obtain ⟨m, rfl⟩ : ∃ m, k = m + 1 := ⟨k - 1, by omega⟩
          have hm : m < es.length := by omega
          have hcap' : (m : Int) + 1 ≤ (cap : Int) := by omega
          have kq := (HE1.out m hm).1; rw [show m + 1 - 1 = m from rfl, List.getElem?_eq_getElem hm, Option.map_some, Option.getD_some] at HOK2; obtain ⟨q, hq⟩ : ∃ q, es[m].p = q := ⟨_, rfl⟩
          rw [hq] at kq HOK2; clear hq; have hpos : decide ((0 : Int) < (m : Int) + 1) = true := decide_eq_true (by omega); have kq' := cell_regrown kq; cases f4 : Op.bytesLess q.toList p.toList with
          | false =>
           have k0 := cell_regrown m0; have k1 := cell_regrown m1; have r0 := fun (d : Nat) (os : Array Obj) => Calls.regrown_of (HIn.out (grow (redrawn w2 d) os) (HE1.out.below (below_regrown w2 d os))); go_wp2
           refine wp_region_quiet_below (by kernel_rfl) (by kernel_rfl) ?_
           repeat (go_big_quiet_step (first | exact r0 _ _))
           refine wpQuiet_nil ?_; intro w3 hw'; obtain ⟨⟨dq, osq⟩, hw''⟩ := hw'; have hB : Below w2.heap.size w2 w3 := by rw [hw'']; exact below_regrown w2 dq osq
           clear hw'' r0 k0 k1; have HBc := hidE (tBelow HB2.out hB); go_wp2
           go_ret
           exact no (by rw [HOK2.out, f4]; simp) HBc rfl
          | true =>
           have k0 := cell_regrown m0; have k1 := cell_regrown m1; have r0 := fun (d : Nat) (os : Array Obj) => Calls.regrown_of (HIn.out (grow (redrawn w2 d) os) (HE1.out.below (below_regrown w2 d os))); go_wp2
           refine wp_region_quiet_below (by kernel_rfl) (by kernel_rfl) ?_
           repeat (go_big_quiet_step (first | exact r0 _ _))
           refine wpQuiet_nil ?_; intro w3 hw'; obtain ⟨⟨dq, osq⟩, hw''⟩ := hw'; have hB : Below w2.heap.size w2 w3 := by rw [hw'']; exact below_regrown w2 dq osq
           clear hw'' r0 k0 k1; have HB3 := hidE (tBelow HB2.out hB); have HE3 := hidE (HE1.out.below hB); have q1 := tCell hB m1; have q0 := tCell hB m0; clear hB m0 m1 m2; cases bi with
           | false =>
            have HBc := HB3; go_wp2
            go_ret
            exact no (by rw [HOK2.out]; simp) HBc rfl
           | true =>
            cases dl with
            | false =>
             have hd3 := HDl.out; have k0 := cell_regrown q0; have k1 := cell_regrown q1; go_wp2
             refine wp_region_quiet_below (by kernel_rfl) (by kernel_rfl) ?_
             repeat (go_big_quiet_step (fail))
             refine wpQuiet_nil ?_; intro w4 hw'; obtain ⟨⟨dq, osq⟩, hw''⟩ := hw'; have hB : Below w3.heap.size w3 w4 := by rw [hw'']; exact below_regrown w3 dq osq
             have HB4 := hidE (tBelow HB3.out hB); clear hw'' k0 k1 hB; go_wp2
             refine ⟨⟨m + 1 + 1, by omega, by go_num, HB4, all_range_succ _ _ HA.out (by rw [HOK2.out, f4]; rfl)⟩, ?_⟩; simp [RowKit.intOf]; omega
            | true =>
             have hd2 : 2 < d := of_decide_eq_true HDl.out; have hd3 := HDl.out; cases bb with
             | true =>
              have k0 := cell_regrown q0; have k1 := cell_regrown q1; have r1 := fun (d : Nat) (os : Array Obj) => Calls.regrown_of ((HBa.out (grow (redrawn w3 d) os) (HE3.out.below (below_regrown w3 d os))).mono fun _ _ hh => ⟨hh.1, by rw [hh.2]; exact Below.refl _ _⟩); go_wp2
              refine wp_region_quiet_below (by kernel_rfl) (by kernel_rfl) ?_
              repeat (go_big_quiet_step (exact r1 _ _))
              refine wpQuiet_nil ?_; intro w4 hw'; obtain ⟨⟨dq, osq⟩, hw''⟩ := hw'; have hB : Below w3.heap.size w3 w4 := by rw [hw'']; exact below_regrown w3 dq osq
              have HB4 := hidE (tBelow HB3.out hB); clear hw'' k0 k1 hB r1; have HBc := HB4; go_wp2
              go_ret
              exact no (by rw [HOK2.out]; simp) HBc rfl
             | false =>
              have k0 := cell_regrown q0; have k1 := cell_regrown q1; have r1 := fun (d : Nat) (os : Array Obj) => Calls.regrown_of ((HBa.out (grow (redrawn w3 d) os) (HE3.out.below (below_regrown w3 d os))).mono fun _ _ hh => ⟨hh.1, by rw [hh.2]; exact Below.refl _ _⟩); go_wp2
              refine wp_region_quiet_below (by kernel_rfl) (by kernel_rfl) ?_
              repeat (go_big_quiet_step (exact r1 _ _))
              refine wpQuiet_nil ?_; intro w4 hw'; obtain ⟨⟨dq, osq⟩, hw''⟩ := hw'; have hB : Below w3.heap.size w3 w4 := by rw [hw'']; exact below_regrown w3 dq osq
              have HB4 := hidE (tBelow HB3.out hB); clear hw'' k0 k1 hB r1; go_wp2
              refine ⟨⟨m + 1 + 1, by omega, by go_num, HB4, all_range_succ _ _ HA.out (by rw [HOK2.out, f4]; rfl)⟩, ?_⟩; simp [RowKit.intOf]; omega
  ·
   have hke : k = es.length := by omega
   subst hke; have hfin : layB es = decide (es.length ≤ 32) := by unfold layB; rw [HA.out, Bool.true_and]
   by_cases h32 : es.length ≤ 32
   ·
    go_wp2
    go_ret
    exact ⟨ret_bE (by rw [hfin]; simp; omega), HB.out⟩
   ·
    go_wp2
    go_ret
    exact ⟨ret_bE (by rw [hfin]; simp; omega), HB.out⟩
end Go.Proofs.YteppodogghjfhaaGreatDoor.Mk
namespace Go.Proofs.YteppodogghjfhaaGreatDoor
open Go.RowKit Go.Lib Go.Sort
def digC (j : Nat) : UInt8 := UInt8.ofNat (48 + j % 10)
def digS (k : Nat) (out : ByteArray) : ByteArray := if _h : k = 0 then out else digS (k / 10) (⟨#[digC k]⟩ ++ out)
termination_by k
decreasing_by omega
def markS (k : Nat) : ByteArray := ⟨#[109]⟩ ++ (if k = 0 then ⟨#[48]⟩ else digS k ⟨#[]⟩)
theorem dig_step (k : Nat) (out : ByteArray) (h : 0 < k) : digS k out = digS (k / 10) (⟨#[digC k]⟩ ++ out) := by
 rw [digS, dif_neg (by omega)]
theorem dig_zero (out : ByteArray) : digS 0 out = out := by rw [digS, dif_pos rfl]
theorem conv_one (W : World) (j : Nat) : (convert 111 9 (.slice (some ⟨W.heap.size, 0, none⟩) 1 1)).run Tryz.prog (W.alloc (.cells #[.int .u8 (48 + (j : Int) % 10)] 5)) = .ok (.string ⟨#[digC j]⟩) (W.alloc (.cells #[.int .u8 (48 + (j : Int) % 10)] 5)) := by
 have h := run_convert_bytes_back (P := Tryz.prog) (W.alloc (.cells #[.int .u8 (48 + (j : Int) % 10)] 5)) 111 9 5 ⟨W.heap.size, 0, none⟩ 1 [digC j] Tryz.underlying111 Tryz.underlying5 Tryz.underlying9 (fun i hi => by
  have : i = 0 := by simpa using hi
  subst this; have hj : 48 + j % 10 < 256 := by omega
  simp [digC, Addr.add, Nat.mod_eq_of_lt hj])
 exact h
set_option maxHeartbeats 800000 in
set_option maxRecDepth 100000 in
theorem markText_any (k : Nat) (hk : 0 < k) (hk' : k ≤ 16777216) (w : World) :
  Calls Tryz.prog 49 #[.int .i64 k] w fun r w' => r = .returned (.string (markS k)) ∧ Below w.heap.size w w' := by
 go_enter Tryz.func49, Tryz.ntmps49
 go_wp2
 go_loopw [0, 3] (fun iv ov wl => ∃ (j : Nat) (out : ByteArray), iv = .int .i64 j ∧ ov = .string out ∧ out.size + j ≤ k ∧ Hid (digS j out = digS k ⟨#[]⟩) ∧ Hid (RowKit.Below w.heap.size w wl)) (fun iv _ _ => (RowKit.intOf iv).toNat)
 case atStart => exact ⟨k, ⟨#[]⟩, rfl, rfl, by show 0 + k ≤ k; omega, rfl, RowKit.Below.refl _ _⟩
 case round =>
  obtain ⟨j, out, rfl, rfl, hj, HD, HB⟩ := hrel; by_cases h0 : 0 < j
  ·
   have HD2 := hidE (dig_step j out h0); have hcv := conv_one wr j; have hz := HB.out.size; have HB2 := hidE (HB.out.alloc hz (.cells #[.int .u8 (48 + (j : Int) % 10)] 5)); clear HB; go_wp2
   go_roundw
   case rel => exact ⟨j / 10, _, by first | rfl | (congr 1) | go_num, rfl, by rw [ByteArray.size_append]; show 1 + _ + _ ≤ _; omega, by show _ = _; rw [← HD2.out, HD.out], HB2⟩
   case measure => simp [RowKit.intOf]; omega
  ·
   have HM : Hid (markS k = ⟨#[109]⟩ ++ out) := by
    have hj0 : j = 0 := by omega
    show _ = _; unfold markS; rw [if_neg (by omega), ← HD.out, hj0, dig_zero]
   clear HD; go_wp2
   go_ret
   exact ⟨ret_str' HM.out.symm, HB.out⟩
def markE (k : Nat) : E := ⟨markS k, (((k : Int) + 1) % 3 == 0), markS (k + 2)⟩
def markEs (n k : Nat) : List E := (List.range n).map (fun i => markE (k + i * 3))
def But (g : Nat) (w w' : World) : Prop := w'.os = w.os ∧ w'.tape = w.tape ∧ w'.output = w.output ∧ w.heap.size ≤ w'.heap.size ∧ ∀ b, b < w.heap.size → b ≠ g → w'.heap[b]? = w.heap[b]?
theorem But.refl (g : Nat) (w : World) : But g w w := ⟨rfl, rfl, rfl, Nat.le_refl _, fun _ _ _ => rfl⟩
theorem But.trans {r : Nat} {a b c : World} (h : But r a b) (k : But r b c) : But r a c :=
 ⟨k.1.trans h.1, k.2.1.trans h.2.1, k.2.2.1.trans h.2.2.1, Nat.le_trans h.2.2.2.1 k.2.2.2.1, fun x hx hr => (k.2.2.2.2 x (Nat.lt_of_lt_of_le hx h.2.2.2.1) hr).trans (h.2.2.2.2 x hx hr)⟩
theorem But.of_below {r : Nat} {w w' : World} (h : RowKit.Below w.heap.size w w') : But r w w' := ⟨h.os, h.tape, h.output, h.size, fun b hb _ => h.block b hb⟩
theorem But.set (r : Nat) (w : World) (i : Nat) (v : Value) : But r w (w.setCell ⟨r, i, none⟩ v) := by
 have h : RowKit.Below r w (w.setCell ⟨r, i, none⟩ v) := (RowKit.Below.refl r w).setCell (p := ⟨r, i, none⟩) (Nat.le_refl _) v; exact ⟨h.os, h.tape, h.output, h.size, fun b hb hne => Below.heap_setCell w ⟨r, i, none⟩ v b hne⟩
theorem ents_set {w : World} {g : Nat} {es : List E} (h : Ents w g 0 es) (i : Nat) (hi : es.length * 3 ≤ i) (v : Value) : Ents (w.setCell ⟨g, i, none⟩ v) g 0 es := by
 intro j hj; obtain ⟨c0, c1, c2⟩ := h j hj; exact ⟨(cell_ne w g i _ v (by omega)).trans c0, (cell_ne w g i _ v (by omega)).trans c1, (cell_ne w g i _ v (by omega)).trans c2⟩
theorem ents_snoc {w : World} {g : Nat} {es : List E} {e : E} (h : Ents w g 0 es) (c0 : w.cell? ⟨g, es.length * 3, none⟩ = some (.string e.p)) (c1 : w.cell? ⟨g, es.length * 3 + 1, none⟩ = some (.bool e.d)) (c2 : w.cell? ⟨g, es.length * 3 + 2, none⟩ = some (.string e.x)) : Ents w g 0 (es ++ [e]) := by
 intro j hj; by_cases hlt : j < es.length
 ·
  rw [List.getElem_append_left hlt]; exact h j hlt
 ·
  have : j = es.length := by simp at hj; omega
  subst this; simp only [Nat.zero_add]; rw [List.getElem_append_right (Nat.le_refl _)]
  simpa using ⟨c0, c1, c2⟩
theorem marks_len (n k : Nat) : (markEs n k).length = n := by unfold markEs; simp
theorem marks_succ (n k : Nat) : markEs (n + 1) k = markEs n k ++ [markE (k + n * 3)] := by unfold markEs; rw [List.range_succ, List.map_append]; rfl
set_option maxHeartbeats 1600000 in
set_option maxRecDepth 100000 in
theorem markEntS_big (w : World) (a : Option Addr) (g cap n k : Nat) (hn : n ≤ 1048576) (hk : 0 < k) (hk' : k ≤ 8388608) (ha : 0 < n → a = some ⟨g, 0, none⟩) (hR : Room w g (n * 3)) (hg : 0 < n → g < w.heap.size) :
  Calls Tryz.prog 18 #[.slice a n cap, .int .i64 k] w fun r w' => r = .returned (.int .i64 ((k + n * 3 : Nat) : Int)) ∧ Ents w' g 0 (markEs n k) ∧ Room w' g (n * 3) ∧ But g w w' := by
 go_enter Tryz.func18, Tryz.ntmps18
 go_wp2
 have HR := hidE hR; clear hR
 go_loopw [1, 5] (fun kv iv wl => ∃ j : Nat, j ≤ n ∧ iv = .int .i64 j ∧ kv = .int .i64 ((k + j * 3 : Nat) : Int) ∧ Hid (Ents wl g 0 (markEs j k)) ∧ Hid (Room wl g (n * 3)) ∧ Hid (But g w wl)) (fun _ iv _ => n - (RowKit.intOf iv).toNat)
 case atStart => exact ⟨0, Nat.zero_le _, rfl, rfl, fun i hi => absurd hi (by simp [markEs]), HR, But.refl _ _⟩
 case round =>
  clear HR; obtain ⟨j, hj, rfl, rfl, HM, HR, HB⟩ := hrel; obtain ⟨m, hm⟩ : ∃ m, k + j * 3 = m := ⟨_, rfl⟩
  have hm0 : 0 < m := by omega
  have hm1 : m ≤ 12582912 := by omega
  have HMm := hidE hm; rw [hm]; clear hm; by_cases hlt : j < n
  ·
   obtain rfl := ha (by omega); obtain ⟨⟨v0, e0⟩, f0⟩ := HR.out (j * 3) (by omega); obtain ⟨⟨v1, e1⟩, f1⟩ := HR.out (j * 3 + 1) (by omega); obtain ⟨⟨v2, e2⟩, f2⟩ := HR.out (j * 3 + 2) (by omega); go_wp2_with fail
   refine (markText_any m hm0 (by omega) _).mono ?_; rintro e w1 ⟨rfl, hB1⟩; clear e0 e1 e2 f0 f1 f2; have HR1 := hidE (HR.out.below hB1); obtain ⟨⟨v0, e0⟩, f0⟩ := HR1.out (j * 3) (by omega); obtain ⟨⟨v1, e1⟩, f1⟩ := HR1.out (j * 3 + 1) (by omega); obtain ⟨⟨v2, e2⟩, f2⟩ := HR1.out (j * 3 + 2) (by omega); have HT := hidE (fun W => markText_any (m + 2) (by omega) (by omega) W); rw [show ((m + 2 : Nat) : Int) = (m : Int) + 1 + 1 from by omega] at HT; have HM1 := hidE (ents_set (ents_set (HM.out.below hB1) (j * 3) (by rw [marks_len]; omega) (.string (markS m))) (j * 3 + 1) (by rw [marks_len]; omega) (.bool (((m : Int) + 1) % 3 == 0))); have HR2 := hidE ((HR1.out.set g (j * 3) (.string (markS m))).set g (j * 3 + 1) (.bool (((m : Int) + 1) % 3 == 0))); have HB1 := hidE (HB.out.trans ((But.of_below hB1).trans ((But.set g w1 (j * 3) (.string (markS m))).trans (But.set g _ (j * 3 + 1) (.bool (((m : Int) + 1) % 3 == 0)))))); have HC0 := hidE ((cell_ne (w1.setCell ⟨g, j * 3, none⟩ (.string (markS m))) g (j * 3 + 1) (j * 3) (.bool (((m : Int) + 1) % 3 == 0)) (by omega)).trans (cell_eq _ e0)); have HC1 := hidE (cell_eq (.bool (((m : Int) + 1) % 3 == 0)) ((cell_ne w1 g (j * 3) (j * 3 + 1) (.string (markS m)) (by omega)).trans e1)); clear hB1 HM HR HB HR1; go_wp2_with fail
   refine (HT.out _).mono ?_; rintro e w2 ⟨rfl, hB2⟩; have HM2 := hidE (HM1.out.below hB2); have HR3 := hidE (HR2.out.below hB2); have HB2 := hidE (HB1.out.trans (But.of_below hB2)); have HC0' := hidE ((hB2.cell (p := ⟨g, j * 3, none⟩) (World.block_lt_of_cell? _ _ HC0.out)).trans HC0.out); have HC1' := hidE ((hB2.cell (p := ⟨g, j * 3 + 1, none⟩) (World.block_lt_of_cell? _ _ HC1.out)).trans HC1.out); clear e0 e1 e2 f0 f1 f2 hB2 HM1 HR2 HB1 HC0 HC1; obtain ⟨⟨v2, e2⟩, f2⟩ := HR3.out (j * 3 + 2) (by omega)
   have HM3 : Hid (Ents (w2.setCell ⟨g, j * 3 + 2, none⟩ (.string (markS (m + 2)))) g 0 (markEs (j + 1) k)) := by
    rw [marks_succ]; have hl := marks_len j k; refine ents_snoc (ents_set HM2.out _ (by rw [hl]; omega) _) ?_ ?_ ?_
    ·
     rw [hl, HMm.out]; exact (cell_ne w2 g (j * 3 + 2) (j * 3) _ (by omega)).trans HC0'.out
    ·
     rw [hl, HMm.out]; exact (cell_ne w2 g (j * 3 + 2) (j * 3 + 1) _ (by omega)).trans HC1'.out
    ·
     rw [hl, HMm.out]; exact cell_eq _ e2
   have HR4 := hidE (HR3.out.set g (j * 3 + 2) (.string (markS (m + 2)))); have HB4 := hidE (HB2.out.trans (But.set g w2 (j * 3 + 2) (.string (markS (m + 2))))); clear HM2 HR3 HB2 HC0' HC1'; go_wp2
   go_roundw
   case rel => exact ⟨j + 1, by omega, by go_num, by have := HMm.out; congr 1; omega, HM3, HR4, HB4⟩
   case measure => simp [RowKit.intOf]; omega
  ·
   go_wp2
   go_ret
   have hjn : j = n := by omega
   subst hjn; exact ⟨ret_iE (by rw [HMm.out]), HM.out, HR.out, HB.out⟩
theorem markEntS_any (w : World) (a : Option Addr) (g cap n k : Nat) (hn : n ≤ 1048576) (hk : 0 < k) (hk' : k ≤ 4194304) (ha : 0 < n → a = some ⟨g, 0, none⟩) (hR : Room w g (n * 3)) (hg : 0 < n → g < w.heap.size) :
  Calls Tryz.prog 18 #[.slice a n cap, .int .i64 k] w fun r w' => r = .returned (.int .i64 ((k + n * 3 : Nat) : Int)) ∧ Ents w' g 0 (markEs n k) ∧ Room w' g (n * 3) ∧ But g w w' :=
 markEntS_big w a g cap n k hn hk (by omega) ha hR hg
theorem But.belowE {r n : Nat} {w w0 w' : World} (h : But r w w') (hB : Below n w0 w) (hn : n ≤ w.heap.size) (hr : n ≤ r) : Below n w0 w' :=
 hB.trans ⟨h.1, h.2.1, h.2.2.1, h.2.2.2.1, fun k hk => h.2.2.2.2 k (by omega) (by omega)⟩
theorem row_entsE {w : World} {base : Nat} {v : Value} {es : List E} (h : OwnE w base v es) :
  ∃ a g cap, v = .slice a es.length cap ∧ (0 < es.length → a = some ⟨g, 0, none⟩) ∧ Ents w g 0 es ∧ Room w g (es.length * 3) ∧ base ≤ g := by
 have hc := fun (g : Nat) (hg : v.ownBlock = some g) => World.ownsRow.cells h hg; obtain ⟨_, ⟨rfl, e0⟩ | ⟨g, cap, cur, rfl, hb, hg, hcap, _, hsz, _⟩⟩ := h
 ·
  exact ⟨none, base, 0, by rw [e0], fun h => by omega, fun i hi => by omega, fun i hi => by omega, Nat.le_refl _⟩
 ·
  refine ⟨_, g, cap, rfl, fun _ => rfl, fun i hi => ?_, fun i hi => ⟨?_, ?_⟩, hb⟩
  ·
   obtain ⟨q0, q1, q2⟩ := rowE_at es i hi; refine ⟨?_, ?_, ?_⟩
   ·
    have := hc g rfl _ _ q0; rw [add0] at this; exact this
   ·
    have := hc g rfl _ _ q1; rw [add0, ← Nat.add_assoc] at this; exact this
   ·
    have := hc g rfl _ _ q2; rw [add0, ← Nat.add_assoc] at this; exact this
  ·
   have hi' : i < (rowE es).length := by rw [rowE_len]; exact hi
   have := hc g rfl i _ (List.getElem?_eq_getElem hi'); rw [add0, Nat.zero_add] at this; exact ⟨_, this⟩
  ·
   unfold World.frozen?; rw [hg]; simp
end Go.Proofs.YteppodogghjfhaaGreatDoor
namespace Go.Proofs.YteppodogghjfhaaGreatDoor.Mk
open Go.RowKit Go.Lib Go.Sort
def markE (k : Nat) : E := ⟨markS k, ((k : Int) + 1), markS (k + 2)⟩
def markEs (n k : Nat) : List E := (List.range n).map (fun i => markE (k + i * 3))
def But (g : Nat) (w w' : World) : Prop := w'.os = w.os ∧ w'.tape = w.tape ∧ w'.output = w.output ∧ w.heap.size ≤ w'.heap.size ∧ ∀ b, b < w.heap.size → b ≠ g → w'.heap[b]? = w.heap[b]?
theorem But.refl (g : Nat) (w : World) : But g w w := ⟨rfl, rfl, rfl, Nat.le_refl _, fun _ _ _ => rfl⟩
theorem But.trans {r : Nat} {a b c : World} (h : But r a b) (k : But r b c) : But r a c :=
 ⟨k.1.trans h.1, k.2.1.trans h.2.1, k.2.2.1.trans h.2.2.1, Nat.le_trans h.2.2.2.1 k.2.2.2.1, fun x hx hr => (k.2.2.2.2 x (Nat.lt_of_lt_of_le hx h.2.2.2.1) hr).trans (h.2.2.2.2 x hx hr)⟩
theorem But.of_below {r : Nat} {w w' : World} (h : RowKit.Below w.heap.size w w') : But r w w' := ⟨h.os, h.tape, h.output, h.size, fun b hb _ => h.block b hb⟩
theorem But.set (r : Nat) (w : World) (i : Nat) (v : Value) : But r w (w.setCell ⟨r, i, none⟩ v) := by
 have h : RowKit.Below r w (w.setCell ⟨r, i, none⟩ v) := (RowKit.Below.refl r w).setCell (p := ⟨r, i, none⟩) (Nat.le_refl _) v; exact ⟨h.os, h.tape, h.output, h.size, fun b hb hne => Below.heap_setCell w ⟨r, i, none⟩ v b hne⟩
theorem ents_set {w : World} {g : Nat} {es : List E} (h : Ents w g 0 es) (i : Nat) (hi : es.length * 3 ≤ i) (v : Value) : Ents (w.setCell ⟨g, i, none⟩ v) g 0 es := by
 intro j hj; obtain ⟨c0, c1, c2⟩ := h j hj; exact ⟨(cell_ne w g i _ v (by omega)).trans c0, (cell_ne w g i _ v (by omega)).trans c1, (cell_ne w g i _ v (by omega)).trans c2⟩
theorem ents_snoc {w : World} {g : Nat} {es : List E} {e : E} (h : Ents w g 0 es) (c0 : w.cell? ⟨g, es.length * 3, none⟩ = some (.string e.p)) (c1 : w.cell? ⟨g, es.length * 3 + 1, none⟩ = some (.int .i64 e.d)) (c2 : w.cell? ⟨g, es.length * 3 + 2, none⟩ = some (.string e.x)) : Ents w g 0 (es ++ [e]) := by
 intro j hj; by_cases hlt : j < es.length
 ·
  rw [List.getElem_append_left hlt]; exact h j hlt
 ·
  have : j = es.length := by simp at hj; omega
  subst this; simp only [Nat.zero_add]; rw [List.getElem_append_right (Nat.le_refl _)]
  simpa using ⟨c0, c1, c2⟩
theorem marks_len (n k : Nat) : (markEs n k).length = n := by unfold markEs; simp
theorem marks_succ (n k : Nat) : markEs (n + 1) k = markEs n k ++ [markE (k + n * 3)] := by unfold markEs; rw [List.range_succ, List.map_append]; rfl
set_option maxHeartbeats 1600000 in
set_option maxRecDepth 100000 in
theorem markEntS_any (w : World) (a : Option Addr) (g cap n k : Nat) (hn : n ≤ 1048576) (hk : 0 < k) (hk' : k ≤ 4194304) (ha : 0 < n → a = some ⟨g, 0, none⟩) (hR : Room w g (n * 3)) (hg : 0 < n → g < w.heap.size) :
  Calls Tryz.prog 48 #[.slice a n cap, .int .i64 k] w fun r w' => r = .returned (.int .i64 ((k + n * 3 : Nat) : Int)) ∧ Ents w' g 0 (markEs n k) ∧ Room w' g (n * 3) ∧ But g w w' := by
 go_enter Tryz.func48, Tryz.ntmps48
 go_wp2
 have HR := hidE hR; clear hR
 go_loopw [1, 5] (fun kv iv wl => ∃ j : Nat, j ≤ n ∧ iv = .int .i64 j ∧ kv = .int .i64 ((k + j * 3 : Nat) : Int) ∧ Hid (Ents wl g 0 (markEs j k)) ∧ Hid (Room wl g (n * 3)) ∧ Hid (But g w wl)) (fun _ iv _ => n - (RowKit.intOf iv).toNat)
 case atStart => exact ⟨0, Nat.zero_le _, rfl, rfl, fun i hi => absurd hi (by simp [markEs]), HR, But.refl _ _⟩
 case round =>
  clear HR; obtain ⟨j, hj, rfl, rfl, HM, HR, HB⟩ := hrel; obtain ⟨m, hm⟩ : ∃ m, k + j * 3 = m := ⟨_, rfl⟩
  have hm0 : 0 < m := by omega
  have hm1 : m ≤ 8388608 := by omega
  have HMm := hidE hm; rw [hm]; clear hm; by_cases hlt : j < n
  ·
   obtain rfl := ha (by omega); obtain ⟨⟨v0, e0⟩, f0⟩ := HR.out (j * 3) (by omega); obtain ⟨⟨v1, e1⟩, f1⟩ := HR.out (j * 3 + 1) (by omega); obtain ⟨⟨v2, e2⟩, f2⟩ := HR.out (j * 3 + 2) (by omega); go_wp2_with fail
   refine (markText_any m hm0 (by omega) _).mono ?_; rintro e w1 ⟨rfl, hB1⟩; clear e0 e1 e2 f0 f1 f2; have HR1 := hidE (HR.out.below hB1); obtain ⟨⟨v0, e0⟩, f0⟩ := HR1.out (j * 3) (by omega); obtain ⟨⟨v1, e1⟩, f1⟩ := HR1.out (j * 3 + 1) (by omega); obtain ⟨⟨v2, e2⟩, f2⟩ := HR1.out (j * 3 + 2) (by omega); have HT := hidE (fun W => markText_any (m + 2) (by omega) (by omega) W); rw [show ((m + 2 : Nat) : Int) = (m : Int) + 1 + 1 from by omega] at HT; have HM1 := hidE (ents_set (ents_set (HM.out.below hB1) (j * 3) (by rw [marks_len]; omega) (.string (markS m))) (j * 3 + 1) (by rw [marks_len]; omega) (.int .i64 ((m : Int) + 1))); have HR2 := hidE ((HR1.out.set g (j * 3) (.string (markS m))).set g (j * 3 + 1) (.int .i64 ((m : Int) + 1))); have HB1 := hidE (HB.out.trans ((But.of_below hB1).trans ((But.set g w1 (j * 3) (.string (markS m))).trans (But.set g _ (j * 3 + 1) (.int .i64 ((m : Int) + 1)))))); have HC0 := hidE ((cell_ne (w1.setCell ⟨g, j * 3, none⟩ (.string (markS m))) g (j * 3 + 1) (j * 3) (.int .i64 ((m : Int) + 1)) (by omega)).trans (cell_eq _ e0)); have HC1 := hidE (cell_eq (.int .i64 ((m : Int) + 1)) ((cell_ne w1 g (j * 3) (j * 3 + 1) (.string (markS m)) (by omega)).trans e1)); clear hB1 HM HR HB HR1; go_wp2_with fail
   refine (HT.out _).mono ?_; rintro e w2 ⟨rfl, hB2⟩; have HM2 := hidE (HM1.out.below hB2); have HR3 := hidE (HR2.out.below hB2); have HB2 := hidE (HB1.out.trans (But.of_below hB2)); have HC0' := hidE ((hB2.cell (p := ⟨g, j * 3, none⟩) (World.block_lt_of_cell? _ _ HC0.out)).trans HC0.out); have HC1' := hidE ((hB2.cell (p := ⟨g, j * 3 + 1, none⟩) (World.block_lt_of_cell? _ _ HC1.out)).trans HC1.out); clear e0 e1 e2 f0 f1 f2 hB2 HM1 HR2 HB1 HC0 HC1; obtain ⟨⟨v2, e2⟩, f2⟩ := HR3.out (j * 3 + 2) (by omega)
   have HM3 : Hid (Ents (w2.setCell ⟨g, j * 3 + 2, none⟩ (.string (markS (m + 2)))) g 0 (markEs (j + 1) k)) := by
    rw [marks_succ]; have hl := marks_len j k; refine ents_snoc (ents_set HM2.out _ (by rw [hl]; omega) _) ?_ ?_ ?_
    ·
     rw [hl, HMm.out]; exact (cell_ne w2 g (j * 3 + 2) (j * 3) _ (by omega)).trans HC0'.out
    ·
     rw [hl, HMm.out]; exact (cell_ne w2 g (j * 3 + 2) (j * 3 + 1) _ (by omega)).trans HC1'.out
    ·
     rw [hl, HMm.out]; exact cell_eq _ e2
   have HR4 := hidE (HR3.out.set g (j * 3 + 2) (.string (markS (m + 2)))); have HB4 := hidE (HB2.out.trans (But.set g w2 (j * 3 + 2) (.string (markS (m + 2))))); clear HM2 HR3 HB2 HC0' HC1'; go_wp2
   go_roundw
   case rel => exact ⟨j + 1, by omega, by go_num, by have := HMm.out; congr 1; omega, HM3, HR4, HB4⟩
   case measure => simp [RowKit.intOf]; omega
  ·
   go_wp2
   go_ret
   have hjn : j = n := by omega
   subst hjn; exact ⟨ret_iE (by rw [HMm.out]), HM.out, HR.out, HB.out⟩
theorem But.belowE {r n : Nat} {w w0 w' : World} (h : But r w w') (hB : Below n w0 w) (hn : n ≤ w.heap.size) (hr : n ≤ r) : Below n w0 w' :=
 hB.trans ⟨h.1, h.2.1, h.2.2.1, h.2.2.2.1, fun k hk => h.2.2.2.2 k (by omega) (by omega)⟩
theorem row_entsE {w : World} {base : Nat} {v : Value} {es : List E} (h : OwnE w base v es) :
  ∃ a g cap, v = .slice a es.length cap ∧ (0 < es.length → a = some ⟨g, 0, none⟩) ∧ Ents w g 0 es ∧ Room w g (es.length * 3) ∧ base ≤ g := by
 have hc := fun (g : Nat) (hg : v.ownBlock = some g) => World.ownsRow.cells h hg; obtain ⟨_, ⟨rfl, e0⟩ | ⟨g, cap, cur, rfl, hb, hg, hcap, _, hsz, _⟩⟩ := h
 ·
  exact ⟨none, base, 0, by rw [e0], fun h => by omega, fun i hi => by omega, fun i hi => by omega, Nat.le_refl _⟩
 ·
  refine ⟨_, g, cap, rfl, fun _ => rfl, fun i hi => ?_, fun i hi => ⟨?_, ?_⟩, hb⟩
  ·
   obtain ⟨q0, q1, q2⟩ := rowE_at es i hi; refine ⟨?_, ?_, ?_⟩
   ·
    have := hc g rfl _ _ q0; rw [add0] at this; exact this
   ·
    have := hc g rfl _ _ q1; rw [add0, ← Nat.add_assoc] at this; exact this
   ·
    have := hc g rfl _ _ q2; rw [add0, ← Nat.add_assoc] at this; exact this
  ·
   have hi' : i < (rowE es).length := by rw [rowE_len]; exact hi
   have := hc g rfl i _ (List.getElem?_eq_getElem hi'); rw [add0, Nat.zero_add] at this; exact ⟨_, this⟩
  ·
   unfold World.frozen?; rw [hg]; simp
end Go.Proofs.YteppodogghjfhaaGreatDoor.Mk
namespace Go.Proofs.YteppodogghjfhaaGreatDoor
open Go.RowKit Go.Lib
set_option maxHeartbeats 400000 in
theorem l2Get_any (w : World) (a : Option Addr) (g o cap : Nat) (es : List E) (s : ByteArray) (hl : es.length ≤ 16777216) (ha : 0 < es.length → a = some ⟨g, o, none⟩) (hE : Ents w g o es) :
  Calls Tryz.prog 50 #[.slice a es.length cap, .string s] w fun r w' => r = .returned (.tuple #[encE (getE es s).1, .bool (getE es s).2]) ∧ Below w.heap.size w w' := by
 have hb : Below w.heap.size w (w.alloc (.cells #[.string ⟨#[]⟩, .bool false, .string ⟨#[]⟩] 43)) := (Below.refl _ w).alloc (Nat.le_refl _) _; have HE := hidE (hE.below hb); have HF := hidE (fun (W : World) (hW : Ents W g o es) => l2Find_any W a g o cap es s hl ha hW); clear hE hb; cases hr : (s.toList == [47]) with
 | true =>
  rw [getE_root hr]; go_enter Tryz.func50, Tryz.ntmps50
  go_wp2
  exact bodyPost_ret (v := .tuple #[encE rootE, .bool true]) (by simp [results, Tryz.results50, go_sem, rootE]) rfl ⟨rfl, (Below.refl _ w).alloc (Nat.le_refl _) _⟩
 | false =>
  rcases findE_is es s with hf | ⟨j, hj, hf, _⟩
  ·
   rw [getE_no hr hf]; rw [hf] at HF; go_enter Tryz.func50, Tryz.ntmps50
   go_wp2_with (go_at_call 81; refine (HF.out _ HE.out).mono ?_; rintro e w' ⟨rfl, rfl⟩)
   exact bodyPost_ret (v := .tuple #[encE noneE, .bool false]) (by simp [results, Tryz.results50, go_sem, noneE]) rfl ⟨rfl, (Below.refl _ w).alloc (Nat.le_refl _) _⟩
  ·
   rw [getE_at hr hj hf]; rw [hf] at HF; obtain rfl := ha (by omega); obtain ⟨c0, c1, c2⟩ := HE.out j hj; go_enter Tryz.func50, Tryz.ntmps50
   go_wp2_with (go_at_call 81; refine (HF.out _ HE.out).mono ?_; rintro e w' ⟨rfl, rfl⟩)
   exact bodyPost_ret (v := .tuple #[encE es[j], .bool true]) (by simp [results, Tryz.results50, go_sem]) rfl ⟨rfl, (Below.refl _ w).alloc (Nat.le_refl _) _⟩
attribute [local go_sem] eq_ent guard_ent
def Lies (w : World) (v : Value) (es : List E) : Prop := ∃ b g o c, v = .slice b es.length c ∧ (0 < es.length → b = some ⟨g, o, none⟩) ∧ Ents w g o es ∧ es.length ≤ c
theorem OwnE.lies {w : World} {base : Nat} {v : Value} {es : List E} (h : OwnE w base v es) : Lies w v es := by
 obtain ⟨a, g, cap, e, ha, hE, hc⟩ := h.ents; exact ⟨a, g, 0, cap, e, ha, hE, hc⟩
theorem rowlow {w : World} {base base' : Nat} {e : TypeId} {size : Nat} {v : Value} {n : Nat} {xs : List Value} (h : w.ownsRow base e size v n xs) (hb : base' ≤ base) : w.ownsRow base' e size v n xs := by
 obtain ⟨h1, h2 | ⟨g, cap, cur, e1, e2, e3⟩⟩ := h
 ·
  exact ⟨h1, .inl h2⟩
 ·
  exact ⟨h1, .inr ⟨g, cap, cur, e1, Nat.le_trans hb e2, e3⟩⟩
theorem rowkeep {w w' : World} {base : Nat} {e : TypeId} {size : Nat} {v : Value} {n : Nat} {xs : List Value} (h : w.ownsRow base e size v n xs) (hb : Below w.heap.size w w') : w'.ownsRow base e size v n xs :=
 h.kept (row := none) ⟨hb.os, hb.tape, hb.output, hb.size, fun b hb' _ => hb.block b hb'⟩ (by
  cases hob : v.ownBlock with
  | none => exact .inl rfl
  | some q => exact .inr (by simp))
theorem boxT {w w' : World} {a b c : Value} {T : TypeId} (h : Below (w.alloc (.cells #[a, b, c] T)).heap.size (w.alloc (.cells #[a, b, c] T)) w') :
  w'.cell? ⟨w.heap.size, 0, none⟩ = some a ∧ w'.cell? ⟨w.heap.size, 1, none⟩ = some b ∧ w'.cell? ⟨w.heap.size, 2, none⟩ = some c := box3 h
set_option maxHeartbeats 4000000 in
set_option maxRecDepth 100000 in
theorem l2Turned_any (w : World) (a : Option Addr) (g o cap : Nat) (es : List E) (a' : Option Addr) (g' o' cap' : Nat) (fs : List E) (hl : es.length ≤ 65536) (hl' : fs.length ≤ 65536) (hcap : es.length ≤ cap) (ha : 0 < es.length → a = some ⟨g, o, none⟩) (ha' : 0 < fs.length → a' = some ⟨g', o', none⟩) (hE : Ents w g o es) (hF : Ents w g' o' fs) :
  Calls Tryz.prog 68 #[.slice a es.length cap, .slice a' fs.length cap'] w fun r w' => ∃ v, r = .returned v ∧ w'.ownsRow w.heap.size 9 1 v (turnE es fs).length ((turnE es fs).map Value.string) ∧ Below w.heap.size w w' := by
 obtain ⟨i0, hi, hzz0, hzz1, hzz2⟩ := info_parts Tryz.infoS; have HE := hidE hE; have HF := hidE hF; clear hE hF; go_enter Tryz.func68, Tryz.ntmps68
 go_wp2
 go_loopw [5, 6] (fun v iv wl => ∃ k : Nat, k ≤ fs.length ∧ iv = .int .i64 k ∧ Hid (Lies wl v (bothE es (fs.take k))) ∧ Hid (Below w.heap.size w wl)) (fun _ iv _ => fs.length - (RowKit.intOf iv).toNat)
 case atStart => exact ⟨0, Nat.zero_le _, rfl, ⟨_, _, _, _, rfl, ha, HE.out, hcap⟩, Below.refl _ _⟩
 case round =>
  obtain ⟨k, hk, rfl, HL, HB⟩ := hrel; by_cases hlt : k < fs.length
  ·
   obtain rfl := ha' (by omega); obtain ⟨c0, c1, c2⟩ := (HF.out.below HB.out) k hlt; have HK := hidE (both_succ es fs k hlt); have hlen := both_len es fs k hk; obtain ⟨pre, hpre⟩ : ∃ pre, bothE es (fs.take k) = pre := ⟨_, rfl⟩
   rw [hpre] at HL HK hlen; clear hpre; obtain ⟨b, gb, ob, cb, rfl, hb, hLB, hcb⟩ := HL.out; have HLB := hidE hLB; clear hLB HL; go_wp2_with fail
   refine (l2Put_any _ b gb ob cb pre fs[k].p fs[k].d fs[k].x (by omega) hcb hb HLB.out).mono ?_; rintro e w4 ⟨v, rfl, ho4, hB4⟩; have HB5 := hidE (HB.out.trans (hB4.mono HB.out.size)); have HL5 := hidE ho4.lies; clear ho4 hB4 HB; go_wp2
   go_roundw
   case rel => exact ⟨k + 1, by omega, by go_num, by rw [HK.out]; exact HL5, HB5⟩
   case measure => simp [RowKit.intOf]; omega
  ·
   have HT : Hid (bothE es fs = bothE es (fs.take k)) := by show _ = _; rw [List.take_of_length_le (by omega)]
   have hlen := both_len es fs k hk; rw [← HT.out] at HL hlen; have HX : Hid (turnE es fs = turnL es fs (bothE es fs)) := show _ = _ from rfl; obtain ⟨bs, hbs⟩ : ∃ bs, bothE es fs = bs := ⟨_, rfl⟩
   rw [hbs] at HL hlen HX; clear HT hbs; obtain ⟨b, gb, ob, cb, rfl, hb, hLB, hcb⟩ := HL.out; have HLB := hidE hLB; have hz0 := HB.out.size; clear hLB HL; go_wp2
   obtain ⟨W1, rfl⟩ : ∃ W1, W1 = wr := ⟨wr, rfl⟩
   go_loopw [7, 8] (fun v iv wl => ∃ j : Nat, j ≤ bs.length ∧ iv = .int .i64 j ∧ Hid (wl.ownsRow W1.heap.size 9 1 v (turnL es fs (bs.take j)).length ((turnL es fs (bs.take j)).map Value.string)) ∧ Hid (Below W1.heap.size W1 wl)) (fun _ iv _ => bs.length - (RowKit.intOf iv).toNat)
   case atStart => exact ⟨0, Nat.zero_le _, rfl, World.ownsRow_made W1 #[] 0 (Nat.le_refl _) (Nat.zero_le _) rfl, (Below.refl _ W1).alloc (Nat.le_refl _) _⟩
   case round =>
    obtain ⟨j, hj, rfl, HO, HB2⟩ := hrel; by_cases hlt2 : j < bs.length
    ·
     obtain rfl := hb (by omega); obtain ⟨c0, c1, c2⟩ := (HLB.out.below HB2.out) j hlt2; have HK := hidE (turn_succ es fs bs j hlt2); have hlen2 := turn_len es fs bs j; have HTB : Hid (turnB es fs bs[j] = (((getE es bs[j].p).2 != (getE fs bs[j].p).2) || !(sameT1 (getE es bs[j].p).1 (getE fs bs[j].p).1))) := show _ = _ from rfl; obtain ⟨pre, hpre⟩ : ∃ pre, turnL es fs (bs.take j) = pre := ⟨_, rfl⟩
     rw [hpre] at HO HK hlen2; clear hpre; have HG1 := hidE (fun (W : World) (hW : Ents W g o es) => l2Get_any W a g o cap es bs[j].p (by omega) ha hW); have HG2 := hidE (fun (W : World) (hW : Ents W g' o' fs) => l2Get_any W a' g' o' cap' fs bs[j].p (by omega) ha' hW); obtain ⟨⟨p1, d1, x1⟩, b1, hg1⟩ : ∃ e b, getE es bs[j].p = (e, b) := ⟨_, _, rfl⟩
     obtain ⟨⟨p2, d2, x2⟩, b2, hg2⟩ : ∃ e b, getE fs bs[j].p = (e, b) := ⟨_, _, rfl⟩
     rw [hg1, hg2] at HTB; rw [hg1] at HG1; rw [hg2] at HG2; clear hg1 hg2; have HF1 := hidE (HB.out.trans (HB2.out.mono hz0)); go_wp2_with fail
     refine (HG1.out _ (HE.out.below HF1.out)).mono ?_; rintro e w1 ⟨rfl, hB1⟩; have HX1 := hidE (hB1.alloc hB1.size (.cells #[.string p1, .bool d1, .string x1] 43)); have HB3 := hidE (HB2.out.trans (HX1.out.mono HB2.out.size)); clear hB1 c0 c1 c2 HG1; obtain ⟨c0, c1, c2⟩ := (HLB.out.below HB3.out) j hlt2; go_wp2_with fail
     refine (HG2.out _ (HF.out.below (HB.out.trans (HB3.out.mono hz0)))).mono ?_; rintro e w2 ⟨rfl, hB2⟩; obtain ⟨e0, e1, e2⟩ := boxT (hB2.alloc hB2.size (.cells #[.string p2, .bool d2, .string x2] 43)); have HX2 := hidE (HX1.out.trans ((hB2.alloc hB2.size (.cells #[.string p2, .bool d2, .string x2] 43)).mono HX1.out.size)); have HB4 := hidE (HB2.out.trans (HX2.out.mono HB2.out.size)); have hw2a : W1.heap.size ≤ w2.heap.size := Nat.le_trans HB3.out.size hB2.size; clear hB2 c0 c1 c2 HG2 HB3 HX1; obtain ⟨c0, c1, c2⟩ := (HLB.out.below HB4.out) j hlt2; have HO2 := hidE (rowkeep HO.out HX2.out); have hw2 := hw2a; clear HO HX2; cases b1 with
     | true =>
      cases b2 with
      | true =>
       by_cases q1 : p1.toList = p2.toList
       ·
        by_cases q2 : d1 = d2
        ·
         by_cases q3 : x1.toList = x2.toList
         ·
          have HK2 : Hid (turnL es fs (bs.take (j + 1)) = pre) := by
           show _ = _; rw [HK.out, if_neg (by rw [HTB.out]; simp [sameT1, *])]; simp
          go_wp2
          go_roundw
          case rel => exact ⟨j + 1, by omega, by go_num, by rw [HK2.out]; exact HO2, HB4⟩
          case measure => simp [RowKit.intOf]; omega
         ·
          have HK2 : Hid (turnL es fs (bs.take (j + 1)) = pre ++ [bs[j].p]) := by
           show _ = _; rw [HK.out, if_pos (by rw [HTB.out]; simp [sameT1, *])]
          go_wp2_with (first
           | (at_builtin; refine wpList_append_own _ rfl _ _ 100 rfl W1.heap.size 9 i0 (.string ByteArray.empty) 1 16 Tryz.underlying100 hi hzz0 hzz1 hzz2 rfl (by decide) _ _ _ rfl (HO2.out.alloc _) ⟨w2.heap.size + 1, 0, none⟩ 1 1 [.string bs[j].p] rfl rfl ?c1 ?c2 ?c3 ?c4 ?c5 ?_)
           | fail)
          case c1 => first | exact cell_one_new _ _ _ | (intro i u hu; match i, hu with
           | 0, hu => simp at hu; subst hu; simp [Addr.add])
          case c2 => intro u hu; simp at hu; subst hu; rfl
          case c3 => unfold maxLen; omega
          case c4 => omega
          case c5 => simp; omega
          intro v' w5 hown' hgrow _; have HB6 := hidE ((HB4.out.alloc HB4.out.size _).grown hgrow (by simp; omega) (fun q hq => (World.ownsRow.lt HO2.out q hq).1)); have ho6 : w5.ownsRow W1.heap.size 9 1 v' (pre ++ [bs[j].p]).length ((pre ++ [bs[j].p]).map Value.string) := by simpa using hown'
          have HO6 := hidE ho6; clear ho6; clear hown' hgrow HO2 HB4; go_wp2
          go_roundw
          case rel => exact ⟨j + 1, by omega, by go_num, by rw [HK2.out]; exact HO6, HB6⟩
          case measure => simp [RowKit.intOf]; omega
        ·
         have HK2 : Hid (turnL es fs (bs.take (j + 1)) = pre ++ [bs[j].p]) := by
          show _ = _; rw [HK.out, if_pos (by rw [HTB.out]; simp [sameT1, *])]
         go_wp2_with (first
          | (at_builtin; refine wpList_append_own _ rfl _ _ 100 rfl W1.heap.size 9 i0 (.string ByteArray.empty) 1 16 Tryz.underlying100 hi hzz0 hzz1 hzz2 rfl (by decide) _ _ _ rfl (HO2.out.alloc _) ⟨w2.heap.size + 1, 0, none⟩ 1 1 [.string bs[j].p] rfl rfl ?c1 ?c2 ?c3 ?c4 ?c5 ?_)
          | fail)
         case c1 => first | exact cell_one_new _ _ _ | (intro i u hu; match i, hu with
          | 0, hu => simp at hu; subst hu; simp [Addr.add])
         case c2 => intro u hu; simp at hu; subst hu; rfl
         case c3 => unfold maxLen; omega
         case c4 => omega
         case c5 => simp; omega
         intro v' w5 hown' hgrow _; have HB6 := hidE ((HB4.out.alloc HB4.out.size _).grown hgrow (by simp; omega) (fun q hq => (World.ownsRow.lt HO2.out q hq).1)); have ho6 : w5.ownsRow W1.heap.size 9 1 v' (pre ++ [bs[j].p]).length ((pre ++ [bs[j].p]).map Value.string) := by simpa using hown'
         have HO6 := hidE ho6; clear ho6; clear hown' hgrow HO2 HB4; go_wp2
         go_roundw
         case rel => exact ⟨j + 1, by omega, by go_num, by rw [HK2.out]; exact HO6, HB6⟩
         case measure => simp [RowKit.intOf]; omega
       ·
        have HK2 : Hid (turnL es fs (bs.take (j + 1)) = pre ++ [bs[j].p]) := by
         show _ = _; rw [HK.out, if_pos (by rw [HTB.out]; simp [sameT1, *])]
        go_wp2_with (first
         | (at_builtin; refine wpList_append_own _ rfl _ _ 100 rfl W1.heap.size 9 i0 (.string ByteArray.empty) 1 16 Tryz.underlying100 hi hzz0 hzz1 hzz2 rfl (by decide) _ _ _ rfl (HO2.out.alloc _) ⟨w2.heap.size + 1, 0, none⟩ 1 1 [.string bs[j].p] rfl rfl ?c1 ?c2 ?c3 ?c4 ?c5 ?_)
         | fail)
        case c1 => first | exact cell_one_new _ _ _ | (intro i u hu; match i, hu with
         | 0, hu => simp at hu; subst hu; simp [Addr.add])
        case c2 => intro u hu; simp at hu; subst hu; rfl
        case c3 => unfold maxLen; omega
        case c4 => omega
        case c5 => simp; omega
        intro v' w5 hown' hgrow _; have HB6 := hidE ((HB4.out.alloc HB4.out.size _).grown hgrow (by simp; omega) (fun q hq => (World.ownsRow.lt HO2.out q hq).1)); have ho6 : w5.ownsRow W1.heap.size 9 1 v' (pre ++ [bs[j].p]).length ((pre ++ [bs[j].p]).map Value.string) := by simpa using hown'
        have HO6 := hidE ho6; clear ho6; clear hown' hgrow HO2 HB4; go_wp2
        go_roundw
        case rel => exact ⟨j + 1, by omega, by go_num, by rw [HK2.out]; exact HO6, HB6⟩
        case measure => simp [RowKit.intOf]; omega
      | false =>
       have HK2 : Hid (turnL es fs (bs.take (j + 1)) = pre ++ [bs[j].p]) := by
        show _ = _; rw [HK.out, if_pos (by rw [HTB.out]; simp [sameT1, *])]
       go_wp2_with (first
        | (at_builtin; refine wpList_append_own _ rfl _ _ 100 rfl W1.heap.size 9 i0 (.string ByteArray.empty) 1 16 Tryz.underlying100 hi hzz0 hzz1 hzz2 rfl (by decide) _ _ _ rfl (HO2.out.alloc _) ⟨w2.heap.size + 1, 0, none⟩ 1 1 [.string bs[j].p] rfl rfl ?c1 ?c2 ?c3 ?c4 ?c5 ?_)
        | fail)
       case c1 => first | exact cell_one_new _ _ _ | (intro i u hu; match i, hu with
        | 0, hu => simp at hu; subst hu; simp [Addr.add])
       case c2 => intro u hu; simp at hu; subst hu; rfl
       case c3 => unfold maxLen; omega
       case c4 => omega
       case c5 => simp; omega
       intro v' w5 hown' hgrow _; have HB6 := hidE ((HB4.out.alloc HB4.out.size _).grown hgrow (by simp; omega) (fun q hq => (World.ownsRow.lt HO2.out q hq).1)); have ho6 : w5.ownsRow W1.heap.size 9 1 v' (pre ++ [bs[j].p]).length ((pre ++ [bs[j].p]).map Value.string) := by simpa using hown'
       have HO6 := hidE ho6; clear ho6; clear hown' hgrow HO2 HB4; go_wp2
       go_roundw
       case rel => exact ⟨j + 1, by omega, by go_num, by rw [HK2.out]; exact HO6, HB6⟩
       case measure => simp [RowKit.intOf]; omega
     | false =>
      cases b2 with
      | true =>
       have HK2 : Hid (turnL es fs (bs.take (j + 1)) = pre ++ [bs[j].p]) := by
        show _ = _; rw [HK.out, if_pos (by rw [HTB.out]; simp [sameT1, *])]
       go_wp2_with (first
        | (at_builtin; refine wpList_append_own _ rfl _ _ 100 rfl W1.heap.size 9 i0 (.string ByteArray.empty) 1 16 Tryz.underlying100 hi hzz0 hzz1 hzz2 rfl (by decide) _ _ _ rfl (HO2.out.alloc _) ⟨w2.heap.size + 1, 0, none⟩ 1 1 [.string bs[j].p] rfl rfl ?c1 ?c2 ?c3 ?c4 ?c5 ?_)
        | fail)
       case c1 => first | exact cell_one_new _ _ _ | (intro i u hu; match i, hu with
        | 0, hu => simp at hu; subst hu; simp [Addr.add])
       case c2 => intro u hu; simp at hu; subst hu; rfl
       case c3 => unfold maxLen; omega
       case c4 => omega
       case c5 => simp; omega
       intro v' w5 hown' hgrow _; have HB6 := hidE ((HB4.out.alloc HB4.out.size _).grown hgrow (by simp; omega) (fun q hq => (World.ownsRow.lt HO2.out q hq).1)); have ho6 : w5.ownsRow W1.heap.size 9 1 v' (pre ++ [bs[j].p]).length ((pre ++ [bs[j].p]).map Value.string) := by simpa using hown'
       have HO6 := hidE ho6; clear ho6; clear hown' hgrow HO2 HB4; go_wp2
       go_roundw
       case rel => exact ⟨j + 1, by omega, by go_num, by rw [HK2.out]; exact HO6, HB6⟩
       case measure => simp [RowKit.intOf]; omega
      | false =>
       by_cases q1 : p1.toList = p2.toList
       ·
        by_cases q2 : d1 = d2
        ·
         by_cases q3 : x1.toList = x2.toList
         ·
          have HK2 : Hid (turnL es fs (bs.take (j + 1)) = pre) := by
           show _ = _; rw [HK.out, if_neg (by rw [HTB.out]; simp [sameT1, *])]; simp
          go_wp2
          go_roundw
          case rel => exact ⟨j + 1, by omega, by go_num, by rw [HK2.out]; exact HO2, HB4⟩
          case measure => simp [RowKit.intOf]; omega
         ·
          have HK2 : Hid (turnL es fs (bs.take (j + 1)) = pre ++ [bs[j].p]) := by
           show _ = _; rw [HK.out, if_pos (by rw [HTB.out]; simp [sameT1, *])]
          go_wp2_with (first
           | (at_builtin; refine wpList_append_own _ rfl _ _ 100 rfl W1.heap.size 9 i0 (.string ByteArray.empty) 1 16 Tryz.underlying100 hi hzz0 hzz1 hzz2 rfl (by decide) _ _ _ rfl (HO2.out.alloc _) ⟨w2.heap.size + 1, 0, none⟩ 1 1 [.string bs[j].p] rfl rfl ?c1 ?c2 ?c3 ?c4 ?c5 ?_)
           | fail)
          case c1 => first | exact cell_one_new _ _ _ | (intro i u hu; match i, hu with
           | 0, hu => simp at hu; subst hu; simp [Addr.add])
          case c2 => intro u hu; simp at hu; subst hu; rfl
          case c3 => unfold maxLen; omega
          case c4 => omega
          case c5 => simp; omega
          intro v' w5 hown' hgrow _; have HB6 := hidE ((HB4.out.alloc HB4.out.size _).grown hgrow (by simp; omega) (fun q hq => (World.ownsRow.lt HO2.out q hq).1)); have ho6 : w5.ownsRow W1.heap.size 9 1 v' (pre ++ [bs[j].p]).length ((pre ++ [bs[j].p]).map Value.string) := by simpa using hown'
          have HO6 := hidE ho6; clear ho6; clear hown' hgrow HO2 HB4; go_wp2
          go_roundw
          case rel => exact ⟨j + 1, by omega, by go_num, by rw [HK2.out]; exact HO6, HB6⟩
          case measure => simp [RowKit.intOf]; omega
        ·
         have HK2 : Hid (turnL es fs (bs.take (j + 1)) = pre ++ [bs[j].p]) := by
          show _ = _; rw [HK.out, if_pos (by rw [HTB.out]; simp [sameT1, *])]
         go_wp2_with (first
          | (at_builtin; refine wpList_append_own _ rfl _ _ 100 rfl W1.heap.size 9 i0 (.string ByteArray.empty) 1 16 Tryz.underlying100 hi hzz0 hzz1 hzz2 rfl (by decide) _ _ _ rfl (HO2.out.alloc _) ⟨w2.heap.size + 1, 0, none⟩ 1 1 [.string bs[j].p] rfl rfl ?c1 ?c2 ?c3 ?c4 ?c5 ?_)
          | fail)
         case c1 => first | exact cell_one_new _ _ _ | (intro i u hu; match i, hu with
          | 0, hu => simp at hu; subst hu; simp [Addr.add])
         case c2 => intro u hu; simp at hu; subst hu; rfl
         case c3 => unfold maxLen; omega
         case c4 => omega
         case c5 => simp; omega
         intro v' w5 hown' hgrow _; have HB6 := hidE ((HB4.out.alloc HB4.out.size _).grown hgrow (by simp; omega) (fun q hq => (World.ownsRow.lt HO2.out q hq).1)); have ho6 : w5.ownsRow W1.heap.size 9 1 v' (pre ++ [bs[j].p]).length ((pre ++ [bs[j].p]).map Value.string) := by simpa using hown'
         have HO6 := hidE ho6; clear ho6; clear hown' hgrow HO2 HB4; go_wp2
         go_roundw
         case rel => exact ⟨j + 1, by omega, by go_num, by rw [HK2.out]; exact HO6, HB6⟩
         case measure => simp [RowKit.intOf]; omega
       ·
        have HK2 : Hid (turnL es fs (bs.take (j + 1)) = pre ++ [bs[j].p]) := by
         show _ = _; rw [HK.out, if_pos (by rw [HTB.out]; simp [sameT1, *])]
        go_wp2_with (first
         | (at_builtin; refine wpList_append_own _ rfl _ _ 100 rfl W1.heap.size 9 i0 (.string ByteArray.empty) 1 16 Tryz.underlying100 hi hzz0 hzz1 hzz2 rfl (by decide) _ _ _ rfl (HO2.out.alloc _) ⟨w2.heap.size + 1, 0, none⟩ 1 1 [.string bs[j].p] rfl rfl ?c1 ?c2 ?c3 ?c4 ?c5 ?_)
         | fail)
        case c1 => first | exact cell_one_new _ _ _ | (intro i u hu; match i, hu with
         | 0, hu => simp at hu; subst hu; simp [Addr.add])
        case c2 => intro u hu; simp at hu; subst hu; rfl
        case c3 => unfold maxLen; omega
        case c4 => omega
        case c5 => simp; omega
        intro v' w5 hown' hgrow _; have HB6 := hidE ((HB4.out.alloc HB4.out.size _).grown hgrow (by simp; omega) (fun q hq => (World.ownsRow.lt HO2.out q hq).1)); have ho6 : w5.ownsRow W1.heap.size 9 1 v' (pre ++ [bs[j].p]).length ((pre ++ [bs[j].p]).map Value.string) := by simpa using hown'
        have HO6 := hidE ho6; clear ho6; clear hown' hgrow HO2 HB4; go_wp2
        go_roundw
        case rel => exact ⟨j + 1, by omega, by go_num, by rw [HK2.out]; exact HO6, HB6⟩
        case measure => simp [RowKit.intOf]; omega
    ·
     go_wp2
     go_ret
     have := HO.out; rw [List.take_of_length_le (by omega), ← HX.out] at this; exact ⟨_, rfl, rowlow this hz0, HB.out.trans (HB2.out.mono hz0)⟩
end Go.Proofs.YteppodogghjfhaaGreatDoor
namespace Go.Proofs.YteppodogghjfhaaGreatDoor
open Go.RowKit Go.Lib Go.Sort
theorem cMark (W0 : World) (k : Nat) (z : Int) (hz : z = (k : Int)) (hk : 0 < k) (hk' : k ≤ 16777216) : ∀ d os, Calls Tryz.prog 49 #[.int .i64 z] (grow (redrawn W0 d) os) fun r w'' => r = .returned (.string (markS k)) ∧ ∃ p : Regrown, w'' = grow (redrawn W0 p.d) p.os :=
 fun _ _ => Calls.regrown_of (by subst hz; exact markText_any k hk hk' _)
theorem marks_at (n k i : Nat) (h : i < (markEs n k).length) : (markEs n k)[i] = markE (k + i * 3) :=
 (List.getElem_map (fun i => markE (k + i * 3)) ..).trans (by rw [List.getElem_range])
set_option maxHeartbeats 1600000 in
set_option maxRecDepth 100000 in
theorem heldEntS_any (w : World) (a : Option Addr) (g cap n k : Nat) (hn : n ≤ 1048576) (hk : 0 < k) (hk' : k ≤ 1048576) (ha : 0 < n → a = some ⟨g, 0, none⟩) (hM : Ents w g 0 (markEs n k)) :
  Calls Tryz.prog 19 #[.slice a n cap, .int .i64 k] w fun r w' => r = .returned (.int .i64 ((k + n * 3 : Nat) : Int)) ∧ RowKit.Below w.heap.size w w' := by
 have HM := hidE hM; clear hM; go_enter Tryz.func19, Tryz.ntmps19
 go_wp2
 go_loopw [1, 5] (fun kv iv wl => ∃ j : Nat, j ≤ n ∧ iv = .int .i64 j ∧ kv = .int .i64 ((k + j * 3 : Nat) : Int) ∧ Hid (RowKit.Below w.heap.size w wl)) (fun _ iv _ => n - (RowKit.intOf iv).toNat)
 case atStart => exact ⟨0, Nat.zero_le _, rfl, rfl, RowKit.Below.refl _ _⟩
 case round =>
  obtain ⟨j, hj, rfl, rfl, HB⟩ := hrel; obtain ⟨m, hm⟩ : ∃ m, k + j * 3 = m := ⟨_, rfl⟩
  have hm0 : 0 < m := by omega
  have hm1 : m ≤ 4194304 := by omega
  have HMm := hidE hm; rw [hm]; clear hm; by_cases hlt : j < n
  ·
   obtain rfl := ha (by omega); have hjl : j < (markEs n k).length := by rw [marks_len]; exact hlt
   obtain ⟨c0, c1, c2⟩ := (HM.out.below HB.out) j hjl; rw [marks_at, HMm.out] at c0 c1 c2; simp only [markE, Nat.zero_add] at c0 c1 c2; have k0 := cell_regrown c0; have k1 := cell_regrown c1; have k2 := cell_regrown c2; clear c0 c1 c2; have a1 := cMark wr m m rfl hm0 (by omega); go_wp2
   refine wp_region_quiet_below (by kernel_rfl) (by kernel_rfl) ?_
   repeat (go_big_quiet_step (first | exact a1 _ _))
   refine wpQuiet_nil ?_; intro _ hw'; obtain ⟨⟨dq, osq⟩, hw''⟩ := hw'; subst hw''; have HB1 := hidE (HB.out.trans ((below_regrown wr dq osq).mono HB.out.size)); obtain ⟨w1, hw1⟩ : ∃ w1, w1 = grow (redrawn wr dq) osq := ⟨_, rfl⟩
   rw [← hw1] at HB1 ⊢; clear hw1 HB; clear k0 k1 k2 a1; obtain ⟨c0, c1, c2⟩ := (HM.out.below HB1.out) j hjl; rw [marks_at, HMm.out] at c0 c1 c2; simp only [markE, Nat.zero_add] at c0 c1 c2; go_wp2
   have k0 := cell_regrown c0; have k1 := cell_regrown c1; have k2 := cell_regrown c2; clear c0 c1 c2; have a1 := cMark w1 (m + 2) ((m : Int) + 1 + 1) (by omega) (by omega) (by omega); refine wp_region_quiet_below (by kernel_rfl) (by kernel_rfl) ?_
   repeat (go_big_quiet_step (first | exact a1 _ _))
   refine wpQuiet_nil ?_; intro _ hw'; obtain ⟨⟨dq, osq⟩, hw''⟩ := hw'; subst hw''; have HB2 := hidE (HB1.out.trans ((below_regrown w1 dq osq).mono HB1.out.size)); obtain ⟨w2, hw1⟩ : ∃ w2, w2 = grow (redrawn w1 dq) osq := ⟨_, rfl⟩
   rw [← hw1] at HB2 ⊢; clear hw1 HB1; clear k0 k1 k2 a1; go_wp2
   go_roundw
   case rel => exact ⟨j + 1, by omega, by go_num, by have := HMm.out; congr 1; omega, HB2⟩
   case measure => simp [RowKit.intOf]; omega
  ·
   go_wp2
   go_ret
   have hjn : j = n := by omega
   subst hjn; exact ⟨ret_iE (by rw [HMm.out]), HB.out⟩
end Go.Proofs.YteppodogghjfhaaGreatDoor
namespace Go.Proofs.YteppodogghjfhaaGreatDoor.Mk
open Go.RowKit Go.Lib Go.Sort
theorem marks_at (n k i : Nat) (h : i < (markEs n k).length) : (markEs n k)[i] = markE (k + i * 3) :=
 (List.getElem_map (fun i => markE (k + i * 3)) ..).trans (by rw [List.getElem_range])
set_option maxHeartbeats 1600000 in
set_option maxRecDepth 100000 in
theorem heldEntS_any (w : World) (a : Option Addr) (g cap n k : Nat) (hn : n ≤ 1048576) (hk : 0 < k) (hk' : k ≤ 1048576) (ha : 0 < n → a = some ⟨g, 0, none⟩) (hM : Ents w g 0 (markEs n k)) :
  Calls Tryz.prog 62 #[.slice a n cap, .int .i64 k] w fun r w' => r = .returned (.int .i64 ((k + n * 3 : Nat) : Int)) ∧ RowKit.Below w.heap.size w w' := by
 have HM := hidE hM; clear hM; go_enter Tryz.func62, Tryz.ntmps62
 go_wp2
 go_loopw [1, 5] (fun kv iv wl => ∃ j : Nat, j ≤ n ∧ iv = .int .i64 j ∧ kv = .int .i64 ((k + j * 3 : Nat) : Int) ∧ Hid (RowKit.Below w.heap.size w wl)) (fun _ iv _ => n - (RowKit.intOf iv).toNat)
 case atStart => exact ⟨0, Nat.zero_le _, rfl, rfl, RowKit.Below.refl _ _⟩
 case round =>
  obtain ⟨j, hj, rfl, rfl, HB⟩ := hrel; obtain ⟨m, hm⟩ : ∃ m, k + j * 3 = m := ⟨_, rfl⟩
  have hm0 : 0 < m := by omega
  have hm1 : m ≤ 4194304 := by omega
  have HMm := hidE hm; rw [hm]; clear hm; by_cases hlt : j < n
  ·
   obtain rfl := ha (by omega); have hjl : j < (markEs n k).length := by rw [marks_len]; exact hlt
   obtain ⟨c0, c1, c2⟩ := (HM.out.below HB.out) j hjl; rw [marks_at, HMm.out] at c0 c1 c2; simp only [markE, Nat.zero_add] at c0 c1 c2; have k0 := cell_regrown c0; have k1 := cell_regrown c1; have k2 := cell_regrown c2; clear c0 c1 c2; have a1 := cMark wr m m rfl hm0 (by omega); go_wp2
   refine wp_region_quiet_below (by kernel_rfl) (by kernel_rfl) ?_
   repeat (go_big_quiet_step (first | exact a1 _ _))
   refine wpQuiet_nil ?_; intro _ hw'; obtain ⟨⟨dq, osq⟩, hw''⟩ := hw'; subst hw''; have HB1 := hidE (HB.out.trans ((below_regrown wr dq osq).mono HB.out.size)); obtain ⟨w1, hw1⟩ : ∃ w1, w1 = grow (redrawn wr dq) osq := ⟨_, rfl⟩
   rw [← hw1] at HB1 ⊢; clear hw1 HB; clear k0 k1 k2 a1; obtain ⟨c0, c1, c2⟩ := (HM.out.below HB1.out) j hjl; rw [marks_at, HMm.out] at c0 c1 c2; simp only [markE, Nat.zero_add] at c0 c1 c2; go_wp2
   have k0 := cell_regrown c0; have k1 := cell_regrown c1; have k2 := cell_regrown c2; clear c0 c1 c2; have a1 := cMark w1 (m + 2) ((m : Int) + 1 + 1) (by omega) (by omega) (by omega); refine wp_region_quiet_below (by kernel_rfl) (by kernel_rfl) ?_
   repeat (go_big_quiet_step (first | exact a1 _ _))
   refine wpQuiet_nil ?_; intro _ hw'; obtain ⟨⟨dq, osq⟩, hw''⟩ := hw'; subst hw''; have HB2 := hidE (HB1.out.trans ((below_regrown w1 dq osq).mono HB1.out.size)); obtain ⟨w2, hw1⟩ : ∃ w2, w2 = grow (redrawn w1 dq) osq := ⟨_, rfl⟩
   rw [← hw1] at HB2 ⊢; clear hw1 HB1; clear k0 k1 k2 a1; go_wp2
   go_roundw
   case rel => exact ⟨j + 1, by omega, by go_num, by have := HMm.out; congr 1; omega, HB2⟩
   case measure => simp [RowKit.intOf]; omega
  ·
   go_wp2
   go_ret
   have hjn : j = n := by omega
   subst hjn; exact ⟨ret_iE (by rw [HMm.out]), HB.out⟩
end Go.Proofs.YteppodogghjfhaaGreatDoor.Mk
