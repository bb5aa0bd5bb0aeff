import Derived.WalkKit
import Derived.OwnWalk
import Derived.WalkSpells
import Derived.WalkLawsBesides
import Derived.Laws.Pointers
import Derived.Deep.QuietTactic
import Derived.BigQuiet
import Derived.Outline
import Derived.Below
import Derived.Lib.QuietBelow
import Derived.Test.YtoaipphccjkphaaDoorHEntsDef
import Derived.Test.YtoaipphccjkphaaDoorHPk11
import Derived.Test.YtoaipphccjkphaaDoorProg
import Derived.Laws.ResultCell
import Derived.Maps.AppendAt
namespace Go.Proofs.YtoaipphccjkphaaDoor
open Go.RowKit Go.Lib Go.Sort
set_option maxHeartbeats 800000 in
set_option maxRecDepth 100000 in
theorem l2Data_any (s : ByteArray) (hs : s.size ≤ 4611686018427387904) (w : World) :
  Calls Tryd.prog 28 #[.string s] w fun e w' => e = .returned (.bool (dataB s)) ∧ w' = w := by
 go_enter Tryd.func28, Tryd.ntmps28
 go_wp2
 go_loop [3] (fun i => ∃ k : Nat, k ≤ s.size ∧ i = .int .i64 k ∧ Hid ((s.data.toList.take k).all dataC = true)) (fun i => s.size - (RowKit.intOf i).toNat)
 case atStart => exact ⟨0, Nat.zero_le _, rfl, rfl⟩
 case round =>
  obtain ⟨k, hk, rfl, HA⟩ := hrel; by_cases hlt : k < s.size
  ·
   have yes : dataC s[k] = true → Hid ((s.data.toList.take (k + 1)).all dataC = true) := fun h => by show _ = _; rw [data_take s k hlt, HA.out, h]; rfl
   have HY := hidE yes; clear yes; by_cases h1 : 97 ≤ s[k].toNat
   ·
    by_cases h2 : s[k].toNat ≤ 122
    ·
     have HT := HY.out (by unfold dataC low; rw [decide_eq_true ⟨h1, h2⟩]; rfl); go_wp2
     go_round
     case rel => exact ⟨k + 1, by omega, by go_num, HT⟩
     case measure => simp [RowKit.intOf]; omega
    ·
     have HN := hidE (data_bad s k hlt (by unfold dataC low; rw [decide_eq_false (by omega), decide_eq_false (by omega)]; rfl)); go_wp2
     go_ret
     exact ⟨ret_bE HN.out, rfl⟩
   ·
    by_cases h2 : 48 ≤ s[k].toNat
    ·
     by_cases h3 : s[k].toNat ≤ 57
     ·
      have HT := HY.out (by unfold dataC; rw [decide_eq_true ⟨h2, h3⟩, Bool.or_true]); go_wp2
      go_round
      case rel => exact ⟨k + 1, by omega, by go_num, HT⟩
      case measure => simp [RowKit.intOf]; omega
     ·
      have HN := hidE (data_bad s k hlt (by unfold dataC low; rw [decide_eq_false (by omega), decide_eq_false (by omega)]; rfl)); go_wp2
      go_ret
      exact ⟨ret_bE HN.out, rfl⟩
    ·
     have HN := hidE (data_bad s k hlt (by unfold dataC low; rw [decide_eq_false (by omega), decide_eq_false (by omega)]; rfl)); go_wp2
     go_ret
     exact ⟨ret_bE HN.out, rfl⟩
  ·
   have HD := hidE (data_all s k (by omega) HA.out); by_cases h6 : s.size ≤ 6
   ·
    go_wp2
    go_ret
    exact ⟨ret_bE (by rw [← HD.out, decide_eq_true h6]; exact decide_eq_true (by omega)), rfl⟩
   ·
    go_wp2
    go_ret
    exact ⟨ret_bE (by rw [← HD.out, decide_eq_false h6]; exact decide_eq_false (by omega)), rfl⟩
theorem sOk_is (s : ByteArray) (b : Bool) (h : pathB s = b) (hm : s.size ≤ 67108864) (w : World) :
  Calls Tryd.prog 27 #[.string s] w fun e w' => e = .returned (.bool b) ∧ Below w.heap.size w w' := by
 rw [← h]; exact sOk_any s hm w
theorem l2Data_is (s : ByteArray) (b : Bool) (h : dataB s = b) (hm : s.size ≤ 67108864) (w : World) :
  Calls Tryd.prog 28 #[.string s] w fun e w' => e = .returned (.bool b) ∧ Below w.heap.size w w' := by
 rw [← h]; exact (l2Data_any s (by omega) w).mono fun e w' ⟨h1, h2⟩ => ⟨h1, by rw [h2]; exact Below.refl _ _⟩
theorem cOk (W0 : World) (s : ByteArray) (b : Bool) (h : pathB s = b) (hm : s.size ≤ 67108864) : ∀ d os, Calls Tryd.prog 27 #[.string s] (grow (redrawn W0 d) os) fun e w'' => e = .returned (.bool b) ∧ ∃ p : Regrown, w'' = grow (redrawn W0 p.d) p.os :=
 fun _ _ => Calls.regrown_of (sOk_is s b h hm _)
theorem cData (W0 : World) (s : ByteArray) (b : Bool) (h : dataB s = b) (hm : s.size ≤ 67108864) : ∀ d os, Calls Tryd.prog 28 #[.string s] (grow (redrawn W0 d) os) fun e w'' => e = .returned (.bool b) ∧ ∃ p : Regrown, w'' = grow (redrawn W0 p.d) p.os :=
 fun _ _ => Calls.regrown_of (l2Data_is s b h hm _)
set_option maxHeartbeats 400000 in
set_option maxRecDepth 100000 in
theorem l2Find_any (w : World) (a : Option Addr) (g o cap : Nat) (es : List E) (s : ByteArray) (hl : es.length ≤ 16777216) (ha : 0 < es.length → a = some ⟨g, o, none⟩) (hE : Ents w g o es) :
  Calls Tryd.prog 52 #[.slice a es.length cap, .string s] w fun e w' => e = .returned (.int .i64 (findE es s)) ∧ w' = w := by
 have HE := hidE hE; clear hE; go_enter Tryd.func52, Tryd.ntmps52
 go_wp2
 go_loop [5] (fun i => ∃ k : Nat, k ≤ es.length ∧ i = .int .i64 k ∧ Hid (findL s (es.drop k) k = findE es s)) (fun i => es.length - (RowKit.intOf i).toNat)
 case atStart => exact ⟨0, Nat.zero_le _, rfl, rfl⟩
 case round =>
  obtain ⟨k, hk, rfl, HF⟩ := hrel; by_cases hlt : k < es.length
  ·
   obtain rfl := ha (by omega); obtain ⟨c0, c1, c2⟩ := HE.out k hlt; have HD := hidE (find_drop s es k hlt); cases hc : (es[k].p.toList == s.toList) with
   | true =>
    rw [hc] at HD; go_wp2
    go_ret
    exact ⟨ret_iE (by rw [← HF.out, HD.out]; rfl), rfl⟩
   | false =>
    rw [hc] at HD; go_wp2
    go_round
    case rel => exact ⟨k + 1, by omega, by go_num, by show _ = _; rw [← HF.out, HD.out]; rfl⟩
    case measure => simp [RowKit.intOf]; omega
  ·
   go_wp2
   go_ret
   exact ⟨ret_iE (by rw [← HF.out, List.drop_of_length_le (by omega)]; rfl), rfl⟩
set_option maxHeartbeats 400000 in
theorem l2Dir_any (w : World) (a : Option Addr) (g o cap : Nat) (es : List E) (s : ByteArray) (hl : es.length ≤ 16777216) (ha : 0 < es.length → a = some ⟨g, o, none⟩) (hE : Ents w g o es) :
  Calls Tryd.prog 29 #[.slice a es.length cap, .string s] w fun e w' => e = .returned (.bool (dirE es s)) ∧ w' = w := by
 have HE := hidE hE; clear hE; cases hr : (s.toList == [47]) with
 | true =>
  go_enter Tryd.func29, Tryd.ntmps29
  go_wp2
  go_ret
  exact ⟨ret_bE (by unfold dirE isRoot; rw [hr]; rfl), rfl⟩
 | false =>
  have HD : Hid (dirE es s = match es[(findE es s).toNat]? with | some e => decide (0 ≤ findE es s) && e.d | none => false) := by
   show _ = _; unfold dirE isRoot; rw [hr]; rfl
  have HF : Hid (∀ W : World, Ents W g o es → Calls Tryd.prog 52 #[.slice a es.length cap, .string s] W _) := fun W hW => l2Find_any W a g o cap es s hl ha hW; rcases findE_is es s with hf | ⟨j, hj, hf, _⟩
  ·
   rw [hf] at HD HF; go_enter Tryd.func29, Tryd.ntmps29
   go_wp2_with (go_at_call 52; refine (HF.out _ HE.out).mono ?_; rintro e w' ⟨rfl, rfl⟩)
   go_ret
   exact ⟨ret_bE (by rw [HD.out]; split <;> rfl), rfl⟩
  ·
   rw [hf] at HD HF; obtain rfl := ha (by omega); obtain ⟨c0, c1, c2⟩ := HE.out j hj; go_enter Tryd.func29, Tryd.ntmps29
   go_wp2_with (go_at_call 52; refine (HF.out _ HE.out).mono ?_; rintro e w' ⟨rfl, rfl⟩)
   go_ret
   exact ⟨ret_bE (by rw [HD.out]; simp [hj]), rfl⟩
theorem cUp (W0 : World) (s : ByteArray) (hm : s.size ≤ 16777216) : ∀ d os, Calls Tryd.prog 30 #[.string s] (grow (redrawn W0 d) os) fun e w'' => e = .returned (.string (upS s)) ∧ ∃ p : Regrown, w'' = grow (redrawn W0 p.d) p.os :=
 fun _ _ => Calls.regrown_of (sPathUp_any s hm _)
theorem cDir (W0 : World) (g o cap k : Nat) (es : List E) (s : ByteArray) (b : Bool) (hk : k ≤ es.length) (hl : es.length ≤ 16777216) (hE : Ents W0 g o es) (h : dirE (es.take k) s = b) : ∀ d os, Calls Tryd.prog 29 #[.slice (some ⟨g, o, none⟩) k cap, .string s] (grow (redrawn W0 d) os) fun e w'' => e = .returned (.bool b) ∧ ∃ p : Regrown, w'' = grow (redrawn W0 p.d) p.os :=
 fun d os => Calls.regrown_of (by
  have e : (es.take k).length = k := by rw [List.length_take]; omega
  have := l2Dir_any (grow (redrawn W0 d) os) (some ⟨g, o, none⟩) g o cap (es.take k) s (by omega) (fun _ => rfl) ((hE.below (below_regrown W0 d os)).take k); rw [e, h] at this
  exact this.mono fun _ _ ⟨h1, h2⟩ => ⟨h1, by rw [h2]; exact Below.refl _ _⟩)
set_option maxHeartbeats 8000000 in
set_option maxRecDepth 100000 in
theorem sTreeOk_any (w : World) (a : Option Addr) (g o cap : Nat) (es : List E) (hl : es.length ≤ 16777216) (hcap : es.length ≤ cap) (hz : ∀ e ∈ es, e.p.size ≤ 16777216 ∧ e.x.size ≤ 16777216) (ha : 0 < es.length → a = some ⟨g, o, none⟩) (hE : Ents w g o es) :
  Calls Tryd.prog 10 #[.slice a es.length cap] w fun e w' => e = .returned (.bool (treeE es)) ∧ Below w.heap.size w w' := by
 have HE := hidE hE; have HZ := hidE hz; clear hE hz; by_cases h16 : es.length ≤ 16
 ·
  go_enter Tryd.func10, Tryd.ntmps10
  go_wp2
  go_loopw [3] (fun i wl => ∃ k : Nat, k ≤ es.length ∧ i = .int .i64 k ∧ Hid (Below w.heap.size w wl) ∧ Hid ((List.range k).all (okAt es) = true)) (fun i _ => es.length - (RowKit.intOf i).toNat)
  case atStart => exact ⟨0, Nat.zero_le _, rfl, Below.refl _ _, rfl⟩
  case round =>
   obtain ⟨k, hk, rfl, HB, HA⟩ := hrel; by_cases hlt : k < es.length
   ·
    obtain rfl := ha (by omega); have hB := HB.out; have HEr := hidE (HE.out.below hB); obtain ⟨c0, c1, c2⟩ := HEr.out k hlt; obtain ⟨z0, z1⟩ := HZ.out es[k] (List.getElem_mem _); obtain ⟨p, hp⟩ : ∃ p, es[k].p = p := ⟨_, rfl⟩
    obtain ⟨d, hd⟩ : ∃ d, es[k].d = d := ⟨_, rfl⟩
    obtain ⟨x, hx⟩ : ∃ x, es[k].x = x := ⟨_, rfl⟩
    have HP := hidE hp; have HDd := hidE hd; have HX := hidE hx; rw [hp] at c0 z0; rw [hd] at c1; rw [hx] at c2 z1; clear hp hd hx; obtain ⟨W0, hW0⟩ : ∃ W0, wr.alloc (.cells #[.string p, .bool d, .string x] 27) = W0 := ⟨_, rfl⟩
    have hb0 : Below wr.heap.size wr W0 := by rw [← hW0]; exact (Below.refl _ wr).alloc (Nat.le_refl _) _
    have k0 := cell_regrown (show W0.cell? ⟨wr.heap.size, 0, none⟩ = some (.string p) by rw [← hW0]; simp); have k1 := cell_regrown (show W0.cell? ⟨wr.heap.size, 1, none⟩ = some (.bool d) by rw [← hW0]; simp); have k2 := cell_regrown (show W0.cell? ⟨wr.heap.size, 2, none⟩ = some (.string x) by rw [← hW0]; simp); have HE0 := hidE (HEr.out.below hb0); have HB0 := hidE (hB.trans (hb0.mono hB.size)); have HOK := hidE (okAt_is hlt); rw [HP.out, HDd.out, HX.out] at HOK; clear hb0; cases f1 : pathB p with
    | false =>
     rw [f1] at HOK; have a1 := cOk W0 p false f1 (by omega); go_wp2
     refine wp_region_quiet_below (by kernel_rfl) (by kernel_rfl) ?_
     repeat (go_big_quiet_step (first | exact a1 _ _))
     refine wpQuiet_nil ?_; intro _ hw'; obtain ⟨⟨dq, osq⟩, hw''⟩ := hw'; subst hw''; have HBq := hidE (HB0.out.trans ((below_regrown W0 dq osq).mono HB0.out.size)); clear HB0 HE0 k0 k1 k2 a1; go_wp2
     go_ret
     exact ⟨ret_bE (treeE_no hlt (by rw [HOK.out]; simp)), HBq.out⟩
    | true =>
     rw [f1] at HOK; have a1 := cOk W0 p true f1 (by omega); cases f2 : dataB x with
     | false =>
      rw [f2] at HOK; have a2 := cData W0 x false f2 (by omega); go_wp2
      refine wp_region_quiet_below (by kernel_rfl) (by kernel_rfl) ?_
      repeat (go_big_quiet_step (first | exact a1 _ _ | exact a2 _ _))
      refine wpQuiet_nil ?_; intro _ hw'; obtain ⟨⟨dq, osq⟩, hw''⟩ := hw'; subst hw''; have HBq := hidE (HB0.out.trans ((below_regrown W0 dq osq).mono HB0.out.size)); clear HB0 HE0 k0 k1 k2 a1 a2; go_wp2
      go_ret
      exact ⟨ret_bE (treeE_no hlt (by rw [HOK.out]; simp)), HBq.out⟩
     | true =>
      rw [f2] at HOK; have a2 := cData W0 x true f2 (by omega); have a3 := cUp W0 p (by omega); cases d with
      | true =>
       cases f3 : x.toList.isEmpty with
       | false =>
        rw [f3] at HOK; go_wp2
        refine wp_region_quiet_below (by kernel_rfl) (by kernel_rfl) ?_
        repeat (go_big_quiet_step (first | exact a1 _ _ | exact a2 _ _))
        refine wpQuiet_nil ?_; intro _ hw'; obtain ⟨⟨dq, osq⟩, hw''⟩ := hw'; subst hw''; have HBq := hidE (HB0.out.trans ((below_regrown W0 dq osq).mono HB0.out.size)); clear HB0 HE0 k0 k1 k2 a1 a2; go_wp2
        go_ret
        exact ⟨ret_bE (treeE_no hlt (by rw [HOK.out]; simp)), HBq.out⟩
       | true =>
        rw [f3] at HOK; by_cases hk0 : k = 0
        ·
         subst hk0; simp only [Nat.zero_mul, Nat.add_zero] at c0 c1 c2; cases f5 : dirE (es.take 0) (upS p) with
         | true =>
          rw [f5] at HOK; have a4 := cDir W0 g o cap 0 es (upS p) true (by omega) hl HE0.out f5; go_wp2
          refine wp_region_quiet_below (by kernel_rfl) (by kernel_rfl) ?_
          repeat (go_big_quiet_step (first | exact a1 _ _ | exact a2 _ _ | exact a3 _ _ | exact a4 _ _))
          refine wpQuiet_nil ?_; intro _ hw'; obtain ⟨⟨dq, osq⟩, hw''⟩ := hw'; subst hw''; have HBq := hidE (HB0.out.trans ((below_regrown W0 dq osq).mono HB0.out.size)); clear HB0 HE0 k0 k1 k2 a1 a2 a3 a4; go_wp2
          go_roundw
          case rel => exact ⟨0 + 1, by omega, by go_num, HBq, all_range_succ _ 0 HA.out (by rw [HOK.out]; simp)⟩
          case measure => simp [RowKit.intOf]; omega
         | false =>
          rw [f5] at HOK; have a4 := cDir W0 g o cap 0 es (upS p) false (by omega) hl HE0.out f5; go_wp2
          refine wp_region_quiet_below (by kernel_rfl) (by kernel_rfl) ?_
          repeat (go_big_quiet_step (first | exact a1 _ _ | exact a2 _ _ | exact a3 _ _ | exact a4 _ _))
          refine wpQuiet_nil ?_; intro _ hw'; obtain ⟨⟨dq, osq⟩, hw''⟩ := hw'; subst hw''; have HBq := hidE (HB0.out.trans ((below_regrown W0 dq osq).mono HB0.out.size)); clear HB0 HE0 k0 k1 k2 a1 a2 a3 a4; go_wp2
          go_ret
          exact ⟨ret_bE (treeE_no hlt (by rw [HOK.out]; simp)), HBq.out⟩
        ·
         obtain ⟨m, rfl⟩ : ∃ m, k = m + 1 := ⟨k - 1, by omega⟩
         have hm : m < es.length := by omega
         have hcap' : (m : Int) + 1 ≤ (cap : Int) := by omega
         have kq := cell_regrown (HE0.out m hm).1; rw [show m + 1 - 1 = m from rfl, List.getElem?_eq_getElem hm, Option.map_some, Option.getD_some] at HOK; obtain ⟨q, hq⟩ : ∃ q, es[m].p = q := ⟨_, rfl⟩
         rw [hq] at kq HOK; clear hq; have hpos : decide ((0 : Int) < (m : Int) + 1) = true := decide_eq_true (by omega); cases f4 : Op.bytesLess q.toList p.toList with
         | false =>
          rw [f4] at HOK; go_wp2
          refine wp_region_quiet_below (by kernel_rfl) (by kernel_rfl) ?_
          repeat (go_big_quiet_step (first | exact a1 _ _ | exact a2 _ _))
          refine wpQuiet_nil ?_; intro _ hw'; obtain ⟨⟨dq, osq⟩, hw''⟩ := hw'; subst hw''; have HBq := hidE (HB0.out.trans ((below_regrown W0 dq osq).mono HB0.out.size)); clear HB0 HE0 k0 k1 k2 kq a1 a2; go_wp2
          go_ret
          exact ⟨ret_bE (treeE_no hlt (by rw [HOK.out]; simp)), HBq.out⟩
         | true =>
          rw [f4] at HOK; cases f5 : dirE (es.take (m + 1)) (upS p) with
          | true =>
           rw [f5] at HOK; have a4 := cDir W0 g o cap (m + 1) es (upS p) true (by omega) hl HE0.out f5; go_wp2
           refine wp_region_quiet_below (by kernel_rfl) (by kernel_rfl) ?_
           repeat (go_big_quiet_step (first | exact a1 _ _ | exact a2 _ _ | exact a3 _ _ | exact a4 _ _))
           refine wpQuiet_nil ?_; intro _ hw'; obtain ⟨⟨dq, osq⟩, hw''⟩ := hw'; subst hw''; have HBq := hidE (HB0.out.trans ((below_regrown W0 dq osq).mono HB0.out.size)); clear HB0 HE0 k0 k1 k2 kq a1 a2 a3 a4; go_wp2
           go_roundw
           case rel => exact ⟨m + 1 + 1, by omega, by go_num, HBq, all_range_succ _ (m + 1) HA.out (by rw [HOK.out]; simp)⟩
           case measure => simp [RowKit.intOf]; omega
          | false =>
           rw [f5] at HOK; have a4 := cDir W0 g o cap (m + 1) es (upS p) false (by omega) hl HE0.out f5; go_wp2
           refine wp_region_quiet_below (by kernel_rfl) (by kernel_rfl) ?_
           repeat (go_big_quiet_step (first | exact a1 _ _ | exact a2 _ _ | exact a3 _ _ | exact a4 _ _))
           refine wpQuiet_nil ?_; intro _ hw'; obtain ⟨⟨dq, osq⟩, hw''⟩ := hw'; subst hw''; have HBq := hidE (HB0.out.trans ((below_regrown W0 dq osq).mono HB0.out.size)); clear HB0 HE0 k0 k1 k2 kq a1 a2 a3 a4; go_wp2
           go_ret
           exact ⟨ret_bE (treeE_no hlt (by rw [HOK.out]; simp)), HBq.out⟩
      | false =>
       by_cases hk0 : k = 0
       ·
        subst hk0; simp only [Nat.zero_mul, Nat.add_zero] at c0 c1 c2; cases f5 : dirE (es.take 0) (upS p) with
        | true =>
         rw [f5] at HOK; have a4 := cDir W0 g o cap 0 es (upS p) true (by omega) hl HE0.out f5; go_wp2
         refine wp_region_quiet_below (by kernel_rfl) (by kernel_rfl) ?_
         repeat (go_big_quiet_step (first | exact a1 _ _ | exact a2 _ _ | exact a3 _ _ | exact a4 _ _))
         refine wpQuiet_nil ?_; intro _ hw'; obtain ⟨⟨dq, osq⟩, hw''⟩ := hw'; subst hw''; have HBq := hidE (HB0.out.trans ((below_regrown W0 dq osq).mono HB0.out.size)); clear HB0 HE0 k0 k1 k2 a1 a2 a3 a4; go_wp2
         go_roundw
         case rel => exact ⟨0 + 1, by omega, by go_num, HBq, all_range_succ _ 0 HA.out (by rw [HOK.out]; simp)⟩
         case measure => simp [RowKit.intOf]; omega
        | false =>
         rw [f5] at HOK; have a4 := cDir W0 g o cap 0 es (upS p) false (by omega) hl HE0.out f5; go_wp2
         refine wp_region_quiet_below (by kernel_rfl) (by kernel_rfl) ?_
         repeat (go_big_quiet_step (first | exact a1 _ _ | exact a2 _ _ | exact a3 _ _ | exact a4 _ _))
         refine wpQuiet_nil ?_; intro _ hw'; obtain ⟨⟨dq, osq⟩, hw''⟩ := hw'; subst hw''; have HBq := hidE (HB0.out.trans ((below_regrown W0 dq osq).mono HB0.out.size)); clear HB0 HE0 k0 k1 k2 a1 a2 a3 a4; go_wp2
         go_ret
         exact ⟨ret_bE (treeE_no hlt (by rw [HOK.out]; simp)), HBq.out⟩
       ·
        obtain ⟨m, rfl⟩ : ∃ m, k = m + 1 := ⟨k - 1, by omega⟩
        have hm : m < es.length := by omega
        have hcap' : (m : Int) + 1 ≤ (cap : Int) := by omega
        have kq := cell_regrown (HE0.out m hm).1; rw [show m + 1 - 1 = m from rfl, List.getElem?_eq_getElem hm, Option.map_some, Option.getD_some] at HOK; obtain ⟨q, hq⟩ : ∃ q, es[m].p = q := ⟨_, rfl⟩
        rw [hq] at kq HOK; clear hq; have hpos : decide ((0 : Int) < (m : Int) + 1) = true := decide_eq_true (by omega); cases f4 : Op.bytesLess q.toList p.toList with
        | false =>
         rw [f4] at HOK; go_wp2
         refine wp_region_quiet_below (by kernel_rfl) (by kernel_rfl) ?_
         repeat (go_big_quiet_step (first | exact a1 _ _ | exact a2 _ _))
         refine wpQuiet_nil ?_; intro _ hw'; obtain ⟨⟨dq, osq⟩, hw''⟩ := hw'; subst hw''; have HBq := hidE (HB0.out.trans ((below_regrown W0 dq osq).mono HB0.out.size)); clear HB0 HE0 k0 k1 k2 kq a1 a2; go_wp2
         go_ret
         exact ⟨ret_bE (treeE_no hlt (by rw [HOK.out]; simp)), HBq.out⟩
        | true =>
         rw [f4] at HOK; cases f5 : dirE (es.take (m + 1)) (upS p) with
         | true =>
          rw [f5] at HOK; have a4 := cDir W0 g o cap (m + 1) es (upS p) true (by omega) hl HE0.out f5; go_wp2
          refine wp_region_quiet_below (by kernel_rfl) (by kernel_rfl) ?_
          repeat (go_big_quiet_step (first | exact a1 _ _ | exact a2 _ _ | exact a3 _ _ | exact a4 _ _))
          refine wpQuiet_nil ?_; intro _ hw'; obtain ⟨⟨dq, osq⟩, hw''⟩ := hw'; subst hw''; have HBq := hidE (HB0.out.trans ((below_regrown W0 dq osq).mono HB0.out.size)); clear HB0 HE0 k0 k1 k2 kq a1 a2 a3 a4; go_wp2
          go_roundw
          case rel => exact ⟨m + 1 + 1, by omega, by go_num, HBq, all_range_succ _ (m + 1) HA.out (by rw [HOK.out]; simp)⟩
          case measure => simp [RowKit.intOf]; omega
         | false =>
          rw [f5] at HOK; have a4 := cDir W0 g o cap (m + 1) es (upS p) false (by omega) hl HE0.out f5; go_wp2
          refine wp_region_quiet_below (by kernel_rfl) (by kernel_rfl) ?_
          repeat (go_big_quiet_step (first | exact a1 _ _ | exact a2 _ _ | exact a3 _ _ | exact a4 _ _))
          refine wpQuiet_nil ?_; intro _ hw'; obtain ⟨⟨dq, osq⟩, hw''⟩ := hw'; subst hw''; have HBq := hidE (HB0.out.trans ((below_regrown W0 dq osq).mono HB0.out.size)); clear HB0 HE0 k0 k1 k2 kq a1 a2 a3 a4; go_wp2
          go_ret
          exact ⟨ret_bE (treeE_no hlt (by rw [HOK.out]; simp)), HBq.out⟩
   ·
    have HT : Hid (treeE es = true) := by
     show _ = _
     unfold treeE; rw [decide_eq_true h16, Bool.true_and]; have := HA.out; rw [show k = es.length from by omega] at this; exact this
    go_wp2
    go_ret
    exact ⟨ret_bE HT.out.symm, HB.out⟩
 ·
  go_enter Tryd.func10, Tryd.ntmps10
  go_wp2
  go_ret
  exact ⟨ret_bE (by unfold treeE; rw [decide_eq_false h16]; rfl), Below.refl _ _⟩
set_option maxHeartbeats 400000 in
theorem l2Get_any (w : World) (a : Option Addr) (g o cap : Nat) (es : List E) (s : ByteArray) (hl : es.length ≤ 16777216) (ha : 0 < es.length → a = some ⟨g, o, none⟩) (hE : Ents w g o es) :
  Calls Tryd.prog 49 #[.slice a es.length cap, .string s] w fun r w' => r = .returned (.tuple #[encE (getE es s).1, .bool (getE es s).2]) ∧ Below w.heap.size w w' := by
 have hb : Below w.heap.size w (w.alloc (.cells #[.string ⟨#[]⟩, .bool false, .string ⟨#[]⟩] 27)) := (Below.refl _ w).alloc (Nat.le_refl _) _; have HE := hidE (hE.below hb); have HF := hidE (fun (W : World) (hW : Ents W g o es) => l2Find_any W a g o cap es s hl ha hW); clear hE hb; cases hr : (s.toList == [47]) with
 | true =>
  rw [getE_root hr]; go_enter Tryd.func49, Tryd.ntmps49
  go_wp2
  exact bodyPost_ret (v := .tuple #[encE rootE, .bool true]) (by simp [results, Tryd.results49, go_sem, rootE]) rfl ⟨rfl, (Below.refl _ w).alloc (Nat.le_refl _) _⟩
 | false =>
  rcases findE_is es s with hf | ⟨j, hj, hf, _⟩
  ·
   rw [getE_no hr hf]; rw [hf] at HF; go_enter Tryd.func49, Tryd.ntmps49
   go_wp2_with (go_at_call 52; refine (HF.out _ HE.out).mono ?_; rintro e w' ⟨rfl, rfl⟩)
   exact bodyPost_ret (v := .tuple #[encE noneE, .bool false]) (by simp [results, Tryd.results49, go_sem, noneE]) rfl ⟨rfl, (Below.refl _ w).alloc (Nat.le_refl _) _⟩
  ·
   rw [getE_at hr hj hf]; rw [hf] at HF; obtain rfl := ha (by omega); obtain ⟨c0, c1, c2⟩ := HE.out j hj; go_enter Tryd.func49, Tryd.ntmps49
   go_wp2_with (go_at_call 52; refine (HF.out _ HE.out).mono ?_; rintro e w' ⟨rfl, rfl⟩)
   exact bodyPost_ret (v := .tuple #[encE es[j], .bool true]) (by simp [results, Tryd.results49, go_sem]) rfl ⟨rfl, (Below.refl _ w).alloc (Nat.le_refl _) _⟩
theorem rowE_append (es fs : List E) : rowE (es ++ fs) = rowE es ++ rowE fs := by unfold rowE; exact List.flatMap_append
theorem rowE_one (e : E) : rowE [e] = cellsE e := by unfold rowE; simp
theorem rowE_at : ∀ (es : List E) (i : Nat) (h : i < es.length), (rowE es)[i * 3]? = some (.string es[i].p) ∧ (rowE es)[i * 3 + 1]? = some (.bool es[i].d) ∧ (rowE es)[i * 3 + 2]? = some (.string es[i].x)
 | e :: r, 0, _ => ⟨rfl, rfl, rfl⟩
 | e :: r, i + 1, h => by
  obtain ⟨q0, q1, q2⟩ := rowE_at r i (by simpa using h)
  have hd : ∀ j, (rowE (e :: r))[3 + j]? = (rowE r)[j]? := fun j => by
   show (cellsE e ++ rowE r)[3 + j]? = _
   rw [List.getElem?_append_right (by show 3 ≤ _; omega)]; show (rowE r)[3 + j - 3]? = _
   rw [Nat.add_sub_cancel_left]
  refine ⟨?_, ?_, ?_⟩
  ·
   rw [show (i + 1) * 3 = 3 + i * 3 from by omega, hd]; exact q0
  ·
   rw [show (i + 1) * 3 + 1 = 3 + (i * 3 + 1) from by omega, hd]; exact q1
  ·
   rw [show (i + 1) * 3 + 2 = 3 + (i * 3 + 2) from by omega, hd]; exact q2
theorem rowE_one' {e : E} : ∀ u ∈ cellsE e, u.oneCell' = true := by
 intro u hu; simp [cellsE] at hu; rcases hu with rfl | rfl | rfl <;> rfl
abbrev OwnE (w : World) (base : Nat) (v : Value) (es : List E) : Prop := w.ownsRow base 27 3 v es.length (rowE es)
theorem add0 (g j : Nat) : (⟨g, 0, none⟩ : Addr).add j = ⟨g, 0 + j, none⟩ := by
 cases j with
 | zero => rfl
 | succ j => simp [Addr.add]
theorem OwnE.ents {w : World} {base : Nat} {v : Value} {es : List E} (h : OwnE w base v es) :
  ∃ a g cap, v = .slice a es.length cap ∧ (0 < es.length → a = some ⟨g, 0, none⟩) ∧ Ents w g 0 es ∧ es.length ≤ cap := by
 have hc := fun (g : Nat) (hg : v.ownBlock = some g) => World.ownsRow.cells h hg; obtain ⟨_, ⟨rfl, e0⟩ | ⟨g, cap, cur, rfl, _, _, hcap, _⟩⟩ := h
 ·
  exact ⟨none, 0, 0, by rw [e0], fun h => by omega, fun i hi => by omega, by omega⟩
 ·
  refine ⟨_, g, cap, rfl, fun _ => rfl, fun i hi => ?_, hcap⟩; obtain ⟨q0, q1, q2⟩ := rowE_at es i hi; refine ⟨?_, ?_, ?_⟩
  ·
   have := hc g rfl _ _ q0; rw [add0] at this; exact this
  ·
   have := hc g rfl _ _ q1; rw [add0, ← Nat.add_assoc] at this; exact this
  ·
   have := hc g rfl _ _ q2; rw [add0, ← Nat.add_assoc] at this; exact this
theorem OwnE.below {w w' : World} {base : Nat} {v : Value} {es : List E} (h : OwnE w base v es) (hb : Below w.heap.size w w') : OwnE w' base v es :=
 World.ownsRow.kept (row := none) h ⟨hb.os, hb.tape, hb.output, hb.size, fun b hb' _ => hb.block b hb'⟩ (by
  cases hob : v.ownBlock with
  | none => exact .inl rfl
  | some q => exact .inr (by simp))
theorem OwnE.lower {w : World} {base base' : Nat} {v : Value} {es : List E} (h : OwnE w base v es) (hb : base' ≤ base) : OwnE w base' v es := by
 obtain ⟨h1, h2 | ⟨g, cap, cur, e1, e2, e3⟩⟩ := h
 ·
  exact ⟨h1, .inl h2⟩
 ·
  exact ⟨h1, .inr ⟨g, cap, cur, e1, Nat.le_trans hb e2, e3⟩⟩
theorem OwnE.made (w : World) {base : Nat} (hb : base ≤ w.heap.size) : OwnE (w.alloc (.cells #[] 27)) base (.slice (some ⟨w.heap.size, 0, none⟩) 0 0) [] := World.ownsRow_made w #[] 0 hb (Nat.zero_le _) rfl
theorem OwnE.push {w : World} {base : Nat} {v : Value} {es : List E} {e : E} (h : w.ownsRow base 27 3 v (es.length + 1) (rowE es ++ cellsE e)) : OwnE w base v (es ++ [e]) := by
 show World.ownsRow w base 27 3 v (es ++ [e]).length (rowE (es ++ [e]))
 rw [rowE_append, rowE_one, List.length_append]; exact h
theorem Tryd.infoE' : (Tryd.prog.info? 27).map (fun i => (i.zero, i.size, i.bytes)) = some (some (.agg #[.string ByteArray.empty, .bool false, .string ByteArray.empty]), 3, 40) := by kernel_rfl
theorem cells_new (w : World) (e : E) : ∀ j u, (cellsE e)[j]? = some u → (w.alloc (.cells #[.string e.p, .bool e.d, .string e.x] 27)).cell? ((⟨w.heap.size, 0, none⟩ : Addr).add j) = some u := by
 intro j u hj
 match j, hj with
 | 0, hj => simp [cellsE] at hj; subst hj; simp [Addr.add]
 | 1, hj => simp [cellsE] at hj; subst hj; simp [Addr.add]
 | 2, hj => simp [cellsE] at hj; subst hj; simp [Addr.add]
 | j + 3, hj => simp [cellsE] at hj
theorem run_append_no (w : World) (i0 : TypeInfo) (hi : Tryd.prog.info? 27 = some i0) (ty : TypeId) (base : Option Addr) (n cap : Nat) (hle : n ≤ cap) (ax : Option Addr) (c : Nat) :
  (Builtin.append_ #[23, 23] ty #[.slice base n cap, .slice ax 0 c]).run Tryd.prog w = .ok (.slice base n cap) w := by
 cases base <;> cases ax <;> simp [Builtin.append_, run_underlying Tryd.underlying23, sizeOf, typeInfo, hi, Builtin.lenOf, hle, Builtin.firstCells, loadCells, loadCellsFrom, storeCells]
theorem rowE_oneCell {es : List E} : ∀ u ∈ rowE es, u.oneCell' = true := by
 intro u hu; unfold rowE at hu; obtain ⟨e, _, h⟩ := List.mem_flatMap.1 hu; exact rowE_one' u h
theorem rowE_cells {w : World} {g o : Nat} {fs : List E} (hF : Ents w g o fs) : ∀ j u, (rowE fs)[j]? = some u → w.cell? ((⟨g, o, none⟩ : Addr).add j) = some u := by
 intro j u hj; have hlt : j < fs.length * 3 := by rw [← rowE_len]; exact (List.getElem?_eq_some_iff.1 hj).1
 have hq : j / 3 < fs.length := by omega
 obtain ⟨q0, q1, q2⟩ := rowE_at fs (j / 3) hq; obtain ⟨c0, c1, c2⟩ := hF (j / 3) hq
 have ad : (⟨g, o, none⟩ : Addr).add j = ⟨g, o + j, none⟩ := by
  cases j with
  | zero => rfl
  | succ j => simp [Addr.add]
 rw [ad]; have h3 : j = j / 3 * 3 ∨ j = j / 3 * 3 + 1 ∨ j = j / 3 * 3 + 2 := by omega
 rcases h3 with h | h | h
 ·
  rw [← h] at q0 c0; rw [q0] at hj; rw [c0, ← hj]
 ·
  rw [← h] at q1; rw [Nat.add_assoc, ← h] at c1; rw [q1] at hj; rw [c1, ← hj]
 ·
  rw [← h] at q2; rw [Nat.add_assoc, ← h] at c2; rw [q2] at hj; rw [c2, ← hj]
theorem wpE_append {w : World} {ops : Array Oper} {rest : List Oper} {o : Oper} {a : Act} {Q : Exit → Act → World → Prop} (hgd : o.guard = none) (s x : Operand)
  (ho : o.op = .call { callee := .builtin .append, args := #[s, x], argTypes := #[23, 23] })
  (base : Nat) (v : Value) (es : List E) (hs : a.eval s = v) (hown : OwnE w base v es)
  (ax : Option Addr) (c g of : Nat) (fs : List E) (m : Nat) (hm : fs.length = m) (hx : a.eval x = .slice ax m c) (hax : 0 < fs.length → ax = some ⟨g, of, none⟩) (hF : Ents w g of fs)
  (hl : es.length + fs.length ≤ 2097152) (hbase : base ≤ w.heap.size)
  (h : ∀ v' w', OwnE w' base v' (es ++ fs) → w.grownBy w' v.ownBlock → wpList Tryd.prog ops Q rest (a.put o.dst v') w') : wpList Tryd.prog ops Q (o :: rest) a w := by
 obtain ⟨i0, hi, hz0, hz1, hz2⟩ := info_parts Tryd.infoE'; subst hm; by_cases hm : 0 < fs.length
 ·
  obtain rfl := hax hm; refine wpList_append_own _ hgd s x 23 ho base 27 i0 _ 3 40 Tryd.underlying23 hi hz0 hz1 hz2 rfl (by decide) v es.length (rowE es) hs hown _ _ _ (rowE fs) hx (rowE_len fs) (rowE_cells hF) rowE_oneCell (by unfold maxLen; omega) (by omega) hbase ?_; intro v' w' ho' hg _; refine h v' w' ?_ hg; show World.ownsRow w' base 27 3 v' (es ++ fs).length (rowE (es ++ fs))
  rw [rowE_append, List.length_append]; exact ho'
 ·
  have h0 : fs = [] := List.length_eq_zero_iff.1 (by omega); subst h0; refine wpList_plain hgd fun K hK => ?_; unfold Oper.wp execOp
  have hv : ∃ b n cap, v = .slice b n cap ∧ n ≤ cap := by
   obtain ⟨_, ⟨rfl, _⟩ | ⟨g, cap, cur, rfl, _, _, hcap, _⟩⟩ := hown
   ·
    exact ⟨_, _, _, rfl, Nat.le_refl _⟩
   ·
    exact ⟨_, _, _, rfl, hcap⟩
  obtain ⟨b, n, cap, rfl, hle⟩ := hv; have hr := run_append_no w i0 hi o.type b n cap hle ax c; have hx' : a.eval x = .slice ax 0 c := hx; simp only [ho, resolve, invoke, builtin, Sem.run_bind, Sem.run_pure, Result.andThen_ok, List.map_toArray, List.map_cons, List.map_nil, hs, hx', hr]; exact hK _ _ (h _ _ (by rw [List.append_nil]; exact hown) ⟨rfl, rfl, rfl, Nat.le_refl _, fun _ _ _ => rfl⟩)
theorem ents_drop {w : World} {g o : Nat} {es : List E} (h : Ents w g o es) (o' j : Nat) (hj : o' = o + j * 3 ∨ es.length ≤ j) : Ents w g o' (es.drop j) := by
 intro i hi; rw [List.length_drop] at hi; rcases hj with rfl | hj
 ·
  rw [List.getElem_drop]; have := h (j + i) (by omega); rw [show o + (j + i) * 3 = o + j * 3 + i * 3 from by omega] at this; exact this
 ·
  omega
theorem ents_new (w : World) (f : E) : Ents (w.alloc (.cells #[.string f.p, .bool f.d, .string f.x] 27)) w.heap.size 0 [f] := by
 intro i hi; have : i = 0 := by simpa using hi
 subst this; exact ⟨by simp, by simp, by simp⟩
theorem below_draws2 {B : Nat} {a w : World} (h : Below B a w) (n : Nat) : Below B a (w.drewN n) := h.trans ⟨rfl, rfl, rfl, Nat.le_refl _, fun _ _ => rfl⟩
theorem OwnE.drew {w : World} {base : Nat} {v : Value} {es : List E} (h : OwnE w base v es) (n : Nat) : OwnE (w.drewN n) base v es := h.below (below_draws2 (Below.refl _ w) n)
theorem box3 {w w' : World} {a b c : Value} {T : TypeId} (h : Below (w.alloc (.cells #[a, b, c] T)).heap.size (w.alloc (.cells #[a, b, c] T)) w') :
  w'.cell? ⟨w.heap.size, 0, none⟩ = some a ∧ w'.cell? ⟨w.heap.size, 1, none⟩ = some b ∧ w'.cell? ⟨w.heap.size, 2, none⟩ = some c := by
 have lt : w.heap.size < (w.alloc (.cells #[a, b, c] T)).heap.size := by simp
 exact ⟨(h.cell (p := ⟨w.heap.size, 0, none⟩) lt).trans (by simp), (h.cell (p := ⟨w.heap.size, 1, none⟩) lt).trans (by simp), (h.cell (p := ⟨w.heap.size, 2, none⟩) lt).trans (by simp)⟩
set_option maxHeartbeats 1600000 in
set_option maxRecDepth 100000 in
theorem l2Put_any (w : World) (a : Option Addr) (g o cap : Nat) (es : List E) (p : ByteArray) (d : Bool) (x : ByteArray) (hl : es.length ≤ 1048576) (hcap : es.length ≤ cap) (ha : 0 < es.length → a = some ⟨g, o, none⟩) (hE : Ents w g o es) :
  Calls Tryd.prog 61 #[.slice a es.length cap, .agg #[.string p, .bool d, .string x]] w fun r w' => ∃ v, r = .returned v ∧ OwnE w' w.heap.size v (putE es ⟨p, d, x⟩) ∧ Below w.heap.size w w' := by
 obtain ⟨W0, hW0⟩ : ∃ W0, W0 = w.alloc (.cells #[.string p, .bool d, .string x] 27) := ⟨_, rfl⟩
 have hs0 : W0.heap.size = w.heap.size + 1 := by rw [hW0]; simp
 have HW := hidE hW0; have HB0 : Hid (Below w.heap.size w W0) := by rw [hW0]; exact (Below.refl _ w).alloc (Nat.le_refl _) _
 have HE := hidE (Ents.below hE HB0.out); clear hE; go_enter Tryd.func61, Tryd.ntmps61
 go_wp2
 rw [← hW0]; rw [← hs0]; have HS0 := hidE hs0; clear hW0 hs0
 go_loopw [5, 6] (fun v iv wl => ∃ k : Nat, k ≤ es.length ∧ iv = .int .i64 k ∧ Hid (OwnE wl W0.heap.size v (es.take k)) ∧ Hid (Below W0.heap.size W0 wl) ∧ Hid ((es.take k).all (ltP ⟨p, d, x⟩) = true)) (fun _ iv _ => es.length - (RowKit.intOf iv).toNat)
 case atStart => exact ⟨0, Nat.zero_le _, rfl, OwnE.made W0 (Nat.le_refl _), (Below.refl _ W0).alloc (Nat.le_refl _) _, rfl⟩
 case round =>
  obtain ⟨k, hk, rfl, HO, HB, HA⟩ := hrel; have hz3 := HB.out.size
  obtain ⟨b0, b1, b2⟩ : wr.cell? ⟨w.heap.size, 0, none⟩ = some (.string p) ∧ wr.cell? ⟨w.heap.size, 1, none⟩ = some (.bool d) ∧ wr.cell? ⟨w.heap.size, 2, none⟩ = some (.string x) := by
   have := HB.out; rw [HW.out] at this; exact box3 this
  by_cases hlt : k < es.length
  ·
   obtain rfl := ha (by omega); obtain ⟨c0, c1, c2⟩ := (HE.out.below HB.out) k hlt; cases hb : Op.bytesLess es[k].p.toList p.toList with
   | true =>
    have HA2 : Hid ((es.take (k + 1)).all (ltP ⟨p, d, x⟩) = true) := by
     show _ = _
     rw [List.take_succ_eq_append_getElem hlt, List.all_append, HA.out]; simp [ltP, hb]
    go_wp2
    go_quiet (fail)
    have HO1 := hidE (HO.out.drew nq); have HB1 := hidE (below_draws2 HB.out nq); clear HO HB
    go_wp2_with (first
     | (at_builtin; refine wpE_append rfl _ _ rfl W0.heap.size _ (es.take k) rfl (World.ownsRow.alloc HO1.out _) _ _ wr.heap.size 0 [es[k]] 1 rfl rfl (fun _ => rfl) (ents_new _ _) ?c1 ?c2 ?_)
     | fail)
    case c1 => rw [List.length_take]; simp; omega
    case c2 => simp; omega
    intro v' w4 hown' hgrow; have HB4 := hidE ((HB1.out.alloc hz3 _).grown hgrow (by simp; omega) (fun q hq => (World.ownsRow.lt HO1.out q hq).1))
    have HO4 : Hid (OwnE w4 W0.heap.size v' (es.take (k + 1))) := by
     show OwnE _ _ _ _
     first | exact hown' | (rw [List.take_succ_eq_append_getElem hlt]; exact hown')
    clear hown' hgrow HO1 HB1; go_wp2
    go_roundw
    case rel => exact ⟨k + 1, by omega, by go_num, HO4, HB4, HA2⟩
    case measure => simp [RowKit.intOf]; omega
   | false =>
    obtain ⟨S1, S2⟩ := span_at (q := ltP ⟨p, d, x⟩) es k hk HA.out (fun _ => hb); have HP : Hid (putE es ⟨p, d, x⟩ = es.take k ++ [⟨p, d, x⟩] ++ restE ⟨p, d, x⟩ (es.drop k)) := by show _ = _; unfold putE; rw [S1, S2]
    clear S1 S2; cases hq : (es[k].p.toList == p.toList) with
    | true =>
     have HP2 : Hid (putE es ⟨p, d, x⟩ = es.take k ++ [⟨p, d, x⟩] ++ es.drop (k + 1)) := by
      show _ = _; rw [HP.out, List.drop_eq_getElem_cons hlt]; exact congrArg _ (if_pos hq)
     have HQ := hidE hq; clear HP hq; go_wp2
     go_quiet (fail)
     have HO1 := hidE (HO.out.drew nq); have HB1 := hidE (below_draws2 HB.out nq); clear HO HB
     go_wp2_with (first
      | (at_builtin; refine wpE_append rfl _ _ rfl W0.heap.size _ (es.take k) rfl (World.ownsRow.alloc HO1.out _) _ _ wr.heap.size 0 [⟨p, d, x⟩] 1 rfl rfl (fun _ => rfl) (ents_new _ ⟨p, d, x⟩) ?c1 ?c2 ?_)
      | fail)
     case c1 => rw [List.length_take]; simp; omega
     case c2 => simp; omega
     intro v' w4 hown' hgrow; have HB4 := hidE ((HB1.out.alloc hz3 _).grown hgrow (by simp; omega) (fun q hq => (World.ownsRow.lt HO1.out q hq).1)); have HO4 : Hid (OwnE w4 W0.heap.size v' (es.take k ++ [⟨p, d, x⟩])) := hown'; have hz4 := HB4.out.size; clear hown' hgrow HO1 HB1 b0 b1 b2 c0 c1 c2
     obtain ⟨b0, b1, b2⟩ : w4.cell? ⟨w.heap.size, 0, none⟩ = some (.string p) ∧ w4.cell? ⟨w.heap.size, 1, none⟩ = some (.bool d) ∧ w4.cell? ⟨w.heap.size, 2, none⟩ = some (.string x) := by
      have := HB4.out; rw [HW.out] at this; exact box3 this
     obtain ⟨c0, c1, c2⟩ := (HE.out.below HB4.out) k hlt; have hq := HQ.out; have hq' : es[k].p.toList = p.toList := by simpa using hq
     by_cases hce : cap ≤ (k + 1)
     ·
      have hce' : cap = (k + 1) := by omega
      have hce2 : cap - (k + 1) = 0 := by omega
      go_wp2
      go_quiet (fail)
      have HO5 := hidE (HO4.out.drew nq); have HB5 := hidE (below_draws2 HB4.out nq); clear HO4 HB4
      go_wp2_with (first
       | (at_builtin; refine wpE_append rfl _ _ rfl W0.heap.size v' (es.take k ++ [⟨p, d, x⟩]) rfl HO5.out _ _ g o (es.drop (k + 1)) (es.length - (k + 1)) (List.length_drop ..) rfl (fun h => absurd h (by rw [List.length_drop]; omega)) ?hF ?c1 ?c2 ?_)
       | fail)
      case hF => exact ents_drop (HE.out.below HB5.out) _ _ (by omega)
      case c1 => rw [List.length_append, List.length_take, List.length_drop]; simp; omega
      case c2 => exact HB5.out.size
      intro v5 w5 ho5 hg5; have HB6 := hidE (HB5.out.grown hg5 HB5.out.size (fun q hq => (World.ownsRow.lt HO5.out q hq).1))
      have HO6 : Hid (OwnE w5 W0.heap.size v5 (es.take k ++ [⟨p, d, x⟩] ++ es.drop (k + 1))) := by
       show OwnE _ _ _ _
       first | exact ho5 | simpa using ho5
      clear ho5 hg5 HO5 HB5; go_wp2
      go_ret
      exact ⟨_, rfl, by rw [HP2.out]; exact HO6.out.lower (by rw [HS0.out]; omega), HB0.out.trans (HB6.out.mono (by rw [HS0.out]; omega))⟩
     ·
      have hce' : (k + 1) < cap := by omega
      have hce2 : ¬ (cap - (k + 1) = 0) := by omega
      go_wp2
      go_quiet (fail)
      have HO5 := hidE (HO4.out.drew nq); have HB5 := hidE (below_draws2 HB4.out nq); clear HO4 HB4
      go_wp2_with (first
       | (at_builtin; refine wpE_append rfl _ _ rfl W0.heap.size v' (es.take k ++ [⟨p, d, x⟩]) rfl HO5.out _ _ g (o + (k + 1) * 3) (es.drop (k + 1)) (es.length - (k + 1)) (List.length_drop ..) rfl (fun _ => rfl) ?hF ?c1 ?c2 ?_)
       | fail)
      case hF => exact ents_drop (HE.out.below HB5.out) _ _ (by omega)
      case c1 => rw [List.length_append, List.length_take, List.length_drop]; simp; omega
      case c2 => exact HB5.out.size
      intro v5 w5 ho5 hg5; have HB6 := hidE (HB5.out.grown hg5 HB5.out.size (fun q hq => (World.ownsRow.lt HO5.out q hq).1))
      have HO6 : Hid (OwnE w5 W0.heap.size v5 (es.take k ++ [⟨p, d, x⟩] ++ es.drop (k + 1))) := by
       show OwnE _ _ _ _
       first | exact ho5 | simpa using ho5
      clear ho5 hg5 HO5 HB5; go_wp2
      go_ret
      exact ⟨_, rfl, by rw [HP2.out]; exact HO6.out.lower (by rw [HS0.out]; omega), HB0.out.trans (HB6.out.mono (by rw [HS0.out]; omega))⟩
    | false =>
     have HP2 : Hid (putE es ⟨p, d, x⟩ = es.take k ++ [⟨p, d, x⟩] ++ es.drop k) := by
      show _ = _; rw [HP.out, List.drop_eq_getElem_cons hlt]; exact congrArg _ (if_neg (by rw [hq]; decide))
     have HQ := hidE hq; clear HP hq; go_wp2
     go_quiet (fail)
     have HO1 := hidE (HO.out.drew nq); have HB1 := hidE (below_draws2 HB.out nq); clear HO HB
     go_wp2_with (first
      | (at_builtin; refine wpE_append rfl _ _ rfl W0.heap.size _ (es.take k) rfl (World.ownsRow.alloc HO1.out _) _ _ wr.heap.size 0 [⟨p, d, x⟩] 1 rfl rfl (fun _ => rfl) (ents_new _ ⟨p, d, x⟩) ?c1 ?c2 ?_)
      | fail)
     case c1 => rw [List.length_take]; simp; omega
     case c2 => simp; omega
     intro v' w4 hown' hgrow; have HB4 := hidE ((HB1.out.alloc hz3 _).grown hgrow (by simp; omega) (fun q hq => (World.ownsRow.lt HO1.out q hq).1)); have HO4 : Hid (OwnE w4 W0.heap.size v' (es.take k ++ [⟨p, d, x⟩])) := hown'; have hz4 := HB4.out.size; clear hown' hgrow HO1 HB1 b0 b1 b2 c0 c1 c2
     obtain ⟨b0, b1, b2⟩ : w4.cell? ⟨w.heap.size, 0, none⟩ = some (.string p) ∧ w4.cell? ⟨w.heap.size, 1, none⟩ = some (.bool d) ∧ w4.cell? ⟨w.heap.size, 2, none⟩ = some (.string x) := by
      have := HB4.out; rw [HW.out] at this; exact box3 this
     obtain ⟨c0, c1, c2⟩ := (HE.out.below HB4.out) k hlt; have hq := HQ.out; have hq' : ¬ (es[k].p.toList = p.toList) := by simpa using hq
     by_cases hce : cap ≤ k
     ·
      exact absurd hlt (by omega)
     ·
      have hce' : k < cap := by omega
      have hce2 : ¬ (cap - k = 0) := by omega
      go_wp2
      go_quiet (fail)
      have HO5 := hidE (HO4.out.drew nq); have HB5 := hidE (below_draws2 HB4.out nq); clear HO4 HB4
      go_wp2_with (first
       | (at_builtin; refine wpE_append rfl _ _ rfl W0.heap.size v' (es.take k ++ [⟨p, d, x⟩]) rfl HO5.out _ _ g (o + k * 3) (es.drop k) (es.length - k) (List.length_drop ..) rfl (fun _ => rfl) ?hF ?c1 ?c2 ?_)
       | fail)
      case hF => exact ents_drop (HE.out.below HB5.out) _ _ (by omega)
      case c1 => rw [List.length_append, List.length_take, List.length_drop]; simp; omega
      case c2 => exact HB5.out.size
      intro v5 w5 ho5 hg5; have HB6 := hidE (HB5.out.grown hg5 HB5.out.size (fun q hq => (World.ownsRow.lt HO5.out q hq).1))
      have HO6 : Hid (OwnE w5 W0.heap.size v5 (es.take k ++ [⟨p, d, x⟩] ++ es.drop k)) := by
       show OwnE _ _ _ _
       first | exact ho5 | simpa using ho5
      clear ho5 hg5 HO5 HB5; go_wp2
      go_ret
      exact ⟨_, rfl, by rw [HP2.out]; exact HO6.out.lower (by rw [HS0.out]; omega), HB0.out.trans (HB6.out.mono (by rw [HS0.out]; omega))⟩
  ·
   obtain ⟨S1, S2⟩ := span_at (q := ltP ⟨p, d, x⟩) es k hk HA.out (fun h => absurd h hlt); have HP2 : Hid (putE es ⟨p, d, x⟩ = es.take k ++ [⟨p, d, x⟩]) := by show _ = _; unfold putE; rw [S1, S2, List.drop_of_length_le (by omega)]; exact List.append_nil _
   clear S1 S2; have hkl : es.length ≤ k := by omega
   go_wp2
   go_quiet (fail)
   have HO1 := hidE (HO.out.drew nq); have HB1 := hidE (below_draws2 HB.out nq); clear HO HB
   go_wp2_with (first
    | (at_builtin; refine wpE_append rfl _ _ rfl W0.heap.size _ (es.take k) rfl (World.ownsRow.alloc HO1.out _) _ _ wr.heap.size 0 [⟨p, d, x⟩] 1 rfl rfl (fun _ => rfl) (ents_new _ ⟨p, d, x⟩) ?c1 ?c2 ?_)
    | fail)
   case c1 => rw [List.length_take]; simp; omega
   case c2 => simp; omega
   intro v' w4 hown' hgrow; have HB4 := hidE ((HB1.out.alloc hz3 _).grown hgrow (by simp; omega) (fun q hq => (World.ownsRow.lt HO1.out q hq).1)); have HO4 : Hid (OwnE w4 W0.heap.size v' (es.take k ++ [⟨p, d, x⟩])) := hown'; have hz4 := HB4.out.size; clear hown' hgrow HO1 HB1 b0 b1 b2; cases a with
   | none =>
    by_cases hce : cap ≤ k
    ·
     have hce' : cap = k := by omega
     have hce2 : cap - k = 0 := by omega
     go_wp2
     go_quiet (fail)
     have HO5 := hidE (HO4.out.drew nq); have HB5 := hidE (below_draws2 HB4.out nq); clear HO4 HB4
     go_wp2_with (first
      | (at_builtin; refine wpE_append rfl _ _ rfl W0.heap.size v' (es.take k ++ [⟨p, d, x⟩]) rfl HO5.out _ _ 0 0 [] (es.length - k) (by show 0 = _; omega) rfl (fun h => absurd h (by decide)) (fun i hi => absurd hi (by simp)) ?c1 ?c2 ?_)
      | (at_builtin; refine wpE_append rfl _ _ rfl W0.heap.size v' (es.take k ++ [⟨p, d, x⟩]) rfl HO5.out _ _ 0 0 [] 0 rfl rfl (fun h => absurd h (by decide)) (fun i hi => absurd hi (by simp)) ?c1 ?c2 ?_)
      | fail)
     case c1 => simp; omega
     case c2 => exact HB5.out.size
     intro v5 w5 ho5 hg5; have HB6 := hidE (HB5.out.grown hg5 HB5.out.size (fun q hq => (World.ownsRow.lt HO5.out q hq).1))
     have HO6 : Hid (OwnE w5 W0.heap.size v5 (es.take k ++ [⟨p, d, x⟩])) := by
      show OwnE _ _ _ _
      first | exact ho5 | simpa using ho5
     clear ho5 hg5 HO5 HB5; go_wp2
     go_ret
     exact ⟨_, rfl, by rw [HP2.out]; exact HO6.out.lower (by rw [HS0.out]; omega), HB0.out.trans (HB6.out.mono (by rw [HS0.out]; omega))⟩
    ·
     have hce' : k < cap := by omega
     have hce2 : ¬ (cap - k = 0) := by omega
     go_wp2
     go_quiet (fail)
     have HO5 := hidE (HO4.out.drew nq); have HB5 := hidE (below_draws2 HB4.out nq); clear HO4 HB4
     go_wp2_with (first
      | (at_builtin; refine wpE_append rfl _ _ rfl W0.heap.size v' (es.take k ++ [⟨p, d, x⟩]) rfl HO5.out _ _ 0 0 [] (es.length - k) (by show 0 = _; omega) rfl (fun h => absurd h (by decide)) (fun i hi => absurd hi (by simp)) ?c1 ?c2 ?_)
      | (at_builtin; refine wpE_append rfl _ _ rfl W0.heap.size v' (es.take k ++ [⟨p, d, x⟩]) rfl HO5.out _ _ 0 0 [] 0 rfl rfl (fun h => absurd h (by decide)) (fun i hi => absurd hi (by simp)) ?c1 ?c2 ?_)
      | fail)
     case c1 => simp; omega
     case c2 => exact HB5.out.size
     intro v5 w5 ho5 hg5; have HB6 := hidE (HB5.out.grown hg5 HB5.out.size (fun q hq => (World.ownsRow.lt HO5.out q hq).1))
     have HO6 : Hid (OwnE w5 W0.heap.size v5 (es.take k ++ [⟨p, d, x⟩])) := by
      show OwnE _ _ _ _
      first | exact ho5 | simpa using ho5
     clear ho5 hg5 HO5 HB5; go_wp2
     go_ret
     exact ⟨_, rfl, by rw [HP2.out]; exact HO6.out.lower (by rw [HS0.out]; omega), HB0.out.trans (HB6.out.mono (by rw [HS0.out]; omega))⟩
   | some ad =>
    by_cases hce : cap ≤ k
    ·
     have hce' : cap = k := by omega
     have hce2 : cap - k = 0 := by omega
     go_wp2
     go_quiet (fail)
     have HO5 := hidE (HO4.out.drew nq); have HB5 := hidE (below_draws2 HB4.out nq); clear HO4 HB4
     go_wp2_with (first
      | (at_builtin; refine wpE_append rfl _ _ rfl W0.heap.size v' (es.take k ++ [⟨p, d, x⟩]) rfl HO5.out _ _ 0 0 [] (es.length - k) (by show 0 = _; omega) rfl (fun h => absurd h (by decide)) (fun i hi => absurd hi (by simp)) ?c1 ?c2 ?_)
      | (at_builtin; refine wpE_append rfl _ _ rfl W0.heap.size v' (es.take k ++ [⟨p, d, x⟩]) rfl HO5.out _ _ 0 0 [] 0 rfl rfl (fun h => absurd h (by decide)) (fun i hi => absurd hi (by simp)) ?c1 ?c2 ?_)
      | fail)
     case c1 => simp; omega
     case c2 => exact HB5.out.size
     intro v5 w5 ho5 hg5; have HB6 := hidE (HB5.out.grown hg5 HB5.out.size (fun q hq => (World.ownsRow.lt HO5.out q hq).1))
     have HO6 : Hid (OwnE w5 W0.heap.size v5 (es.take k ++ [⟨p, d, x⟩])) := by
      show OwnE _ _ _ _
      first | exact ho5 | simpa using ho5
     clear ho5 hg5 HO5 HB5; go_wp2
     go_ret
     exact ⟨_, rfl, by rw [HP2.out]; exact HO6.out.lower (by rw [HS0.out]; omega), HB0.out.trans (HB6.out.mono (by rw [HS0.out]; omega))⟩
    ·
     have hce' : k < cap := by omega
     have hce2 : ¬ (cap - k = 0) := by omega
     go_wp2
     go_quiet (fail)
     have HO5 := hidE (HO4.out.drew nq); have HB5 := hidE (below_draws2 HB4.out nq); clear HO4 HB4
     go_wp2_with (first
      | (at_builtin; refine wpE_append rfl _ _ rfl W0.heap.size v' (es.take k ++ [⟨p, d, x⟩]) rfl HO5.out _ _ 0 0 [] (es.length - k) (by show 0 = _; omega) rfl (fun h => absurd h (by decide)) (fun i hi => absurd hi (by simp)) ?c1 ?c2 ?_)
      | (at_builtin; refine wpE_append rfl _ _ rfl W0.heap.size v' (es.take k ++ [⟨p, d, x⟩]) rfl HO5.out _ _ 0 0 [] 0 rfl rfl (fun h => absurd h (by decide)) (fun i hi => absurd hi (by simp)) ?c1 ?c2 ?_)
      | fail)
     case c1 => simp; omega
     case c2 => exact HB5.out.size
     intro v5 w5 ho5 hg5; have HB6 := hidE (HB5.out.grown hg5 HB5.out.size (fun q hq => (World.ownsRow.lt HO5.out q hq).1))
     have HO6 : Hid (OwnE w5 W0.heap.size v5 (es.take k ++ [⟨p, d, x⟩])) := by
      show OwnE _ _ _ _
      first | exact ho5 | simpa using ho5
     clear ho5 hg5 HO5 HB5; go_wp2
     go_ret
     exact ⟨_, rfl, by rw [HP2.out]; exact HO6.out.lower (by rw [HS0.out]; omega), HB0.out.trans (HB6.out.mono (by rw [HS0.out]; omega))⟩
end Go.Proofs.YtoaipphccjkphaaDoor
