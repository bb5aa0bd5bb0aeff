/-
  The walks of the model on data.
-/
import Derived.WalkKit
import Derived.OwnWalk
import Derived.WalkSpells
import Derived.WalkLawsBesides
import Derived.Laws.Pointers
import Derived.Deep.QuietTactic
import Derived.BigQuiet
import Derived.Outline
import Derived.Below
import Derived.Lib.QuietBelow
import Derived.Test.YtolfeljefdgikaaGreatDoorHEntsDef
import Derived.Test.YtolfeljefdgikaaGreatDoorHPk02
import Derived.Test.YtolfeljefdgikaaGreatDoorProg
import Derived.Laws.ResultCell
namespace Go.Proofs.YtolfeljefdgikaaGreatDoor
open Go.RowKit Go.Lib Go.Sort

set_option maxHeartbeats 800000 in
set_option maxRecDepth 100000 in
theorem l2Data_any (s : ByteArray) (hs : s.size ≤ 4611686018427387904) (w : World) :
    Calls Tryz.prog 34 #[.string s] w fun e w' => e = .returned (.bool (dataB s)) ∧ w' = w := by
  go_enter Tryz.func34, Tryz.ntmps34
  go_wp2
  go_loop [3] (fun i => ∃ k : Nat, k ≤ s.size ∧ i = .int .i64 k ∧ Hid ((s.data.toList.take k).all dataC = true)) (fun i => s.size - (RowKit.intOf i).toNat)
  case atStart => exact ⟨0, Nat.zero_le _, rfl, rfl⟩
  case round =>
    obtain ⟨k, hk, rfl, HA⟩ := hrel
    by_cases hlt : k < s.size
    · have yes : dataC s[k] = true → Hid ((s.data.toList.take (k + 1)).all dataC = true) := fun h => by show _ = _; rw [data_take s k hlt, HA.out, h]; rfl
      have HY := hidE yes
      clear yes
      by_cases h1 : 97 ≤ s[k].toNat
      · by_cases h2 : s[k].toNat ≤ 122
        · have HT := HY.out (by unfold dataC low; rw [decide_eq_true ⟨h1, h2⟩]; rfl)
          go_wp2
          go_round
          case rel => exact ⟨k + 1, by omega, by go_num, HT⟩
          case measure => simp [RowKit.intOf]; omega
        · have HN := hidE (data_bad s k hlt (by unfold dataC low; rw [decide_eq_false (by omega), decide_eq_false (by omega)]; rfl))
          go_wp2
          go_ret
          exact ⟨ret_bE HN.out, rfl⟩
      · by_cases h2 : 48 ≤ s[k].toNat
        · by_cases h3 : s[k].toNat ≤ 57
          · have HT := HY.out (by unfold dataC; rw [decide_eq_true ⟨h2, h3⟩, Bool.or_true])
            go_wp2
            go_round
            case rel => exact ⟨k + 1, by omega, by go_num, HT⟩
            case measure => simp [RowKit.intOf]; omega
          · have HN := hidE (data_bad s k hlt (by unfold dataC low; rw [decide_eq_false (by omega), decide_eq_false (by omega)]; rfl))
            go_wp2
            go_ret
            exact ⟨ret_bE HN.out, rfl⟩
        · have HN := hidE (data_bad s k hlt (by unfold dataC low; rw [decide_eq_false (by omega), decide_eq_false (by omega)]; rfl))
          go_wp2
          go_ret
          exact ⟨ret_bE HN.out, rfl⟩
    · have HD := hidE (data_all s k (by omega) HA.out)
      by_cases h6 : s.size ≤ 6
      · go_wp2
        go_ret
        exact ⟨ret_bE (by rw [← HD.out, decide_eq_true h6]; exact decide_eq_true (by omega)), rfl⟩
      · go_wp2
        go_ret
        exact ⟨ret_bE (by rw [← HD.out, decide_eq_false h6]; exact decide_eq_false (by omega)), rfl⟩
theorem sOk_is (s : ByteArray) (b : Bool) (h : pathB s = b) (hm : s.size ≤ 67108864) (w : World) :
    Calls Tryz.prog 33 #[.string s] w fun e w' => e = .returned (.bool b) ∧ Below w.heap.size w w' := by
  rw [← h]; exact sOk_any s hm w
theorem l2Data_is (s : ByteArray) (b : Bool) (h : dataB s = b) (hm : s.size ≤ 67108864) (w : World) :
    Calls Tryz.prog 34 #[.string s] w fun e w' => e = .returned (.bool b) ∧ Below w.heap.size w w' := by
  rw [← h]; exact (l2Data_any s (by omega) w).mono fun e w' ⟨h1, h2⟩ => ⟨h1, by rw [h2]; exact Below.refl _ _⟩

/-- The contracts, in every world that has grown out of W0. -/
theorem cOk (W0 : World) (s : ByteArray) (b : Bool) (h : pathB s = b) (hm : s.size ≤ 67108864) : ∀ d os, Calls Tryz.prog 33 #[.string s] (grow (redrawn W0 d) os) fun e w'' => e = .returned (.bool b) ∧ ∃ p : Regrown, w'' = grow (redrawn W0 p.d) p.os :=
  fun _ _ => Calls.regrown_of (sOk_is s b h hm _)
theorem cData (W0 : World) (s : ByteArray) (b : Bool) (h : dataB s = b) (hm : s.size ≤ 67108864) : ∀ d os, Calls Tryz.prog 34 #[.string s] (grow (redrawn W0 d) os) fun e w'' => e = .returned (.bool b) ∧ ∃ p : Regrown, w'' = grow (redrawn W0 p.d) p.os :=
  fun _ _ => Calls.regrown_of (l2Data_is s b h hm _)
end Go.Proofs.YtolfeljefdgikaaGreatDoor

/-
  Lists of entries, as they lie in memory.
-/
namespace Go.Proofs.YtolfeljefdgikaaGreatDoor
open Go.RowKit Go.Lib

set_option maxHeartbeats 400000 in
set_option maxRecDepth 100000 in
theorem l2Find_any (w : World) (a : Option Addr) (g o cap : Nat) (es : List E) (s : ByteArray) (hl : es.length ≤ 16777216) (ha : 0 < es.length → a = some ⟨g, o, none⟩) (hE : Ents w g o es) :
    Calls Tryz.prog 67 #[.slice a es.length cap, .string s] w fun e w' => e = .returned (.int .i64 (findE es s)) ∧ w' = w := by
  have HE := hidE hE
  clear hE
  go_enter Tryz.func67, Tryz.ntmps67
  go_wp2
  go_loop [5] (fun i => ∃ k : Nat, k ≤ es.length ∧ i = .int .i64 k ∧ Hid (findL s (es.drop k) k = findE es s)) (fun i => es.length - (RowKit.intOf i).toNat)
  case atStart => exact ⟨0, Nat.zero_le _, rfl, rfl⟩
  case round =>
    obtain ⟨k, hk, rfl, HF⟩ := hrel
    by_cases hlt : k < es.length
    · obtain rfl := ha (by omega)
      obtain ⟨c0, c1, c2⟩ := HE.out k hlt
      have HD := hidE (find_drop s es k hlt)
      cases hc : (es[k].p.toList == s.toList) with
      | true =>
        rw [hc] at HD
        go_wp2
        go_ret
        exact ⟨ret_iE (by rw [← HF.out, HD.out]; rfl), rfl⟩
      | false =>
        rw [hc] at HD
        go_wp2
        go_round
        case rel => exact ⟨k + 1, by omega, by go_num, by show _ = _; rw [← HF.out, HD.out]; rfl⟩
        case measure => simp [RowKit.intOf]; omega
    · go_wp2
      go_ret
      exact ⟨ret_iE (by rw [← HF.out, List.drop_of_length_le (by omega)]; rfl), rfl⟩

set_option maxHeartbeats 400000 in
theorem l2Dir_any (w : World) (a : Option Addr) (g o cap : Nat) (es : List E) (s : ByteArray) (hl : es.length ≤ 16777216) (ha : 0 < es.length → a = some ⟨g, o, none⟩) (hE : Ents w g o es) :
    Calls Tryz.prog 35 #[.slice a es.length cap, .string s] w fun e w' => e = .returned (.bool (dirE es s)) ∧ w' = w := by
  have HE := hidE hE
  clear hE
  cases hr : (s.toList == [47]) with
  | true =>
    go_enter Tryz.func35, Tryz.ntmps35
    go_wp2
    go_ret
    exact ⟨ret_bE (by unfold dirE isRoot; rw [hr]; rfl), rfl⟩
  | false =>
    have HD : Hid (dirE es s = match es[(findE es s).toNat]? with | some e => decide (0 ≤ findE es s) && e.d | none => false) := by
      show _ = _; unfold dirE isRoot; rw [hr]; rfl
    have HF : Hid (∀ W : World, Ents W g o es → Calls Tryz.prog 67 #[.slice a es.length cap, .string s] W _) := fun W hW => l2Find_any W a g o cap es s hl ha hW
    rcases findE_is es s with hf | ⟨j, hj, hf, _⟩
    · rw [hf] at HD HF
      go_enter Tryz.func35, Tryz.ntmps35
      go_wp2_with (go_at_call 67; refine (HF.out _ HE.out).mono ?_; rintro e w' ⟨rfl, rfl⟩)
      go_ret
      exact ⟨ret_bE (by rw [HD.out]; split <;> rfl), rfl⟩
    · rw [hf] at HD HF
      obtain rfl := ha (by omega)
      obtain ⟨c0, c1, c2⟩ := HE.out j hj
      go_enter Tryz.func35, Tryz.ntmps35
      go_wp2_with (go_at_call 67; refine (HF.out _ HE.out).mono ?_; rintro e w' ⟨rfl, rfl⟩)
      go_ret
      exact ⟨ret_bE (by rw [HD.out]; simp [hj]), rfl⟩

end Go.Proofs.YtolfeljefdgikaaGreatDoor

/-
  The walk of the model's TreeOk.
-/
namespace Go.Proofs.YtolfeljefdgikaaGreatDoor
open Go.RowKit Go.Lib Go.Sort

theorem cUp (W0 : World) (s : ByteArray) (hm : s.size ≤ 16777216) : ∀ d os, Calls Tryz.prog 36 #[.string s] (grow (redrawn W0 d) os) fun e w'' => e = .returned (.string (upS s)) ∧ ∃ p : Regrown, w'' = grow (redrawn W0 p.d) p.os :=
  fun _ _ => Calls.regrown_of (sPathUp_any s hm _)
theorem cDir (W0 : World) (g o cap k : Nat) (es : List E) (s : ByteArray) (b : Bool) (hk : k ≤ es.length) (hl : es.length ≤ 16777216) (hE : Ents W0 g o es) (h : dirE (es.take k) s = b) : ∀ d os, Calls Tryz.prog 35 #[.slice (some ⟨g, o, none⟩) k cap, .string s] (grow (redrawn W0 d) os) fun e w'' => e = .returned (.bool b) ∧ ∃ p : Regrown, w'' = grow (redrawn W0 p.d) p.os :=
  fun d os => Calls.regrown_of (by
    have e : (es.take k).length = k := by rw [List.length_take]; omega
    have := l2Dir_any (grow (redrawn W0 d) os) (some ⟨g, o, none⟩) g o cap (es.take k) s (by omega) (fun _ => rfl) ((hE.below (below_regrown W0 d os)).take k)
    rw [e, h] at this
    exact this.mono fun _ _ ⟨h1, h2⟩ => ⟨h1, by rw [h2]; exact Below.refl _ _⟩)

set_option maxHeartbeats 8000000 in
set_option maxRecDepth 100000 in
theorem sTreeOk_any (w : World) (a : Option Addr) (g o cap : Nat) (es : List E) (hl : es.length ≤ 16777216) (hcap : es.length ≤ cap) (hz : ∀ e ∈ es, e.p.size ≤ 16777216 ∧ e.x.size ≤ 16777216) (ha : 0 < es.length → a = some ⟨g, o, none⟩) (hE : Ents w g o es) :
    Calls Tryz.prog 12 #[.slice a es.length cap] w fun e w' => e = .returned (.bool (treeE es)) ∧ Below w.heap.size w w' := by
  have HE := hidE hE
  have HZ := hidE hz
  clear hE hz
  by_cases h16 : es.length ≤ 16
  · go_enter Tryz.func12, Tryz.ntmps12
    go_wp2
    go_loopw [3] (fun i wl => ∃ k : Nat, k ≤ es.length ∧ i = .int .i64 k ∧ Hid (Below w.heap.size w wl) ∧ Hid ((List.range k).all (okAt es) = true)) (fun i _ => es.length - (RowKit.intOf i).toNat)
    case atStart => exact ⟨0, Nat.zero_le _, rfl, Below.refl _ _, rfl⟩
    case round =>
      obtain ⟨k, hk, rfl, HB, HA⟩ := hrel
      by_cases hlt : k < es.length
      · obtain rfl := ha (by omega)
        have hB := HB.out
        have HEr := hidE (HE.out.below hB)
        obtain ⟨c0, c1, c2⟩ := HEr.out k hlt
        obtain ⟨z0, z1⟩ := HZ.out es[k] (List.getElem_mem _)
        obtain ⟨p, hp⟩ : ∃ p, es[k].p = p := ⟨_, rfl⟩
        obtain ⟨d, hd⟩ : ∃ d, es[k].d = d := ⟨_, rfl⟩
        obtain ⟨x, hx⟩ : ∃ x, es[k].x = x := ⟨_, rfl⟩
        have HP := hidE hp
        have HDd := hidE hd
        have HX := hidE hx
        rw [hp] at c0 z0
        rw [hd] at c1
        rw [hx] at c2 z1
        clear hp hd hx
        obtain ⟨W0, hW0⟩ : ∃ W0, wr.alloc (.cells #[.string p, .bool d, .string x] 35) = W0 := ⟨_, rfl⟩
        have hb0 : Below wr.heap.size wr W0 := by rw [← hW0]; exact (Below.refl _ wr).alloc (Nat.le_refl _) _
        have k0 := cell_regrown (show W0.cell? ⟨wr.heap.size, 0, none⟩ = some (.string p) by rw [← hW0]; simp)
        have k1 := cell_regrown (show W0.cell? ⟨wr.heap.size, 1, none⟩ = some (.bool d) by rw [← hW0]; simp)
        have k2 := cell_regrown (show W0.cell? ⟨wr.heap.size, 2, none⟩ = some (.string x) by rw [← hW0]; simp)
        have HE0 := hidE (HEr.out.below hb0)
        have HB0 := hidE (hB.trans (hb0.mono hB.size))
        have HOK := hidE (okAt_is hlt)
        rw [HP.out, HDd.out, HX.out] at HOK
        clear hb0
        cases f1 : pathB p with
        | false =>
          rw [f1] at HOK
          have a1 := cOk W0 p false f1 (by omega)
          go_wp2
          refine wp_region_quiet_below (by kernel_rfl) (by kernel_rfl) ?_
          repeat (go_big_quiet_step (first | exact a1 _ _))
          refine wpQuiet_nil ?_
          intro _ hw'
          obtain ⟨⟨dq, osq⟩, hw''⟩ := hw'
          subst hw''
          have HBq := hidE (HB0.out.trans ((below_regrown W0 dq osq).mono HB0.out.size))
          clear HB0 HE0 k0 k1 k2 a1
          go_wp2
          go_ret
          exact ⟨ret_bE (treeE_no hlt (by rw [HOK.out]; simp)), HBq.out⟩
        | true =>
          rw [f1] at HOK
          have a1 := cOk W0 p true f1 (by omega)
          cases f2 : dataB x with
          | false =>
            rw [f2] at HOK
            have a2 := cData W0 x false f2 (by omega)
            go_wp2
            refine wp_region_quiet_below (by kernel_rfl) (by kernel_rfl) ?_
            repeat (go_big_quiet_step (first | exact a1 _ _ | exact a2 _ _))
            refine wpQuiet_nil ?_
            intro _ hw'
            obtain ⟨⟨dq, osq⟩, hw''⟩ := hw'
            subst hw''
            have HBq := hidE (HB0.out.trans ((below_regrown W0 dq osq).mono HB0.out.size))
            clear HB0 HE0 k0 k1 k2 a1 a2
            go_wp2
            go_ret
            exact ⟨ret_bE (treeE_no hlt (by rw [HOK.out]; simp)), HBq.out⟩
          | true =>
            rw [f2] at HOK
            have a2 := cData W0 x true f2 (by omega)
            have a3 := cUp W0 p (by omega)
            cases d with
            | true =>
              cases f3 : x.toList.isEmpty with
              | false =>
                rw [f3] at HOK
                go_wp2
                refine wp_region_quiet_below (by kernel_rfl) (by kernel_rfl) ?_
                repeat (go_big_quiet_step (first | exact a1 _ _ | exact a2 _ _))
                refine wpQuiet_nil ?_
                intro _ hw'
                obtain ⟨⟨dq, osq⟩, hw''⟩ := hw'
                subst hw''
                have HBq := hidE (HB0.out.trans ((below_regrown W0 dq osq).mono HB0.out.size))
                clear HB0 HE0 k0 k1 k2 a1 a2
                go_wp2
                go_ret
                exact ⟨ret_bE (treeE_no hlt (by rw [HOK.out]; simp)), HBq.out⟩
              | true =>
                rw [f3] at HOK
                by_cases hk0 : k = 0
                · subst hk0
                  simp only [Nat.zero_mul, Nat.add_zero] at c0 c1 c2
                  cases f5 : dirE (es.take 0) (upS p) with
                  | true =>
                    rw [f5] at HOK
                    have a4 := cDir W0 g o cap 0 es (upS p) true (by omega) hl HE0.out f5
                    go_wp2
                    refine wp_region_quiet_below (by kernel_rfl) (by kernel_rfl) ?_
                    repeat (go_big_quiet_step (first | exact a1 _ _ | exact a2 _ _ | exact a3 _ _ | exact a4 _ _))
                    refine wpQuiet_nil ?_
                    intro _ hw'
                    obtain ⟨⟨dq, osq⟩, hw''⟩ := hw'
                    subst hw''
                    have HBq := hidE (HB0.out.trans ((below_regrown W0 dq osq).mono HB0.out.size))
                    clear HB0 HE0 k0 k1 k2 a1 a2 a3 a4
                    go_wp2
                    go_roundw
                    case rel => exact ⟨0 + 1, by omega, by go_num, HBq, all_range_succ _ 0 HA.out (by rw [HOK.out]; simp)⟩
                    case measure => simp [RowKit.intOf]; omega
                  | false =>
                    rw [f5] at HOK
                    have a4 := cDir W0 g o cap 0 es (upS p) false (by omega) hl HE0.out f5
                    go_wp2
                    refine wp_region_quiet_below (by kernel_rfl) (by kernel_rfl) ?_
                    repeat (go_big_quiet_step (first | exact a1 _ _ | exact a2 _ _ | exact a3 _ _ | exact a4 _ _))
                    refine wpQuiet_nil ?_
                    intro _ hw'
                    obtain ⟨⟨dq, osq⟩, hw''⟩ := hw'
                    subst hw''
                    have HBq := hidE (HB0.out.trans ((below_regrown W0 dq osq).mono HB0.out.size))
                    clear HB0 HE0 k0 k1 k2 a1 a2 a3 a4
                    go_wp2
                    go_ret
                    exact ⟨ret_bE (treeE_no hlt (by rw [HOK.out]; simp)), HBq.out⟩
                · obtain ⟨m, rfl⟩ : ∃ m, k = m + 1 := ⟨k - 1, by omega⟩
                  have hm : m < es.length := by omega
                  have hcap' : (m : Int) + 1 ≤ (cap : Int) := by omega
                  have kq := cell_regrown (HE0.out m hm).1
                  rw [show m + 1 - 1 = m from rfl, List.getElem?_eq_getElem hm, Option.map_some, Option.getD_some] at HOK
                  obtain ⟨q, hq⟩ : ∃ q, es[m].p = q := ⟨_, rfl⟩
                  rw [hq] at kq HOK
                  clear hq
                  have hpos : decide ((0 : Int) < (m : Int) + 1) = true := decide_eq_true (by omega)
                  cases f4 : Op.bytesLess q.toList p.toList with
                  | false =>
                    rw [f4] at HOK
                    go_wp2
                    refine wp_region_quiet_below (by kernel_rfl) (by kernel_rfl) ?_
                    repeat (go_big_quiet_step (first | exact a1 _ _ | exact a2 _ _))
                    refine wpQuiet_nil ?_
                    intro _ hw'
                    obtain ⟨⟨dq, osq⟩, hw''⟩ := hw'
                    subst hw''
                    have HBq := hidE (HB0.out.trans ((below_regrown W0 dq osq).mono HB0.out.size))
                    clear HB0 HE0 k0 k1 k2 kq a1 a2
                    go_wp2
                    go_ret
                    exact ⟨ret_bE (treeE_no hlt (by rw [HOK.out]; simp)), HBq.out⟩
                  | true =>
                    rw [f4] at HOK
                    cases f5 : dirE (es.take (m + 1)) (upS p) with
                    | true =>
                      rw [f5] at HOK
                      have a4 := cDir W0 g o cap (m + 1) es (upS p) true (by omega) hl HE0.out f5
                      go_wp2
                      refine wp_region_quiet_below (by kernel_rfl) (by kernel_rfl) ?_
                      repeat (go_big_quiet_step (first | exact a1 _ _ | exact a2 _ _ | exact a3 _ _ | exact a4 _ _))
                      refine wpQuiet_nil ?_
                      intro _ hw'
                      obtain ⟨⟨dq, osq⟩, hw''⟩ := hw'
                      subst hw''
                      have HBq := hidE (HB0.out.trans ((below_regrown W0 dq osq).mono HB0.out.size))
                      clear HB0 HE0 k0 k1 k2 kq a1 a2 a3 a4
                      go_wp2
                      go_roundw
                      case rel => exact ⟨m + 1 + 1, by omega, by go_num, HBq, all_range_succ _ (m + 1) HA.out (by rw [HOK.out]; simp)⟩
                      case measure => simp [RowKit.intOf]; omega
                    | false =>
                      rw [f5] at HOK
                      have a4 := cDir W0 g o cap (m + 1) es (upS p) false (by omega) hl HE0.out f5
                      go_wp2
                      refine wp_region_quiet_below (by kernel_rfl) (by kernel_rfl) ?_
                      repeat (go_big_quiet_step (first | exact a1 _ _ | exact a2 _ _ | exact a3 _ _ | exact a4 _ _))
                      refine wpQuiet_nil ?_
                      intro _ hw'
                      obtain ⟨⟨dq, osq⟩, hw''⟩ := hw'
                      subst hw''
                      have HBq := hidE (HB0.out.trans ((below_regrown W0 dq osq).mono HB0.out.size))
                      clear HB0 HE0 k0 k1 k2 kq a1 a2 a3 a4
                      go_wp2
                      go_ret
                      exact ⟨ret_bE (treeE_no hlt (by rw [HOK.out]; simp)), HBq.out⟩
            | false =>
              by_cases hk0 : k = 0
              · subst hk0
                simp only [Nat.zero_mul, Nat.add_zero] at c0 c1 c2
                cases f5 : dirE (es.take 0) (upS p) with
                | true =>
                  rw [f5] at HOK
                  have a4 := cDir W0 g o cap 0 es (upS p) true (by omega) hl HE0.out f5
                  go_wp2
                  refine wp_region_quiet_below (by kernel_rfl) (by kernel_rfl) ?_
                  repeat (go_big_quiet_step (first | exact a1 _ _ | exact a2 _ _ | exact a3 _ _ | exact a4 _ _))
                  refine wpQuiet_nil ?_
                  intro _ hw'
                  obtain ⟨⟨dq, osq⟩, hw''⟩ := hw'
                  subst hw''
                  have HBq := hidE (HB0.out.trans ((below_regrown W0 dq osq).mono HB0.out.size))
                  clear HB0 HE0 k0 k1 k2 a1 a2 a3 a4
                  go_wp2
                  go_roundw
                  case rel => exact ⟨0 + 1, by omega, by go_num, HBq, all_range_succ _ 0 HA.out (by rw [HOK.out]; simp)⟩
                  case measure => simp [RowKit.intOf]; omega
                | false =>
                  rw [f5] at HOK
                  have a4 := cDir W0 g o cap 0 es (upS p) false (by omega) hl HE0.out f5
                  go_wp2
                  refine wp_region_quiet_below (by kernel_rfl) (by kernel_rfl) ?_
                  repeat (go_big_quiet_step (first | exact a1 _ _ | exact a2 _ _ | exact a3 _ _ | exact a4 _ _))
                  refine wpQuiet_nil ?_
                  intro _ hw'
                  obtain ⟨⟨dq, osq⟩, hw''⟩ := hw'
                  subst hw''
                  have HBq := hidE (HB0.out.trans ((below_regrown W0 dq osq).mono HB0.out.size))
                  clear HB0 HE0 k0 k1 k2 a1 a2 a3 a4
                  go_wp2
                  go_ret
                  exact ⟨ret_bE (treeE_no hlt (by rw [HOK.out]; simp)), HBq.out⟩
              · obtain ⟨m, rfl⟩ : ∃ m, k = m + 1 := ⟨k - 1, by omega⟩
                have hm : m < es.length := by omega
                have hcap' : (m : Int) + 1 ≤ (cap : Int) := by omega
                have kq := cell_regrown (HE0.out m hm).1
                rw [show m + 1 - 1 = m from rfl, List.getElem?_eq_getElem hm, Option.map_some, Option.getD_some] at HOK
                obtain ⟨q, hq⟩ : ∃ q, es[m].p = q := ⟨_, rfl⟩
                rw [hq] at kq HOK
                clear hq
                have hpos : decide ((0 : Int) < (m : Int) + 1) = true := decide_eq_true (by omega)
                cases f4 : Op.bytesLess q.toList p.toList with
                | false =>
                  rw [f4] at HOK
                  go_wp2
                  refine wp_region_quiet_below (by kernel_rfl) (by kernel_rfl) ?_
                  repeat (go_big_quiet_step (first | exact a1 _ _ | exact a2 _ _))
                  refine wpQuiet_nil ?_
                  intro _ hw'
                  obtain ⟨⟨dq, osq⟩, hw''⟩ := hw'
                  subst hw''
                  have HBq := hidE (HB0.out.trans ((below_regrown W0 dq osq).mono HB0.out.size))
                  clear HB0 HE0 k0 k1 k2 kq a1 a2
                  go_wp2
                  go_ret
                  exact ⟨ret_bE (treeE_no hlt (by rw [HOK.out]; simp)), HBq.out⟩
                | true =>
                  rw [f4] at HOK
                  cases f5 : dirE (es.take (m + 1)) (upS p) with
                  | true =>
                    rw [f5] at HOK
                    have a4 := cDir W0 g o cap (m + 1) es (upS p) true (by omega) hl HE0.out f5
                    go_wp2
                    refine wp_region_quiet_below (by kernel_rfl) (by kernel_rfl) ?_
                    repeat (go_big_quiet_step (first | exact a1 _ _ | exact a2 _ _ | exact a3 _ _ | exact a4 _ _))
                    refine wpQuiet_nil ?_
                    intro _ hw'
                    obtain ⟨⟨dq, osq⟩, hw''⟩ := hw'
                    subst hw''
                    have HBq := hidE (HB0.out.trans ((below_regrown W0 dq osq).mono HB0.out.size))
                    clear HB0 HE0 k0 k1 k2 kq a1 a2 a3 a4
                    go_wp2
                    go_roundw
                    case rel => exact ⟨m + 1 + 1, by omega, by go_num, HBq, all_range_succ _ (m + 1) HA.out (by rw [HOK.out]; simp)⟩
                    case measure => simp [RowKit.intOf]; omega
                  | false =>
                    rw [f5] at HOK
                    have a4 := cDir W0 g o cap (m + 1) es (upS p) false (by omega) hl HE0.out f5
                    go_wp2
                    refine wp_region_quiet_below (by kernel_rfl) (by kernel_rfl) ?_
                    repeat (go_big_quiet_step (first | exact a1 _ _ | exact a2 _ _ | exact a3 _ _ | exact a4 _ _))
                    refine wpQuiet_nil ?_
                    intro _ hw'
                    obtain ⟨⟨dq, osq⟩, hw''⟩ := hw'
                    subst hw''
                    have HBq := hidE (HB0.out.trans ((below_regrown W0 dq osq).mono HB0.out.size))
                    clear HB0 HE0 k0 k1 k2 kq a1 a2 a3 a4
                    go_wp2
                    go_ret
                    exact ⟨ret_bE (treeE_no hlt (by rw [HOK.out]; simp)), HBq.out⟩
      · have HT : Hid (treeE es = true) := by
          show _ = _
          unfold treeE
          rw [decide_eq_true h16, Bool.true_and]
          have := HA.out
          rw [show k = es.length from by omega] at this; exact this
        go_wp2
        go_ret
        exact ⟨ret_bE HT.out.symm, HB.out⟩
  · go_enter Tryz.func12, Tryz.ntmps12
    go_wp2
    go_ret
    exact ⟨ret_bE (by unfold treeE; rw [decide_eq_false h16]; rfl), Below.refl _ _⟩
end Go.Proofs.YtolfeljefdgikaaGreatDoor

/-
  The walks of what the model tells of a path of a tree.
-/
namespace Go.Proofs.YtolfeljefdgikaaGreatDoor
open Go.RowKit Go.Lib

theorem bcellE {W w1 : World} (hb : Below W.heap.size W w1) : (∀ b o, b < W.heap.size → w1.cell? ⟨b, o, none⟩ = W.cell? ⟨b, o, none⟩) ∧ (∀ b o, b < W.heap.size → w1.frozen? ⟨b, o, none⟩ = W.frozen? ⟨b, o, none⟩) :=
  ⟨fun b o h => hb.cell (p := ⟨b, o, none⟩) h, fun b o h => hb.frozen (p := ⟨b, o, none⟩) h⟩

set_option maxHeartbeats 400000 in
theorem l2Get_any (w : World) (a : Option Addr) (g o cap : Nat) (es : List E) (s : ByteArray) (hl : es.length ≤ 16777216) (ha : 0 < es.length → a = some ⟨g, o, none⟩) (hE : Ents w g o es) :
    Calls Tryz.prog 43 #[.slice a es.length cap, .string s] w fun r w' => r = .returned (.tuple #[encE (getE es s).1, .bool (getE es s).2]) ∧ Below w.heap.size w w' := by
  have hb : Below w.heap.size w (w.alloc (.cells #[.string ⟨#[]⟩, .bool false, .string ⟨#[]⟩] 35)) := (Below.refl _ w).alloc (Nat.le_refl _) _
  have HE := hidE (hE.below hb)
  have HF := hidE (fun (W : World) (hW : Ents W g o es) => l2Find_any W a g o cap es s hl ha hW)
  clear hE hb
  cases hr : (s.toList == [47]) with
  | true =>
    rw [getE_root hr]
    go_enter Tryz.func43, Tryz.ntmps43
    go_wp2
    exact bodyPost_ret (v := .tuple #[encE rootE, .bool true]) (by simp [results, Tryz.results43, go_sem, rootE]) rfl ⟨rfl, (Below.refl _ w).alloc (Nat.le_refl _) _⟩
  | false =>
    rcases findE_is es s with hf | ⟨j, hj, hf, _⟩
    · rw [getE_no hr hf]
      rw [hf] at HF
      go_enter Tryz.func43, Tryz.ntmps43
      go_wp2_with (go_at_call 67; refine (HF.out _ HE.out).mono ?_; rintro e w' ⟨rfl, rfl⟩)
      exact bodyPost_ret (v := .tuple #[encE noneE, .bool false]) (by simp [results, Tryz.results43, go_sem, noneE]) rfl ⟨rfl, (Below.refl _ w).alloc (Nat.le_refl _) _⟩
    · rw [getE_at hr hj hf]
      rw [hf] at HF
      obtain rfl := ha (by omega)
      obtain ⟨c0, c1, c2⟩ := HE.out j hj
      go_enter Tryz.func43, Tryz.ntmps43
      go_wp2_with (go_at_call 67; refine (HF.out _ HE.out).mono ?_; rintro e w' ⟨rfl, rfl⟩)
      exact bodyPost_ret (v := .tuple #[encE es[j], .bool true]) (by simp [results, Tryz.results43, go_sem]) rfl ⟨rfl, (Below.refl _ w).alloc (Nat.le_refl _) _⟩

end Go.Proofs.YtolfeljefdgikaaGreatDoor
