/-
  The walks of the model on data.
-/
import Derived.WalkKit
import Derived.OwnWalk
import Derived.WalkSpells
import Derived.WalkLawsBesides
import Derived.Laws.Pointers
import Derived.Deep.QuietTactic
import Derived.BigQuiet
import Derived.Outline
import Derived.Below
import Derived.Lib.QuietBelow
import Derived.Test.YtkjpmngohocmlaaGreatDoorHPk14
import Derived.Test.YtkjpmngohocmlaaGreatDoorHPk19
import Derived.Test.YtkjpmngohocmlaaGreatDoorProg
import Derived.Maps.AppendAt
import Derived.Laws.IdiomStrings
namespace Go.Proofs.YtkjpmngohocmlaaGreatDoor
open Go.RowKit Go.Lib Go.Sort

set_option maxHeartbeats 800000 in
set_option maxRecDepth 100000 in
theorem l2Data_any (s : ByteArray) (hs : s.size ≤ 4611686018427387904) (w : World) :
    Calls Tryz.prog 41 #[.string s] w fun e w' => e = .returned (.bool (dataB s)) ∧ w' = w := by
  go_enter Tryz.func41, Tryz.ntmps41
  go_wp2
  go_loop [3] (fun i => ∃ k : Nat, k ≤ s.size ∧ i = .int .i64 k ∧ Hid ((s.data.toList.take k).all dataC = true)) (fun i => s.size - (RowKit.intOf i).toNat)
  case atStart => exact ⟨0, Nat.zero_le _, rfl, rfl⟩
  case round =>
    obtain ⟨k, hk, rfl, HA⟩ := hrel
    by_cases hlt : k < s.size
    · have yes : dataC s[k] = true → Hid ((s.data.toList.take (k + 1)).all dataC = true) := fun h => by show _ = _; rw [data_take s k hlt, HA.out, h]; rfl
      have HY := hidE yes
      clear yes
      by_cases h1 : 97 ≤ s[k].toNat
      · by_cases h2 : s[k].toNat ≤ 122
        · have HT := HY.out (by unfold dataC low; rw [decide_eq_true ⟨h1, h2⟩]; rfl)
          go_wp2
          go_round
          case rel => exact ⟨k + 1, by omega, by go_num, HT⟩
          case measure => simp [RowKit.intOf]; omega
        · have HN := hidE (data_bad s k hlt (by unfold dataC low; rw [decide_eq_false (by omega), decide_eq_false (by omega)]; rfl))
          go_wp2
          go_ret
          exact ⟨ret_bE HN.out, rfl⟩
      · by_cases h2 : 48 ≤ s[k].toNat
        · by_cases h3 : s[k].toNat ≤ 57
          · have HT := HY.out (by unfold dataC; rw [decide_eq_true ⟨h2, h3⟩, Bool.or_true])
            go_wp2
            go_round
            case rel => exact ⟨k + 1, by omega, by go_num, HT⟩
            case measure => simp [RowKit.intOf]; omega
          · have HN := hidE (data_bad s k hlt (by unfold dataC low; rw [decide_eq_false (by omega), decide_eq_false (by omega)]; rfl))
            go_wp2
            go_ret
            exact ⟨ret_bE HN.out, rfl⟩
        · have HN := hidE (data_bad s k hlt (by unfold dataC low; rw [decide_eq_false (by omega), decide_eq_false (by omega)]; rfl))
          go_wp2
          go_ret
          exact ⟨ret_bE HN.out, rfl⟩
    · have HD := hidE (data_all s k (by omega) HA.out)
      by_cases h6 : s.size ≤ 6
      · go_wp2
        go_ret
        exact ⟨ret_bE (by rw [← HD.out, decide_eq_true h6]; exact decide_eq_true (by omega)), rfl⟩
      · go_wp2
        go_ret
        exact ⟨ret_bE (by rw [← HD.out, decide_eq_false h6]; exact decide_eq_false (by omega)), rfl⟩
theorem sOk_is (s : ByteArray) (b : Bool) (h : pathB s = b) (hm : s.size ≤ 67108864) (w : World) :
    Calls Tryz.prog 40 #[.string s] w fun e w' => e = .returned (.bool b) ∧ Below w.heap.size w w' := by
  rw [← h]; exact sOk_any s hm w
theorem l2Data_is (s : ByteArray) (b : Bool) (h : dataB s = b) (hm : s.size ≤ 67108864) (w : World) :
    Calls Tryz.prog 41 #[.string s] w fun e w' => e = .returned (.bool b) ∧ Below w.heap.size w w' := by
  rw [← h]; exact (l2Data_any s (by omega) w).mono fun e w' ⟨h1, h2⟩ => ⟨h1, by rw [h2]; exact Below.refl _ _⟩

/-- The contracts, in every world that has grown out of W0. -/
theorem cOk (W0 : World) (s : ByteArray) (b : Bool) (h : pathB s = b) (hm : s.size ≤ 67108864) : ∀ d os, Calls Tryz.prog 40 #[.string s] (grow (redrawn W0 d) os) fun e w'' => e = .returned (.bool b) ∧ ∃ p : Regrown, w'' = grow (redrawn W0 p.d) p.os :=
  fun _ _ => Calls.regrown_of (sOk_is s b h hm _)
theorem cData (W0 : World) (s : ByteArray) (b : Bool) (h : dataB s = b) (hm : s.size ≤ 67108864) : ∀ d os, Calls Tryz.prog 41 #[.string s] (grow (redrawn W0 d) os) fun e w'' => e = .returned (.bool b) ∧ ∃ p : Regrown, w'' = grow (redrawn W0 p.d) p.os :=
  fun _ _ => Calls.regrown_of (l2Data_is s b h hm _)
end Go.Proofs.YtkjpmngohocmlaaGreatDoor

/-
  Lists of entries, as they lie in memory.
-/
namespace Go.Proofs.YtkjpmngohocmlaaGreatDoor
open Go.RowKit Go.Lib

set_option maxHeartbeats 400000 in
set_option maxRecDepth 100000 in
theorem l2Find_any (w : World) (a : Option Addr) (g o cap : Nat) (es : List E) (s : ByteArray) (hl : es.length ≤ 16777216) (ha : 0 < es.length → a = some ⟨g, o, none⟩) (hE : Ents w g o es) :
    Calls Tryz.prog 109 #[.slice a es.length cap, .string s] w fun e w' => e = .returned (.int .i64 (findE es s)) ∧ w' = w := by
  have HE := hidE hE
  clear hE
  go_enter Tryz.func109, Tryz.ntmps109
  go_wp2
  go_loop [5] (fun i => ∃ k : Nat, k ≤ es.length ∧ i = .int .i64 k ∧ Hid (findL s (es.drop k) k = findE es s)) (fun i => es.length - (RowKit.intOf i).toNat)
  case atStart => exact ⟨0, Nat.zero_le _, rfl, rfl⟩
  case round =>
    obtain ⟨k, hk, rfl, HF⟩ := hrel
    by_cases hlt : k < es.length
    · obtain rfl := ha (by omega)
      obtain ⟨c0, c1, c2⟩ := HE.out k hlt
      have HD := hidE (find_drop s es k hlt)
      cases hc : (es[k].p.toList == s.toList) with
      | true =>
        rw [hc] at HD
        go_wp2
        go_ret
        exact ⟨ret_iE (by rw [← HF.out, HD.out]; rfl), rfl⟩
      | false =>
        rw [hc] at HD
        go_wp2
        go_round
        case rel => exact ⟨k + 1, by omega, by go_num, by show _ = _; rw [← HF.out, HD.out]; rfl⟩
        case measure => simp [RowKit.intOf]; omega
    · go_wp2
      go_ret
      exact ⟨ret_iE (by rw [← HF.out, List.drop_of_length_le (by omega)]; rfl), rfl⟩

set_option maxHeartbeats 400000 in
theorem l2Dir_any (w : World) (a : Option Addr) (g o cap : Nat) (es : List E) (s : ByteArray) (hl : es.length ≤ 16777216) (ha : 0 < es.length → a = some ⟨g, o, none⟩) (hE : Ents w g o es) :
    Calls Tryz.prog 65 #[.slice a es.length cap, .string s] w fun e w' => e = .returned (.bool (dirE es s)) ∧ w' = w := by
  have HE := hidE hE
  clear hE
  cases hr : (s.toList == [47]) with
  | true =>
    go_enter Tryz.func65, Tryz.ntmps65
    go_wp2
    go_ret
    exact ⟨ret_bE (by unfold dirE isRoot; rw [hr]; rfl), rfl⟩
  | false =>
    have HD : Hid (dirE es s = match es[(findE es s).toNat]? with | some e => decide (0 ≤ findE es s) && e.d | none => false) := by
      show _ = _; unfold dirE isRoot; rw [hr]; rfl
    have HF : Hid (∀ W : World, Ents W g o es → Calls Tryz.prog 109 #[.slice a es.length cap, .string s] W _) := fun W hW => l2Find_any W a g o cap es s hl ha hW
    rcases findE_is es s with hf | ⟨j, hj, hf, _⟩
    · rw [hf] at HD HF
      go_enter Tryz.func65, Tryz.ntmps65
      go_wp2_with (go_at_call 109; refine (HF.out _ HE.out).mono ?_; rintro e w' ⟨rfl, rfl⟩)
      go_ret
      exact ⟨ret_bE (by rw [HD.out]; split <;> rfl), rfl⟩
    · rw [hf] at HD HF
      obtain rfl := ha (by omega)
      obtain ⟨c0, c1, c2⟩ := HE.out j hj
      go_enter Tryz.func65, Tryz.ntmps65
      go_wp2_with (go_at_call 109; refine (HF.out _ HE.out).mono ?_; rintro e w' ⟨rfl, rfl⟩)
      go_ret
      exact ⟨ret_bE (by rw [HD.out]; simp [hj]), rfl⟩

end Go.Proofs.YtkjpmngohocmlaaGreatDoor

/-
  The walk of the model's TreeOk.
-/
namespace Go.Proofs.YtkjpmngohocmlaaGreatDoor
open Go.RowKit Go.Lib Go.Sort

theorem cUp (W0 : World) (s : ByteArray) (hm : s.size ≤ 16777216) : ∀ d os, Calls Tryz.prog 66 #[.string s] (grow (redrawn W0 d) os) fun e w'' => e = .returned (.string (upS s)) ∧ ∃ p : Regrown, w'' = grow (redrawn W0 p.d) p.os :=
  fun _ _ => Calls.regrown_of (sPathUp_any s hm _)
theorem cDir (W0 : World) (g o cap k : Nat) (es : List E) (s : ByteArray) (b : Bool) (hk : k ≤ es.length) (hl : es.length ≤ 16777216) (hE : Ents W0 g o es) (h : dirE (es.take k) s = b) : ∀ d os, Calls Tryz.prog 65 #[.slice (some ⟨g, o, none⟩) k cap, .string s] (grow (redrawn W0 d) os) fun e w'' => e = .returned (.bool b) ∧ ∃ p : Regrown, w'' = grow (redrawn W0 p.d) p.os :=
  fun d os => Calls.regrown_of (by
    have e : (es.take k).length = k := by rw [List.length_take]; omega
    have := l2Dir_any (grow (redrawn W0 d) os) (some ⟨g, o, none⟩) g o cap (es.take k) s (by omega) (fun _ => rfl) ((hE.below (below_regrown W0 d os)).take k)
    rw [e, h] at this
    exact this.mono fun _ _ ⟨h1, h2⟩ => ⟨h1, by rw [h2]; exact Below.refl _ _⟩)

set_option maxHeartbeats 8000000 in
set_option maxRecDepth 100000 in
theorem sTreeOk_any (w : World) (a : Option Addr) (g o cap : Nat) (es : List E) (hl : es.length ≤ 16777216) (hcap : es.length ≤ cap) (hz : ∀ e ∈ es, e.p.size ≤ 16777216 ∧ e.x.size ≤ 16777216) (ha : 0 < es.length → a = some ⟨g, o, none⟩) (hE : Ents w g o es) :
    Calls Tryz.prog 26 #[.slice a es.length cap] w fun e w' => e = .returned (.bool (treeE es)) ∧ Below w.heap.size w w' := by
  have HE := hidE hE
  have HZ := hidE hz
  clear hE hz
  by_cases h16 : es.length ≤ 16
  · go_enter Tryz.func26, Tryz.ntmps26
    go_wp2
    go_loopw [3] (fun i wl => ∃ k : Nat, k ≤ es.length ∧ i = .int .i64 k ∧ Hid (Below w.heap.size w wl) ∧ Hid ((List.range k).all (okAt es) = true)) (fun i _ => es.length - (RowKit.intOf i).toNat)
    case atStart => exact ⟨0, Nat.zero_le _, rfl, Below.refl _ _, rfl⟩
    case round =>
      obtain ⟨k, hk, rfl, HB, HA⟩ := hrel
      by_cases hlt : k < es.length
      · obtain rfl := ha (by omega)
        have hB := HB.out
        have HEr := hidE (HE.out.below hB)
        obtain ⟨c0, c1, c2⟩ := HEr.out k hlt
        obtain ⟨z0, z1⟩ := HZ.out es[k] (List.getElem_mem _)
        obtain ⟨p, hp⟩ : ∃ p, es[k].p = p := ⟨_, rfl⟩
        obtain ⟨d, hd⟩ : ∃ d, es[k].d = d := ⟨_, rfl⟩
        obtain ⟨x, hx⟩ : ∃ x, es[k].x = x := ⟨_, rfl⟩
        have HP := hidE hp
        have HDd := hidE hd
        have HX := hidE hx
        rw [hp] at c0 z0
        rw [hd] at c1
        rw [hx] at c2 z1
        clear hp hd hx
        obtain ⟨W0, hW0⟩ : ∃ W0, wr.alloc (.cells #[.string p, .bool d, .string x] 32) = W0 := ⟨_, rfl⟩
        have hb0 : Below wr.heap.size wr W0 := by rw [← hW0]; exact (Below.refl _ wr).alloc (Nat.le_refl _) _
        have k0 := cell_regrown (show W0.cell? ⟨wr.heap.size, 0, none⟩ = some (.string p) by rw [← hW0]; simp)
        have k1 := cell_regrown (show W0.cell? ⟨wr.heap.size, 1, none⟩ = some (.bool d) by rw [← hW0]; simp)
        have k2 := cell_regrown (show W0.cell? ⟨wr.heap.size, 2, none⟩ = some (.string x) by rw [← hW0]; simp)
        have HE0 := hidE (HEr.out.below hb0)
        have HB0 := hidE (hB.trans (hb0.mono hB.size))
        have HOK := hidE (okAt_is hlt)
        rw [HP.out, HDd.out, HX.out] at HOK
        clear hb0
        cases f1 : pathB p with
        | false =>
          rw [f1] at HOK
          have a1 := cOk W0 p false f1 (by omega)
          go_wp2
          refine wp_region_quiet_below (by kernel_rfl) (by kernel_rfl) ?_
          repeat (go_big_quiet_step (first | exact a1 _ _))
          refine wpQuiet_nil ?_
          intro _ hw'
          obtain ⟨⟨dq, osq⟩, hw''⟩ := hw'
          subst hw''
          have HBq := hidE (HB0.out.trans ((below_regrown W0 dq osq).mono HB0.out.size))
          clear HB0 HE0 k0 k1 k2 a1
          go_wp2
          go_ret
          exact ⟨ret_bE (treeE_no hlt (by rw [HOK.out]; simp)), HBq.out⟩
        | true =>
          rw [f1] at HOK
          have a1 := cOk W0 p true f1 (by omega)
          cases f2 : dataB x with
          | false =>
            rw [f2] at HOK
            have a2 := cData W0 x false f2 (by omega)
            go_wp2
            refine wp_region_quiet_below (by kernel_rfl) (by kernel_rfl) ?_
            repeat (go_big_quiet_step (first | exact a1 _ _ | exact a2 _ _))
            refine wpQuiet_nil ?_
            intro _ hw'
            obtain ⟨⟨dq, osq⟩, hw''⟩ := hw'
            subst hw''
            have HBq := hidE (HB0.out.trans ((below_regrown W0 dq osq).mono HB0.out.size))
            clear HB0 HE0 k0 k1 k2 a1 a2
            go_wp2
            go_ret
            exact ⟨ret_bE (treeE_no hlt (by rw [HOK.out]; simp)), HBq.out⟩
          | true =>
            rw [f2] at HOK
            have a2 := cData W0 x true f2 (by omega)
            have a3 := cUp W0 p (by omega)
            cases d with
            | true =>
              cases f3 : x.toList.isEmpty with
              | false =>
                rw [f3] at HOK
                go_wp2
                refine wp_region_quiet_below (by kernel_rfl) (by kernel_rfl) ?_
                repeat (go_big_quiet_step (first | exact a1 _ _ | exact a2 _ _))
                refine wpQuiet_nil ?_
                intro _ hw'
                obtain ⟨⟨dq, osq⟩, hw''⟩ := hw'
                subst hw''
                have HBq := hidE (HB0.out.trans ((below_regrown W0 dq osq).mono HB0.out.size))
                clear HB0 HE0 k0 k1 k2 a1 a2
                go_wp2
                go_ret
                exact ⟨ret_bE (treeE_no hlt (by rw [HOK.out]; simp)), HBq.out⟩
              | true =>
                rw [f3] at HOK
                by_cases hk0 : k = 0
                · subst hk0
                  simp only [Nat.zero_mul, Nat.add_zero] at c0 c1 c2
                  cases f5 : dirE (es.take 0) (upS p) with
                  | true =>
                    rw [f5] at HOK
                    have a4 := cDir W0 g o cap 0 es (upS p) true (by omega) hl HE0.out f5
                    go_wp2
                    refine wp_region_quiet_below (by kernel_rfl) (by kernel_rfl) ?_
                    repeat (go_big_quiet_step (first | exact a1 _ _ | exact a2 _ _ | exact a3 _ _ | exact a4 _ _))
                    refine wpQuiet_nil ?_
                    intro _ hw'
                    obtain ⟨⟨dq, osq⟩, hw''⟩ := hw'
                    subst hw''
                    have HBq := hidE (HB0.out.trans ((below_regrown W0 dq osq).mono HB0.out.size))
                    clear HB0 HE0 k0 k1 k2 a1 a2 a3 a4
                    go_wp2
                    go_roundw
                    case rel => exact ⟨0 + 1, by omega, by go_num, HBq, all_range_succ _ 0 HA.out (by rw [HOK.out]; simp)⟩
                    case measure => simp [RowKit.intOf]; omega
                  | false =>
                    rw [f5] at HOK
                    have a4 := cDir W0 g o cap 0 es (upS p) false (by omega) hl HE0.out f5
                    go_wp2
                    refine wp_region_quiet_below (by kernel_rfl) (by kernel_rfl) ?_
                    repeat (go_big_quiet_step (first | exact a1 _ _ | exact a2 _ _ | exact a3 _ _ | exact a4 _ _))
                    refine wpQuiet_nil ?_
                    intro _ hw'
                    obtain ⟨⟨dq, osq⟩, hw''⟩ := hw'
                    subst hw''
                    have HBq := hidE (HB0.out.trans ((below_regrown W0 dq osq).mono HB0.out.size))
                    clear HB0 HE0 k0 k1 k2 a1 a2 a3 a4
                    go_wp2
                    go_ret
                    exact ⟨ret_bE (treeE_no hlt (by rw [HOK.out]; simp)), HBq.out⟩
                · obtain ⟨m, rfl⟩ : ∃ m, k = m + 1 := ⟨k - 1, by omega⟩
                  have hm : m < es.length := by omega
                  have hcap' : (m : Int) + 1 ≤ (cap : Int) := by omega
                  have kq := cell_regrown (HE0.out m hm).1
                  rw [show m + 1 - 1 = m from rfl, List.getElem?_eq_getElem hm, Option.map_some, Option.getD_some] at HOK
                  obtain ⟨q, hq⟩ : ∃ q, es[m].p = q := ⟨_, rfl⟩
                  rw [hq] at kq HOK
                  clear hq
                  have hpos : decide ((0 : Int) < (m : Int) + 1) = true := decide_eq_true (by omega)
                  cases f4 : Op.bytesLess q.toList p.toList with
                  | false =>
                    rw [f4] at HOK
                    go_wp2
                    refine wp_region_quiet_below (by kernel_rfl) (by kernel_rfl) ?_
                    repeat (go_big_quiet_step (first | exact a1 _ _ | exact a2 _ _))
                    refine wpQuiet_nil ?_
                    intro _ hw'
                    obtain ⟨⟨dq, osq⟩, hw''⟩ := hw'
                    subst hw''
                    have HBq := hidE (HB0.out.trans ((below_regrown W0 dq osq).mono HB0.out.size))
                    clear HB0 HE0 k0 k1 k2 kq a1 a2
                    go_wp2
                    go_ret
                    exact ⟨ret_bE (treeE_no hlt (by rw [HOK.out]; simp)), HBq.out⟩
                  | true =>
                    rw [f4] at HOK
                    cases f5 : dirE (es.take (m + 1)) (upS p) with
                    | true =>
                      rw [f5] at HOK
                      have a4 := cDir W0 g o cap (m + 1) es (upS p) true (by omega) hl HE0.out f5
                      go_wp2
                      refine wp_region_quiet_below (by kernel_rfl) (by kernel_rfl) ?_
                      repeat (go_big_quiet_step (first | exact a1 _ _ | exact a2 _ _ | exact a3 _ _ | exact a4 _ _))
                      refine wpQuiet_nil ?_
                      intro _ hw'
                      obtain ⟨⟨dq, osq⟩, hw''⟩ := hw'
                      subst hw''
                      have HBq := hidE (HB0.out.trans ((below_regrown W0 dq osq).mono HB0.out.size))
                      clear HB0 HE0 k0 k1 k2 kq a1 a2 a3 a4
                      go_wp2
                      go_roundw
                      case rel => exact ⟨m + 1 + 1, by omega, by go_num, HBq, all_range_succ _ (m + 1) HA.out (by rw [HOK.out]; simp)⟩
                      case measure => simp [RowKit.intOf]; omega
                    | false =>
                      rw [f5] at HOK
                      have a4 := cDir W0 g o cap (m + 1) es (upS p) false (by omega) hl HE0.out f5
                      go_wp2
                      refine wp_region_quiet_below (by kernel_rfl) (by kernel_rfl) ?_
                      repeat (go_big_quiet_step (first | exact a1 _ _ | exact a2 _ _ | exact a3 _ _ | exact a4 _ _))
                      refine wpQuiet_nil ?_
                      intro _ hw'
                      obtain ⟨⟨dq, osq⟩, hw''⟩ := hw'
                      subst hw''
                      have HBq := hidE (HB0.out.trans ((below_regrown W0 dq osq).mono HB0.out.size))
                      clear HB0 HE0 k0 k1 k2 kq a1 a2 a3 a4
                      go_wp2
                      go_ret
                      exact ⟨ret_bE (treeE_no hlt (by rw [HOK.out]; simp)), HBq.out⟩
            | false =>
              by_cases hk0 : k = 0
              · subst hk0
                simp only [Nat.zero_mul, Nat.add_zero] at c0 c1 c2
                cases f5 : dirE (es.take 0) (upS p) with
                | true =>
                  rw [f5] at HOK
                  have a4 := cDir W0 g o cap 0 es (upS p) true (by omega) hl HE0.out f5
                  go_wp2
                  refine wp_region_quiet_below (by kernel_rfl) (by kernel_rfl) ?_
                  repeat (go_big_quiet_step (first | exact a1 _ _ | exact a2 _ _ | exact a3 _ _ | exact a4 _ _))
                  refine wpQuiet_nil ?_
                  intro _ hw'
                  obtain ⟨⟨dq, osq⟩, hw''⟩ := hw'
                  subst hw''
                  have HBq := hidE (HB0.out.trans ((below_regrown W0 dq osq).mono HB0.out.size))
                  clear HB0 HE0 k0 k1 k2 a1 a2 a3 a4
                  go_wp2
                  go_roundw
                  case rel => exact ⟨0 + 1, by omega, by go_num, HBq, all_range_succ _ 0 HA.out (by rw [HOK.out]; simp)⟩
                  case measure => simp [RowKit.intOf]; omega
                | false =>
                  rw [f5] at HOK
                  have a4 := cDir W0 g o cap 0 es (upS p) false (by omega) hl HE0.out f5
                  go_wp2
                  refine wp_region_quiet_below (by kernel_rfl) (by kernel_rfl) ?_
                  repeat (go_big_quiet_step (first | exact a1 _ _ | exact a2 _ _ | exact a3 _ _ | exact a4 _ _))
                  refine wpQuiet_nil ?_
                  intro _ hw'
                  obtain ⟨⟨dq, osq⟩, hw''⟩ := hw'
                  subst hw''
                  have HBq := hidE (HB0.out.trans ((below_regrown W0 dq osq).mono HB0.out.size))
                  clear HB0 HE0 k0 k1 k2 a1 a2 a3 a4
                  go_wp2
                  go_ret
                  exact ⟨ret_bE (treeE_no hlt (by rw [HOK.out]; simp)), HBq.out⟩
              · obtain ⟨m, rfl⟩ : ∃ m, k = m + 1 := ⟨k - 1, by omega⟩
                have hm : m < es.length := by omega
                have hcap' : (m : Int) + 1 ≤ (cap : Int) := by omega
                have kq := cell_regrown (HE0.out m hm).1
                rw [show m + 1 - 1 = m from rfl, List.getElem?_eq_getElem hm, Option.map_some, Option.getD_some] at HOK
                obtain ⟨q, hq⟩ : ∃ q, es[m].p = q := ⟨_, rfl⟩
                rw [hq] at kq HOK
                clear hq
                have hpos : decide ((0 : Int) < (m : Int) + 1) = true := decide_eq_true (by omega)
                cases f4 : Op.bytesLess q.toList p.toList with
                | false =>
                  rw [f4] at HOK
                  go_wp2
                  refine wp_region_quiet_below (by kernel_rfl) (by kernel_rfl) ?_
                  repeat (go_big_quiet_step (first | exact a1 _ _ | exact a2 _ _))
                  refine wpQuiet_nil ?_
                  intro _ hw'
                  obtain ⟨⟨dq, osq⟩, hw''⟩ := hw'
                  subst hw''
                  have HBq := hidE (HB0.out.trans ((below_regrown W0 dq osq).mono HB0.out.size))
                  clear HB0 HE0 k0 k1 k2 kq a1 a2
                  go_wp2
                  go_ret
                  exact ⟨ret_bE (treeE_no hlt (by rw [HOK.out]; simp)), HBq.out⟩
                | true =>
                  rw [f4] at HOK
                  cases f5 : dirE (es.take (m + 1)) (upS p) with
                  | true =>
                    rw [f5] at HOK
                    have a4 := cDir W0 g o cap (m + 1) es (upS p) true (by omega) hl HE0.out f5
                    go_wp2
                    refine wp_region_quiet_below (by kernel_rfl) (by kernel_rfl) ?_
                    repeat (go_big_quiet_step (first | exact a1 _ _ | exact a2 _ _ | exact a3 _ _ | exact a4 _ _))
                    refine wpQuiet_nil ?_
                    intro _ hw'
                    obtain ⟨⟨dq, osq⟩, hw''⟩ := hw'
                    subst hw''
                    have HBq := hidE (HB0.out.trans ((below_regrown W0 dq osq).mono HB0.out.size))
                    clear HB0 HE0 k0 k1 k2 kq a1 a2 a3 a4
                    go_wp2
                    go_roundw
                    case rel => exact ⟨m + 1 + 1, by omega, by go_num, HBq, all_range_succ _ (m + 1) HA.out (by rw [HOK.out]; simp)⟩
                    case measure => simp [RowKit.intOf]; omega
                  | false =>
                    rw [f5] at HOK
                    have a4 := cDir W0 g o cap (m + 1) es (upS p) false (by omega) hl HE0.out f5
                    go_wp2
                    refine wp_region_quiet_below (by kernel_rfl) (by kernel_rfl) ?_
                    repeat (go_big_quiet_step (first | exact a1 _ _ | exact a2 _ _ | exact a3 _ _ | exact a4 _ _))
                    refine wpQuiet_nil ?_
                    intro _ hw'
                    obtain ⟨⟨dq, osq⟩, hw''⟩ := hw'
                    subst hw''
                    have HBq := hidE (HB0.out.trans ((below_regrown W0 dq osq).mono HB0.out.size))
                    clear HB0 HE0 k0 k1 k2 kq a1 a2 a3 a4
                    go_wp2
                    go_ret
                    exact ⟨ret_bE (treeE_no hlt (by rw [HOK.out]; simp)), HBq.out⟩
      · have HT : Hid (treeE es = true) := by
          show _ = _
          unfold treeE
          rw [decide_eq_true h16, Bool.true_and]
          have := HA.out
          rw [show k = es.length from by omega] at this; exact this
        go_wp2
        go_ret
        exact ⟨ret_bE HT.out.symm, HB.out⟩
  · go_enter Tryz.func26, Tryz.ntmps26
    go_wp2
    go_ret
    exact ⟨ret_bE (by unfold treeE; rw [decide_eq_false h16]; rfl), Below.refl _ _⟩
end Go.Proofs.YtkjpmngohocmlaaGreatDoor

/-
  Rows of entries that a function makes itself.
-/
namespace Go.Proofs.YtkjpmngohocmlaaGreatDoor
open Go.RowKit Go.Lib

theorem rowE_append (es fs : List E) : rowE (es ++ fs) = rowE es ++ rowE fs := by unfold rowE; exact List.flatMap_append
theorem rowE_one (e : E) : rowE [e] = cellsE e := by unfold rowE; simp
theorem rowE_at : ∀ (es : List E) (i : Nat) (h : i < es.length), (rowE es)[i * 3]? = some (.string es[i].p) ∧ (rowE es)[i * 3 + 1]? = some (.bool es[i].d) ∧ (rowE es)[i * 3 + 2]? = some (.string es[i].x)
  | e :: r, 0, _ => ⟨rfl, rfl, rfl⟩
  | e :: r, i + 1, h => by
    obtain ⟨q0, q1, q2⟩ := rowE_at r i (by simpa using h)
    have hd : ∀ j, (rowE (e :: r))[3 + j]? = (rowE r)[j]? := fun j => by
      show (cellsE e ++ rowE r)[3 + j]? = _
      rw [List.getElem?_append_right (by show 3 ≤ _; omega)]
      show (rowE r)[3 + j - 3]? = _
      rw [Nat.add_sub_cancel_left]
    refine ⟨?_, ?_, ?_⟩
    · rw [show (i + 1) * 3 = 3 + i * 3 from by omega, hd]; exact q0
    · rw [show (i + 1) * 3 + 1 = 3 + (i * 3 + 1) from by omega, hd]; exact q1
    · rw [show (i + 1) * 3 + 2 = 3 + (i * 3 + 2) from by omega, hd]; exact q2
theorem rowE_one' {e : E} : ∀ u ∈ cellsE e, u.oneCell' = true := by
  intro u hu; simp [cellsE] at hu; rcases hu with rfl | rfl | rfl <;> rfl

/-- A list of entries that lies in a block of its own, at base or behind. -/
abbrev OwnE (w : World) (base : Nat) (v : Value) (es : List E) : Prop := w.ownsRow base 32 3 v es.length (rowE es)
theorem add0 (g j : Nat) : (⟨g, 0, none⟩ : Addr).add j = ⟨g, 0 + j, none⟩ := by
  cases j with
  | zero => rfl
  | succ j => simp [Addr.add]
theorem OwnE.ents {w : World} {base : Nat} {v : Value} {es : List E} (h : OwnE w base v es) :
    ∃ a g cap, v = .slice a es.length cap ∧ (0 < es.length → a = some ⟨g, 0, none⟩) ∧ Ents w g 0 es ∧ es.length ≤ cap := by
  have hc := fun (g : Nat) (hg : v.ownBlock = some g) => World.ownsRow.cells h hg
  obtain ⟨_, ⟨rfl, e0⟩ | ⟨g, cap, cur, rfl, _, _, hcap, _⟩⟩ := h
  · exact ⟨none, 0, 0, by rw [e0], fun h => by omega, fun i hi => by omega, by omega⟩
  · refine ⟨_, g, cap, rfl, fun _ => rfl, fun i hi => ?_, hcap⟩
    obtain ⟨q0, q1, q2⟩ := rowE_at es i hi
    refine ⟨?_, ?_, ?_⟩
    · have := hc g rfl _ _ q0; rw [add0] at this; exact this
    · have := hc g rfl _ _ q1; rw [add0, ← Nat.add_assoc] at this; exact this
    · have := hc g rfl _ _ q2; rw [add0, ← Nat.add_assoc] at this; exact this
theorem OwnE.below {w w' : World} {base : Nat} {v : Value} {es : List E} (h : OwnE w base v es) (hb : Below w.heap.size w w') : OwnE w' base v es :=
  World.ownsRow.kept (row := none) h ⟨hb.os, hb.tape, hb.output, hb.size, fun b hb' _ => hb.block b hb'⟩ (by
    cases hob : v.ownBlock with
    | none => exact .inl rfl
    | some q => exact .inr (by simp))
theorem OwnE.lower {w : World} {base base' : Nat} {v : Value} {es : List E} (h : OwnE w base v es) (hb : base' ≤ base) : OwnE w base' v es := by
  obtain ⟨h1, h2 | ⟨g, cap, cur, e1, e2, e3⟩⟩ := h
  · exact ⟨h1, .inl h2⟩
  · exact ⟨h1, .inr ⟨g, cap, cur, e1, Nat.le_trans hb e2, e3⟩⟩
theorem OwnE.made (w : World) {base : Nat} (hb : base ≤ w.heap.size) : OwnE (w.alloc (.cells #[] 32)) base (.slice (some ⟨w.heap.size, 0, none⟩) 0 0) [] := World.ownsRow_made w #[] 0 hb (Nat.zero_le _) rfl
theorem OwnE.push {w : World} {base : Nat} {v : Value} {es : List E} {e : E} (h : w.ownsRow base 32 3 v (es.length + 1) (rowE es ++ cellsE e)) : OwnE w base v (es ++ [e]) := by
  show World.ownsRow w base 32 3 v (es ++ [e]).length (rowE (es ++ [e]))
  rw [rowE_append, rowE_one, List.length_append]; exact h

theorem Tryz.infoE' : (Tryz.prog.info? 32).map (fun i => (i.zero, i.size, i.bytes)) = some (some (.agg #[.string ByteArray.empty, .bool false, .string ByteArray.empty]), 3, 40) := by kernel_rfl
theorem cells_new (w : World) (e : E) : ∀ j u, (cellsE e)[j]? = some u → (w.alloc (.cells #[.string e.p, .bool e.d, .string e.x] 32)).cell? ((⟨w.heap.size, 0, none⟩ : Addr).add j) = some u := by
  intro j u hj
  match j, hj with
  | 0, hj => simp [cellsE] at hj; subst hj; simp [Addr.add]
  | 1, hj => simp [cellsE] at hj; subst hj; simp [Addr.add]
  | 2, hj => simp [cellsE] at hj; subst hj; simp [Addr.add]
  | j + 3, hj => simp [cellsE] at hj

end Go.Proofs.YtkjpmngohocmlaaGreatDoor

/-
  The walks of the exact laws' marks.
-/
namespace Go.Proofs.YtkjpmngohocmlaaGreatDoor
open Go.RowKit Go.Lib Go.Sort

def digC (j : Nat) : UInt8 := UInt8.ofNat (48 + j % 10)
/-- The digits of a number, ahead of a text. -/
def digS (k : Nat) (out : ByteArray) : ByteArray := if _h : k = 0 then out else digS (k / 10) (⟨#[digC k]⟩ ++ out)
termination_by k
decreasing_by omega
/-- The mark of a number. -/
def markS (k : Nat) : ByteArray := ⟨#[109]⟩ ++ (if k = 0 then ⟨#[48]⟩ else digS k ⟨#[]⟩)
theorem dig_step (k : Nat) (out : ByteArray) (h : 0 < k) : digS k out = digS (k / 10) (⟨#[digC k]⟩ ++ out) := by
  rw [digS, dif_neg (by omega)]
theorem dig_zero (out : ByteArray) : digS 0 out = out := by rw [digS, dif_pos rfl]

theorem conv_one (W : World) (j : Nat) : (convert 22 9 (.slice (some ⟨W.heap.size, 0, none⟩) 1 1)).run Tryz.prog (W.alloc (.cells #[.int .u8 (48 + (j : Int) % 10)] 5)) = .ok (.string ⟨#[digC j]⟩) (W.alloc (.cells #[.int .u8 (48 + (j : Int) % 10)] 5)) := by
  have h := run_convert_bytes_back (P := Tryz.prog) (W.alloc (.cells #[.int .u8 (48 + (j : Int) % 10)] 5)) 22 9 5 ⟨W.heap.size, 0, none⟩ 1 [digC j] Tryz.underlying22 Tryz.underlying5 Tryz.underlying9 (fun i hi => by
    have : i = 0 := by simpa using hi
    subst this
    have hj : 48 + j % 10 < 256 := by omega
    simp [digC, Addr.add, Nat.mod_eq_of_lt hj])
  exact h

end Go.Proofs.YtkjpmngohocmlaaGreatDoor
