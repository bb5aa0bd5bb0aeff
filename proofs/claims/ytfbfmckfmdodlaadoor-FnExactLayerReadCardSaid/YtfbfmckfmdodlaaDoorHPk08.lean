/-
  The walks of the model on data.
-/
import Derived.WalkKit
import Derived.OwnWalk
import Derived.WalkSpells
import Derived.WalkLawsBesides
import Derived.Laws.Pointers
import Derived.Deep.QuietTactic
import Derived.BigQuiet
import Derived.Outline
import Derived.Below
import Derived.Lib.QuietBelow
import Derived.Test.YtfbfmckfmdodlaaDoorHPk03
import Derived.Test.YtfbfmckfmdodlaaDoorHPk07
import Derived.Test.YtfbfmckfmdodlaaDoorProg
import Derived.Maps.AppendAt
import Derived.Laws.IdiomStrings
import Derived.Test.YtfbfmckfmdodlaaDoorHPk04
namespace Go.Proofs.YtfbfmckfmdodlaaDoor
open Go.RowKit Go.Lib Go.Sort

set_option maxHeartbeats 800000 in
set_option maxRecDepth 100000 in
theorem l2Data_any (s : ByteArray) (hs : s.size ≤ 4611686018427387904) (w : World) :
    Calls Tryd.prog 44 #[.string s] w fun e w' => e = .returned (.bool (dataB s)) ∧ w' = w := by
  go_enter Tryd.func44, Tryd.ntmps44
  go_wp2
  go_loop [3] (fun i => ∃ k : Nat, k ≤ s.size ∧ i = .int .i64 k ∧ Hid ((s.data.toList.take k).all dataC = true)) (fun i => s.size - (RowKit.intOf i).toNat)
  case atStart => exact ⟨0, Nat.zero_le _, rfl, rfl⟩
  case round =>
    obtain ⟨k, hk, rfl, HA⟩ := hrel
    by_cases hlt : k < s.size
    · have yes : dataC s[k] = true → Hid ((s.data.toList.take (k + 1)).all dataC = true) := fun h => by show _ = _; rw [data_take s k hlt, HA.out, h]; rfl
      have HY := hidE yes
      clear yes
      by_cases h1 : 97 ≤ s[k].toNat
      · by_cases h2 : s[k].toNat ≤ 122
        · have HT := HY.out (by unfold dataC low; rw [decide_eq_true ⟨h1, h2⟩]; rfl)
          go_wp2
          go_round
          case rel => exact ⟨k + 1, by omega, by go_num, HT⟩
          case measure => simp [RowKit.intOf]; omega
        · have HN := hidE (data_bad s k hlt (by unfold dataC low; rw [decide_eq_false (by omega), decide_eq_false (by omega)]; rfl))
          go_wp2
          go_ret
          exact ⟨ret_bE HN.out, rfl⟩
      · by_cases h2 : 48 ≤ s[k].toNat
        · by_cases h3 : s[k].toNat ≤ 57
          · have HT := HY.out (by unfold dataC; rw [decide_eq_true ⟨h2, h3⟩, Bool.or_true])
            go_wp2
            go_round
            case rel => exact ⟨k + 1, by omega, by go_num, HT⟩
            case measure => simp [RowKit.intOf]; omega
          · have HN := hidE (data_bad s k hlt (by unfold dataC low; rw [decide_eq_false (by omega), decide_eq_false (by omega)]; rfl))
            go_wp2
            go_ret
            exact ⟨ret_bE HN.out, rfl⟩
        · have HN := hidE (data_bad s k hlt (by unfold dataC low; rw [decide_eq_false (by omega), decide_eq_false (by omega)]; rfl))
          go_wp2
          go_ret
          exact ⟨ret_bE HN.out, rfl⟩
    · have HD := hidE (data_all s k (by omega) HA.out)
      by_cases h6 : s.size ≤ 6
      · go_wp2
        go_ret
        exact ⟨ret_bE (by rw [← HD.out, decide_eq_true h6]; exact decide_eq_true (by omega)), rfl⟩
      · go_wp2
        go_ret
        exact ⟨ret_bE (by rw [← HD.out, decide_eq_false h6]; exact decide_eq_false (by omega)), rfl⟩
theorem sOk_is (s : ByteArray) (b : Bool) (h : pathB s = b) (hm : s.size ≤ 67108864) (w : World) :
    Calls Tryd.prog 43 #[.string s] w fun e w' => e = .returned (.bool b) ∧ Below w.heap.size w w' := by
  rw [← h]; exact sOk_any s hm w
theorem l2Data_is (s : ByteArray) (b : Bool) (h : dataB s = b) (hm : s.size ≤ 67108864) (w : World) :
    Calls Tryd.prog 44 #[.string s] w fun e w' => e = .returned (.bool b) ∧ Below w.heap.size w w' := by
  rw [← h]; exact (l2Data_any s (by omega) w).mono fun e w' ⟨h1, h2⟩ => ⟨h1, by rw [h2]; exact Below.refl _ _⟩

/-- The contracts, in every world that has grown out of W0. -/
theorem cOk (W0 : World) (s : ByteArray) (b : Bool) (h : pathB s = b) (hm : s.size ≤ 67108864) : ∀ d os, Calls Tryd.prog 43 #[.string s] (grow (redrawn W0 d) os) fun e w'' => e = .returned (.bool b) ∧ ∃ p : Regrown, w'' = grow (redrawn W0 p.d) p.os :=
  fun _ _ => Calls.regrown_of (sOk_is s b h hm _)
theorem cData (W0 : World) (s : ByteArray) (b : Bool) (h : dataB s = b) (hm : s.size ≤ 67108864) : ∀ d os, Calls Tryd.prog 44 #[.string s] (grow (redrawn W0 d) os) fun e w'' => e = .returned (.bool b) ∧ ∃ p : Regrown, w'' = grow (redrawn W0 p.d) p.os :=
  fun _ _ => Calls.regrown_of (l2Data_is s b h hm _)
end Go.Proofs.YtfbfmckfmdodlaaDoor

/-
  Lists of entries, as they lie in memory.
-/
namespace Go.Proofs.YtfbfmckfmdodlaaDoor
open Go.RowKit Go.Lib

set_option maxHeartbeats 400000 in
set_option maxRecDepth 100000 in
theorem l2Find_any (w : World) (a : Option Addr) (g o cap : Nat) (es : List E) (s : ByteArray) (hl : es.length ≤ 16777216) (ha : 0 < es.length → a = some ⟨g, o, none⟩) (hE : Ents w g o es) :
    Calls Tryd.prog 64 #[.slice a es.length cap, .string s] w fun e w' => e = .returned (.int .i64 (findE es s)) ∧ w' = w := by
  have HE := hidE hE
  clear hE
  go_enter Tryd.func64, Tryd.ntmps64
  go_wp2
  go_loop [5] (fun i => ∃ k : Nat, k ≤ es.length ∧ i = .int .i64 k ∧ Hid (findL s (es.drop k) k = findE es s)) (fun i => es.length - (RowKit.intOf i).toNat)
  case atStart => exact ⟨0, Nat.zero_le _, rfl, rfl⟩
  case round =>
    obtain ⟨k, hk, rfl, HF⟩ := hrel
    by_cases hlt : k < es.length
    · obtain rfl := ha (by omega)
      obtain ⟨c0, c1, c2⟩ := HE.out k hlt
      have HD := hidE (find_drop s es k hlt)
      cases hc : (es[k].p.toList == s.toList) with
      | true =>
        rw [hc] at HD
        go_wp2
        go_ret
        exact ⟨ret_iE (by rw [← HF.out, HD.out]; rfl), rfl⟩
      | false =>
        rw [hc] at HD
        go_wp2
        go_round
        case rel => exact ⟨k + 1, by omega, by go_num, by show _ = _; rw [← HF.out, HD.out]; rfl⟩
        case measure => simp [RowKit.intOf]; omega
    · go_wp2
      go_ret
      exact ⟨ret_iE (by rw [← HF.out, List.drop_of_length_le (by omega)]; rfl), rfl⟩

set_option maxHeartbeats 400000 in
theorem l2Dir_any (w : World) (a : Option Addr) (g o cap : Nat) (es : List E) (s : ByteArray) (hl : es.length ≤ 16777216) (ha : 0 < es.length → a = some ⟨g, o, none⟩) (hE : Ents w g o es) :
    Calls Tryd.prog 45 #[.slice a es.length cap, .string s] w fun e w' => e = .returned (.bool (dirE es s)) ∧ w' = w := by
  have HE := hidE hE
  clear hE
  cases hr : (s.toList == [47]) with
  | true =>
    go_enter Tryd.func45, Tryd.ntmps45
    go_wp2
    go_ret
    exact ⟨ret_bE (by unfold dirE isRoot; rw [hr]; rfl), rfl⟩
  | false =>
    have HD : Hid (dirE es s = match es[(findE es s).toNat]? with | some e => decide (0 ≤ findE es s) && e.d | none => false) := by
      show _ = _; unfold dirE isRoot; rw [hr]; rfl
    have HF : Hid (∀ W : World, Ents W g o es → Calls Tryd.prog 64 #[.slice a es.length cap, .string s] W _) := fun W hW => l2Find_any W a g o cap es s hl ha hW
    rcases findE_is es s with hf | ⟨j, hj, hf, _⟩
    · rw [hf] at HD HF
      go_enter Tryd.func45, Tryd.ntmps45
      go_wp2_with (go_at_call 64; refine (HF.out _ HE.out).mono ?_; rintro e w' ⟨rfl, rfl⟩)
      go_ret
      exact ⟨ret_bE (by rw [HD.out]; split <;> rfl), rfl⟩
    · rw [hf] at HD HF
      obtain rfl := ha (by omega)
      obtain ⟨c0, c1, c2⟩ := HE.out j hj
      go_enter Tryd.func45, Tryd.ntmps45
      go_wp2_with (go_at_call 64; refine (HF.out _ HE.out).mono ?_; rintro e w' ⟨rfl, rfl⟩)
      go_ret
      exact ⟨ret_bE (by rw [HD.out]; simp [hj]), rfl⟩

end Go.Proofs.YtfbfmckfmdodlaaDoor

/-
  The walk of the model's TreeOk.
-/
namespace Go.Proofs.YtfbfmckfmdodlaaDoor
open Go.RowKit Go.Lib Go.Sort

theorem cUp (W0 : World) (s : ByteArray) (hm : s.size ≤ 16777216) : ∀ d os, Calls Tryd.prog 46 #[.string s] (grow (redrawn W0 d) os) fun e w'' => e = .returned (.string (upS s)) ∧ ∃ p : Regrown, w'' = grow (redrawn W0 p.d) p.os :=
  fun _ _ => Calls.regrown_of (sPathUp_any s hm _)
theorem cDir (W0 : World) (g o cap k : Nat) (es : List E) (s : ByteArray) (b : Bool) (hk : k ≤ es.length) (hl : es.length ≤ 16777216) (hE : Ents W0 g o es) (h : dirE (es.take k) s = b) : ∀ d os, Calls Tryd.prog 45 #[.slice (some ⟨g, o, none⟩) k cap, .string s] (grow (redrawn W0 d) os) fun e w'' => e = .returned (.bool b) ∧ ∃ p : Regrown, w'' = grow (redrawn W0 p.d) p.os :=
  fun d os => Calls.regrown_of (by
    have e : (es.take k).length = k := by rw [List.length_take]; omega
    have := l2Dir_any (grow (redrawn W0 d) os) (some ⟨g, o, none⟩) g o cap (es.take k) s (by omega) (fun _ => rfl) ((hE.below (below_regrown W0 d os)).take k)
    rw [e, h] at this
    exact this.mono fun _ _ ⟨h1, h2⟩ => ⟨h1, by rw [h2]; exact Below.refl _ _⟩)

set_option maxHeartbeats 8000000 in
set_option maxRecDepth 100000 in
theorem sTreeOk_any (w : World) (a : Option Addr) (g o cap : Nat) (es : List E) (hl : es.length ≤ 16777216) (hcap : es.length ≤ cap) (hz : ∀ e ∈ es, e.p.size ≤ 16777216 ∧ e.x.size ≤ 16777216) (ha : 0 < es.length → a = some ⟨g, o, none⟩) (hE : Ents w g o es) :
    Calls Tryd.prog 21 #[.slice a es.length cap] w fun e w' => e = .returned (.bool (treeE es)) ∧ Below w.heap.size w w' := by
  have HE := hidE hE
  have HZ := hidE hz
  clear hE hz
  by_cases h16 : es.length ≤ 16
  · go_enter Tryd.func21, Tryd.ntmps21
    go_wp2
    go_loopw [3] (fun i wl => ∃ k : Nat, k ≤ es.length ∧ i = .int .i64 k ∧ Hid (Below w.heap.size w wl) ∧ Hid ((List.range k).all (okAt es) = true)) (fun i _ => es.length - (RowKit.intOf i).toNat)
    case atStart => exact ⟨0, Nat.zero_le _, rfl, Below.refl _ _, rfl⟩
    case round =>
      obtain ⟨k, hk, rfl, HB, HA⟩ := hrel
      by_cases hlt : k < es.length
      · obtain rfl := ha (by omega)
        have hB := HB.out
        have HEr := hidE (HE.out.below hB)
        obtain ⟨c0, c1, c2⟩ := HEr.out k hlt
        obtain ⟨z0, z1⟩ := HZ.out es[k] (List.getElem_mem _)
        obtain ⟨p, hp⟩ : ∃ p, es[k].p = p := ⟨_, rfl⟩
        obtain ⟨d, hd⟩ : ∃ d, es[k].d = d := ⟨_, rfl⟩
        obtain ⟨x, hx⟩ : ∃ x, es[k].x = x := ⟨_, rfl⟩
        have HP := hidE hp
        have HDd := hidE hd
        have HX := hidE hx
        rw [hp] at c0 z0
        rw [hd] at c1
        rw [hx] at c2 z1
        clear hp hd hx
        obtain ⟨W0, hW0⟩ : ∃ W0, wr.alloc (.cells #[.string p, .bool d, .string x] 44) = W0 := ⟨_, rfl⟩
        have hb0 : Below wr.heap.size wr W0 := by rw [← hW0]; exact (Below.refl _ wr).alloc (Nat.le_refl _) _
        have k0 := cell_regrown (show W0.cell? ⟨wr.heap.size, 0, none⟩ = some (.string p) by rw [← hW0]; simp)
        have k1 := cell_regrown (show W0.cell? ⟨wr.heap.size, 1, none⟩ = some (.bool d) by rw [← hW0]; simp)
        have k2 := cell_regrown (show W0.cell? ⟨wr.heap.size, 2, none⟩ = some (.string x) by rw [← hW0]; simp)
        have HE0 := hidE (HEr.out.below hb0)
        have HB0 := hidE (hB.trans (hb0.mono hB.size))
        have HOK := hidE (okAt_is hlt)
        rw [HP.out, HDd.out, HX.out] at HOK
        clear hb0
        cases f1 : pathB p with
        | false =>
          rw [f1] at HOK
          have a1 := cOk W0 p false f1 (by omega)
          go_wp2
          refine wp_region_quiet_below (by kernel_rfl) (by kernel_rfl) ?_
          repeat (go_big_quiet_step (first | exact a1 _ _))
          refine wpQuiet_nil ?_
          intro _ hw'
          obtain ⟨⟨dq, osq⟩, hw''⟩ := hw'
          subst hw''
          have HBq := hidE (HB0.out.trans ((below_regrown W0 dq osq).mono HB0.out.size))
          clear HB0 HE0 k0 k1 k2 a1
          go_wp2
          go_ret
          exact ⟨ret_bE (treeE_no hlt (by rw [HOK.out]; simp)), HBq.out⟩
        | true =>
          rw [f1] at HOK
          have a1 := cOk W0 p true f1 (by omega)
          cases f2 : dataB x with
          | false =>
            rw [f2] at HOK
            have a2 := cData W0 x false f2 (by omega)
            go_wp2
            refine wp_region_quiet_below (by kernel_rfl) (by kernel_rfl) ?_
            repeat (go_big_quiet_step (first | exact a1 _ _ | exact a2 _ _))
            refine wpQuiet_nil ?_
            intro _ hw'
            obtain ⟨⟨dq, osq⟩, hw''⟩ := hw'
            subst hw''
            have HBq := hidE (HB0.out.trans ((below_regrown W0 dq osq).mono HB0.out.size))
            clear HB0 HE0 k0 k1 k2 a1 a2
            go_wp2
            go_ret
            exact ⟨ret_bE (treeE_no hlt (by rw [HOK.out]; simp)), HBq.out⟩
          | true =>
            rw [f2] at HOK
            have a2 := cData W0 x true f2 (by omega)
            have a3 := cUp W0 p (by omega)
            cases d with
            | true =>
              cases f3 : x.toList.isEmpty with
              | false =>
                rw [f3] at HOK
                go_wp2
                refine wp_region_quiet_below (by kernel_rfl) (by kernel_rfl) ?_
                repeat (go_big_quiet_step (first | exact a1 _ _ | exact a2 _ _))
                refine wpQuiet_nil ?_
                intro _ hw'
                obtain ⟨⟨dq, osq⟩, hw''⟩ := hw'
                subst hw''
                have HBq := hidE (HB0.out.trans ((below_regrown W0 dq osq).mono HB0.out.size))
                clear HB0 HE0 k0 k1 k2 a1 a2
                go_wp2
                go_ret
                exact ⟨ret_bE (treeE_no hlt (by rw [HOK.out]; simp)), HBq.out⟩
              | true =>
                rw [f3] at HOK
                by_cases hk0 : k = 0
                · subst hk0
                  simp only [Nat.zero_mul, Nat.add_zero] at c0 c1 c2
                  cases f5 : dirE (es.take 0) (upS p) with
                  | true =>
                    rw [f5] at HOK
                    have a4 := cDir W0 g o cap 0 es (upS p) true (by omega) hl HE0.out f5
                    go_wp2
                    refine wp_region_quiet_below (by kernel_rfl) (by kernel_rfl) ?_
                    repeat (go_big_quiet_step (first | exact a1 _ _ | exact a2 _ _ | exact a3 _ _ | exact a4 _ _))
                    refine wpQuiet_nil ?_
                    intro _ hw'
                    obtain ⟨⟨dq, osq⟩, hw''⟩ := hw'
                    subst hw''
                    have HBq := hidE (HB0.out.trans ((below_regrown W0 dq osq).mono HB0.out.size))
                    clear HB0 HE0 k0 k1 k2 a1 a2 a3 a4
                    go_wp2
                    go_roundw
                    case rel => exact ⟨0 + 1, by omega, by go_num, HBq, all_range_succ _ 0 HA.out (by rw [HOK.out]; simp)⟩
                    case measure => simp [RowKit.intOf]; omega
                  | false =>
                    rw [f5] at HOK
                    have a4 := cDir W0 g o cap 0 es (upS p) false (by omega) hl HE0.out f5
                    go_wp2
                    refine wp_region_quiet_below (by kernel_rfl) (by kernel_rfl) ?_
                    repeat (go_big_quiet_step (first | exact a1 _ _ | exact a2 _ _ | exact a3 _ _ | exact a4 _ _))
                    refine wpQuiet_nil ?_
                    intro _ hw'
                    obtain ⟨⟨dq, osq⟩, hw''⟩ := hw'
                    subst hw''
                    have HBq := hidE (HB0.out.trans ((below_regrown W0 dq osq).mono HB0.out.size))
                    clear HB0 HE0 k0 k1 k2 a1 a2 a3 a4
                    go_wp2
                    go_ret
                    exact ⟨ret_bE (treeE_no hlt (by rw [HOK.out]; simp)), HBq.out⟩
                · obtain ⟨m, rfl⟩ : ∃ m, k = m + 1 := ⟨k - 1, by omega⟩
                  have hm : m < es.length := by omega
                  have hcap' : (m : Int) + 1 ≤ (cap : Int) := by omega
                  have kq := cell_regrown (HE0.out m hm).1
                  rw [show m + 1 - 1 = m from rfl, List.getElem?_eq_getElem hm, Option.map_some, Option.getD_some] at HOK
                  obtain ⟨q, hq⟩ : ∃ q, es[m].p = q := ⟨_, rfl⟩
                  rw [hq] at kq HOK
                  clear hq
                  have hpos : decide ((0 : Int) < (m : Int) + 1) = true := decide_eq_true (by omega)
                  cases f4 : Op.bytesLess q.toList p.toList with
                  | false =>
                    rw [f4] at HOK
                    go_wp2
                    refine wp_region_quiet_below (by kernel_rfl) (by kernel_rfl) ?_
                    repeat (go_big_quiet_step (first | exact a1 _ _ | exact a2 _ _))
                    refine wpQuiet_nil ?_
                    intro _ hw'
                    obtain ⟨⟨dq, osq⟩, hw''⟩ := hw'
                    subst hw''
                    have HBq := hidE (HB0.out.trans ((below_regrown W0 dq osq).mono HB0.out.size))
                    clear HB0 HE0 k0 k1 k2 kq a1 a2
                    go_wp2
                    go_ret
                    exact ⟨ret_bE (treeE_no hlt (by rw [HOK.out]; simp)), HBq.out⟩
                  | true =>
                    rw [f4] at HOK
                    cases f5 : dirE (es.take (m + 1)) (upS p) with
                    | true =>
                      rw [f5] at HOK
                      have a4 := cDir W0 g o cap (m + 1) es (upS p) true (by omega) hl HE0.out f5
                      go_wp2
                      refine wp_region_quiet_below (by kernel_rfl) (by kernel_rfl) ?_
                      repeat (go_big_quiet_step (first | exact a1 _ _ | exact a2 _ _ | exact a3 _ _ | exact a4 _ _))
                      refine wpQuiet_nil ?_
                      intro _ hw'
                      obtain ⟨⟨dq, osq⟩, hw''⟩ := hw'
                      subst hw''
                      have HBq := hidE (HB0.out.trans ((below_regrown W0 dq osq).mono HB0.out.size))
                      clear HB0 HE0 k0 k1 k2 kq a1 a2 a3 a4
                      go_wp2
                      go_roundw
                      case rel => exact ⟨m + 1 + 1, by omega, by go_num, HBq, all_range_succ _ (m + 1) HA.out (by rw [HOK.out]; simp)⟩
                      case measure => simp [RowKit.intOf]; omega
                    | false =>
                      rw [f5] at HOK
                      have a4 := cDir W0 g o cap (m + 1) es (upS p) false (by omega) hl HE0.out f5
                      go_wp2
                      refine wp_region_quiet_below (by kernel_rfl) (by kernel_rfl) ?_
                      repeat (go_big_quiet_step (first | exact a1 _ _ | exact a2 _ _ | exact a3 _ _ | exact a4 _ _))
                      refine wpQuiet_nil ?_
                      intro _ hw'
                      obtain ⟨⟨dq, osq⟩, hw''⟩ := hw'
                      subst hw''
                      have HBq := hidE (HB0.out.trans ((below_regrown W0 dq osq).mono HB0.out.size))
                      clear HB0 HE0 k0 k1 k2 kq a1 a2 a3 a4
                      go_wp2
                      go_ret
                      exact ⟨ret_bE (treeE_no hlt (by rw [HOK.out]; simp)), HBq.out⟩
            | false =>
              by_cases hk0 : k = 0
              · subst hk0
                simp only [Nat.zero_mul, Nat.add_zero] at c0 c1 c2
                cases f5 : dirE (es.take 0) (upS p) with
                | true =>
                  rw [f5] at HOK
                  have a4 := cDir W0 g o cap 0 es (upS p) true (by omega) hl HE0.out f5
                  go_wp2
                  refine wp_region_quiet_below (by kernel_rfl) (by kernel_rfl) ?_
                  repeat (go_big_quiet_step (first | exact a1 _ _ | exact a2 _ _ | exact a3 _ _ | exact a4 _ _))
                  refine wpQuiet_nil ?_
                  intro _ hw'
                  obtain ⟨⟨dq, osq⟩, hw''⟩ := hw'
                  subst hw''
                  have HBq := hidE (HB0.out.trans ((below_regrown W0 dq osq).mono HB0.out.size))
                  clear HB0 HE0 k0 k1 k2 a1 a2 a3 a4
                  go_wp2
                  go_roundw
                  case rel => exact ⟨0 + 1, by omega, by go_num, HBq, all_range_succ _ 0 HA.out (by rw [HOK.out]; simp)⟩
                  case measure => simp [RowKit.intOf]; omega
                | false =>
                  rw [f5] at HOK
                  have a4 := cDir W0 g o cap 0 es (upS p) false (by omega) hl HE0.out f5
                  go_wp2
                  refine wp_region_quiet_below (by kernel_rfl) (by kernel_rfl) ?_
                  repeat (go_big_quiet_step (first | exact a1 _ _ | exact a2 _ _ | exact a3 _ _ | exact a4 _ _))
                  refine wpQuiet_nil ?_
                  intro _ hw'
                  obtain ⟨⟨dq, osq⟩, hw''⟩ := hw'
                  subst hw''
                  have HBq := hidE (HB0.out.trans ((below_regrown W0 dq osq).mono HB0.out.size))
                  clear HB0 HE0 k0 k1 k2 a1 a2 a3 a4
                  go_wp2
                  go_ret
                  exact ⟨ret_bE (treeE_no hlt (by rw [HOK.out]; simp)), HBq.out⟩
              · obtain ⟨m, rfl⟩ : ∃ m, k = m + 1 := ⟨k - 1, by omega⟩
                have hm : m < es.length := by omega
                have hcap' : (m : Int) + 1 ≤ (cap : Int) := by omega
                have kq := cell_regrown (HE0.out m hm).1
                rw [show m + 1 - 1 = m from rfl, List.getElem?_eq_getElem hm, Option.map_some, Option.getD_some] at HOK
                obtain ⟨q, hq⟩ : ∃ q, es[m].p = q := ⟨_, rfl⟩
                rw [hq] at kq HOK
                clear hq
                have hpos : decide ((0 : Int) < (m : Int) + 1) = true := decide_eq_true (by omega)
                cases f4 : Op.bytesLess q.toList p.toList with
                | false =>
                  rw [f4] at HOK
                  go_wp2
                  refine wp_region_quiet_below (by kernel_rfl) (by kernel_rfl) ?_
                  repeat (go_big_quiet_step (first | exact a1 _ _ | exact a2 _ _))
                  refine wpQuiet_nil ?_
                  intro _ hw'
                  obtain ⟨⟨dq, osq⟩, hw''⟩ := hw'
                  subst hw''
                  have HBq := hidE (HB0.out.trans ((below_regrown W0 dq osq).mono HB0.out.size))
                  clear HB0 HE0 k0 k1 k2 kq a1 a2
                  go_wp2
                  go_ret
                  exact ⟨ret_bE (treeE_no hlt (by rw [HOK.out]; simp)), HBq.out⟩
                | true =>
                  rw [f4] at HOK
                  cases f5 : dirE (es.take (m + 1)) (upS p) with
                  | true =>
                    rw [f5] at HOK
                    have a4 := cDir W0 g o cap (m + 1) es (upS p) true (by omega) hl HE0.out f5
                    go_wp2
                    refine wp_region_quiet_below (by kernel_rfl) (by kernel_rfl) ?_
                    repeat (go_big_quiet_step (first | exact a1 _ _ | exact a2 _ _ | exact a3 _ _ | exact a4 _ _))
                    refine wpQuiet_nil ?_
                    intro _ hw'
                    obtain ⟨⟨dq, osq⟩, hw''⟩ := hw'
                    subst hw''
                    have HBq := hidE (HB0.out.trans ((below_regrown W0 dq osq).mono HB0.out.size))
                    clear HB0 HE0 k0 k1 k2 kq a1 a2 a3 a4
                    go_wp2
                    go_roundw
                    case rel => exact ⟨m + 1 + 1, by omega, by go_num, HBq, all_range_succ _ (m + 1) HA.out (by rw [HOK.out]; simp)⟩
                    case measure => simp [RowKit.intOf]; omega
                  | false =>
                    rw [f5] at HOK
                    have a4 := cDir W0 g o cap (m + 1) es (upS p) false (by omega) hl HE0.out f5
                    go_wp2
                    refine wp_region_quiet_below (by kernel_rfl) (by kernel_rfl) ?_
                    repeat (go_big_quiet_step (first | exact a1 _ _ | exact a2 _ _ | exact a3 _ _ | exact a4 _ _))
                    refine wpQuiet_nil ?_
                    intro _ hw'
                    obtain ⟨⟨dq, osq⟩, hw''⟩ := hw'
                    subst hw''
                    have HBq := hidE (HB0.out.trans ((below_regrown W0 dq osq).mono HB0.out.size))
                    clear HB0 HE0 k0 k1 k2 kq a1 a2 a3 a4
                    go_wp2
                    go_ret
                    exact ⟨ret_bE (treeE_no hlt (by rw [HOK.out]; simp)), HBq.out⟩
      · have HT : Hid (treeE es = true) := by
          show _ = _
          unfold treeE
          rw [decide_eq_true h16, Bool.true_and]
          have := HA.out
          rw [show k = es.length from by omega] at this; exact this
        go_wp2
        go_ret
        exact ⟨ret_bE HT.out.symm, HB.out⟩
  · go_enter Tryd.func21, Tryd.ntmps21
    go_wp2
    go_ret
    exact ⟨ret_bE (by unfold treeE; rw [decide_eq_false h16]; rfl), Below.refl _ _⟩
end Go.Proofs.YtfbfmckfmdodlaaDoor

/-
  Rows of entries that a function makes itself.
-/
namespace Go.Proofs.YtfbfmckfmdodlaaDoor
open Go.RowKit Go.Lib

theorem rowE_append (es fs : List E) : rowE (es ++ fs) = rowE es ++ rowE fs := by unfold rowE; exact List.flatMap_append
theorem rowE_one (e : E) : rowE [e] = cellsE e := by unfold rowE; simp
theorem rowE_at : ∀ (es : List E) (i : Nat) (h : i < es.length), (rowE es)[i * 3]? = some (.string es[i].p) ∧ (rowE es)[i * 3 + 1]? = some (.bool es[i].d) ∧ (rowE es)[i * 3 + 2]? = some (.string es[i].x)
  | e :: r, 0, _ => ⟨rfl, rfl, rfl⟩
  | e :: r, i + 1, h => by
    obtain ⟨q0, q1, q2⟩ := rowE_at r i (by simpa using h)
    have hd : ∀ j, (rowE (e :: r))[3 + j]? = (rowE r)[j]? := fun j => by
      show (cellsE e ++ rowE r)[3 + j]? = _
      rw [List.getElem?_append_right (by show 3 ≤ _; omega)]
      show (rowE r)[3 + j - 3]? = _
      rw [Nat.add_sub_cancel_left]
    refine ⟨?_, ?_, ?_⟩
    · rw [show (i + 1) * 3 = 3 + i * 3 from by omega, hd]; exact q0
    · rw [show (i + 1) * 3 + 1 = 3 + (i * 3 + 1) from by omega, hd]; exact q1
    · rw [show (i + 1) * 3 + 2 = 3 + (i * 3 + 2) from by omega, hd]; exact q2
theorem rowE_one' {e : E} : ∀ u ∈ cellsE e, u.oneCell' = true := by
  intro u hu; simp [cellsE] at hu; rcases hu with rfl | rfl | rfl <;> rfl

/-- A list of entries that lies in a block of its own, at base or behind. -/
abbrev OwnE (w : World) (base : Nat) (v : Value) (es : List E) : Prop := w.ownsRow base 44 3 v es.length (rowE es)
theorem add0 (g j : Nat) : (⟨g, 0, none⟩ : Addr).add j = ⟨g, 0 + j, none⟩ := by
  cases j with
  | zero => rfl
  | succ j => simp [Addr.add]
theorem OwnE.ents {w : World} {base : Nat} {v : Value} {es : List E} (h : OwnE w base v es) :
    ∃ a g cap, v = .slice a es.length cap ∧ (0 < es.length → a = some ⟨g, 0, none⟩) ∧ Ents w g 0 es ∧ es.length ≤ cap := by
  have hc := fun (g : Nat) (hg : v.ownBlock = some g) => World.ownsRow.cells h hg
  obtain ⟨_, ⟨rfl, e0⟩ | ⟨g, cap, cur, rfl, _, _, hcap, _⟩⟩ := h
  · exact ⟨none, 0, 0, by rw [e0], fun h => by omega, fun i hi => by omega, by omega⟩
  · refine ⟨_, g, cap, rfl, fun _ => rfl, fun i hi => ?_, hcap⟩
    obtain ⟨q0, q1, q2⟩ := rowE_at es i hi
    refine ⟨?_, ?_, ?_⟩
    · have := hc g rfl _ _ q0; rw [add0] at this; exact this
    · have := hc g rfl _ _ q1; rw [add0, ← Nat.add_assoc] at this; exact this
    · have := hc g rfl _ _ q2; rw [add0, ← Nat.add_assoc] at this; exact this
theorem OwnE.below {w w' : World} {base : Nat} {v : Value} {es : List E} (h : OwnE w base v es) (hb : Below w.heap.size w w') : OwnE w' base v es :=
  World.ownsRow.kept (row := none) h ⟨hb.os, hb.tape, hb.output, hb.size, fun b hb' _ => hb.block b hb'⟩ (by
    cases hob : v.ownBlock with
    | none => exact .inl rfl
    | some q => exact .inr (by simp))
theorem OwnE.lower {w : World} {base base' : Nat} {v : Value} {es : List E} (h : OwnE w base v es) (hb : base' ≤ base) : OwnE w base' v es := by
  obtain ⟨h1, h2 | ⟨g, cap, cur, e1, e2, e3⟩⟩ := h
  · exact ⟨h1, .inl h2⟩
  · exact ⟨h1, .inr ⟨g, cap, cur, e1, Nat.le_trans hb e2, e3⟩⟩
theorem OwnE.made (w : World) {base : Nat} (hb : base ≤ w.heap.size) : OwnE (w.alloc (.cells #[] 44)) base (.slice (some ⟨w.heap.size, 0, none⟩) 0 0) [] := World.ownsRow_made w #[] 0 hb (Nat.zero_le _) rfl
theorem OwnE.push {w : World} {base : Nat} {v : Value} {es : List E} {e : E} (h : w.ownsRow base 44 3 v (es.length + 1) (rowE es ++ cellsE e)) : OwnE w base v (es ++ [e]) := by
  show World.ownsRow w base 44 3 v (es ++ [e]).length (rowE (es ++ [e]))
  rw [rowE_append, rowE_one, List.length_append]; exact h

theorem Tryd.infoE' : (Tryd.prog.info? 44).map (fun i => (i.zero, i.size, i.bytes)) = some (some (.agg #[.string ByteArray.empty, .bool false, .string ByteArray.empty]), 3, 40) := by kernel_rfl
theorem cells_new (w : World) (e : E) : ∀ j u, (cellsE e)[j]? = some u → (w.alloc (.cells #[.string e.p, .bool e.d, .string e.x] 44)).cell? ((⟨w.heap.size, 0, none⟩ : Addr).add j) = some u := by
  intro j u hj
  match j, hj with
  | 0, hj => simp [cellsE] at hj; subst hj; simp [Addr.add]
  | 1, hj => simp [cellsE] at hj; subst hj; simp [Addr.add]
  | 2, hj => simp [cellsE] at hj; subst hj; simp [Addr.add]
  | j + 3, hj => simp [cellsE] at hj

end Go.Proofs.YtfbfmckfmdodlaaDoor

/-
  The walks of the exact laws' marks.
-/
namespace Go.Proofs.YtfbfmckfmdodlaaDoor
open Go.RowKit Go.Lib Go.Sort

def digC (j : Nat) : UInt8 := UInt8.ofNat (48 + j % 10)
/-- The digits of a number, ahead of a text. -/
def digS (k : Nat) (out : ByteArray) : ByteArray := if _h : k = 0 then out else digS (k / 10) (⟨#[digC k]⟩ ++ out)
termination_by k
decreasing_by omega
/-- The mark of a number. -/
def markS (k : Nat) : ByteArray := ⟨#[109]⟩ ++ (if k = 0 then ⟨#[48]⟩ else digS k ⟨#[]⟩)
theorem dig_step (k : Nat) (out : ByteArray) (h : 0 < k) : digS k out = digS (k / 10) (⟨#[digC k]⟩ ++ out) := by
  rw [digS, dif_neg (by omega)]
theorem dig_zero (out : ByteArray) : digS 0 out = out := by rw [digS, dif_pos rfl]

theorem conv_one (W : World) (j : Nat) : (convert 83 9 (.slice (some ⟨W.heap.size, 0, none⟩) 1 1)).run Tryd.prog (W.alloc (.cells #[.int .u8 (48 + (j : Int) % 10)] 5)) = .ok (.string ⟨#[digC j]⟩) (W.alloc (.cells #[.int .u8 (48 + (j : Int) % 10)] 5)) := by
  have h := run_convert_bytes_back (P := Tryd.prog) (W.alloc (.cells #[.int .u8 (48 + (j : Int) % 10)] 5)) 83 9 5 ⟨W.heap.size, 0, none⟩ 1 [digC j] Tryd.underlying83 Tryd.underlying5 Tryd.underlying9 (fun i hi => by
    have : i = 0 := by simpa using hi
    subst this
    have hj : 48 + j % 10 < 256 := by omega
    simp [digC, Addr.add, Nat.mod_eq_of_lt hj])
  exact h

set_option maxHeartbeats 800000 in
set_option maxRecDepth 100000 in
theorem markText_any (k : Nat) (hk : 0 < k) (hk' : k ≤ 16777216) (w : World) :
    Calls Tryd.prog 29 #[.int .i64 k] w fun r w' => r = .returned (.string (markS k)) ∧ Below w.heap.size w w' := by
  go_enter Tryd.func29, Tryd.ntmps29
  go_wp2
  go_loopw [0, 3] (fun iv ov wl => ∃ (j : Nat) (out : ByteArray), iv = .int .i64 j ∧ ov = .string out ∧ out.size + j ≤ k ∧ Hid (digS j out = digS k ⟨#[]⟩) ∧ Hid (RowKit.Below w.heap.size w wl)) (fun iv _ _ => (RowKit.intOf iv).toNat)
  case atStart => exact ⟨k, ⟨#[]⟩, rfl, rfl, by show 0 + k ≤ k; omega, rfl, RowKit.Below.refl _ _⟩
  case round =>
    obtain ⟨j, out, rfl, rfl, hj, HD, HB⟩ := hrel
    by_cases h0 : 0 < j
    · have HD2 := hidE (dig_step j out h0)
      have hcv := conv_one wr j
      have hz := HB.out.size
      have HB2 := hidE (HB.out.alloc hz (.cells #[.int .u8 (48 + (j : Int) % 10)] 5))
      clear HB
      go_wp2
      go_roundw
      case rel => exact ⟨j / 10, _, by first | rfl | (congr 1) | go_num, rfl, by rw [ByteArray.size_append]; show 1 + _ + _ ≤ _; omega, by show _ = _; rw [← HD2.out, HD.out], HB2⟩
      case measure => simp [RowKit.intOf]; omega
    · have HM : Hid (markS k = ⟨#[109]⟩ ++ out) := by
        have hj0 : j = 0 := by omega
        show _ = _; unfold markS; rw [if_neg (by omega), ← HD.out, hj0, dig_zero]
      clear HD
      go_wp2
      go_ret
      exact ⟨ret_str' HM.out.symm, HB.out⟩
end Go.Proofs.YtfbfmckfmdodlaaDoor

/-
  The walks of the exact laws' marks in lists of marks.
-/
namespace Go.Proofs.YtfbfmckfmdodlaaDoor.Mk
open Go.RowKit Go.Lib Go.Sort

/-- The marks that the marks make, from the number k on. -/
def markE (k : Nat) : E := ⟨markS k, ((k : Int) + 1), markS (k + 2)⟩
def markEs (n k : Nat) : List E := (List.range n).map (fun i => markE (k + i * 3))

/-- Nothing but the block g has turned. -/
def But (g : Nat) (w w' : World) : Prop := w'.os = w.os ∧ w'.tape = w.tape ∧ w'.output = w.output ∧ w.heap.size ≤ w'.heap.size ∧ ∀ b, b < w.heap.size → b ≠ g → w'.heap[b]? = w.heap[b]?
theorem But.refl (g : Nat) (w : World) : But g w w := ⟨rfl, rfl, rfl, Nat.le_refl _, fun _ _ _ => rfl⟩
theorem But.trans {r : Nat} {a b c : World} (h : But r a b) (k : But r b c) : But r a c :=
  ⟨k.1.trans h.1, k.2.1.trans h.2.1, k.2.2.1.trans h.2.2.1, Nat.le_trans h.2.2.2.1 k.2.2.2.1, fun x hx hr => (k.2.2.2.2 x (Nat.lt_of_lt_of_le hx h.2.2.2.1) hr).trans (h.2.2.2.2 x hx hr)⟩
theorem But.of_below {r : Nat} {w w' : World} (h : RowKit.Below w.heap.size w w') : But r w w' := ⟨h.os, h.tape, h.output, h.size, fun b hb _ => h.block b hb⟩
theorem But.set (r : Nat) (w : World) (i : Nat) (v : Value) : But r w (w.setCell ⟨r, i, none⟩ v) := by
  have h : RowKit.Below r w (w.setCell ⟨r, i, none⟩ v) := (RowKit.Below.refl r w).setCell (p := ⟨r, i, none⟩) (Nat.le_refl _) v
  exact ⟨h.os, h.tape, h.output, h.size, fun b hb hne => Below.heap_setCell w ⟨r, i, none⟩ v b hne⟩

theorem ents_set {w : World} {g : Nat} {es : List E} (h : Ents w g 0 es) (i : Nat) (hi : es.length * 3 ≤ i) (v : Value) : Ents (w.setCell ⟨g, i, none⟩ v) g 0 es := by
  intro j hj
  obtain ⟨c0, c1, c2⟩ := h j hj
  exact ⟨(cell_ne w g i _ v (by omega)).trans c0, (cell_ne w g i _ v (by omega)).trans c1, (cell_ne w g i _ v (by omega)).trans c2⟩
theorem ents_snoc {w : World} {g : Nat} {es : List E} {e : E} (h : Ents w g 0 es) (c0 : w.cell? ⟨g, es.length * 3, none⟩ = some (.string e.p)) (c1 : w.cell? ⟨g, es.length * 3 + 1, none⟩ = some (.int .i64 e.d)) (c2 : w.cell? ⟨g, es.length * 3 + 2, none⟩ = some (.string e.x)) : Ents w g 0 (es ++ [e]) := by
  intro j hj
  by_cases hlt : j < es.length
  · rw [List.getElem_append_left hlt]; exact h j hlt
  · have : j = es.length := by simp at hj; omega
    subst this
    simp only [Nat.zero_add]
    rw [List.getElem_append_right (Nat.le_refl _)]
    simpa using ⟨c0, c1, c2⟩
theorem marks_len (n k : Nat) : (markEs n k).length = n := by unfold markEs; simp
theorem marks_succ (n k : Nat) : markEs (n + 1) k = markEs n k ++ [markE (k + n * 3)] := by unfold markEs; rw [List.range_succ, List.map_append]; rfl

set_option maxHeartbeats 1600000 in
set_option maxRecDepth 100000 in
theorem markEntS_any (w : World) (a : Option Addr) (g cap n k : Nat) (hn : n ≤ 1048576) (hk : 0 < k) (hk' : k ≤ 4194304) (ha : 0 < n → a = some ⟨g, 0, none⟩) (hR : Room w g (n * 3)) (hg : 0 < n → g < w.heap.size) :
    Calls Tryd.prog 14 #[.slice a n cap, .int .i64 k] w fun r w' => r = .returned (.int .i64 ((k + n * 3 : Nat) : Int)) ∧ Ents w' g 0 (markEs n k) ∧ Room w' g (n * 3) ∧ But g w w' := by
  go_enter Tryd.func14, Tryd.ntmps14
  go_wp2
  have HR := hidE hR
  clear hR
  go_loopw [1, 5] (fun kv iv wl => ∃ j : Nat, j ≤ n ∧ iv = .int .i64 j ∧ kv = .int .i64 ((k + j * 3 : Nat) : Int) ∧ Hid (Ents wl g 0 (markEs j k)) ∧ Hid (Room wl g (n * 3)) ∧ Hid (But g w wl)) (fun _ iv _ => n - (RowKit.intOf iv).toNat)
  case atStart => exact ⟨0, Nat.zero_le _, rfl, rfl, fun i hi => absurd hi (by simp [markEs]), HR, But.refl _ _⟩
  case round =>
    clear HR
    obtain ⟨j, hj, rfl, rfl, HM, HR, HB⟩ := hrel
    obtain ⟨m, hm⟩ : ∃ m, k + j * 3 = m := ⟨_, rfl⟩
    have hm0 : 0 < m := by omega
    have hm1 : m ≤ 8388608 := by omega
    have HMm := hidE hm
    rw [hm]
    clear hm
    by_cases hlt : j < n
    · obtain rfl := ha (by omega)
      obtain ⟨⟨v0, e0⟩, f0⟩ := HR.out (j * 3) (by omega)
      obtain ⟨⟨v1, e1⟩, f1⟩ := HR.out (j * 3 + 1) (by omega)
      obtain ⟨⟨v2, e2⟩, f2⟩ := HR.out (j * 3 + 2) (by omega)
      go_wp2_with fail
      refine (markText_any m hm0 (by omega) _).mono ?_
      rintro e w1 ⟨rfl, hB1⟩
      clear e0 e1 e2 f0 f1 f2
      have HR1 := hidE (HR.out.below hB1)
      obtain ⟨⟨v0, e0⟩, f0⟩ := HR1.out (j * 3) (by omega)
      obtain ⟨⟨v1, e1⟩, f1⟩ := HR1.out (j * 3 + 1) (by omega)
      obtain ⟨⟨v2, e2⟩, f2⟩ := HR1.out (j * 3 + 2) (by omega)
      have HT := hidE (fun W => markText_any (m + 2) (by omega) (by omega) W)
      rw [show ((m + 2 : Nat) : Int) = (m : Int) + 1 + 1 from by omega] at HT
      have HM1 := hidE (ents_set (ents_set (HM.out.below hB1) (j * 3) (by rw [marks_len]; omega) (.string (markS m))) (j * 3 + 1) (by rw [marks_len]; omega) (.int .i64 ((m : Int) + 1)))
      have HR2 := hidE ((HR1.out.set g (j * 3) (.string (markS m))).set g (j * 3 + 1) (.int .i64 ((m : Int) + 1)))
      have HB1 := hidE (HB.out.trans ((But.of_below hB1).trans ((But.set g w1 (j * 3) (.string (markS m))).trans (But.set g _ (j * 3 + 1) (.int .i64 ((m : Int) + 1))))))
      have HC0 := hidE ((cell_ne (w1.setCell ⟨g, j * 3, none⟩ (.string (markS m))) g (j * 3 + 1) (j * 3) (.int .i64 ((m : Int) + 1)) (by omega)).trans (cell_eq _ e0))
      have HC1 := hidE (cell_eq (.int .i64 ((m : Int) + 1)) ((cell_ne w1 g (j * 3) (j * 3 + 1) (.string (markS m)) (by omega)).trans e1))
      clear hB1 HM HR HB HR1
      go_wp2_with fail
      refine (HT.out _).mono ?_
      rintro e w2 ⟨rfl, hB2⟩
      have HM2 := hidE (HM1.out.below hB2)
      have HR3 := hidE (HR2.out.below hB2)
      have HB2 := hidE (HB1.out.trans (But.of_below hB2))
      have HC0' := hidE ((hB2.cell (p := ⟨g, j * 3, none⟩) (World.block_lt_of_cell? _ _ HC0.out)).trans HC0.out)
      have HC1' := hidE ((hB2.cell (p := ⟨g, j * 3 + 1, none⟩) (World.block_lt_of_cell? _ _ HC1.out)).trans HC1.out)
      clear e0 e1 e2 f0 f1 f2 hB2 HM1 HR2 HB1 HC0 HC1
      obtain ⟨⟨v2, e2⟩, f2⟩ := HR3.out (j * 3 + 2) (by omega)
      have HM3 : Hid (Ents (w2.setCell ⟨g, j * 3 + 2, none⟩ (.string (markS (m + 2)))) g 0 (markEs (j + 1) k)) := by
        rw [marks_succ]
        have hl := marks_len j k
        refine ents_snoc (ents_set HM2.out _ (by rw [hl]; omega) _) ?_ ?_ ?_
        · rw [hl, HMm.out]; exact (cell_ne w2 g (j * 3 + 2) (j * 3) _ (by omega)).trans HC0'.out
        · rw [hl, HMm.out]; exact (cell_ne w2 g (j * 3 + 2) (j * 3 + 1) _ (by omega)).trans HC1'.out
        · rw [hl, HMm.out]; exact cell_eq _ e2
      have HR4 := hidE (HR3.out.set g (j * 3 + 2) (.string (markS (m + 2))))
      have HB4 := hidE (HB2.out.trans (But.set g w2 (j * 3 + 2) (.string (markS (m + 2)))))
      clear HM2 HR3 HB2 HC0' HC1'
      go_wp2
      go_roundw
      case rel => exact ⟨j + 1, by omega, by go_num, by have := HMm.out; congr 1; omega, HM3, HR4, HB4⟩
      case measure => simp [RowKit.intOf]; omega
    · go_wp2
      go_ret
      have hjn : j = n := by omega
      subst hjn
      exact ⟨ret_iE (by rw [HMm.out]), HM.out, HR.out, HB.out⟩
end Go.Proofs.YtfbfmckfmdodlaaDoor.Mk

/-
  What the exact laws' mark of a number is, in a region that draws.
-/
namespace Go.Proofs.YtfbfmckfmdodlaaDoor
open Go.RowKit Go.Lib Go.Sort

theorem cMark (W0 : World) (k : Nat) (z : Int) (hz : z = (k : Int)) (hk : 0 < k) (hk' : k ≤ 16777216) : ∀ d os, Calls Tryd.prog 29 #[.int .i64 z] (grow (redrawn W0 d) os) fun r w'' => r = .returned (.string (markS k)) ∧ ∃ p : Regrown, w'' = grow (redrawn W0 p.d) p.os :=
  fun _ _ => Calls.regrown_of (by subst hz; exact markText_any k hk hk' _)
end Go.Proofs.YtfbfmckfmdodlaaDoor

/-
  The walk of whether the exact laws' marks still lie there.
-/
namespace Go.Proofs.YtfbfmckfmdodlaaDoor.Mk
open Go.RowKit Go.Lib Go.Sort

theorem marks_at (n k i : Nat) (h : i < (markEs n k).length) : (markEs n k)[i] = markE (k + i * 3) :=
  (List.getElem_map (fun i => markE (k + i * 3)) ..).trans (by rw [List.getElem_range])
set_option maxHeartbeats 1600000 in
set_option maxRecDepth 100000 in
theorem heldEntS_any (w : World) (a : Option Addr) (g cap n k : Nat) (hn : n ≤ 1048576) (hk : 0 < k) (hk' : k ≤ 1048576) (ha : 0 < n → a = some ⟨g, 0, none⟩) (hM : Ents w g 0 (markEs n k)) :
    Calls Tryd.prog 15 #[.slice a n cap, .int .i64 k] w fun r w' => r = .returned (.int .i64 ((k + n * 3 : Nat) : Int)) ∧ RowKit.Below w.heap.size w w' := by
  have HM := hidE hM
  clear hM
  go_enter Tryd.func15, Tryd.ntmps15
  go_wp2
  go_loopw [1, 5] (fun kv iv wl => ∃ j : Nat, j ≤ n ∧ iv = .int .i64 j ∧ kv = .int .i64 ((k + j * 3 : Nat) : Int) ∧ Hid (RowKit.Below w.heap.size w wl)) (fun _ iv _ => n - (RowKit.intOf iv).toNat)
  case atStart => exact ⟨0, Nat.zero_le _, rfl, rfl, RowKit.Below.refl _ _⟩
  case round =>
    obtain ⟨j, hj, rfl, rfl, HB⟩ := hrel
    obtain ⟨m, hm⟩ : ∃ m, k + j * 3 = m := ⟨_, rfl⟩
    have hm0 : 0 < m := by omega
    have hm1 : m ≤ 4194304 := by omega
    have HMm := hidE hm
    rw [hm]
    clear hm
    by_cases hlt : j < n
    · obtain rfl := ha (by omega)
      have hjl : j < (markEs n k).length := by rw [marks_len]; exact hlt
      obtain ⟨c0, c1, c2⟩ := (HM.out.below HB.out) j hjl
      rw [marks_at, HMm.out] at c0 c1 c2
      simp only [markE, Nat.zero_add] at c0 c1 c2
      have k0 := cell_regrown c0
      have k1 := cell_regrown c1
      have k2 := cell_regrown c2
      clear c0 c1 c2
      have a1 := cMark wr m m rfl hm0 (by omega)
      go_wp2
      refine wp_region_quiet_below (by kernel_rfl) (by kernel_rfl) ?_
      repeat (go_big_quiet_step (first | exact a1 _ _))
      refine wpQuiet_nil ?_
      intro _ hw'
      obtain ⟨⟨dq, osq⟩, hw''⟩ := hw'
      subst hw''
      have HB1 := hidE (HB.out.trans ((below_regrown wr dq osq).mono HB.out.size))
      obtain ⟨w1, hw1⟩ : ∃ w1, w1 = grow (redrawn wr dq) osq := ⟨_, rfl⟩
      rw [← hw1] at HB1 ⊢
      clear hw1 HB
      clear k0 k1 k2 a1
      obtain ⟨c0, c1, c2⟩ := (HM.out.below HB1.out) j hjl
      rw [marks_at, HMm.out] at c0 c1 c2
      simp only [markE, Nat.zero_add] at c0 c1 c2
      go_wp2
      have k0 := cell_regrown c0
      have k1 := cell_regrown c1
      have k2 := cell_regrown c2
      clear c0 c1 c2
      have a1 := cMark w1 (m + 2) ((m : Int) + 1 + 1) (by omega) (by omega) (by omega)
      refine wp_region_quiet_below (by kernel_rfl) (by kernel_rfl) ?_
      repeat (go_big_quiet_step (first | exact a1 _ _))
      refine wpQuiet_nil ?_
      intro _ hw'
      obtain ⟨⟨dq, osq⟩, hw''⟩ := hw'
      subst hw''
      have HB2 := hidE (HB1.out.trans ((below_regrown w1 dq osq).mono HB1.out.size))
      obtain ⟨w2, hw1⟩ : ∃ w2, w2 = grow (redrawn w1 dq) osq := ⟨_, rfl⟩
      rw [← hw1] at HB2 ⊢
      clear hw1 HB1
      clear k0 k1 k2 a1
      go_wp2
      go_roundw
      case rel => exact ⟨j + 1, by omega, by go_num, by have := HMm.out; congr 1; omega, HB2⟩
      case measure => simp [RowKit.intOf]; omega
    · go_wp2
      go_ret
      have hjn : j = n := by omega
      subst hjn
      exact ⟨ret_iE (by rw [HMm.out]), HB.out⟩
end Go.Proofs.YtfbfmckfmdodlaaDoor.Mk

/-
  What the exact laws know of rows of marks that a function has told.
-/
namespace Go.Proofs.YtfbfmckfmdodlaaDoor.Mk
open Go.RowKit Go.Lib

theorem Ents.but {w w' : World} {g o r : Nat} {es : List E} (h : Ents w g o es) (hb : But r w w') (hne : 0 < es.length → g ≠ r) : Ents w' g o es := fun i hi => by
  obtain ⟨c0, c1, c2⟩ := h i hi
  have lt := World.block_lt_of_cell? w ⟨g, o + i * 3, none⟩ c0
  have hh := hb.2.2.2.2 g lt (hne (by omega))
  exact ⟨(World.cell?_of_block (w := w) (a := ⟨g, _, none⟩) hh).trans c0, (World.cell?_of_block (w := w) (a := ⟨g, _, none⟩) hh).trans c1, (World.cell?_of_block (w := w) (a := ⟨g, _, none⟩) hh).trans c2⟩
theorem Room.butE {w w' : World} {g n r : Nat} (h : Room w g n) (hb : But r w w') (hne : 0 < n → g ≠ r) : Room w' g n := fun i hi => by
  obtain ⟨⟨v, hv⟩, hf⟩ := h i hi
  have lt := World.block_lt_of_cell? w ⟨g, i, none⟩ hv
  have hh := hb.2.2.2.2 g lt (hne (by omega))
  exact ⟨⟨v, (World.cell?_of_block (w := w) (a := ⟨g, i, none⟩) hh).trans hv⟩, (World.frozen?_of_block (w := w) (a := ⟨g, i, none⟩) hh).trans hf⟩
theorem But.belowE {r n : Nat} {w w0 w' : World} (h : But r w w') (hB : Below n w0 w) (hn : n ≤ w.heap.size) (hr : n ≤ r) : Below n w0 w' :=
  hB.trans ⟨h.1, h.2.1, h.2.2.1, h.2.2.2.1, fun k hk => h.2.2.2.2 k (by omega) (by omega)⟩
/-- A row of marks that is owned: where it lies, and that it may be written. -/
theorem row_entsE {w : World} {base : Nat} {v : Value} {es : List E} (h : OwnE w base v es) :
    ∃ a g cap, v = .slice a es.length cap ∧ (0 < es.length → a = some ⟨g, 0, none⟩) ∧ Ents w g 0 es ∧ Room w g (es.length * 3) ∧ base ≤ g := by
  have hc := fun (g : Nat) (hg : v.ownBlock = some g) => World.ownsRow.cells h hg
  obtain ⟨_, ⟨rfl, e0⟩ | ⟨g, cap, cur, rfl, hb, hg, hcap, _, hsz, _⟩⟩ := h
  · exact ⟨none, base, 0, by rw [e0], fun h => by omega, fun i hi => by omega, fun i hi => by omega, Nat.le_refl _⟩
  · refine ⟨_, g, cap, rfl, fun _ => rfl, fun i hi => ?_, fun i hi => ⟨?_, ?_⟩, hb⟩
    · obtain ⟨q0, q1, q2⟩ := rowE_at es i hi
      refine ⟨?_, ?_, ?_⟩
      · have := hc g rfl _ _ q0; rw [add0] at this; exact this
      · have := hc g rfl _ _ q1; rw [add0, ← Nat.add_assoc] at this; exact this
      · have := hc g rfl _ _ q2; rw [add0, ← Nat.add_assoc] at this; exact this
    · have hi' : i < (rowE es).length := by rw [rowE_len]; exact hi
      have := hc g rfl i _ (List.getElem?_eq_getElem hi')
      rw [add0, Nat.zero_add] at this
      exact ⟨_, this⟩
    · unfold World.frozen?
      rw [hg]
      simp
end Go.Proofs.YtfbfmckfmdodlaaDoor.Mk
