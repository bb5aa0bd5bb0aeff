/-
  The walk of the model's TreeOk.
-/
import Derived.Lib.QuietBelow
import Derived.Test.YtenlibefdefjmaaDoorHEnts
import Derived.Test.YtenlibefdefjmaaDoorHSpecUp
namespace Go.Proofs.YtenlibefdefjmaaDoor
open Go.RowKit Go.Lib Go.Sort

theorem cUp (W0 : World) (s : ByteArray) (hm : s.size ≤ 16777216) : ∀ d os, Calls Tryd.prog 24 #[.string s] (grow (redrawn W0 d) os) fun e w'' => e = .returned (.string (upS s)) ∧ ∃ p : Regrown, w'' = grow (redrawn W0 p.d) p.os :=
  fun _ _ => Calls.regrown_of (sPathUp_any s hm _)
theorem cDir (W0 : World) (g o cap k : Nat) (es : List E) (s : ByteArray) (b : Bool) (hk : k ≤ es.length) (hl : es.length ≤ 16777216) (hE : Ents W0 g o es) (h : dirE (es.take k) s = b) : ∀ d os, Calls Tryd.prog 23 #[.slice (some ⟨g, o, none⟩) k cap, .string s] (grow (redrawn W0 d) os) fun e w'' => e = .returned (.bool b) ∧ ∃ p : Regrown, w'' = grow (redrawn W0 p.d) p.os :=
  fun d os => Calls.regrown_of (by
    have e : (es.take k).length = k := by rw [List.length_take]; omega
    have := l2Dir_any (grow (redrawn W0 d) os) (some ⟨g, o, none⟩) g o cap (es.take k) s (by omega) (fun _ => rfl) ((hE.below (below_regrown W0 d os)).take k)
    rw [e, h] at this
    exact this.mono fun _ _ ⟨h1, h2⟩ => ⟨h1, by rw [h2]; exact Below.refl _ _⟩)

set_option maxHeartbeats 8000000 in
set_option maxRecDepth 100000 in
theorem sTreeOk_any (w : World) (a : Option Addr) (g o cap : Nat) (es : List E) (hl : es.length ≤ 16777216) (hcap : es.length ≤ cap) (hz : ∀ e ∈ es, e.p.size ≤ 16777216 ∧ e.x.size ≤ 16777216) (ha : 0 < es.length → a = some ⟨g, o, none⟩) (hE : Ents w g o es) :
    Calls Tryd.prog 17 #[.slice a es.length cap] w fun e w' => e = .returned (.bool (treeE es)) ∧ Below w.heap.size w w' := by
  have HE := hidE hE
  have HZ := hidE hz
  clear hE hz
  by_cases h16 : es.length ≤ 16
  · go_enter Tryd.func17, Tryd.ntmps17
    go_wp2
    go_loopw [3] (fun i wl => ∃ k : Nat, k ≤ es.length ∧ i = .int .i64 k ∧ Hid (Below w.heap.size w wl) ∧ Hid ((List.range k).all (okAt es) = true)) (fun i _ => es.length - (RowKit.intOf i).toNat)
    case atStart => exact ⟨0, Nat.zero_le _, rfl, Below.refl _ _, rfl⟩
    case round =>
      obtain ⟨k, hk, rfl, HB, HA⟩ := hrel
      by_cases hlt : k < es.length
      · obtain rfl := ha (by omega)
        have hB := HB.out
        have HEr := hidE (HE.out.below hB)
        obtain ⟨c0, c1, c2⟩ := HEr.out k hlt
        obtain ⟨z0, z1⟩ := HZ.out es[k] (List.getElem_mem _)
        obtain ⟨p, hp⟩ : ∃ p, es[k].p = p := ⟨_, rfl⟩
        obtain ⟨d, hd⟩ : ∃ d, es[k].d = d := ⟨_, rfl⟩
        obtain ⟨x, hx⟩ : ∃ x, es[k].x = x := ⟨_, rfl⟩
        have HP := hidE hp
        have HDd := hidE hd
        have HX := hidE hx
        rw [hp] at c0 z0
        rw [hd] at c1
        rw [hx] at c2 z1
        clear hp hd hx
        obtain ⟨W0, hW0⟩ : ∃ W0, wr.alloc (.cells #[.string p, .bool d, .string x] 25) = W0 := ⟨_, rfl⟩
        have hb0 : Below wr.heap.size wr W0 := by rw [← hW0]; exact (Below.refl _ wr).alloc (Nat.le_refl _) _
        have k0 := cell_regrown (show W0.cell? ⟨wr.heap.size, 0, none⟩ = some (.string p) by rw [← hW0]; simp)
        have k1 := cell_regrown (show W0.cell? ⟨wr.heap.size, 1, none⟩ = some (.bool d) by rw [← hW0]; simp)
        have k2 := cell_regrown (show W0.cell? ⟨wr.heap.size, 2, none⟩ = some (.string x) by rw [← hW0]; simp)
        have HE0 := hidE (HEr.out.below hb0)
        have HB0 := hidE (hB.trans (hb0.mono hB.size))
        have HOK := hidE (okAt_is hlt)
        rw [HP.out, HDd.out, HX.out] at HOK
        clear hb0
        cases f1 : pathB p with
        | false =>
          rw [f1] at HOK
          have a1 := cOk W0 p false f1 (by omega)
          go_wp2
          refine wp_region_quiet_below (by kernel_rfl) (by kernel_rfl) ?_
          repeat (go_big_quiet_step (first | exact a1 _ _))
          refine wpQuiet_nil ?_
          intro _ hw'
          obtain ⟨⟨dq, osq⟩, hw''⟩ := hw'
          subst hw''
          have HBq := hidE (HB0.out.trans ((below_regrown W0 dq osq).mono HB0.out.size))
          clear HB0 HE0 k0 k1 k2 a1
          go_wp2
          go_ret
          exact ⟨ret_bE (treeE_no hlt (by rw [HOK.out]; simp)), HBq.out⟩
        | true =>
          rw [f1] at HOK
          have a1 := cOk W0 p true f1 (by omega)
          cases f2 : dataB x with
          | false =>
            rw [f2] at HOK
            have a2 := cData W0 x false f2 (by omega)
            go_wp2
            refine wp_region_quiet_below (by kernel_rfl) (by kernel_rfl) ?_
            repeat (go_big_quiet_step (first | exact a1 _ _ | exact a2 _ _))
            refine wpQuiet_nil ?_
            intro _ hw'
            obtain ⟨⟨dq, osq⟩, hw''⟩ := hw'
            subst hw''
            have HBq := hidE (HB0.out.trans ((below_regrown W0 dq osq).mono HB0.out.size))
            clear HB0 HE0 k0 k1 k2 a1 a2
            go_wp2
            go_ret
            exact ⟨ret_bE (treeE_no hlt (by rw [HOK.out]; simp)), HBq.out⟩
          | true =>
            rw [f2] at HOK
            have a2 := cData W0 x true f2 (by omega)
            have a3 := cUp W0 p (by omega)
            cases d with
            | true =>
              cases f3 : x.toList.isEmpty with
              | false =>
                rw [f3] at HOK
                go_wp2
                refine wp_region_quiet_below (by kernel_rfl) (by kernel_rfl) ?_
                repeat (go_big_quiet_step (first | exact a1 _ _ | exact a2 _ _))
                refine wpQuiet_nil ?_
                intro _ hw'
                obtain ⟨⟨dq, osq⟩, hw''⟩ := hw'
                subst hw''
                have HBq := hidE (HB0.out.trans ((below_regrown W0 dq osq).mono HB0.out.size))
                clear HB0 HE0 k0 k1 k2 a1 a2
                go_wp2
                go_ret
                exact ⟨ret_bE (treeE_no hlt (by rw [HOK.out]; simp)), HBq.out⟩
              | true =>
                rw [f3] at HOK
                by_cases hk0 : k = 0
                · subst hk0
                  simp only [Nat.zero_mul, Nat.add_zero] at c0 c1 c2
                  cases f5 : dirE (es.take 0) (upS p) with
                  | true =>
                    rw [f5] at HOK
                    have a4 := cDir W0 g o cap 0 es (upS p) true (by omega) hl HE0.out f5
                    go_wp2
                    refine wp_region_quiet_below (by kernel_rfl) (by kernel_rfl) ?_
                    repeat (go_big_quiet_step (first | exact a1 _ _ | exact a2 _ _ | exact a3 _ _ | exact a4 _ _))
                    refine wpQuiet_nil ?_
                    intro _ hw'
                    obtain ⟨⟨dq, osq⟩, hw''⟩ := hw'
                    subst hw''
                    have HBq := hidE (HB0.out.trans ((below_regrown W0 dq osq).mono HB0.out.size))
                    clear HB0 HE0 k0 k1 k2 a1 a2 a3 a4
                    go_wp2
                    go_roundw
                    case rel => exact ⟨0 + 1, by omega, by go_num, HBq, all_range_succ _ 0 HA.out (by rw [HOK.out]; simp)⟩
                    case measure => simp [RowKit.intOf]; omega
                  | false =>
                    rw [f5] at HOK
                    have a4 := cDir W0 g o cap 0 es (upS p) false (by omega) hl HE0.out f5
                    go_wp2
                    refine wp_region_quiet_below (by kernel_rfl) (by kernel_rfl) ?_
                    repeat (go_big_quiet_step (first | exact a1 _ _ | exact a2 _ _ | exact a3 _ _ | exact a4 _ _))
                    refine wpQuiet_nil ?_
                    intro _ hw'
                    obtain ⟨⟨dq, osq⟩, hw''⟩ := hw'
                    subst hw''
                    have HBq := hidE (HB0.out.trans ((below_regrown W0 dq osq).mono HB0.out.size))
                    clear HB0 HE0 k0 k1 k2 a1 a2 a3 a4
                    go_wp2
                    go_ret
                    exact ⟨ret_bE (treeE_no hlt (by rw [HOK.out]; simp)), HBq.out⟩
                · obtain ⟨m, rfl⟩ : ∃ m, k = m + 1 := ⟨k - 1, by omega⟩
                  have hm : m < es.length := by omega
                  have hcap' : (m : Int) + 1 ≤ (cap : Int) := by omega
                  have kq := cell_regrown (HE0.out m hm).1
                  rw [show m + 1 - 1 = m from rfl, List.getElem?_eq_getElem hm, Option.map_some, Option.getD_some] at HOK
                  obtain ⟨q, hq⟩ : ∃ q, es[m].p = q := ⟨_, rfl⟩
                  rw [hq] at kq HOK
                  clear hq
                  have hpos : decide ((0 : Int) < (m : Int) + 1) = true := decide_eq_true (by omega)
                  cases f4 : Op.bytesLess q.toList p.toList with
                  | false =>
                    rw [f4] at HOK
                    go_wp2
                    refine wp_region_quiet_below (by kernel_rfl) (by kernel_rfl) ?_
                    repeat (go_big_quiet_step (first | exact a1 _ _ | exact a2 _ _))
                    refine wpQuiet_nil ?_
                    intro _ hw'
                    obtain ⟨⟨dq, osq⟩, hw''⟩ := hw'
                    subst hw''
                    have HBq := hidE (HB0.out.trans ((below_regrown W0 dq osq).mono HB0.out.size))
                    clear HB0 HE0 k0 k1 k2 kq a1 a2
                    go_wp2
                    go_ret
                    exact ⟨ret_bE (treeE_no hlt (by rw [HOK.out]; simp)), HBq.out⟩
                  | true =>
                    rw [f4] at HOK
                    cases f5 : dirE (es.take (m + 1)) (upS p) with
                    | true =>
                      rw [f5] at HOK
                      have a4 := cDir W0 g o cap (m + 1) es (upS p) true (by omega) hl HE0.out f5
                      go_wp2
                      refine wp_region_quiet_below (by kernel_rfl) (by kernel_rfl) ?_
                      repeat (go_big_quiet_step (first | exact a1 _ _ | exact a2 _ _ | exact a3 _ _ | exact a4 _ _))
                      refine wpQuiet_nil ?_
                      intro _ hw'
                      obtain ⟨⟨dq, osq⟩, hw''⟩ := hw'
                      subst hw''
                      have HBq := hidE (HB0.out.trans ((below_regrown W0 dq osq).mono HB0.out.size))
                      clear HB0 HE0 k0 k1 k2 kq a1 a2 a3 a4
                      go_wp2
                      go_roundw
                      case rel => exact ⟨m + 1 + 1, by omega, by go_num, HBq, all_range_succ _ (m + 1) HA.out (by rw [HOK.out]; simp)⟩
                      case measure => simp [RowKit.intOf]; omega
                    | false =>
                      rw [f5] at HOK
                      have a4 := cDir W0 g o cap (m + 1) es (upS p) false (by omega) hl HE0.out f5
                      go_wp2
                      refine wp_region_quiet_below (by kernel_rfl) (by kernel_rfl) ?_
                      repeat (go_big_quiet_step (first | exact a1 _ _ | exact a2 _ _ | exact a3 _ _ | exact a4 _ _))
                      refine wpQuiet_nil ?_
                      intro _ hw'
                      obtain ⟨⟨dq, osq⟩, hw''⟩ := hw'
                      subst hw''
                      have HBq := hidE (HB0.out.trans ((below_regrown W0 dq osq).mono HB0.out.size))
                      clear HB0 HE0 k0 k1 k2 kq a1 a2 a3 a4
                      go_wp2
                      go_ret
                      exact ⟨ret_bE (treeE_no hlt (by rw [HOK.out]; simp)), HBq.out⟩
            | false =>
              by_cases hk0 : k = 0
              · subst hk0
                simp only [Nat.zero_mul, Nat.add_zero] at c0 c1 c2
                cases f5 : dirE (es.take 0) (upS p) with
                | true =>
                  rw [f5] at HOK
                  have a4 := cDir W0 g o cap 0 es (upS p) true (by omega) hl HE0.out f5
                  go_wp2
                  refine wp_region_quiet_below (by kernel_rfl) (by kernel_rfl) ?_
                  repeat (go_big_quiet_step (first | exact a1 _ _ | exact a2 _ _ | exact a3 _ _ | exact a4 _ _))
                  refine wpQuiet_nil ?_
                  intro _ hw'
                  obtain ⟨⟨dq, osq⟩, hw''⟩ := hw'
                  subst hw''
                  have HBq := hidE (HB0.out.trans ((below_regrown W0 dq osq).mono HB0.out.size))
                  clear HB0 HE0 k0 k1 k2 a1 a2 a3 a4
                  go_wp2
                  go_roundw
                  case rel => exact ⟨0 + 1, by omega, by go_num, HBq, all_range_succ _ 0 HA.out (by rw [HOK.out]; simp)⟩
                  case measure => simp [RowKit.intOf]; omega
                | false =>
                  rw [f5] at HOK
                  have a4 := cDir W0 g o cap 0 es (upS p) false (by omega) hl HE0.out f5
                  go_wp2
                  refine wp_region_quiet_below (by kernel_rfl) (by kernel_rfl) ?_
                  repeat (go_big_quiet_step (first | exact a1 _ _ | exact a2 _ _ | exact a3 _ _ | exact a4 _ _))
                  refine wpQuiet_nil ?_
                  intro _ hw'
                  obtain ⟨⟨dq, osq⟩, hw''⟩ := hw'
                  subst hw''
                  have HBq := hidE (HB0.out.trans ((below_regrown W0 dq osq).mono HB0.out.size))
                  clear HB0 HE0 k0 k1 k2 a1 a2 a3 a4
                  go_wp2
                  go_ret
                  exact ⟨ret_bE (treeE_no hlt (by rw [HOK.out]; simp)), HBq.out⟩
              · obtain ⟨m, rfl⟩ : ∃ m, k = m + 1 := ⟨k - 1, by omega⟩
                have hm : m < es.length := by omega
                have hcap' : (m : Int) + 1 ≤ (cap : Int) := by omega
                have kq := cell_regrown (HE0.out m hm).1
                rw [show m + 1 - 1 = m from rfl, List.getElem?_eq_getElem hm, Option.map_some, Option.getD_some] at HOK
                obtain ⟨q, hq⟩ : ∃ q, es[m].p = q := ⟨_, rfl⟩
                rw [hq] at kq HOK
                clear hq
                have hpos : decide ((0 : Int) < (m : Int) + 1) = true := decide_eq_true (by omega)
                cases f4 : Op.bytesLess q.toList p.toList with
                | false =>
                  rw [f4] at HOK
                  go_wp2
                  refine wp_region_quiet_below (by kernel_rfl) (by kernel_rfl) ?_
                  repeat (go_big_quiet_step (first | exact a1 _ _ | exact a2 _ _))
                  refine wpQuiet_nil ?_
                  intro _ hw'
                  obtain ⟨⟨dq, osq⟩, hw''⟩ := hw'
                  subst hw''
                  have HBq := hidE (HB0.out.trans ((below_regrown W0 dq osq).mono HB0.out.size))
                  clear HB0 HE0 k0 k1 k2 kq a1 a2
                  go_wp2
                  go_ret
                  exact ⟨ret_bE (treeE_no hlt (by rw [HOK.out]; simp)), HBq.out⟩
                | true =>
                  rw [f4] at HOK
                  cases f5 : dirE (es.take (m + 1)) (upS p) with
                  | true =>
                    rw [f5] at HOK
                    have a4 := cDir W0 g o cap (m + 1) es (upS p) true (by omega) hl HE0.out f5
                    go_wp2
                    refine wp_region_quiet_below (by kernel_rfl) (by kernel_rfl) ?_
                    repeat (go_big_quiet_step (first | exact a1 _ _ | exact a2 _ _ | exact a3 _ _ | exact a4 _ _))
                    refine wpQuiet_nil ?_
                    intro _ hw'
                    obtain ⟨⟨dq, osq⟩, hw''⟩ := hw'
                    subst hw''
                    have HBq := hidE (HB0.out.trans ((below_regrown W0 dq osq).mono HB0.out.size))
                    clear HB0 HE0 k0 k1 k2 kq a1 a2 a3 a4
                    go_wp2
                    go_roundw
                    case rel => exact ⟨m + 1 + 1, by omega, by go_num, HBq, all_range_succ _ (m + 1) HA.out (by rw [HOK.out]; simp)⟩
                    case measure => simp [RowKit.intOf]; omega
                  | false =>
                    rw [f5] at HOK
                    have a4 := cDir W0 g o cap (m + 1) es (upS p) false (by omega) hl HE0.out f5
                    go_wp2
                    refine wp_region_quiet_below (by kernel_rfl) (by kernel_rfl) ?_
                    repeat (go_big_quiet_step (first | exact a1 _ _ | exact a2 _ _ | exact a3 _ _ | exact a4 _ _))
                    refine wpQuiet_nil ?_
                    intro _ hw'
                    obtain ⟨⟨dq, osq⟩, hw''⟩ := hw'
                    subst hw''
                    have HBq := hidE (HB0.out.trans ((below_regrown W0 dq osq).mono HB0.out.size))
                    clear HB0 HE0 k0 k1 k2 kq a1 a2 a3 a4
                    go_wp2
                    go_ret
                    exact ⟨ret_bE (treeE_no hlt (by rw [HOK.out]; simp)), HBq.out⟩
      · have HT : Hid (treeE es = true) := by
          show _ = _
          unfold treeE
          rw [decide_eq_true h16, Bool.true_and]
          have := HA.out
          rw [show k = es.length from by omega] at this; exact this
        go_wp2
        go_ret
        exact ⟨ret_bE HT.out.symm, HB.out⟩
  · go_enter Tryd.func17, Tryd.ntmps17
    go_wp2
    go_ret
    exact ⟨ret_bE (by unfold treeE; rw [decide_eq_false h16]; rfl), Below.refl _ _⟩
end Go.Proofs.YtenlibefdefjmaaDoor
