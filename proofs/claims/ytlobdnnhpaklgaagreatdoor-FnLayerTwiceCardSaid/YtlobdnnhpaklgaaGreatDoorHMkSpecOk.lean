/-
  The walk of the model's LayerOk.
-/
import Derived.Lib.QuietBelow
import Derived.Test.YtlobdnnhpaklgaaGreatDoorHMkSpec
import Derived.Test.YtlobdnnhpaklgaaGreatDoorHPk20
namespace Go.Proofs.YtlobdnnhpaklgaaGreatDoor.Mk
open Go.RowKit Go.Lib Go.Sort

theorem tBelow {a b c : World} (h : Below a.heap.size a b) (k : Below b.heap.size b c) : Below a.heap.size a c := h.trans (k.mono h.size)
theorem tCell {W W' : World} {b i : Nat} {v : Value} (hB : Below W.heap.size W W') (h : W.cell? ⟨b, i, none⟩ = some v) : W'.cell? ⟨b, i, none⟩ = some v :=
  (hB.cell (p := ⟨b, i, none⟩) (World.block_lt_of_cell? W ⟨b, i, none⟩ h)).trans h
set_option maxHeartbeats 4000000 in
set_option maxRecDepth 100000 in
theorem sLayerOk_any (w : World) (a : Option Addr) (g o cap : Nat) (es : List E) (hl : es.length ≤ 16777216) (hcap : es.length ≤ cap) (hz : ∀ e ∈ es, e.p.size ≤ 16777216 ∧ e.x.size ≤ 16777216) (ha : 0 < es.length → a = some ⟨g, o, none⟩) (hE : Ents w g o es) :
    Calls Tryz.prog 19 #[.slice a es.length cap] w fun e w' => e = .returned (.bool (layB es)) ∧ Below w.heap.size w w' := by
  have HE := hidE hE
  have HZ := hidE hz
  clear hE hz
  go_enter Tryz.func19, Tryz.ntmps19
  go_wp2
  go_loopw [3] (fun i wl => ∃ k : Nat, k ≤ es.length ∧ i = .int .i64 k ∧ Hid (Below w.heap.size w wl) ∧ Hid ((List.range k).all (okM es) = true)) (fun i _ => es.length - (RowKit.intOf i).toNat)
  case atStart => exact ⟨0, Nat.zero_le _, rfl, Below.refl _ _, rfl⟩
  case round =>
    obtain ⟨k, hk, rfl, HB, HA⟩ := hrel
    by_cases hlt : k < es.length
    · obtain rfl := ha (by omega)
      have hB := HB.out
      have HEr := hidE (HE.out.below hB)
      obtain ⟨c0, c1, c2⟩ := HEr.out k hlt
      obtain ⟨z0, z1⟩ := HZ.out es[k] (List.getElem_mem _)
      have HOK := hidE (okM_is hlt)
      obtain ⟨p, hp⟩ : ∃ p, es[k].p = p := ⟨_, rfl⟩
      obtain ⟨d, hd⟩ : ∃ d, es[k].d = d := ⟨_, rfl⟩
      obtain ⟨x, hx⟩ : ∃ x, es[k].x = x := ⟨_, rfl⟩
      rw [hp] at c0 z0 HOK
      rw [hd] at c1 HOK
      rw [hx] at c2 z1 HOK
      clear hp hd hx hB
      obtain ⟨W0, hW0⟩ : ∃ W0, W0 = (wr.alloc (.cells #[.string p, .int .i64 d, .string x] 70)) := ⟨_, rfl⟩
      have HM0 : Hid (W0.cell? ⟨wr.heap.size, 0, none⟩ = some (.string p)) := by show _ = _; rw [hW0]; simp
      have HM1 : Hid (W0.cell? ⟨wr.heap.size, 1, none⟩ = some (.int .i64 d)) := by show _ = _; rw [hW0]; simp
      have HM2 : Hid (W0.cell? ⟨wr.heap.size, 2, none⟩ = some (.string x)) := by show _ = _; rw [hW0]; simp
      have hB0 : Below wr.heap.size wr W0 := by rw [hW0]; exact (Below.refl _ _).alloc (Nat.le_refl _) _
      have HB0 := hidE (tBelow HB.out hB0)
      have HE0 := hidE (HEr.out.below hB0)
      have HWeq := hidE hW0
      clear hB0 hW0
      have no : ∀ {b : Bool} {W : World}, okM es k = false → Hid (Below w.heap.size w W) → b = false → Ending.returned (.bool b) = .returned (.bool (layB es)) ∧ Below w.heap.size w W := fun h1 h2 h3 => ⟨ret_bE (h3.trans (layB_no hlt h1)), h2.out⟩
      have HPk := hidE (sOk_any p (by omega))
      have HDa := hidE (l2Data_any x (by omega))
      by_cases d1 : d < 1
      · have HBc := HB0
        rw [HWeq.out] at HBc
        have e1 : decide (1 ≤ d ∧ d ≤ 4) = false := decide_eq_false (by omega)
        go_wp2
        go_ret
        exact no (by rw [HOK.out]; rw [e1]; rfl) HBc rfl
      · by_cases d4 : 4 < d
        · have HBc := HB0
          rw [HWeq.out] at HBc
          have e1 : decide (1 ≤ d ∧ d ≤ 4) = false := decide_eq_false (by omega)
          go_wp2
          go_ret
          exact no (by rw [HOK.out]; rw [e1]; rfl) HBc rfl
        · have e1 : decide (1 ≤ d ∧ d ≤ 4) = true := decide_eq_true (by omega)
          rw [e1] at HOK
          go_wp2_with fail
          rw [← HWeq.out]
          refine (HPk.out _).mono ?_
          rintro e w1 ⟨rfl, hB⟩
          have HB1 := hidE (tBelow HB0.out hB)
          have HE1 := hidE (HE0.out.below hB)
          have m0 := tCell hB HM0.out
          have m1 := tCell hB HM1.out
          have m2 := tCell hB HM2.out
          have HA0 := hidE m0
          have HA1 := hidE m1
          have HA2 := hidE m2
          clear hB
          cases hpb : pathB p with
          | false =>
            rw [hpb] at HOK
            have HBc := HB1
            go_wp2
            go_ret
            exact no (by rw [HOK.out]; rfl) HBc rfl
          | true =>
            rw [hpb] at HOK
            go_wp2_with fail
            refine (HDa.out _).mono ?_
            rintro e w2 ⟨rfl, hw2⟩
            subst hw2
            have HB2 := HB1
            cases hdb : dataB x with
            | false =>
              rw [hdb] at HOK
              have HBc := HB2
              go_wp2
              go_ret
              exact no (by rw [HOK.out]; rfl) HBc rfl
            | true =>
              rw [hdb] at HOK
              have hcd : ((d != 1) = true ∧ x.toList.isEmpty = false) ∨ (d = 1 ∨ (d ≠ 1 ∧ x.toList.isEmpty = true)) := by
                by_cases h : d = 1
                · exact .inr (.inl h)
                · cases he : x.toList.isEmpty with
                  | true => exact .inr (.inr ⟨h, rfl⟩)
                  | false => exact .inl ⟨by simp [h], rfl⟩
              rcases hcd with ⟨h1, h2⟩ | hcd
              · rw [h1, h2] at HOK
                have h1' : (d == 1) = false := by rw [beq_eq_false_iff_ne]; intro q; rw [q] at h1; cases h1
                have h2' : (x.toList == []) = false := by cases hx : x.toList with | nil => rw [hx] at h2; cases h2 | cons => rfl
                have h2p : ¬ x.toList = [] := by simpa using h2'
                have HBc := HB2
                go_wp2
                go_ret
                exact no (by rw [HOK.out]; rfl) HBc rfl
              · have HOK2 : Hid (okM es k = ((k == 0 || Op.bytesLess ((es[k - 1]?.map (·.p.toList)).getD []) p.toList) && (inM (es.take k) p && !(decide (2 < d) && bareM (es.take k) p)))) := by
                  show _ = _
                  rw [HOK.out]
                  rcases hcd with h | ⟨h, h'⟩
                  · rw [h]; rfl
                  · rw [h']; simp
                clear HOK
                have HIn := hidE (fun (W : World) (hW : Ents W g o es) => l3In_any W (some ⟨g, o, none⟩) g o cap (es.take k) p (by rw [List.length_take]; omega) (by omega) (fun _ => rfl) (hW.take k))
                have HBa := hidE (fun (W : World) (hW : Ents W g o es) => l3Bare_any W (some ⟨g, o, none⟩) g o cap (es.take k) p (by rw [List.length_take]; omega) (by omega) (fun e he => (HZ.out e (List.mem_of_mem_take he)).1) (fun _ => rfl) (hW.take k))
                have htk : (es.take k).length = k := by rw [List.length_take]; omega
                rw [htk] at HIn HBa
                clear htk
                obtain ⟨bi, hbi⟩ : ∃ bi, inM (es.take k) p = bi := ⟨_, rfl⟩
                obtain ⟨bb, hbb⟩ : ∃ bb, bareM (es.take k) p = bb := ⟨_, rfl⟩
                rw [hbi] at HIn HOK2
                rw [hbb] at HBa HOK2
                clear hbi hbb
                have hd1 : (d = 1 ∧ (d == 1) = true) ∨ ((d == 1) = false ∧ (x.toList == []) = true ∧ x.toList = []) := by
                  rcases hcd with h | ⟨h, h'⟩
                  · exact .inl ⟨h, by rw [beq_iff_eq]; exact h⟩
                  · refine .inr ⟨by rw [beq_eq_false_iff_ne]; exact h, ?_⟩
                    cases hx : x.toList with
                    | nil => exact ⟨rfl, rfl⟩
                    | cons => rw [hx] at h'; cases h'
                clear hcd
                obtain ⟨dl, hdl⟩ : ∃ dl, decide (2 < d) = dl := ⟨_, rfl⟩
                rw [hdl] at HOK2
                have HDl := hidE hdl
                clear hdl
                rcases hd1 with ⟨rfl, hd1⟩ | ⟨hd1, hxe, hxp⟩
                · by_cases hk0 : k = 0
                  · subst hk0
                    have k0 := cell_regrown m0
                    have k1 := cell_regrown m1
                    have r0 := fun (d : Nat) (os : Array Obj) => Calls.regrown_of (HIn.out (grow (redrawn w2 d) os) (HE1.out.below (below_regrown w2 d os)))
                    go_wp2
                    refine wp_region_quiet_below (by kernel_rfl) (by kernel_rfl) ?_
                    repeat (go_big_quiet_step (first | exact r0 _ _))
                    refine wpQuiet_nil ?_
                    intro w3 hw'
                    obtain ⟨⟨dq, osq⟩, hw''⟩ := hw'
                    have hB : Below w2.heap.size w2 w3 := by rw [hw'']; exact below_regrown w2 dq osq
                    clear hw'' r0 k0 k1
                    have HB3 := hidE (tBelow HB2.out hB)
                    have HE3 := hidE (HE1.out.below hB)
                    have q1 := tCell hB m1
                    have q0 := tCell hB m0
                    clear hB m0 m1 m2
                    cases bi with
                    | false =>
                      have HBc := HB3
                      go_wp2
                      go_ret
                      exact no (by rw [HOK2.out]; simp) HBc rfl
                    | true =>
                      cases dl with
                      | false =>
                        have hd3 := HDl.out
                        have k0 := cell_regrown q0
                        have k1 := cell_regrown q1
                        go_wp2
                        refine wp_region_quiet_below (by kernel_rfl) (by kernel_rfl) ?_
                        repeat (go_big_quiet_step (fail))
                        refine wpQuiet_nil ?_
                        intro w4 hw'
                        obtain ⟨⟨dq, osq⟩, hw''⟩ := hw'
                        have hB : Below w3.heap.size w3 w4 := by rw [hw'']; exact below_regrown w3 dq osq
                        have HB4 := hidE (tBelow HB3.out hB)
                        clear hw'' k0 k1 hB
                        go_wp2
                        refine ⟨⟨0 + 1, by omega, by go_num, HB4, all_range_succ _ _ HA.out (by rw [HOK2.out]; rfl)⟩, ?_⟩
                        simp [RowKit.intOf]
                        omega
                      | true =>
                        have hd2 : 2 < 1 := of_decide_eq_true HDl.out
                        exact absurd hd2 (by decide)
                  · obtain ⟨m, rfl⟩ : ∃ m, k = m + 1 := ⟨k - 1, by omega⟩
                    have hm : m < es.length := by omega
                    have hcap' : (m : Int) + 1 ≤ (cap : Int) := by omega
                    have kq := (HE1.out m hm).1
                    rw [show m + 1 - 1 = m from rfl, List.getElem?_eq_getElem hm, Option.map_some, Option.getD_some] at HOK2
                    obtain ⟨q, hq⟩ : ∃ q, es[m].p = q := ⟨_, rfl⟩
                    rw [hq] at kq HOK2
                    clear hq
                    have hpos : decide ((0 : Int) < (m : Int) + 1) = true := decide_eq_true (by omega)
                    have kq' := cell_regrown kq
                    cases f4 : Op.bytesLess q.toList p.toList with
                    | false =>
                      have k0 := cell_regrown m0
                      have k1 := cell_regrown m1
                      have r0 := fun (d : Nat) (os : Array Obj) => Calls.regrown_of (HIn.out (grow (redrawn w2 d) os) (HE1.out.below (below_regrown w2 d os)))
                      go_wp2
                      refine wp_region_quiet_below (by kernel_rfl) (by kernel_rfl) ?_
                      repeat (go_big_quiet_step (first | exact r0 _ _))
                      refine wpQuiet_nil ?_
                      intro w3 hw'
                      obtain ⟨⟨dq, osq⟩, hw''⟩ := hw'
                      have hB : Below w2.heap.size w2 w3 := by rw [hw'']; exact below_regrown w2 dq osq
                      clear hw'' r0 k0 k1
                      have HBc := hidE (tBelow HB2.out hB)
                      go_wp2
                      go_ret
                      exact no (by rw [HOK2.out, f4]; simp) HBc rfl
                    | true =>
                      have k0 := cell_regrown m0
                      have k1 := cell_regrown m1
                      have r0 := fun (d : Nat) (os : Array Obj) => Calls.regrown_of (HIn.out (grow (redrawn w2 d) os) (HE1.out.below (below_regrown w2 d os)))
                      go_wp2
                      refine wp_region_quiet_below (by kernel_rfl) (by kernel_rfl) ?_
                      repeat (go_big_quiet_step (first | exact r0 _ _))
                      refine wpQuiet_nil ?_
                      intro w3 hw'
                      obtain ⟨⟨dq, osq⟩, hw''⟩ := hw'
                      have hB : Below w2.heap.size w2 w3 := by rw [hw'']; exact below_regrown w2 dq osq
                      clear hw'' r0 k0 k1
                      have HB3 := hidE (tBelow HB2.out hB)
                      have HE3 := hidE (HE1.out.below hB)
                      have q1 := tCell hB m1
                      have q0 := tCell hB m0
                      clear hB m0 m1 m2
                      cases bi with
                      | false =>
                        have HBc := HB3
                        go_wp2
                        go_ret
                        exact no (by rw [HOK2.out]; simp) HBc rfl
                      | true =>
                        cases dl with
                        | false =>
                          have hd3 := HDl.out
                          have k0 := cell_regrown q0
                          have k1 := cell_regrown q1
                          go_wp2
                          refine wp_region_quiet_below (by kernel_rfl) (by kernel_rfl) ?_
                          repeat (go_big_quiet_step (fail))
                          refine wpQuiet_nil ?_
                          intro w4 hw'
                          obtain ⟨⟨dq, osq⟩, hw''⟩ := hw'
                          have hB : Below w3.heap.size w3 w4 := by rw [hw'']; exact below_regrown w3 dq osq
                          have HB4 := hidE (tBelow HB3.out hB)
                          clear hw'' k0 k1 hB
                          go_wp2
                          refine ⟨⟨m + 1 + 1, by omega, by go_num, HB4, all_range_succ _ _ HA.out (by rw [HOK2.out, f4]; rfl)⟩, ?_⟩
                          simp [RowKit.intOf]
                          omega
                        | true =>
                          have hd2 : 2 < 1 := of_decide_eq_true HDl.out
                          exact absurd hd2 (by decide)
                · have hdn : ¬ d = 1 := by simpa using hd1
                  have hdb2 : (d != 1) = true := by simp [hdn]
                  by_cases hk0 : k = 0
                  · subst hk0
                    have k0 := cell_regrown m0
                    have k1 := cell_regrown m1
                    have r0 := fun (d : Nat) (os : Array Obj) => Calls.regrown_of (HIn.out (grow (redrawn w2 d) os) (HE1.out.below (below_regrown w2 d os)))
                    go_wp2
                    refine wp_region_quiet_below (by kernel_rfl) (by kernel_rfl) ?_
                    repeat (go_big_quiet_step (first | exact r0 _ _))
                    refine wpQuiet_nil ?_
                    intro w3 hw'
                    obtain ⟨⟨dq, osq⟩, hw''⟩ := hw'
                    have hB : Below w2.heap.size w2 w3 := by rw [hw'']; exact below_regrown w2 dq osq
                    clear hw'' r0 k0 k1
                    have HB3 := hidE (tBelow HB2.out hB)
                    have HE3 := hidE (HE1.out.below hB)
                    have q1 := tCell hB m1
                    have q0 := tCell hB m0
                    clear hB m0 m1 m2
                    cases bi with
                    | false =>
                      have HBc := HB3
                      go_wp2
                      go_ret
                      exact no (by rw [HOK2.out]; simp) HBc rfl
                    | true =>
                      cases dl with
                      | false =>
                        have hd3 := HDl.out
                        have k0 := cell_regrown q0
                        have k1 := cell_regrown q1
                        go_wp2
                        refine wp_region_quiet_below (by kernel_rfl) (by kernel_rfl) ?_
                        repeat (go_big_quiet_step (fail))
                        refine wpQuiet_nil ?_
                        intro w4 hw'
                        obtain ⟨⟨dq, osq⟩, hw''⟩ := hw'
                        have hB : Below w3.heap.size w3 w4 := by rw [hw'']; exact below_regrown w3 dq osq
                        have HB4 := hidE (tBelow HB3.out hB)
                        clear hw'' k0 k1 hB
                        go_wp2
                        refine ⟨⟨0 + 1, by omega, by go_num, HB4, all_range_succ _ _ HA.out (by rw [HOK2.out]; rfl)⟩, ?_⟩
                        simp [RowKit.intOf]
                        omega
                      | true =>
                        have hd2 : 2 < d := of_decide_eq_true HDl.out
                        have hd3 := HDl.out
                        cases bb with
                        | true =>
                          have k0 := cell_regrown q0
                          have k1 := cell_regrown q1
                          have r1 := fun (d : Nat) (os : Array Obj) => Calls.regrown_of ((HBa.out (grow (redrawn w3 d) os) (HE3.out.below (below_regrown w3 d os))).mono fun _ _ hh => ⟨hh.1, by rw [hh.2]; exact Below.refl _ _⟩)
                          go_wp2
                          refine wp_region_quiet_below (by kernel_rfl) (by kernel_rfl) ?_
                          repeat (go_big_quiet_step (exact r1 _ _))
                          refine wpQuiet_nil ?_
                          intro w4 hw'
                          obtain ⟨⟨dq, osq⟩, hw''⟩ := hw'
                          have hB : Below w3.heap.size w3 w4 := by rw [hw'']; exact below_regrown w3 dq osq
                          have HB4 := hidE (tBelow HB3.out hB)
                          clear hw'' k0 k1 hB r1
                          have HBc := HB4
                          go_wp2
                          go_ret
                          exact no (by rw [HOK2.out]; simp) HBc rfl
                        | false =>
                          have k0 := cell_regrown q0
                          have k1 := cell_regrown q1
                          have r1 := fun (d : Nat) (os : Array Obj) => Calls.regrown_of ((HBa.out (grow (redrawn w3 d) os) (HE3.out.below (below_regrown w3 d os))).mono fun _ _ hh => ⟨hh.1, by rw [hh.2]; exact Below.refl _ _⟩)
                          go_wp2
                          refine wp_region_quiet_below (by kernel_rfl) (by kernel_rfl) ?_
                          repeat (go_big_quiet_step (exact r1 _ _))
                          refine wpQuiet_nil ?_
                          intro w4 hw'
                          obtain ⟨⟨dq, osq⟩, hw''⟩ := hw'
                          have hB : Below w3.heap.size w3 w4 := by rw [hw'']; exact below_regrown w3 dq osq
                          have HB4 := hidE (tBelow HB3.out hB)
                          clear hw'' k0 k1 hB r1
                          go_wp2
                          refine ⟨⟨0 + 1, by omega, by go_num, HB4, all_range_succ _ _ HA.out (by rw [HOK2.out]; rfl)⟩, ?_⟩
                          simp [RowKit.intOf]
                          omega
                  · obtain ⟨m, rfl⟩ : ∃ m, k = m + 1 := ⟨k - 1, by omega⟩
                    have hm : m < es.length := by omega
                    have hcap' : (m : Int) + 1 ≤ (cap : Int) := by omega
                    have kq := (HE1.out m hm).1
                    rw [show m + 1 - 1 = m from rfl, List.getElem?_eq_getElem hm, Option.map_some, Option.getD_some] at HOK2
                    obtain ⟨q, hq⟩ : ∃ q, es[m].p = q := ⟨_, rfl⟩
                    rw [hq] at kq HOK2
                    clear hq
                    have hpos : decide ((0 : Int) < (m : Int) + 1) = true := decide_eq_true (by omega)
                    have kq' := cell_regrown kq
                    cases f4 : Op.bytesLess q.toList p.toList with
                    | false =>
                      have k0 := cell_regrown m0
                      have k1 := cell_regrown m1
                      have r0 := fun (d : Nat) (os : Array Obj) => Calls.regrown_of (HIn.out (grow (redrawn w2 d) os) (HE1.out.below (below_regrown w2 d os)))
                      go_wp2
                      refine wp_region_quiet_below (by kernel_rfl) (by kernel_rfl) ?_
                      repeat (go_big_quiet_step (first | exact r0 _ _))
                      refine wpQuiet_nil ?_
                      intro w3 hw'
                      obtain ⟨⟨dq, osq⟩, hw''⟩ := hw'
                      have hB : Below w2.heap.size w2 w3 := by rw [hw'']; exact below_regrown w2 dq osq
                      clear hw'' r0 k0 k1
                      have HBc := hidE (tBelow HB2.out hB)
                      go_wp2
                      go_ret
                      exact no (by rw [HOK2.out, f4]; simp) HBc rfl
                    | true =>
                      have k0 := cell_regrown m0
                      have k1 := cell_regrown m1
                      have r0 := fun (d : Nat) (os : Array Obj) => Calls.regrown_of (HIn.out (grow (redrawn w2 d) os) (HE1.out.below (below_regrown w2 d os)))
                      go_wp2
                      refine wp_region_quiet_below (by kernel_rfl) (by kernel_rfl) ?_
                      repeat (go_big_quiet_step (first | exact r0 _ _))
                      refine wpQuiet_nil ?_
                      intro w3 hw'
                      obtain ⟨⟨dq, osq⟩, hw''⟩ := hw'
                      have hB : Below w2.heap.size w2 w3 := by rw [hw'']; exact below_regrown w2 dq osq
                      clear hw'' r0 k0 k1
                      have HB3 := hidE (tBelow HB2.out hB)
                      have HE3 := hidE (HE1.out.below hB)
                      have q1 := tCell hB m1
                      have q0 := tCell hB m0
                      clear hB m0 m1 m2
                      cases bi with
                      | false =>
                        have HBc := HB3
                        go_wp2
                        go_ret
                        exact no (by rw [HOK2.out]; simp) HBc rfl
                      | true =>
                        cases dl with
                        | false =>
                          have hd3 := HDl.out
                          have k0 := cell_regrown q0
                          have k1 := cell_regrown q1
                          go_wp2
                          refine wp_region_quiet_below (by kernel_rfl) (by kernel_rfl) ?_
                          repeat (go_big_quiet_step (fail))
                          refine wpQuiet_nil ?_
                          intro w4 hw'
                          obtain ⟨⟨dq, osq⟩, hw''⟩ := hw'
                          have hB : Below w3.heap.size w3 w4 := by rw [hw'']; exact below_regrown w3 dq osq
                          have HB4 := hidE (tBelow HB3.out hB)
                          clear hw'' k0 k1 hB
                          go_wp2
                          refine ⟨⟨m + 1 + 1, by omega, by go_num, HB4, all_range_succ _ _ HA.out (by rw [HOK2.out, f4]; rfl)⟩, ?_⟩
                          simp [RowKit.intOf]
                          omega
                        | true =>
                          have hd2 : 2 < d := of_decide_eq_true HDl.out
                          have hd3 := HDl.out
                          cases bb with
                          | true =>
                            have k0 := cell_regrown q0
                            have k1 := cell_regrown q1
                            have r1 := fun (d : Nat) (os : Array Obj) => Calls.regrown_of ((HBa.out (grow (redrawn w3 d) os) (HE3.out.below (below_regrown w3 d os))).mono fun _ _ hh => ⟨hh.1, by rw [hh.2]; exact Below.refl _ _⟩)
                            go_wp2
                            refine wp_region_quiet_below (by kernel_rfl) (by kernel_rfl) ?_
                            repeat (go_big_quiet_step (exact r1 _ _))
                            refine wpQuiet_nil ?_
                            intro w4 hw'
                            obtain ⟨⟨dq, osq⟩, hw''⟩ := hw'
                            have hB : Below w3.heap.size w3 w4 := by rw [hw'']; exact below_regrown w3 dq osq
                            have HB4 := hidE (tBelow HB3.out hB)
                            clear hw'' k0 k1 hB r1
                            have HBc := HB4
                            go_wp2
                            go_ret
                            exact no (by rw [HOK2.out]; simp) HBc rfl
                          | false =>
                            have k0 := cell_regrown q0
                            have k1 := cell_regrown q1
                            have r1 := fun (d : Nat) (os : Array Obj) => Calls.regrown_of ((HBa.out (grow (redrawn w3 d) os) (HE3.out.below (below_regrown w3 d os))).mono fun _ _ hh => ⟨hh.1, by rw [hh.2]; exact Below.refl _ _⟩)
                            go_wp2
                            refine wp_region_quiet_below (by kernel_rfl) (by kernel_rfl) ?_
                            repeat (go_big_quiet_step (exact r1 _ _))
                            refine wpQuiet_nil ?_
                            intro w4 hw'
                            obtain ⟨⟨dq, osq⟩, hw''⟩ := hw'
                            have hB : Below w3.heap.size w3 w4 := by rw [hw'']; exact below_regrown w3 dq osq
                            have HB4 := hidE (tBelow HB3.out hB)
                            clear hw'' k0 k1 hB r1
                            go_wp2
                            refine ⟨⟨m + 1 + 1, by omega, by go_num, HB4, all_range_succ _ _ HA.out (by rw [HOK2.out, f4]; rfl)⟩, ?_⟩
                            simp [RowKit.intOf]
                            omega
    · have hke : k = es.length := by omega
      subst hke
      have hfin : layB es = decide (es.length ≤ 32) := by unfold layB; rw [HA.out, Bool.true_and]
      by_cases h32 : es.length ≤ 32
      · go_wp2
        go_ret
        exact ⟨ret_bE (by rw [hfin]; simp; omega), HB.out⟩
      · go_wp2
        go_ret
        exact ⟨ret_bE (by rw [hfin]; simp; omega), HB.out⟩
end Go.Proofs.YtlobdnnhpaklgaaGreatDoor.Mk
