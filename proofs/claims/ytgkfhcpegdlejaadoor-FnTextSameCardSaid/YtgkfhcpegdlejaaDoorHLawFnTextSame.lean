/-
  The walk of the law FnTextSame, out of the contracts.
-/
import Derived.Lib.QuietBelow
import Derived.Test.YtgkfhcpegdlejaaDoorHPk28
import Derived.Test.YtgkfhcpegdlejaaDoorHPk26
import Derived.Test.YtgkfhcpegdlejaaDoorHPk04
import Derived.Test.YtgkfhcpegdlejaaDoorHLawFnOpText
namespace Go.Proofs.YtgkfhcpegdlejaaDoor.Mk
open Go.RowKit Go.Lib Go.Sort
attribute [local go_sem] eq_op guard_op

theorem lay_same {es fs : List E} (h1 : layB es = true) (h2 : layB fs = true) : ((layT es).toList == (layT fs).toList) = sameT es fs := (text_same (lay_back h1) h2).symm
theorem op_same {o o' : O} (h1 : opB o = true) (h2 : opB o' = true) : ((opT o).toList == (opT o').toList) = ((o.k == o'.k) && (o.p.toList == o'.p.toList) && (o.t.toList == o'.t.toList) && (o.x.toList == o'.x.toList)) := by
  by_cases h : o = o'
  · subst h; simp
  · have hne : ¬ opT o = opT o' := fun q => by
      have e1 := (prog_op _ _).2 ⟨h1, rfl⟩
      have e2 := (prog_op _ _).2 ⟨h2, rfl⟩
      rw [q, e2] at e1
      exact h (Option.some.inj e1).symm
    rw [(str_no hne).1]
    obtain ⟨k, p, t, x⟩ := o
    obtain ⟨k', p', t', x'⟩ := o'
    cases hb : ((k == k') && (p.toList == p'.toList) && (t.toList == t'.toList) && (x.toList == x'.toList)) with
    | false => rfl
    | true =>
      simp only [Bool.and_eq_true, beq_iff_eq] at hb
      obtain ⟨⟨⟨e1, e2⟩, e3⟩, e4⟩ := hb
      have f2 := lb_inj (s := p) (t := p') (by rw [Lib.toList_data, Lib.toList_data] at e2; exact e2)
      have f3 := lb_inj (s := t) (t := t') (by rw [Lib.toList_data, Lib.toList_data] at e3; exact e3)
      have f4 := lb_inj (s := x) (t := x') (by rw [Lib.toList_data, Lib.toList_data] at e4; exact e4)
      exact absurd (by rw [e1, f2, f3, f4]) h

set_option maxHeartbeats 4800000 in
set_option maxRecDepth 100000 in
theorem walk_fnTextSame (a : Option Addr) (len cap : Nat) (zs : List Int) (b : Option Addr) (len2 cap2 : Nat) (ys : List Int) (w : World) (hWmo : MarkTab w ∧ OpTab w) (hw : IsRow .u8 w a len cap zs) (hw2 : IsRow .u8 w b len2 cap2 ys) :
    Calls Tryd.prog 6 #[.slice a len cap, .slice b len2 cap2] w fun r w' => r = .returned (.bool true) ∧ Below w.heap.size w w' := by
  have HC := hidR hw.cod
  have HC2 := hidR hw2.cod
  have HW := hidR hWmo.2
  have HV := hidR hWmo.1
  clear hw hw2 hWmo
  by_cases hl : len ≤ 1048576
  · by_cases hl2 : len2 ≤ 1048576
    · go_enter Tryd.func6, Tryd.ntmps6
      go_wp2_with fail
      refine (DrawLayerSame_any _ a len cap hl HC.out).mono ?_
      rintro e w1 ⟨v1, v2, es, fs, rfl, hL1, hL2, hS1, hS2, hB1⟩
      obtain ⟨a1, g1, o1, c1, rfl, ha1, hE, hc1, -⟩ := hL1
      obtain ⟨a2, g2, o2, c2, rfl, ha2, hF, hc2, -⟩ := hL2
      have HB1 := hidR hB1
      have HE1 := hidR (fun (W : World) (hb : Below w1.heap.size w1 W) => hE.below hb)
      have HF1 := hidR (fun (W : World) (hb : Below w1.heap.size w1 W) => hF.below hb)
      have hn1 : es.length ≤ 32 := hS1.1
      have hn2 : fs.length ≤ 36 := hS2.1
      have hze : ∀ e ∈ es, e.p.size ≤ 16777216 ∧ e.x.size ≤ 16777216 := fun e he => ⟨by have := okP_size (hS1.2 e he).1; omega, by have := (hS1.2 e he).2; omega⟩
      have hzf : ∀ e ∈ fs, e.p.size ≤ 16777216 ∧ e.x.size ≤ 16777216 := fun e he => ⟨by have := okP_size (hS2.2 e he).1; omega, by have := (hS2.2 e he).2; omega⟩
      have HTa := hidR (fun (W : World) (hb : Below w1.heap.size w1 W) => iText_any W a1 g1 o1 c1 es ((HV.out.below hB1).below hb).words (by omega) hze ha1 (HE1.out W hb))
      have HTb := hidR (fun (W : World) (hb : Below w1.heap.size w1 W) => iText_any W a2 g2 o2 c2 fs ((HV.out.below hB1).below hb).words (by omega) hzf ha2 (HF1.out W hb))
      have HSa := hidR (fun (W : World) (hb : Below w1.heap.size w1 W) => sText_any W a1 g1 o1 c1 es (by omega) hc1 hze ha1 (HE1.out W hb))
      have HSb := hidR (fun (W : World) (hb : Below w1.heap.size w1 W) => sText_any W a2 g2 o2 c2 fs (by omega) hc2 hzf ha2 (HF1.out W hb))
      have HKa := hidR (fun (W : World) (hb : Below w1.heap.size w1 W) => iLayerOk_any W a1 g1 o1 c1 es (by omega) hze ha1 (HE1.out W hb))
      have HKb := hidR (fun (W : World) (hb : Below w1.heap.size w1 W) => iLayerOk_any W a2 g2 o2 c2 fs (by omega) hzf ha2 (HF1.out W hb))
      have HQ := hidR (fun (W : World) (hb : Below w1.heap.size w1 W) => iTreeSame_any W a1 g1 o1 c1 es a2 g2 o2 c2 fs (by omega) (by omega) ha1 ha2 (HE1.out W hb) (HF1.out W hb))
      have HM := hidR (fun (W : World) (hb : Below w1.heap.size w1 W) => (HW.out.below hB1).below hb)
      have HCa := hidR (fun (W : World) (hb : Below w1.heap.size w1 W) => (HC.out.below hB1).below hb)
      have HCb := hidR (fun (W : World) (hb : Below w1.heap.size w1 W) => (HC2.out.below hB1).below hb)
      have HLS := hidR (fun h1 h2 => lay_same (es := es) (fs := fs) h1 h2)
      obtain ⟨la, hla⟩ : ∃ x, layB es = x := ⟨_, rfl⟩
      obtain ⟨lb, hlb⟩ : ∃ x, layB fs = x := ⟨_, rfl⟩
      obtain ⟨sm, hsm⟩ : ∃ x, sameT es fs = x := ⟨_, rfl⟩
      obtain ⟨A, hA⟩ : ∃ x, layT es = x := ⟨_, rfl⟩
      obtain ⟨B, hB⟩ : ∃ x, layT fs = x := ⟨_, rfl⟩
      rw [hla, hlb, hA, hB, hsm] at HLS
      rw [hA] at HTa HSa
      rw [hB] at HTb HSb
      rw [hla] at HKa
      rw [hlb] at HKb
      rw [hsm] at HQ
      clear hla hlb hsm hA hB hze hzf hE hF ha1 ha2 hc1 hc2 hS1 hS2 HC HC2 HW HV hB1 HE1 HF1 hn1 hn2
      go_wp2_with fail
      refine (DrawOpText_any _ a len cap hl (HCa.out _ (Below.refl _ _))).mono ?_
      rintro r w2 ⟨k, p, t, x, rfl, hp, ht, hx, hB2⟩
      have HB2 := hidR (hB2.alloc hB2.size (.cells #[.int .i64 k, .string p, .string t, .string x] 40))
      have HP := hidR (fun (W : World) (hb : Below (w2.alloc (.cells #[.int .i64 k, .string p, .string t, .string x] 40)).heap.size (w2.alloc (.cells #[.int .i64 k, .string p, .string t, .string x] 40)) W) => boxO (o := ⟨k, p, t, x⟩) hb)
      clear hB2
      go_wp2_with fail
      refine (DrawOpText_any _ b len2 cap2 hl2 (HCb.out _ HB2.out)).mono ?_
      rintro r w3 ⟨k', p', t', x', rfl, hp', ht', hx', hB3⟩
      have HJ3 := hidR (hB3.alloc hB3.size (.cells #[.int .i64 k', .string p', .string t', .string x'] 40))
      have HB3 := hidR (B3W HB2.out HJ3.out)
      have HP' := hidR (fun (W : World) (hb : Below (w3.alloc (.cells #[.int .i64 k', .string p', .string t', .string x'] 40)).heap.size (w3.alloc (.cells #[.int .i64 k', .string p', .string t', .string x'] 40)) W) => boxO (o := ⟨k', p', t', x'⟩) hb)
      have HPP := hidR (fun (W : World) (hb : Below (w3.alloc (.cells #[.int .i64 k', .string p', .string t', .string x'] 40)).heap.size (w3.alloc (.cells #[.int .i64 k', .string p', .string t', .string x'] 40)) W) => HP.out W (B3W HJ3.out hb))
      clear hB3 HP HCa HCb
      have HO := hidR (fun (W : World) => iOpOk_any W k p t x (by omega) (by omega))
      have HO' := hidR (fun (W : World) => iOpOk_any W k' p' t' x' (by omega) (by omega))
      rw [fit_op] at HO HO'
      have HT := hidR (fun (W : World) (hb : Below w1.heap.size w1 W) => iOpText_any k p t x W (HM.out W hb).words (by omega) (by omega) (by omega))
      have HT' := hidR (fun (W : World) (hb : Below w1.heap.size w1 W) => iOpText_any k' p' t' x' W (HM.out W hb).words (by omega) (by omega) (by omega))
      have HsT := hidR (fun (W : World) => sOpText_any k p t x W (by omega) (by omega) (by omega))
      have HOS := hidR (fun h1 h2 => op_same (o := ⟨k, p, t, x⟩) (o' := ⟨k', p', t', x'⟩) h1 h2)
      obtain ⟨oa, hoa⟩ : ∃ y, opB ⟨k, p, t, x⟩ = y := ⟨_, rfl⟩
      obtain ⟨ob, hob⟩ : ∃ y, opB ⟨k', p', t', x'⟩ = y := ⟨_, rfl⟩
      obtain ⟨S, hS⟩ : ∃ y, opT ⟨k, p, t, x⟩ = y := ⟨_, rfl⟩
      obtain ⟨S', hS'⟩ : ∃ y, opT ⟨k', p', t', x'⟩ = y := ⟨_, rfl⟩
      rw [hoa, hob, hS, hS'] at HOS
      rw [hoa] at HO
      rw [hob] at HO'
      rw [hS] at HT HsT
      rw [hS'] at HT'
      clear hoa hob hS hS'
      have HJ := hidR (Below.refl (w3.alloc (.cells #[.int .i64 k', .string p', .string t', .string x'] 40)).heap.size (w3.alloc (.cells #[.int .i64 k', .string p', .string t', .string x'] 40)))
      obtain ⟨q0, q1, q2, q3⟩ := HPP.out _ HJ.out
      have k0 := cell_regrown q0
      have k1 := cell_regrown q1
      have k2 := cell_regrown q2
      have k3 := cell_regrown q3
      clear q0 q1 q2 q3
      have r0 := fun (d : Nat) (os : Array Obj) => Calls.regrown_of (HTa.out (grow (redrawn (w3.alloc (.cells #[.int .i64 k', .string p', .string t', .string x'] 40)) d) os) (B3W HB3.out (below_regrown (w3.alloc (.cells #[.int .i64 k', .string p', .string t', .string x'] 40)) d os)))
      have r1 := fun (d : Nat) (os : Array Obj) => Calls.regrown_of (HSa.out (grow (redrawn (w3.alloc (.cells #[.int .i64 k', .string p', .string t', .string x'] 40)) d) os) (B3W HB3.out (below_regrown (w3.alloc (.cells #[.int .i64 k', .string p', .string t', .string x'] 40)) d os)))
      have r2 := fun (d : Nat) (os : Array Obj) => Calls.regrown_of (HTb.out (grow (redrawn (w3.alloc (.cells #[.int .i64 k', .string p', .string t', .string x'] 40)) d) os) (B3W HB3.out (below_regrown (w3.alloc (.cells #[.int .i64 k', .string p', .string t', .string x'] 40)) d os)))
      have r3 := fun (d : Nat) (os : Array Obj) => Calls.regrown_of (HSb.out (grow (redrawn (w3.alloc (.cells #[.int .i64 k', .string p', .string t', .string x'] 40)) d) os) (B3W HB3.out (below_regrown (w3.alloc (.cells #[.int .i64 k', .string p', .string t', .string x'] 40)) d os)))
      have r4 := fun (d : Nat) (os : Array Obj) => Calls.regrown_of (HT.out (grow (redrawn (w3.alloc (.cells #[.int .i64 k', .string p', .string t', .string x'] 40)) d) os) (B3W HB3.out (below_regrown (w3.alloc (.cells #[.int .i64 k', .string p', .string t', .string x'] 40)) d os)))
      have r5 := fun (d : Nat) (os : Array Obj) => Calls.regrown_of (HsT.out (grow (redrawn (w3.alloc (.cells #[.int .i64 k', .string p', .string t', .string x'] 40)) d) os))
      go_wp2
      refine wp_region_quiet_below (by kernel_rfl) (by kernel_rfl) ?_
      repeat (go_big_quiet_step (first | with_reducible exact r0 _ _ | with_reducible exact r1 _ _ | with_reducible exact r2 _ _ | with_reducible exact r3 _ _ | with_reducible exact r4 _ _ | with_reducible exact r5 _ _))
      refine wpQuiet_nil ?_
      intro w4 hw'
      obtain ⟨⟨dq, osq⟩, hw''⟩ := hw'
      have hB : Below (w3.alloc (.cells #[.int .i64 k', .string p', .string t', .string x'] 40)).heap.size (w3.alloc (.cells #[.int .i64 k', .string p', .string t', .string x'] 40)) w4 := by rw [hw'']; exact below_regrown (w3.alloc (.cells #[.int .i64 k', .string p', .string t', .string x'] 40)) dq osq
      clear hw'' r0 r1 r2 r3 r4 r5 k0 k1 k2 k3
      have HB4 := hidR (B3W HB3.out hB)
      have HJ4' := hidR (B3W HJ.out hB)
      clear hB
      cases la with
      | false =>
        go_wp2_with fail
        refine (HKa.out _ HB4.out).mono ?_
        rintro r w5 ⟨rfl, hB⟩
        have HB5 := hidR (B3W HB4.out hB)
        have HJ5' := hidR (B3W HJ4'.out hB)
        clear hB
        cases oa with
        | false =>
          obtain ⟨q0, q1, q2, q3⟩ := HPP.out _ HJ5'.out
          have k0 := cell_regrown q0
          have k1 := cell_regrown q1
          have k2 := cell_regrown q2
          have k3 := cell_regrown q3
          clear q0 q1 q2 q3
          have r0 := fun (d : Nat) (os : Array Obj) => Calls.regrown_of (HO.out (grow (redrawn w5 d) os))
          go_wp2
          refine wp_region_quiet_below (by kernel_rfl) (by kernel_rfl) ?_
          repeat (go_big_quiet_step (first | with_reducible exact r0 _ _))
          refine wpQuiet_nil ?_
          intro w6 hw'
          obtain ⟨⟨dq, osq⟩, hw''⟩ := hw'
          have hB : Below w5.heap.size w5 w6 := by rw [hw'']; exact below_regrown w5 dq osq
          clear hw'' r0 k0 k1 k2 k3
          have HB6 := hidR (B3W HB5.out hB)
          have HJ6' := hidR (B3W HJ5'.out hB)
          clear hB
          go_wp2
          go_ret
          exact ⟨rfl, B3W HB1.out HB6.out⟩
        | true =>
          cases ob with
          | false =>
            obtain ⟨q0, q1, q2, q3⟩ := HPP.out _ HJ5'.out
            have k0 := cell_regrown q0
            have k1 := cell_regrown q1
            have k2 := cell_regrown q2
            have k3 := cell_regrown q3
            clear q0 q1 q2 q3
            obtain ⟨y0, y1, y2, y3⟩ := HP'.out _ HJ5'.out
            have j0 := cell_regrown y0
            have j1 := cell_regrown y1
            have j2 := cell_regrown y2
            have j3 := cell_regrown y3
            clear y0 y1 y2 y3
            have r0 := fun (d : Nat) (os : Array Obj) => Calls.regrown_of (HO.out (grow (redrawn w5 d) os))
            have r1 := fun (d : Nat) (os : Array Obj) => Calls.regrown_of (HO'.out (grow (redrawn w5 d) os))
            go_wp2
            refine wp_region_quiet_below (by kernel_rfl) (by kernel_rfl) ?_
            repeat (go_big_quiet_step (first | with_reducible exact r0 _ _ | with_reducible exact r1 _ _))
            refine wpQuiet_nil ?_
            intro w6 hw'
            obtain ⟨⟨dq, osq⟩, hw''⟩ := hw'
            have hB : Below w5.heap.size w5 w6 := by rw [hw'']; exact below_regrown w5 dq osq
            clear hw'' r0 r1 k0 k1 k2 k3 j0 j1 j2 j3
            have HB6 := hidR (B3W HB5.out hB)
            have HJ6' := hidR (B3W HJ5'.out hB)
            clear hB
            go_wp2
            go_ret
            exact ⟨rfl, B3W HB1.out HB6.out⟩
          | true =>
            have hos := HOS.out (by simp) (by simp)
            by_cases hek : k = k'
            · subst hek
              by_cases hep : p = p'
              · subst hep
                by_cases het : t = t'
                · subst het
                  by_cases hex : x = x'
                  · subst hex
                    have hs1 : (S.toList == S'.toList) = true := by rw [hos]; simp
                    have hs2 : S.toList = S'.toList := by simpa using hs1
                    clear hos HOS
                    obtain ⟨q0, q1, q2, q3⟩ := HPP.out _ HJ5'.out
                    have k0 := cell_regrown q0
                    have k1 := cell_regrown q1
                    have k2 := cell_regrown q2
                    have k3 := cell_regrown q3
                    clear q0 q1 q2 q3
                    obtain ⟨y0, y1, y2, y3⟩ := HP'.out _ HJ5'.out
                    have j0 := cell_regrown y0
                    have j1 := cell_regrown y1
                    have j2 := cell_regrown y2
                    have j3 := cell_regrown y3
                    clear y0 y1 y2 y3
                    have r0 := fun (d : Nat) (os : Array Obj) => Calls.regrown_of (HO.out (grow (redrawn w5 d) os))
                    have r1 := fun (d : Nat) (os : Array Obj) => Calls.regrown_of (HO'.out (grow (redrawn w5 d) os))
                    have r2 := fun (d : Nat) (os : Array Obj) => Calls.regrown_of (HT.out (grow (redrawn w5 d) os) (B3W HB5.out (below_regrown w5 d os)))
                    have r3 := fun (d : Nat) (os : Array Obj) => Calls.regrown_of (HT'.out (grow (redrawn w5 d) os) (B3W HB5.out (below_regrown w5 d os)))
                    go_wp2
                    refine wp_region_quiet_below (by kernel_rfl) (by kernel_rfl) ?_
                    repeat (go_big_quiet_step (first | with_reducible exact r0 _ _ | with_reducible exact r1 _ _ | with_reducible exact r2 _ _ | with_reducible exact r3 _ _))
                    refine wpQuiet_nil ?_
                    intro w6 hw'
                    obtain ⟨⟨dq, osq⟩, hw''⟩ := hw'
                    have hB : Below w5.heap.size w5 w6 := by rw [hw'']; exact below_regrown w5 dq osq
                    clear hw'' r0 r1 r2 r3 k0 k1 k2 k3 j0 j1 j2 j3
                    have HB6 := hidR (B3W HB5.out hB)
                    have HJ6' := hidR (B3W HJ5'.out hB)
                    clear hB
                    go_wp2
                    go_ret
                    exact ⟨rfl, B3W HB1.out HB6.out⟩
                  · have hn : ¬ x.toList = x'.toList := fun e => hex (lb_inj (by rw [Lib.toList_data, Lib.toList_data] at e; exact e))
                    clear hex
                    have hs1 : (S.toList == S'.toList) = false := by rw [hos]; simp [hn]
                    have hs2 : ¬ S.toList = S'.toList := by simpa using hs1
                    clear hos HOS
                    obtain ⟨q0, q1, q2, q3⟩ := HPP.out _ HJ5'.out
                    have k0 := cell_regrown q0
                    have k1 := cell_regrown q1
                    have k2 := cell_regrown q2
                    have k3 := cell_regrown q3
                    clear q0 q1 q2 q3
                    obtain ⟨y0, y1, y2, y3⟩ := HP'.out _ HJ5'.out
                    have j0 := cell_regrown y0
                    have j1 := cell_regrown y1
                    have j2 := cell_regrown y2
                    have j3 := cell_regrown y3
                    clear y0 y1 y2 y3
                    have r0 := fun (d : Nat) (os : Array Obj) => Calls.regrown_of (HO.out (grow (redrawn w5 d) os))
                    have r1 := fun (d : Nat) (os : Array Obj) => Calls.regrown_of (HO'.out (grow (redrawn w5 d) os))
                    have r2 := fun (d : Nat) (os : Array Obj) => Calls.regrown_of (HT.out (grow (redrawn w5 d) os) (B3W HB5.out (below_regrown w5 d os)))
                    have r3 := fun (d : Nat) (os : Array Obj) => Calls.regrown_of (HT'.out (grow (redrawn w5 d) os) (B3W HB5.out (below_regrown w5 d os)))
                    go_wp2
                    refine wp_region_quiet_below (by kernel_rfl) (by kernel_rfl) ?_
                    repeat (go_big_quiet_step (first | with_reducible exact r0 _ _ | with_reducible exact r1 _ _ | with_reducible exact r2 _ _ | with_reducible exact r3 _ _))
                    refine wpQuiet_nil ?_
                    intro w6 hw'
                    obtain ⟨⟨dq, osq⟩, hw''⟩ := hw'
                    have hB : Below w5.heap.size w5 w6 := by rw [hw'']; exact below_regrown w5 dq osq
                    clear hw'' r0 r1 r2 r3 k0 k1 k2 k3 j0 j1 j2 j3
                    have HB6 := hidR (B3W HB5.out hB)
                    have HJ6' := hidR (B3W HJ5'.out hB)
                    clear hB
                    go_wp2
                    go_ret
                    exact ⟨rfl, B3W HB1.out HB6.out⟩
                · have hn : ¬ t.toList = t'.toList := fun e => het (lb_inj (by rw [Lib.toList_data, Lib.toList_data] at e; exact e))
                  clear het
                  have hs1 : (S.toList == S'.toList) = false := by rw [hos]; simp [hn]
                  have hs2 : ¬ S.toList = S'.toList := by simpa using hs1
                  clear hos HOS
                  obtain ⟨q0, q1, q2, q3⟩ := HPP.out _ HJ5'.out
                  have k0 := cell_regrown q0
                  have k1 := cell_regrown q1
                  have k2 := cell_regrown q2
                  have k3 := cell_regrown q3
                  clear q0 q1 q2 q3
                  obtain ⟨y0, y1, y2, y3⟩ := HP'.out _ HJ5'.out
                  have j0 := cell_regrown y0
                  have j1 := cell_regrown y1
                  have j2 := cell_regrown y2
                  have j3 := cell_regrown y3
                  clear y0 y1 y2 y3
                  have r0 := fun (d : Nat) (os : Array Obj) => Calls.regrown_of (HO.out (grow (redrawn w5 d) os))
                  have r1 := fun (d : Nat) (os : Array Obj) => Calls.regrown_of (HO'.out (grow (redrawn w5 d) os))
                  have r2 := fun (d : Nat) (os : Array Obj) => Calls.regrown_of (HT.out (grow (redrawn w5 d) os) (B3W HB5.out (below_regrown w5 d os)))
                  have r3 := fun (d : Nat) (os : Array Obj) => Calls.regrown_of (HT'.out (grow (redrawn w5 d) os) (B3W HB5.out (below_regrown w5 d os)))
                  go_wp2
                  refine wp_region_quiet_below (by kernel_rfl) (by kernel_rfl) ?_
                  repeat (go_big_quiet_step (first | with_reducible exact r0 _ _ | with_reducible exact r1 _ _ | with_reducible exact r2 _ _ | with_reducible exact r3 _ _))
                  refine wpQuiet_nil ?_
                  intro w6 hw'
                  obtain ⟨⟨dq, osq⟩, hw''⟩ := hw'
                  have hB : Below w5.heap.size w5 w6 := by rw [hw'']; exact below_regrown w5 dq osq
                  clear hw'' r0 r1 r2 r3 k0 k1 k2 k3 j0 j1 j2 j3
                  have HB6 := hidR (B3W HB5.out hB)
                  have HJ6' := hidR (B3W HJ5'.out hB)
                  clear hB
                  go_wp2
                  go_ret
                  exact ⟨rfl, B3W HB1.out HB6.out⟩
              · have hn : ¬ p.toList = p'.toList := fun e => hep (lb_inj (by rw [Lib.toList_data, Lib.toList_data] at e; exact e))
                clear hep
                have hs1 : (S.toList == S'.toList) = false := by rw [hos]; simp [hn]
                have hs2 : ¬ S.toList = S'.toList := by simpa using hs1
                clear hos HOS
                obtain ⟨q0, q1, q2, q3⟩ := HPP.out _ HJ5'.out
                have k0 := cell_regrown q0
                have k1 := cell_regrown q1
                have k2 := cell_regrown q2
                have k3 := cell_regrown q3
                clear q0 q1 q2 q3
                obtain ⟨y0, y1, y2, y3⟩ := HP'.out _ HJ5'.out
                have j0 := cell_regrown y0
                have j1 := cell_regrown y1
                have j2 := cell_regrown y2
                have j3 := cell_regrown y3
                clear y0 y1 y2 y3
                have r0 := fun (d : Nat) (os : Array Obj) => Calls.regrown_of (HO.out (grow (redrawn w5 d) os))
                have r1 := fun (d : Nat) (os : Array Obj) => Calls.regrown_of (HO'.out (grow (redrawn w5 d) os))
                have r2 := fun (d : Nat) (os : Array Obj) => Calls.regrown_of (HT.out (grow (redrawn w5 d) os) (B3W HB5.out (below_regrown w5 d os)))
                have r3 := fun (d : Nat) (os : Array Obj) => Calls.regrown_of (HT'.out (grow (redrawn w5 d) os) (B3W HB5.out (below_regrown w5 d os)))
                go_wp2
                refine wp_region_quiet_below (by kernel_rfl) (by kernel_rfl) ?_
                repeat (go_big_quiet_step (first | with_reducible exact r0 _ _ | with_reducible exact r1 _ _ | with_reducible exact r2 _ _ | with_reducible exact r3 _ _))
                refine wpQuiet_nil ?_
                intro w6 hw'
                obtain ⟨⟨dq, osq⟩, hw''⟩ := hw'
                have hB : Below w5.heap.size w5 w6 := by rw [hw'']; exact below_regrown w5 dq osq
                clear hw'' r0 r1 r2 r3 k0 k1 k2 k3 j0 j1 j2 j3
                have HB6 := hidR (B3W HB5.out hB)
                have HJ6' := hidR (B3W HJ5'.out hB)
                clear hB
                go_wp2
                go_ret
                exact ⟨rfl, B3W HB1.out HB6.out⟩
            · have hn : ¬ k = k' := hek
              clear hek
              have hs1 : (S.toList == S'.toList) = false := by rw [hos]; simp [hn]
              have hs2 : ¬ S.toList = S'.toList := by simpa using hs1
              clear hos HOS
              obtain ⟨q0, q1, q2, q3⟩ := HPP.out _ HJ5'.out
              have k0 := cell_regrown q0
              have k1 := cell_regrown q1
              have k2 := cell_regrown q2
              have k3 := cell_regrown q3
              clear q0 q1 q2 q3
              obtain ⟨y0, y1, y2, y3⟩ := HP'.out _ HJ5'.out
              have j0 := cell_regrown y0
              have j1 := cell_regrown y1
              have j2 := cell_regrown y2
              have j3 := cell_regrown y3
              clear y0 y1 y2 y3
              have r0 := fun (d : Nat) (os : Array Obj) => Calls.regrown_of (HO.out (grow (redrawn w5 d) os))
              have r1 := fun (d : Nat) (os : Array Obj) => Calls.regrown_of (HO'.out (grow (redrawn w5 d) os))
              have r2 := fun (d : Nat) (os : Array Obj) => Calls.regrown_of (HT.out (grow (redrawn w5 d) os) (B3W HB5.out (below_regrown w5 d os)))
              have r3 := fun (d : Nat) (os : Array Obj) => Calls.regrown_of (HT'.out (grow (redrawn w5 d) os) (B3W HB5.out (below_regrown w5 d os)))
              go_wp2
              refine wp_region_quiet_below (by kernel_rfl) (by kernel_rfl) ?_
              repeat (go_big_quiet_step (first | with_reducible exact r0 _ _ | with_reducible exact r1 _ _ | with_reducible exact r2 _ _ | with_reducible exact r3 _ _))
              refine wpQuiet_nil ?_
              intro w6 hw'
              obtain ⟨⟨dq, osq⟩, hw''⟩ := hw'
              have hB : Below w5.heap.size w5 w6 := by rw [hw'']; exact below_regrown w5 dq osq
              clear hw'' r0 r1 r2 r3 k0 k1 k2 k3 j0 j1 j2 j3
              have HB6 := hidR (B3W HB5.out hB)
              have HJ6' := hidR (B3W HJ5'.out hB)
              clear hB
              go_wp2
              go_ret
              exact ⟨rfl, B3W HB1.out HB6.out⟩
      | true =>
        go_wp2_with fail
        refine (HKa.out _ HB4.out).mono ?_
        rintro r w5 ⟨rfl, hB⟩
        have HB5 := hidR (B3W HB4.out hB)
        have HJ5' := hidR (B3W HJ4'.out hB)
        clear hB
        cases lb with
        | false =>
          go_wp2_with fail
          refine (HKb.out _ HB5.out).mono ?_
          rintro r w6 ⟨rfl, hB⟩
          have HB6 := hidR (B3W HB5.out hB)
          have HJ6' := hidR (B3W HJ5'.out hB)
          clear hB
          cases oa with
          | false =>
            obtain ⟨q0, q1, q2, q3⟩ := HPP.out _ HJ6'.out
            have k0 := cell_regrown q0
            have k1 := cell_regrown q1
            have k2 := cell_regrown q2
            have k3 := cell_regrown q3
            clear q0 q1 q2 q3
            have r0 := fun (d : Nat) (os : Array Obj) => Calls.regrown_of (HO.out (grow (redrawn w6 d) os))
            go_wp2
            refine wp_region_quiet_below (by kernel_rfl) (by kernel_rfl) ?_
            repeat (go_big_quiet_step (first | with_reducible exact r0 _ _))
            refine wpQuiet_nil ?_
            intro w7 hw'
            obtain ⟨⟨dq, osq⟩, hw''⟩ := hw'
            have hB : Below w6.heap.size w6 w7 := by rw [hw'']; exact below_regrown w6 dq osq
            clear hw'' r0 k0 k1 k2 k3
            have HB7 := hidR (B3W HB6.out hB)
            have HJ7' := hidR (B3W HJ6'.out hB)
            clear hB
            go_wp2
            go_ret
            exact ⟨rfl, B3W HB1.out HB7.out⟩
          | true =>
            cases ob with
            | false =>
              obtain ⟨q0, q1, q2, q3⟩ := HPP.out _ HJ6'.out
              have k0 := cell_regrown q0
              have k1 := cell_regrown q1
              have k2 := cell_regrown q2
              have k3 := cell_regrown q3
              clear q0 q1 q2 q3
              obtain ⟨y0, y1, y2, y3⟩ := HP'.out _ HJ6'.out
              have j0 := cell_regrown y0
              have j1 := cell_regrown y1
              have j2 := cell_regrown y2
              have j3 := cell_regrown y3
              clear y0 y1 y2 y3
              have r0 := fun (d : Nat) (os : Array Obj) => Calls.regrown_of (HO.out (grow (redrawn w6 d) os))
              have r1 := fun (d : Nat) (os : Array Obj) => Calls.regrown_of (HO'.out (grow (redrawn w6 d) os))
              go_wp2
              refine wp_region_quiet_below (by kernel_rfl) (by kernel_rfl) ?_
              repeat (go_big_quiet_step (first | with_reducible exact r0 _ _ | with_reducible exact r1 _ _))
              refine wpQuiet_nil ?_
              intro w7 hw'
              obtain ⟨⟨dq, osq⟩, hw''⟩ := hw'
              have hB : Below w6.heap.size w6 w7 := by rw [hw'']; exact below_regrown w6 dq osq
              clear hw'' r0 r1 k0 k1 k2 k3 j0 j1 j2 j3
              have HB7 := hidR (B3W HB6.out hB)
              have HJ7' := hidR (B3W HJ6'.out hB)
              clear hB
              go_wp2
              go_ret
              exact ⟨rfl, B3W HB1.out HB7.out⟩
            | true =>
              have hos := HOS.out (by simp) (by simp)
              by_cases hek : k = k'
              · subst hek
                by_cases hep : p = p'
                · subst hep
                  by_cases het : t = t'
                  · subst het
                    by_cases hex : x = x'
                    · subst hex
                      have hs1 : (S.toList == S'.toList) = true := by rw [hos]; simp
                      have hs2 : S.toList = S'.toList := by simpa using hs1
                      clear hos HOS
                      obtain ⟨q0, q1, q2, q3⟩ := HPP.out _ HJ6'.out
                      have k0 := cell_regrown q0
                      have k1 := cell_regrown q1
                      have k2 := cell_regrown q2
                      have k3 := cell_regrown q3
                      clear q0 q1 q2 q3
                      obtain ⟨y0, y1, y2, y3⟩ := HP'.out _ HJ6'.out
                      have j0 := cell_regrown y0
                      have j1 := cell_regrown y1
                      have j2 := cell_regrown y2
                      have j3 := cell_regrown y3
                      clear y0 y1 y2 y3
                      have r0 := fun (d : Nat) (os : Array Obj) => Calls.regrown_of (HO.out (grow (redrawn w6 d) os))
                      have r1 := fun (d : Nat) (os : Array Obj) => Calls.regrown_of (HO'.out (grow (redrawn w6 d) os))
                      have r2 := fun (d : Nat) (os : Array Obj) => Calls.regrown_of (HT.out (grow (redrawn w6 d) os) (B3W HB6.out (below_regrown w6 d os)))
                      have r3 := fun (d : Nat) (os : Array Obj) => Calls.regrown_of (HT'.out (grow (redrawn w6 d) os) (B3W HB6.out (below_regrown w6 d os)))
                      go_wp2
                      refine wp_region_quiet_below (by kernel_rfl) (by kernel_rfl) ?_
                      repeat (go_big_quiet_step (first | with_reducible exact r0 _ _ | with_reducible exact r1 _ _ | with_reducible exact r2 _ _ | with_reducible exact r3 _ _))
                      refine wpQuiet_nil ?_
                      intro w7 hw'
                      obtain ⟨⟨dq, osq⟩, hw''⟩ := hw'
                      have hB : Below w6.heap.size w6 w7 := by rw [hw'']; exact below_regrown w6 dq osq
                      clear hw'' r0 r1 r2 r3 k0 k1 k2 k3 j0 j1 j2 j3
                      have HB7 := hidR (B3W HB6.out hB)
                      have HJ7' := hidR (B3W HJ6'.out hB)
                      clear hB
                      go_wp2
                      go_ret
                      exact ⟨rfl, B3W HB1.out HB7.out⟩
                    · have hn : ¬ x.toList = x'.toList := fun e => hex (lb_inj (by rw [Lib.toList_data, Lib.toList_data] at e; exact e))
                      clear hex
                      have hs1 : (S.toList == S'.toList) = false := by rw [hos]; simp [hn]
                      have hs2 : ¬ S.toList = S'.toList := by simpa using hs1
                      clear hos HOS
                      obtain ⟨q0, q1, q2, q3⟩ := HPP.out _ HJ6'.out
                      have k0 := cell_regrown q0
                      have k1 := cell_regrown q1
                      have k2 := cell_regrown q2
                      have k3 := cell_regrown q3
                      clear q0 q1 q2 q3
                      obtain ⟨y0, y1, y2, y3⟩ := HP'.out _ HJ6'.out
                      have j0 := cell_regrown y0
                      have j1 := cell_regrown y1
                      have j2 := cell_regrown y2
                      have j3 := cell_regrown y3
                      clear y0 y1 y2 y3
                      have r0 := fun (d : Nat) (os : Array Obj) => Calls.regrown_of (HO.out (grow (redrawn w6 d) os))
                      have r1 := fun (d : Nat) (os : Array Obj) => Calls.regrown_of (HO'.out (grow (redrawn w6 d) os))
                      have r2 := fun (d : Nat) (os : Array Obj) => Calls.regrown_of (HT.out (grow (redrawn w6 d) os) (B3W HB6.out (below_regrown w6 d os)))
                      have r3 := fun (d : Nat) (os : Array Obj) => Calls.regrown_of (HT'.out (grow (redrawn w6 d) os) (B3W HB6.out (below_regrown w6 d os)))
                      go_wp2
                      refine wp_region_quiet_below (by kernel_rfl) (by kernel_rfl) ?_
                      repeat (go_big_quiet_step (first | with_reducible exact r0 _ _ | with_reducible exact r1 _ _ | with_reducible exact r2 _ _ | with_reducible exact r3 _ _))
                      refine wpQuiet_nil ?_
                      intro w7 hw'
                      obtain ⟨⟨dq, osq⟩, hw''⟩ := hw'
                      have hB : Below w6.heap.size w6 w7 := by rw [hw'']; exact below_regrown w6 dq osq
                      clear hw'' r0 r1 r2 r3 k0 k1 k2 k3 j0 j1 j2 j3
                      have HB7 := hidR (B3W HB6.out hB)
                      have HJ7' := hidR (B3W HJ6'.out hB)
                      clear hB
                      go_wp2
                      go_ret
                      exact ⟨rfl, B3W HB1.out HB7.out⟩
                  · have hn : ¬ t.toList = t'.toList := fun e => het (lb_inj (by rw [Lib.toList_data, Lib.toList_data] at e; exact e))
                    clear het
                    have hs1 : (S.toList == S'.toList) = false := by rw [hos]; simp [hn]
                    have hs2 : ¬ S.toList = S'.toList := by simpa using hs1
                    clear hos HOS
                    obtain ⟨q0, q1, q2, q3⟩ := HPP.out _ HJ6'.out
                    have k0 := cell_regrown q0
                    have k1 := cell_regrown q1
                    have k2 := cell_regrown q2
                    have k3 := cell_regrown q3
                    clear q0 q1 q2 q3
                    obtain ⟨y0, y1, y2, y3⟩ := HP'.out _ HJ6'.out
                    have j0 := cell_regrown y0
                    have j1 := cell_regrown y1
                    have j2 := cell_regrown y2
                    have j3 := cell_regrown y3
                    clear y0 y1 y2 y3
                    have r0 := fun (d : Nat) (os : Array Obj) => Calls.regrown_of (HO.out (grow (redrawn w6 d) os))
                    have r1 := fun (d : Nat) (os : Array Obj) => Calls.regrown_of (HO'.out (grow (redrawn w6 d) os))
                    have r2 := fun (d : Nat) (os : Array Obj) => Calls.regrown_of (HT.out (grow (redrawn w6 d) os) (B3W HB6.out (below_regrown w6 d os)))
                    have r3 := fun (d : Nat) (os : Array Obj) => Calls.regrown_of (HT'.out (grow (redrawn w6 d) os) (B3W HB6.out (below_regrown w6 d os)))
                    go_wp2
                    refine wp_region_quiet_below (by kernel_rfl) (by kernel_rfl) ?_
                    repeat (go_big_quiet_step (first | with_reducible exact r0 _ _ | with_reducible exact r1 _ _ | with_reducible exact r2 _ _ | with_reducible exact r3 _ _))
                    refine wpQuiet_nil ?_
                    intro w7 hw'
                    obtain ⟨⟨dq, osq⟩, hw''⟩ := hw'
                    have hB : Below w6.heap.size w6 w7 := by rw [hw'']; exact below_regrown w6 dq osq
                    clear hw'' r0 r1 r2 r3 k0 k1 k2 k3 j0 j1 j2 j3
                    have HB7 := hidR (B3W HB6.out hB)
                    have HJ7' := hidR (B3W HJ6'.out hB)
                    clear hB
                    go_wp2
                    go_ret
                    exact ⟨rfl, B3W HB1.out HB7.out⟩
                · have hn : ¬ p.toList = p'.toList := fun e => hep (lb_inj (by rw [Lib.toList_data, Lib.toList_data] at e; exact e))
                  clear hep
                  have hs1 : (S.toList == S'.toList) = false := by rw [hos]; simp [hn]
                  have hs2 : ¬ S.toList = S'.toList := by simpa using hs1
                  clear hos HOS
                  obtain ⟨q0, q1, q2, q3⟩ := HPP.out _ HJ6'.out
                  have k0 := cell_regrown q0
                  have k1 := cell_regrown q1
                  have k2 := cell_regrown q2
                  have k3 := cell_regrown q3
                  clear q0 q1 q2 q3
                  obtain ⟨y0, y1, y2, y3⟩ := HP'.out _ HJ6'.out
                  have j0 := cell_regrown y0
                  have j1 := cell_regrown y1
                  have j2 := cell_regrown y2
                  have j3 := cell_regrown y3
                  clear y0 y1 y2 y3
                  have r0 := fun (d : Nat) (os : Array Obj) => Calls.regrown_of (HO.out (grow (redrawn w6 d) os))
                  have r1 := fun (d : Nat) (os : Array Obj) => Calls.regrown_of (HO'.out (grow (redrawn w6 d) os))
                  have r2 := fun (d : Nat) (os : Array Obj) => Calls.regrown_of (HT.out (grow (redrawn w6 d) os) (B3W HB6.out (below_regrown w6 d os)))
                  have r3 := fun (d : Nat) (os : Array Obj) => Calls.regrown_of (HT'.out (grow (redrawn w6 d) os) (B3W HB6.out (below_regrown w6 d os)))
                  go_wp2
                  refine wp_region_quiet_below (by kernel_rfl) (by kernel_rfl) ?_
                  repeat (go_big_quiet_step (first | with_reducible exact r0 _ _ | with_reducible exact r1 _ _ | with_reducible exact r2 _ _ | with_reducible exact r3 _ _))
                  refine wpQuiet_nil ?_
                  intro w7 hw'
                  obtain ⟨⟨dq, osq⟩, hw''⟩ := hw'
                  have hB : Below w6.heap.size w6 w7 := by rw [hw'']; exact below_regrown w6 dq osq
                  clear hw'' r0 r1 r2 r3 k0 k1 k2 k3 j0 j1 j2 j3
                  have HB7 := hidR (B3W HB6.out hB)
                  have HJ7' := hidR (B3W HJ6'.out hB)
                  clear hB
                  go_wp2
                  go_ret
                  exact ⟨rfl, B3W HB1.out HB7.out⟩
              · have hn : ¬ k = k' := hek
                clear hek
                have hs1 : (S.toList == S'.toList) = false := by rw [hos]; simp [hn]
                have hs2 : ¬ S.toList = S'.toList := by simpa using hs1
                clear hos HOS
                obtain ⟨q0, q1, q2, q3⟩ := HPP.out _ HJ6'.out
                have k0 := cell_regrown q0
                have k1 := cell_regrown q1
                have k2 := cell_regrown q2
                have k3 := cell_regrown q3
                clear q0 q1 q2 q3
                obtain ⟨y0, y1, y2, y3⟩ := HP'.out _ HJ6'.out
                have j0 := cell_regrown y0
                have j1 := cell_regrown y1
                have j2 := cell_regrown y2
                have j3 := cell_regrown y3
                clear y0 y1 y2 y3
                have r0 := fun (d : Nat) (os : Array Obj) => Calls.regrown_of (HO.out (grow (redrawn w6 d) os))
                have r1 := fun (d : Nat) (os : Array Obj) => Calls.regrown_of (HO'.out (grow (redrawn w6 d) os))
                have r2 := fun (d : Nat) (os : Array Obj) => Calls.regrown_of (HT.out (grow (redrawn w6 d) os) (B3W HB6.out (below_regrown w6 d os)))
                have r3 := fun (d : Nat) (os : Array Obj) => Calls.regrown_of (HT'.out (grow (redrawn w6 d) os) (B3W HB6.out (below_regrown w6 d os)))
                go_wp2
                refine wp_region_quiet_below (by kernel_rfl) (by kernel_rfl) ?_
                repeat (go_big_quiet_step (first | with_reducible exact r0 _ _ | with_reducible exact r1 _ _ | with_reducible exact r2 _ _ | with_reducible exact r3 _ _))
                refine wpQuiet_nil ?_
                intro w7 hw'
                obtain ⟨⟨dq, osq⟩, hw''⟩ := hw'
                have hB : Below w6.heap.size w6 w7 := by rw [hw'']; exact below_regrown w6 dq osq
                clear hw'' r0 r1 r2 r3 k0 k1 k2 k3 j0 j1 j2 j3
                have HB7 := hidR (B3W HB6.out hB)
                have HJ7' := hidR (B3W HJ6'.out hB)
                clear hB
                go_wp2
                go_ret
                exact ⟨rfl, B3W HB1.out HB7.out⟩
        | true =>
          go_wp2_with fail
          refine (HKb.out _ HB5.out).mono ?_
          rintro r w6 ⟨rfl, hB⟩
          have HB6 := hidR (B3W HB5.out hB)
          have HJ6' := hidR (B3W HJ5'.out hB)
          clear hB
          have hls := HLS.out (by simp) (by simp)
          cases sm with
          | true =>
            have hl2' : A.toList = B.toList := by simpa using hls
            go_wp2_with fail
            refine (HTa.out _ HB6.out).mono ?_
            rintro r w7 ⟨rfl, hB⟩
            have HB7 := hidR (B3W HB6.out hB)
            have HJ7' := hidR (B3W HJ6'.out hB)
            clear hB
            go_wp2_with fail
            refine (HTb.out _ HB7.out).mono ?_
            rintro r w8 ⟨rfl, hB⟩
            have HB8 := hidR (B3W HB7.out hB)
            have HJ8' := hidR (B3W HJ7'.out hB)
            clear hB
            go_wp2_with fail
            refine (HQ.out _ HB8.out).mono ?_
            rintro r w9 ⟨rfl, hB⟩
            have HB9 := hidR (B3W HB8.out hB)
            have HJ9' := hidR (B3W HJ8'.out hB)
            clear hB
            cases oa with
            | false =>
              obtain ⟨q0, q1, q2, q3⟩ := HPP.out _ HJ9'.out
              have k0 := cell_regrown q0
              have k1 := cell_regrown q1
              have k2 := cell_regrown q2
              have k3 := cell_regrown q3
              clear q0 q1 q2 q3
              have r0 := fun (d : Nat) (os : Array Obj) => Calls.regrown_of (HO.out (grow (redrawn w9 d) os))
              go_wp2
              refine wp_region_quiet_below (by kernel_rfl) (by kernel_rfl) ?_
              repeat (go_big_quiet_step (first | with_reducible exact r0 _ _))
              refine wpQuiet_nil ?_
              intro w10 hw'
              obtain ⟨⟨dq, osq⟩, hw''⟩ := hw'
              have hB : Below w9.heap.size w9 w10 := by rw [hw'']; exact below_regrown w9 dq osq
              clear hw'' r0 k0 k1 k2 k3
              have HB10 := hidR (B3W HB9.out hB)
              have HJ10' := hidR (B3W HJ9'.out hB)
              clear hB
              go_wp2
              go_ret
              exact ⟨rfl, B3W HB1.out HB10.out⟩
            | true =>
              cases ob with
              | false =>
                obtain ⟨q0, q1, q2, q3⟩ := HPP.out _ HJ9'.out
                have k0 := cell_regrown q0
                have k1 := cell_regrown q1
                have k2 := cell_regrown q2
                have k3 := cell_regrown q3
                clear q0 q1 q2 q3
                obtain ⟨y0, y1, y2, y3⟩ := HP'.out _ HJ9'.out
                have j0 := cell_regrown y0
                have j1 := cell_regrown y1
                have j2 := cell_regrown y2
                have j3 := cell_regrown y3
                clear y0 y1 y2 y3
                have r0 := fun (d : Nat) (os : Array Obj) => Calls.regrown_of (HO.out (grow (redrawn w9 d) os))
                have r1 := fun (d : Nat) (os : Array Obj) => Calls.regrown_of (HO'.out (grow (redrawn w9 d) os))
                go_wp2
                refine wp_region_quiet_below (by kernel_rfl) (by kernel_rfl) ?_
                repeat (go_big_quiet_step (first | with_reducible exact r0 _ _ | with_reducible exact r1 _ _))
                refine wpQuiet_nil ?_
                intro w10 hw'
                obtain ⟨⟨dq, osq⟩, hw''⟩ := hw'
                have hB : Below w9.heap.size w9 w10 := by rw [hw'']; exact below_regrown w9 dq osq
                clear hw'' r0 r1 k0 k1 k2 k3 j0 j1 j2 j3
                have HB10 := hidR (B3W HB9.out hB)
                have HJ10' := hidR (B3W HJ9'.out hB)
                clear hB
                go_wp2
                go_ret
                exact ⟨rfl, B3W HB1.out HB10.out⟩
              | true =>
                have hos := HOS.out (by simp) (by simp)
                by_cases hek : k = k'
                · subst hek
                  by_cases hep : p = p'
                  · subst hep
                    by_cases het : t = t'
                    · subst het
                      by_cases hex : x = x'
                      · subst hex
                        have hs1 : (S.toList == S'.toList) = true := by rw [hos]; simp
                        have hs2 : S.toList = S'.toList := by simpa using hs1
                        clear hos HOS
                        obtain ⟨q0, q1, q2, q3⟩ := HPP.out _ HJ9'.out
                        have k0 := cell_regrown q0
                        have k1 := cell_regrown q1
                        have k2 := cell_regrown q2
                        have k3 := cell_regrown q3
                        clear q0 q1 q2 q3
                        obtain ⟨y0, y1, y2, y3⟩ := HP'.out _ HJ9'.out
                        have j0 := cell_regrown y0
                        have j1 := cell_regrown y1
                        have j2 := cell_regrown y2
                        have j3 := cell_regrown y3
                        clear y0 y1 y2 y3
                        have r0 := fun (d : Nat) (os : Array Obj) => Calls.regrown_of (HO.out (grow (redrawn w9 d) os))
                        have r1 := fun (d : Nat) (os : Array Obj) => Calls.regrown_of (HO'.out (grow (redrawn w9 d) os))
                        have r2 := fun (d : Nat) (os : Array Obj) => Calls.regrown_of (HT.out (grow (redrawn w9 d) os) (B3W HB9.out (below_regrown w9 d os)))
                        have r3 := fun (d : Nat) (os : Array Obj) => Calls.regrown_of (HT'.out (grow (redrawn w9 d) os) (B3W HB9.out (below_regrown w9 d os)))
                        go_wp2
                        refine wp_region_quiet_below (by kernel_rfl) (by kernel_rfl) ?_
                        repeat (go_big_quiet_step (first | with_reducible exact r0 _ _ | with_reducible exact r1 _ _ | with_reducible exact r2 _ _ | with_reducible exact r3 _ _))
                        refine wpQuiet_nil ?_
                        intro w10 hw'
                        obtain ⟨⟨dq, osq⟩, hw''⟩ := hw'
                        have hB : Below w9.heap.size w9 w10 := by rw [hw'']; exact below_regrown w9 dq osq
                        clear hw'' r0 r1 r2 r3 k0 k1 k2 k3 j0 j1 j2 j3
                        have HB10 := hidR (B3W HB9.out hB)
                        have HJ10' := hidR (B3W HJ9'.out hB)
                        clear hB
                        go_wp2
                        go_ret
                        exact ⟨rfl, B3W HB1.out HB10.out⟩
                      · have hn : ¬ x.toList = x'.toList := fun e => hex (lb_inj (by rw [Lib.toList_data, Lib.toList_data] at e; exact e))
                        clear hex
                        have hs1 : (S.toList == S'.toList) = false := by rw [hos]; simp [hn]
                        have hs2 : ¬ S.toList = S'.toList := by simpa using hs1
                        clear hos HOS
                        obtain ⟨q0, q1, q2, q3⟩ := HPP.out _ HJ9'.out
                        have k0 := cell_regrown q0
                        have k1 := cell_regrown q1
                        have k2 := cell_regrown q2
                        have k3 := cell_regrown q3
                        clear q0 q1 q2 q3
                        obtain ⟨y0, y1, y2, y3⟩ := HP'.out _ HJ9'.out
                        have j0 := cell_regrown y0
                        have j1 := cell_regrown y1
                        have j2 := cell_regrown y2
                        have j3 := cell_regrown y3
                        clear y0 y1 y2 y3
                        have r0 := fun (d : Nat) (os : Array Obj) => Calls.regrown_of (HO.out (grow (redrawn w9 d) os))
                        have r1 := fun (d : Nat) (os : Array Obj) => Calls.regrown_of (HO'.out (grow (redrawn w9 d) os))
                        have r2 := fun (d : Nat) (os : Array Obj) => Calls.regrown_of (HT.out (grow (redrawn w9 d) os) (B3W HB9.out (below_regrown w9 d os)))
                        have r3 := fun (d : Nat) (os : Array Obj) => Calls.regrown_of (HT'.out (grow (redrawn w9 d) os) (B3W HB9.out (below_regrown w9 d os)))
                        go_wp2
                        refine wp_region_quiet_below (by kernel_rfl) (by kernel_rfl) ?_
                        repeat (go_big_quiet_step (first | with_reducible exact r0 _ _ | with_reducible exact r1 _ _ | with_reducible exact r2 _ _ | with_reducible exact r3 _ _))
                        refine wpQuiet_nil ?_
                        intro w10 hw'
                        obtain ⟨⟨dq, osq⟩, hw''⟩ := hw'
                        have hB : Below w9.heap.size w9 w10 := by rw [hw'']; exact below_regrown w9 dq osq
                        clear hw'' r0 r1 r2 r3 k0 k1 k2 k3 j0 j1 j2 j3
                        have HB10 := hidR (B3W HB9.out hB)
                        have HJ10' := hidR (B3W HJ9'.out hB)
                        clear hB
                        go_wp2
                        go_ret
                        exact ⟨rfl, B3W HB1.out HB10.out⟩
                    · have hn : ¬ t.toList = t'.toList := fun e => het (lb_inj (by rw [Lib.toList_data, Lib.toList_data] at e; exact e))
                      clear het
                      have hs1 : (S.toList == S'.toList) = false := by rw [hos]; simp [hn]
                      have hs2 : ¬ S.toList = S'.toList := by simpa using hs1
                      clear hos HOS
                      obtain ⟨q0, q1, q2, q3⟩ := HPP.out _ HJ9'.out
                      have k0 := cell_regrown q0
                      have k1 := cell_regrown q1
                      have k2 := cell_regrown q2
                      have k3 := cell_regrown q3
                      clear q0 q1 q2 q3
                      obtain ⟨y0, y1, y2, y3⟩ := HP'.out _ HJ9'.out
                      have j0 := cell_regrown y0
                      have j1 := cell_regrown y1
                      have j2 := cell_regrown y2
                      have j3 := cell_regrown y3
                      clear y0 y1 y2 y3
                      have r0 := fun (d : Nat) (os : Array Obj) => Calls.regrown_of (HO.out (grow (redrawn w9 d) os))
                      have r1 := fun (d : Nat) (os : Array Obj) => Calls.regrown_of (HO'.out (grow (redrawn w9 d) os))
                      have r2 := fun (d : Nat) (os : Array Obj) => Calls.regrown_of (HT.out (grow (redrawn w9 d) os) (B3W HB9.out (below_regrown w9 d os)))
                      have r3 := fun (d : Nat) (os : Array Obj) => Calls.regrown_of (HT'.out (grow (redrawn w9 d) os) (B3W HB9.out (below_regrown w9 d os)))
                      go_wp2
                      refine wp_region_quiet_below (by kernel_rfl) (by kernel_rfl) ?_
                      repeat (go_big_quiet_step (first | with_reducible exact r0 _ _ | with_reducible exact r1 _ _ | with_reducible exact r2 _ _ | with_reducible exact r3 _ _))
                      refine wpQuiet_nil ?_
                      intro w10 hw'
                      obtain ⟨⟨dq, osq⟩, hw''⟩ := hw'
                      have hB : Below w9.heap.size w9 w10 := by rw [hw'']; exact below_regrown w9 dq osq
                      clear hw'' r0 r1 r2 r3 k0 k1 k2 k3 j0 j1 j2 j3
                      have HB10 := hidR (B3W HB9.out hB)
                      have HJ10' := hidR (B3W HJ9'.out hB)
                      clear hB
                      go_wp2
                      go_ret
                      exact ⟨rfl, B3W HB1.out HB10.out⟩
                  · have hn : ¬ p.toList = p'.toList := fun e => hep (lb_inj (by rw [Lib.toList_data, Lib.toList_data] at e; exact e))
                    clear hep
                    have hs1 : (S.toList == S'.toList) = false := by rw [hos]; simp [hn]
                    have hs2 : ¬ S.toList = S'.toList := by simpa using hs1
                    clear hos HOS
                    obtain ⟨q0, q1, q2, q3⟩ := HPP.out _ HJ9'.out
                    have k0 := cell_regrown q0
                    have k1 := cell_regrown q1
                    have k2 := cell_regrown q2
                    have k3 := cell_regrown q3
                    clear q0 q1 q2 q3
                    obtain ⟨y0, y1, y2, y3⟩ := HP'.out _ HJ9'.out
                    have j0 := cell_regrown y0
                    have j1 := cell_regrown y1
                    have j2 := cell_regrown y2
                    have j3 := cell_regrown y3
                    clear y0 y1 y2 y3
                    have r0 := fun (d : Nat) (os : Array Obj) => Calls.regrown_of (HO.out (grow (redrawn w9 d) os))
                    have r1 := fun (d : Nat) (os : Array Obj) => Calls.regrown_of (HO'.out (grow (redrawn w9 d) os))
                    have r2 := fun (d : Nat) (os : Array Obj) => Calls.regrown_of (HT.out (grow (redrawn w9 d) os) (B3W HB9.out (below_regrown w9 d os)))
                    have r3 := fun (d : Nat) (os : Array Obj) => Calls.regrown_of (HT'.out (grow (redrawn w9 d) os) (B3W HB9.out (below_regrown w9 d os)))
                    go_wp2
                    refine wp_region_quiet_below (by kernel_rfl) (by kernel_rfl) ?_
                    repeat (go_big_quiet_step (first | with_reducible exact r0 _ _ | with_reducible exact r1 _ _ | with_reducible exact r2 _ _ | with_reducible exact r3 _ _))
                    refine wpQuiet_nil ?_
                    intro w10 hw'
                    obtain ⟨⟨dq, osq⟩, hw''⟩ := hw'
                    have hB : Below w9.heap.size w9 w10 := by rw [hw'']; exact below_regrown w9 dq osq
                    clear hw'' r0 r1 r2 r3 k0 k1 k2 k3 j0 j1 j2 j3
                    have HB10 := hidR (B3W HB9.out hB)
                    have HJ10' := hidR (B3W HJ9'.out hB)
                    clear hB
                    go_wp2
                    go_ret
                    exact ⟨rfl, B3W HB1.out HB10.out⟩
                · have hn : ¬ k = k' := hek
                  clear hek
                  have hs1 : (S.toList == S'.toList) = false := by rw [hos]; simp [hn]
                  have hs2 : ¬ S.toList = S'.toList := by simpa using hs1
                  clear hos HOS
                  obtain ⟨q0, q1, q2, q3⟩ := HPP.out _ HJ9'.out
                  have k0 := cell_regrown q0
                  have k1 := cell_regrown q1
                  have k2 := cell_regrown q2
                  have k3 := cell_regrown q3
                  clear q0 q1 q2 q3
                  obtain ⟨y0, y1, y2, y3⟩ := HP'.out _ HJ9'.out
                  have j0 := cell_regrown y0
                  have j1 := cell_regrown y1
                  have j2 := cell_regrown y2
                  have j3 := cell_regrown y3
                  clear y0 y1 y2 y3
                  have r0 := fun (d : Nat) (os : Array Obj) => Calls.regrown_of (HO.out (grow (redrawn w9 d) os))
                  have r1 := fun (d : Nat) (os : Array Obj) => Calls.regrown_of (HO'.out (grow (redrawn w9 d) os))
                  have r2 := fun (d : Nat) (os : Array Obj) => Calls.regrown_of (HT.out (grow (redrawn w9 d) os) (B3W HB9.out (below_regrown w9 d os)))
                  have r3 := fun (d : Nat) (os : Array Obj) => Calls.regrown_of (HT'.out (grow (redrawn w9 d) os) (B3W HB9.out (below_regrown w9 d os)))
                  go_wp2
                  refine wp_region_quiet_below (by kernel_rfl) (by kernel_rfl) ?_
                  repeat (go_big_quiet_step (first | with_reducible exact r0 _ _ | with_reducible exact r1 _ _ | with_reducible exact r2 _ _ | with_reducible exact r3 _ _))
                  refine wpQuiet_nil ?_
                  intro w10 hw'
                  obtain ⟨⟨dq, osq⟩, hw''⟩ := hw'
                  have hB : Below w9.heap.size w9 w10 := by rw [hw'']; exact below_regrown w9 dq osq
                  clear hw'' r0 r1 r2 r3 k0 k1 k2 k3 j0 j1 j2 j3
                  have HB10 := hidR (B3W HB9.out hB)
                  have HJ10' := hidR (B3W HJ9'.out hB)
                  clear hB
                  go_wp2
                  go_ret
                  exact ⟨rfl, B3W HB1.out HB10.out⟩
          | false =>
            have hl2' : ¬ A.toList = B.toList := by simpa using hls
            go_wp2_with fail
            refine (HTa.out _ HB6.out).mono ?_
            rintro r w7 ⟨rfl, hB⟩
            have HB7 := hidR (B3W HB6.out hB)
            have HJ7' := hidR (B3W HJ6'.out hB)
            clear hB
            go_wp2_with fail
            refine (HTb.out _ HB7.out).mono ?_
            rintro r w8 ⟨rfl, hB⟩
            have HB8 := hidR (B3W HB7.out hB)
            have HJ8' := hidR (B3W HJ7'.out hB)
            clear hB
            go_wp2_with fail
            refine (HQ.out _ HB8.out).mono ?_
            rintro r w9 ⟨rfl, hB⟩
            have HB9 := hidR (B3W HB8.out hB)
            have HJ9' := hidR (B3W HJ8'.out hB)
            clear hB
            cases oa with
            | false =>
              obtain ⟨q0, q1, q2, q3⟩ := HPP.out _ HJ9'.out
              have k0 := cell_regrown q0
              have k1 := cell_regrown q1
              have k2 := cell_regrown q2
              have k3 := cell_regrown q3
              clear q0 q1 q2 q3
              have r0 := fun (d : Nat) (os : Array Obj) => Calls.regrown_of (HO.out (grow (redrawn w9 d) os))
              go_wp2
              refine wp_region_quiet_below (by kernel_rfl) (by kernel_rfl) ?_
              repeat (go_big_quiet_step (first | with_reducible exact r0 _ _))
              refine wpQuiet_nil ?_
              intro w10 hw'
              obtain ⟨⟨dq, osq⟩, hw''⟩ := hw'
              have hB : Below w9.heap.size w9 w10 := by rw [hw'']; exact below_regrown w9 dq osq
              clear hw'' r0 k0 k1 k2 k3
              have HB10 := hidR (B3W HB9.out hB)
              have HJ10' := hidR (B3W HJ9'.out hB)
              clear hB
              go_wp2
              go_ret
              exact ⟨rfl, B3W HB1.out HB10.out⟩
            | true =>
              cases ob with
              | false =>
                obtain ⟨q0, q1, q2, q3⟩ := HPP.out _ HJ9'.out
                have k0 := cell_regrown q0
                have k1 := cell_regrown q1
                have k2 := cell_regrown q2
                have k3 := cell_regrown q3
                clear q0 q1 q2 q3
                obtain ⟨y0, y1, y2, y3⟩ := HP'.out _ HJ9'.out
                have j0 := cell_regrown y0
                have j1 := cell_regrown y1
                have j2 := cell_regrown y2
                have j3 := cell_regrown y3
                clear y0 y1 y2 y3
                have r0 := fun (d : Nat) (os : Array Obj) => Calls.regrown_of (HO.out (grow (redrawn w9 d) os))
                have r1 := fun (d : Nat) (os : Array Obj) => Calls.regrown_of (HO'.out (grow (redrawn w9 d) os))
                go_wp2
                refine wp_region_quiet_below (by kernel_rfl) (by kernel_rfl) ?_
                repeat (go_big_quiet_step (first | with_reducible exact r0 _ _ | with_reducible exact r1 _ _))
                refine wpQuiet_nil ?_
                intro w10 hw'
                obtain ⟨⟨dq, osq⟩, hw''⟩ := hw'
                have hB : Below w9.heap.size w9 w10 := by rw [hw'']; exact below_regrown w9 dq osq
                clear hw'' r0 r1 k0 k1 k2 k3 j0 j1 j2 j3
                have HB10 := hidR (B3W HB9.out hB)
                have HJ10' := hidR (B3W HJ9'.out hB)
                clear hB
                go_wp2
                go_ret
                exact ⟨rfl, B3W HB1.out HB10.out⟩
              | true =>
                have hos := HOS.out (by simp) (by simp)
                by_cases hek : k = k'
                · subst hek
                  by_cases hep : p = p'
                  · subst hep
                    by_cases het : t = t'
                    · subst het
                      by_cases hex : x = x'
                      · subst hex
                        have hs1 : (S.toList == S'.toList) = true := by rw [hos]; simp
                        have hs2 : S.toList = S'.toList := by simpa using hs1
                        clear hos HOS
                        obtain ⟨q0, q1, q2, q3⟩ := HPP.out _ HJ9'.out
                        have k0 := cell_regrown q0
                        have k1 := cell_regrown q1
                        have k2 := cell_regrown q2
                        have k3 := cell_regrown q3
                        clear q0 q1 q2 q3
                        obtain ⟨y0, y1, y2, y3⟩ := HP'.out _ HJ9'.out
                        have j0 := cell_regrown y0
                        have j1 := cell_regrown y1
                        have j2 := cell_regrown y2
                        have j3 := cell_regrown y3
                        clear y0 y1 y2 y3
                        have r0 := fun (d : Nat) (os : Array Obj) => Calls.regrown_of (HO.out (grow (redrawn w9 d) os))
                        have r1 := fun (d : Nat) (os : Array Obj) => Calls.regrown_of (HO'.out (grow (redrawn w9 d) os))
                        have r2 := fun (d : Nat) (os : Array Obj) => Calls.regrown_of (HT.out (grow (redrawn w9 d) os) (B3W HB9.out (below_regrown w9 d os)))
                        have r3 := fun (d : Nat) (os : Array Obj) => Calls.regrown_of (HT'.out (grow (redrawn w9 d) os) (B3W HB9.out (below_regrown w9 d os)))
                        go_wp2
                        refine wp_region_quiet_below (by kernel_rfl) (by kernel_rfl) ?_
                        repeat (go_big_quiet_step (first | with_reducible exact r0 _ _ | with_reducible exact r1 _ _ | with_reducible exact r2 _ _ | with_reducible exact r3 _ _))
                        refine wpQuiet_nil ?_
                        intro w10 hw'
                        obtain ⟨⟨dq, osq⟩, hw''⟩ := hw'
                        have hB : Below w9.heap.size w9 w10 := by rw [hw'']; exact below_regrown w9 dq osq
                        clear hw'' r0 r1 r2 r3 k0 k1 k2 k3 j0 j1 j2 j3
                        have HB10 := hidR (B3W HB9.out hB)
                        have HJ10' := hidR (B3W HJ9'.out hB)
                        clear hB
                        go_wp2
                        go_ret
                        exact ⟨rfl, B3W HB1.out HB10.out⟩
                      · have hn : ¬ x.toList = x'.toList := fun e => hex (lb_inj (by rw [Lib.toList_data, Lib.toList_data] at e; exact e))
                        clear hex
                        have hs1 : (S.toList == S'.toList) = false := by rw [hos]; simp [hn]
                        have hs2 : ¬ S.toList = S'.toList := by simpa using hs1
                        clear hos HOS
                        obtain ⟨q0, q1, q2, q3⟩ := HPP.out _ HJ9'.out
                        have k0 := cell_regrown q0
                        have k1 := cell_regrown q1
                        have k2 := cell_regrown q2
                        have k3 := cell_regrown q3
                        clear q0 q1 q2 q3
                        obtain ⟨y0, y1, y2, y3⟩ := HP'.out _ HJ9'.out
                        have j0 := cell_regrown y0
                        have j1 := cell_regrown y1
                        have j2 := cell_regrown y2
                        have j3 := cell_regrown y3
                        clear y0 y1 y2 y3
                        have r0 := fun (d : Nat) (os : Array Obj) => Calls.regrown_of (HO.out (grow (redrawn w9 d) os))
                        have r1 := fun (d : Nat) (os : Array Obj) => Calls.regrown_of (HO'.out (grow (redrawn w9 d) os))
                        have r2 := fun (d : Nat) (os : Array Obj) => Calls.regrown_of (HT.out (grow (redrawn w9 d) os) (B3W HB9.out (below_regrown w9 d os)))
                        have r3 := fun (d : Nat) (os : Array Obj) => Calls.regrown_of (HT'.out (grow (redrawn w9 d) os) (B3W HB9.out (below_regrown w9 d os)))
                        go_wp2
                        refine wp_region_quiet_below (by kernel_rfl) (by kernel_rfl) ?_
                        repeat (go_big_quiet_step (first | with_reducible exact r0 _ _ | with_reducible exact r1 _ _ | with_reducible exact r2 _ _ | with_reducible exact r3 _ _))
                        refine wpQuiet_nil ?_
                        intro w10 hw'
                        obtain ⟨⟨dq, osq⟩, hw''⟩ := hw'
                        have hB : Below w9.heap.size w9 w10 := by rw [hw'']; exact below_regrown w9 dq osq
                        clear hw'' r0 r1 r2 r3 k0 k1 k2 k3 j0 j1 j2 j3
                        have HB10 := hidR (B3W HB9.out hB)
                        have HJ10' := hidR (B3W HJ9'.out hB)
                        clear hB
                        go_wp2
                        go_ret
                        exact ⟨rfl, B3W HB1.out HB10.out⟩
                    · have hn : ¬ t.toList = t'.toList := fun e => het (lb_inj (by rw [Lib.toList_data, Lib.toList_data] at e; exact e))
                      clear het
                      have hs1 : (S.toList == S'.toList) = false := by rw [hos]; simp [hn]
                      have hs2 : ¬ S.toList = S'.toList := by simpa using hs1
                      clear hos HOS
                      obtain ⟨q0, q1, q2, q3⟩ := HPP.out _ HJ9'.out
                      have k0 := cell_regrown q0
                      have k1 := cell_regrown q1
                      have k2 := cell_regrown q2
                      have k3 := cell_regrown q3
                      clear q0 q1 q2 q3
                      obtain ⟨y0, y1, y2, y3⟩ := HP'.out _ HJ9'.out
                      have j0 := cell_regrown y0
                      have j1 := cell_regrown y1
                      have j2 := cell_regrown y2
                      have j3 := cell_regrown y3
                      clear y0 y1 y2 y3
                      have r0 := fun (d : Nat) (os : Array Obj) => Calls.regrown_of (HO.out (grow (redrawn w9 d) os))
                      have r1 := fun (d : Nat) (os : Array Obj) => Calls.regrown_of (HO'.out (grow (redrawn w9 d) os))
                      have r2 := fun (d : Nat) (os : Array Obj) => Calls.regrown_of (HT.out (grow (redrawn w9 d) os) (B3W HB9.out (below_regrown w9 d os)))
                      have r3 := fun (d : Nat) (os : Array Obj) => Calls.regrown_of (HT'.out (grow (redrawn w9 d) os) (B3W HB9.out (below_regrown w9 d os)))
                      go_wp2
                      refine wp_region_quiet_below (by kernel_rfl) (by kernel_rfl) ?_
                      repeat (go_big_quiet_step (first | with_reducible exact r0 _ _ | with_reducible exact r1 _ _ | with_reducible exact r2 _ _ | with_reducible exact r3 _ _))
                      refine wpQuiet_nil ?_
                      intro w10 hw'
                      obtain ⟨⟨dq, osq⟩, hw''⟩ := hw'
                      have hB : Below w9.heap.size w9 w10 := by rw [hw'']; exact below_regrown w9 dq osq
                      clear hw'' r0 r1 r2 r3 k0 k1 k2 k3 j0 j1 j2 j3
                      have HB10 := hidR (B3W HB9.out hB)
                      have HJ10' := hidR (B3W HJ9'.out hB)
                      clear hB
                      go_wp2
                      go_ret
                      exact ⟨rfl, B3W HB1.out HB10.out⟩
                  · have hn : ¬ p.toList = p'.toList := fun e => hep (lb_inj (by rw [Lib.toList_data, Lib.toList_data] at e; exact e))
                    clear hep
                    have hs1 : (S.toList == S'.toList) = false := by rw [hos]; simp [hn]
                    have hs2 : ¬ S.toList = S'.toList := by simpa using hs1
                    clear hos HOS
                    obtain ⟨q0, q1, q2, q3⟩ := HPP.out _ HJ9'.out
                    have k0 := cell_regrown q0
                    have k1 := cell_regrown q1
                    have k2 := cell_regrown q2
                    have k3 := cell_regrown q3
                    clear q0 q1 q2 q3
                    obtain ⟨y0, y1, y2, y3⟩ := HP'.out _ HJ9'.out
                    have j0 := cell_regrown y0
                    have j1 := cell_regrown y1
                    have j2 := cell_regrown y2
                    have j3 := cell_regrown y3
                    clear y0 y1 y2 y3
                    have r0 := fun (d : Nat) (os : Array Obj) => Calls.regrown_of (HO.out (grow (redrawn w9 d) os))
                    have r1 := fun (d : Nat) (os : Array Obj) => Calls.regrown_of (HO'.out (grow (redrawn w9 d) os))
                    have r2 := fun (d : Nat) (os : Array Obj) => Calls.regrown_of (HT.out (grow (redrawn w9 d) os) (B3W HB9.out (below_regrown w9 d os)))
                    have r3 := fun (d : Nat) (os : Array Obj) => Calls.regrown_of (HT'.out (grow (redrawn w9 d) os) (B3W HB9.out (below_regrown w9 d os)))
                    go_wp2
                    refine wp_region_quiet_below (by kernel_rfl) (by kernel_rfl) ?_
                    repeat (go_big_quiet_step (first | with_reducible exact r0 _ _ | with_reducible exact r1 _ _ | with_reducible exact r2 _ _ | with_reducible exact r3 _ _))
                    refine wpQuiet_nil ?_
                    intro w10 hw'
                    obtain ⟨⟨dq, osq⟩, hw''⟩ := hw'
                    have hB : Below w9.heap.size w9 w10 := by rw [hw'']; exact below_regrown w9 dq osq
                    clear hw'' r0 r1 r2 r3 k0 k1 k2 k3 j0 j1 j2 j3
                    have HB10 := hidR (B3W HB9.out hB)
                    have HJ10' := hidR (B3W HJ9'.out hB)
                    clear hB
                    go_wp2
                    go_ret
                    exact ⟨rfl, B3W HB1.out HB10.out⟩
                · have hn : ¬ k = k' := hek
                  clear hek
                  have hs1 : (S.toList == S'.toList) = false := by rw [hos]; simp [hn]
                  have hs2 : ¬ S.toList = S'.toList := by simpa using hs1
                  clear hos HOS
                  obtain ⟨q0, q1, q2, q3⟩ := HPP.out _ HJ9'.out
                  have k0 := cell_regrown q0
                  have k1 := cell_regrown q1
                  have k2 := cell_regrown q2
                  have k3 := cell_regrown q3
                  clear q0 q1 q2 q3
                  obtain ⟨y0, y1, y2, y3⟩ := HP'.out _ HJ9'.out
                  have j0 := cell_regrown y0
                  have j1 := cell_regrown y1
                  have j2 := cell_regrown y2
                  have j3 := cell_regrown y3
                  clear y0 y1 y2 y3
                  have r0 := fun (d : Nat) (os : Array Obj) => Calls.regrown_of (HO.out (grow (redrawn w9 d) os))
                  have r1 := fun (d : Nat) (os : Array Obj) => Calls.regrown_of (HO'.out (grow (redrawn w9 d) os))
                  have r2 := fun (d : Nat) (os : Array Obj) => Calls.regrown_of (HT.out (grow (redrawn w9 d) os) (B3W HB9.out (below_regrown w9 d os)))
                  have r3 := fun (d : Nat) (os : Array Obj) => Calls.regrown_of (HT'.out (grow (redrawn w9 d) os) (B3W HB9.out (below_regrown w9 d os)))
                  go_wp2
                  refine wp_region_quiet_below (by kernel_rfl) (by kernel_rfl) ?_
                  repeat (go_big_quiet_step (first | with_reducible exact r0 _ _ | with_reducible exact r1 _ _ | with_reducible exact r2 _ _ | with_reducible exact r3 _ _))
                  refine wpQuiet_nil ?_
                  intro w10 hw'
                  obtain ⟨⟨dq, osq⟩, hw''⟩ := hw'
                  have hB : Below w9.heap.size w9 w10 := by rw [hw'']; exact below_regrown w9 dq osq
                  clear hw'' r0 r1 r2 r3 k0 k1 k2 k3 j0 j1 j2 j3
                  have HB10 := hidR (B3W HB9.out hB)
                  have HJ10' := hidR (B3W HJ9'.out hB)
                  clear hB
                  go_wp2
                  go_ret
                  exact ⟨rfl, B3W HB1.out HB10.out⟩
    · go_enter Tryd.func6, Tryd.ntmps6
      go_wp2
      go_ret
      exact ⟨rfl, Below.refl _ _⟩
  · go_enter Tryd.func6, Tryd.ntmps6
    go_wp2
    go_ret
    exact ⟨rfl, Below.refl _ _⟩
end Go.Proofs.YtgkfhcpegdlejaaDoor.Mk
