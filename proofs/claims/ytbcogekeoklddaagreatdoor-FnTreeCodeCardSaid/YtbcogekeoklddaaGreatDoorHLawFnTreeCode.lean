/-
  The walk of the law FnTreeCode, out of the contracts.
-/
import Derived.Lib.QuietBelow
import Derived.Test.YtbcogekeoklddaaGreatDoorHPk07
import Derived.Test.YtbcogekeoklddaaGreatDoorHTreeDoI
import Derived.Test.YtbcogekeoklddaaGreatDoorHImplGet
import Derived.Test.YtbcogekeoklddaaGreatDoorHListI
import Derived.Test.YtbcogekeoklddaaGreatDoorHFitOp
import Derived.Test.YtbcogekeoklddaaGreatDoorHPk13
import Derived.Test.YtbcogekeoklddaaGreatDoorHStrRow
import Derived.Test.YtbcogekeoklddaaGreatDoorHDoSz
namespace Go.Proofs.YtbcogekeoklddaaGreatDoor
open Go.RowKit Go.Lib Go.Sort

theorem Errs8.list {w : World} {ae : Int → Addr} (h : Errs8 w ae) : Errs2R w ae := ⟨h.two, fun q => h.ne 2 3 (by decide) (by decide) (by decide) q.symm, h.row 2 (by decide) (by decide), h.row 3 (by decide) (by decide)⟩
set_option maxHeartbeats 2000000 in
set_option maxRecDepth 100000 in
theorem walk_fnTreeCode (ae : Int → Addr) (a : Option Addr) (len cap : Nat) (zs : List Int) (w : World) (hErr : Errs8 w ae) (hw : IsRow .u8 w a len cap zs) :
    Calls Tryz.prog 7 #[.slice a len cap] w fun e w' => e = .returned (.bool true) ∧ Below w.heap.size w w' := by
  have hC := hidR hw.cod
  have HEr := hidR hErr
  clear hw hErr
  by_cases hl : len ≤ 1048576
  · go_enter Tryz.func7, Tryz.ntmps7
    go_wp2_with fail
    refine (DrawTreeDo_any _ a len cap hl hC.out).mono ?_
    rintro e w1 ⟨v, es, k, p, t, x, rfl, hL, hS, zp, zt, zx, hB⟩
    obtain ⟨a1, g1, o1, c1, rfl, ha1, hE, hc1, -⟩ := hL
    have HB := hidR hB
    replace HEr := hidR (HEr.out.below hB)
    have HE := hidR hE
    have HA := hidR ha1
    have HZ : Hid (∀ e ∈ es, e.p.size ≤ 16777216 ∧ e.x.size ≤ 16777216) := fun e he => ⟨by have := (hS.2 e he).1; omega, by have := (hS.2 e he).2; omega⟩
    have HZ16 := hidR hS.2
    have HV := hidR zt
    have hlen : es.length ≤ 17 := hS.1
    have hn1 : es.length ≤ 1048576 := by omega
    have hn2 : es.length ≤ 16777216 := by omega
    have hp : p.size ≤ 16777216 := by omega
    have ht : t.size ≤ 16777216 := by have := okS_size zt; omega
    have hx : x.size ≤ 16777216 := by omega
    clear hB hC hE ha1 hS zt
    have HIm := hidR (fun (W : World) (hEr : Errs8 W ae) (hW : Ents W g1 o1 es) => iTreeDo_any W a1 g1 o1 c1 es k p t x ae hEr hn2 hp ht hx HZ.out HA.out hW)
    have HSp := hidR (fun (W : World) (hW : Ents W g1 o1 es) => sTreeDo_any W a1 g1 o1 c1 es k p t x hn1 hc1 hp ht hx HZ.out HA.out hW)
    have HDS := hidR (do_lens es k p t x)
    obtain ⟨ds, hds⟩ : ∃ ds, doE es ⟨k, p, t, x⟩ = ds := ⟨_, rfl⟩
    obtain ⟨cc, hcc⟩ : ∃ cc, doC es ⟨k, p, t, x⟩ = cc := ⟨_, rfl⟩
    rw [hds, hcc] at HIm HSp
    rw [hds] at HDS
    obtain ⟨hdl, hdz⟩ := HDS.out
    have HDZ := hidR hdz
    clear hdz HDS
    have HCC := hidR hcc
    clear hds hcc
    have hcne : (cc != cc) = false := by simp
    have hceq : (cc == cc) = true := by simp
    have HTs := hidR (fun (W : World) (hW : Ents W g1 o1 es) => sTreeOk_any W a1 g1 o1 c1 es hn2 hc1 HZ.out HA.out hW)
    have HOp := hidR (fun (W : World) => iOpOk_any W k p t x hp ht)
    rw [fit_op] at HOp
    have HGi := hidR (fun (W : World) (hEr : Errs8 W ae) (hW : Ents W g1 o1 es) => iTreeGet_any W a1 g1 o1 c1 es p ae hEr.two hn2 hp HZ.out HA.out hW)
    have hups : (upS p).size ≤ 16777216 := by have := upS_sizeD p; omega
    have HGu := hidR (fun (W : World) (hEr : Errs8 W ae) (hW : Ents W g1 o1 es) => iTreeGet_any W a1 g1 o1 c1 es (upS p) ae hEr.two hn2 hups HZ.out HA.out hW)
    have HLi := hidR (fun (W : World) (hEr : Errs8 W ae) (hW : Ents W g1 o1 es) => iTreeList_any W a1 g1 o1 c1 es p ae hEr.list hn2 hp HZ.out HA.out hW)
    obtain ⟨W1, hW1⟩ : ∃ W1, W1 = w1.alloc (.cells #[.int .i64 k, .string p, .string t, .string x] 25) := ⟨_, rfl⟩
    have HO : Hid (Bx W1 w1.heap.size k p t x) := by rw [hW1]; exact Bx.new w1 k p t x 25
    have hB : Below w1.heap.size w1 W1 := by rw [hW1]; exact (Below.refl _ w1).alloc (Nat.le_refl _) _
    replace HB := hidR (B3' HB.out hB)
    replace HEr := hidR (HEr.out.below hB)
    replace HE := hidR (HE.out.below hB)
    clear hB
    go_wp2_with fail
    rw [← hW1]
    clear hW1
    refine (HIm.out _ HEr.out HE.out).mono ?_
    rintro e w2 ⟨vx, rfl, hox, hB⟩
    replace HB := hidR (B3' HB.out hB)
    replace HO := hidR (HO.out.bel hB)
    replace HEr := hidR (HEr.out.below hB)
    replace HE := hidR (HE.out.below hB)
    obtain ⟨ax, gx, cx, rfl, hax, hEx, hcx, -⟩ := hox.at
    have HX := hidR hEx
    have HAX := hidR hax
    clear hox hEx hax
    clear hB
    obtain ⟨b0, b1, b2, b3, -, -, -, -⟩ := HO.out
    go_wp2_with fail
    refine (HSp.out _ HE.out).mono ?_
    rintro e w3 ⟨vy, rfl, hoy, hB⟩
    clear b0 b1 b2 b3
    replace HB := hidR (B3' HB.out hB)
    replace HO := hidR (HO.out.bel hB)
    replace HEr := hidR (HEr.out.below hB)
    replace HE := hidR (HE.out.below hB)
    replace HX := hidR (HX.out.below hB)
    obtain ⟨ay, gy, cy, rfl, hay, hEy, hcy, -⟩ := hoy.at
    have HY := hidR hEy
    have HAY := hidR hay
    clear hoy hEy hay
    clear hB
    cases htr : treeE es with
    | false =>
      rw [htr] at HTs
      obtain ⟨b0, b1, b2, b3, -, -, -, -⟩ := HO.out
      go_wp2_with fail
      refine (HTs.out _ HE.out).mono ?_
      rintro e w4 ⟨rfl, hB⟩
      clear b0 b1 b2 b3
      replace HB := hidR (B3' HB.out hB)
      replace HO := hidR (HO.out.bel hB)
      clear hB
      obtain ⟨b0, b1, b2, b3, -, -, -, -⟩ := HO.out
      go_wp2
      go_ret
      exact ⟨rfl, HB.out⟩
    | true =>
      rw [htr] at HTs
      cases hop : opB ⟨k, p, t, x⟩ with
      | false =>
        rw [hop] at HOp
        obtain ⟨b0, b1, b2, b3, -, -, -, -⟩ := HO.out
        go_wp2_with fail
        refine (HTs.out _ HE.out).mono ?_
        rintro e w4 ⟨rfl, hB⟩
        clear b0 b1 b2 b3
        replace HB := hidR (B3' HB.out hB)
        replace HO := hidR (HO.out.bel hB)
        clear hB
        obtain ⟨b0, b1, b2, b3, -, -, -, -⟩ := HO.out
        go_wp2_with fail
        refine (HOp.out _).mono ?_
        rintro e w5 ⟨rfl, hB⟩
        clear b0 b1 b2 b3
        replace HB := hidR (B3' HB.out hB)
        replace HO := hidR (HO.out.bel hB)
        clear hB
        obtain ⟨b0, b1, b2, b3, -, -, -, -⟩ := HO.out
        go_wp2
        go_ret
        exact ⟨rfl, HB.out⟩
      | true =>
        rw [hop] at HOp
        have hcode := HCC.out
        rw [codeC_do htr hop] at hcode
        have hpp := (opB_parts hop).1
        have hkk := (opB_parts hop).2
        have h16 := (treeE_tr htr).2
        obtain ⟨b0, b1, b2, b3, -, -, -, -⟩ := HO.out
        go_wp2_with fail
        refine (HTs.out _ HE.out).mono ?_
        rintro e w4 ⟨rfl, hB⟩
        clear b0 b1 b2 b3
        replace HB := hidR (B3' HB.out hB)
        replace HO := hidR (HO.out.bel hB)
        replace HEr := hidR (HEr.out.below hB)
        replace HE := hidR (HE.out.below hB)
        clear hB
        obtain ⟨b0, b1, b2, b3, -, -, -, -⟩ := HO.out
        go_wp2_with fail
        refine (HOp.out _).mono ?_
        rintro e w5 ⟨rfl, hB⟩
        clear b0 b1 b2 b3
        replace HB := hidR (B3' HB.out hB)
        replace HO := hidR (HO.out.bel hB)
        replace HEr := hidR (HEr.out.below hB)
        replace HE := hidR (HE.out.below hB)
        clear hB
        have hcodes : (k = 1 ∧ cc = newC es p) ∨ (k = 2 ∧ cc = putC es p) ∨ (k = 3 ∧ cc = offC es 3 p) ∨ (k = 4 ∧ cc = offC es 4 p) ∨ (k = 5 ∧ cc = moveC es p t) := by
          rw [← hcode]
          rcases hkk with ⟨h, _⟩ | ⟨h, _⟩ | ⟨h, _⟩ | ⟨h, _⟩ | ⟨h, _⟩
          all_goals
            have h' : k = _ := h
            subst h'
            simp [codeC]
        have HN := hidR (new_get htr p)
        have HP := hidR (put_get htr p)
        have HF3 := hidR (off_get htr 3 hpp)
        have HF4 := hidR (off_get htr 4 hpp)
        have HM : Hid ((tgetE es p).2 = false → moveC es p t = 2) := fun h => move_noneD htr h
        have HL16 := hidR (list_lenD es p)
        clear hkk hcode HCC
        obtain ⟨te, hte⟩ : ∃ te, (tgetE es p).1 = te := ⟨_, rfl⟩
        obtain ⟨th, hth⟩ : ∃ th, (tgetE es p).2 = th := ⟨_, rfl⟩
        obtain ⟨ue, hue⟩ : ∃ ue, (tgetE es (upS p)).1 = ue := ⟨_, rfl⟩
        obtain ⟨uh, huh⟩ : ∃ uh, (tgetE es (upS p)).2 = uh := ⟨_, rfl⟩
        obtain ⟨kl, hkl⟩ : ∃ kl, listE es p = kl := ⟨_, rfl⟩
        obtain ⟨kc, hkc⟩ : ∃ kc, listC es p = kc := ⟨_, rfl⟩
        rw [hte, hth] at HGi
        rw [hue, huh] at HGu
        rw [hkl, hkc] at HLi
        rw [hth, hue, huh] at HN
        rw [hth, hue, huh, hte] at HP
        rw [hth, hte, hkl] at HF3 HF4
        rw [hth] at HM
        rw [hkl] at HL16
        clear hte hth hue huh hkl hkc
        obtain ⟨b0, b1, b2, b3, -, -, -, -⟩ := HO.out
        go_wp2_with fail
        refine (HGi.out _ HEr.out HE.out).mono ?_
        rintro e w6 ⟨rfl, hB⟩
        clear b0 b1 b2 b3
        replace HB := hidR (B3' HB.out hB)
        replace HO := hidR (HO.out.bel hB)
        replace HEr := hidR (HEr.out.below hB)
        replace HE := hidR (HE.out.below hB)
        clear hB
        have hB : Below w6.heap.size w6 (w6.alloc (.cells #[.string te.p, .bool te.d, .string te.x] 34)) := (Below.refl _ _).alloc (Nat.le_refl _) _
        replace HB := hidR (B3' HB.out hB)
        replace HO := hidR (HO.out.bel hB)
        replace HEr := hidR (HEr.out.below hB)
        replace HE := hidR (HE.out.below hB)
        clear hB
        have hT1 : (w6.alloc (.cells #[.string te.p, .bool te.d, .string te.x] 34)).cell? ⟨w6.heap.size, 1, none⟩ = some (.bool te.d) := by simp
        have HTd := hidR hT1
        clear hT1
        obtain ⟨b0, b1, b2, b3, -, -, -, -⟩ := HO.out
        go_wp2_with fail
        refine (iPathUp_any p hp _).mono ?_
        rintro e w7 ⟨rfl, hB⟩
        clear b0 b1 b2 b3
        replace HB := hidR (B3' HB.out hB)
        replace HO := hidR (HO.out.bel hB)
        replace HEr := hidR (HEr.out.below hB)
        replace HE := hidR (HE.out.below hB)
        have HTd2 := hidR (below_cell hB HTd.out)
        clear HTd
        have HTd := HTd2
        clear HTd2
        clear hB
        obtain ⟨b0, b1, b2, b3, -, -, -, -⟩ := HO.out
        go_wp2_with fail
        refine (HGu.out _ HEr.out HE.out).mono ?_
        rintro e w8 ⟨rfl, hB⟩
        clear b0 b1 b2 b3
        replace HB := hidR (B3' HB.out hB)
        replace HO := hidR (HO.out.bel hB)
        replace HEr := hidR (HEr.out.below hB)
        replace HE := hidR (HE.out.below hB)
        have HTd2 := hidR (below_cell hB HTd.out)
        clear HTd
        have HTd := HTd2
        clear HTd2
        clear hB
        have hB9 : Below w8.heap.size w8 (w8.alloc (.cells #[.string ue.p, .bool ue.d, .string ue.x] 34)) := (Below.refl _ _).alloc (Nat.le_refl _) _
        have HTd2 := hidR (below_cell hB9 HTd.out)
        clear HTd hB9
        have HTd := HTd2
        clear HTd2
        have hB : Below w8.heap.size w8 (w8.alloc (.cells #[.string ue.p, .bool ue.d, .string ue.x] 34)) := (Below.refl _ _).alloc (Nat.le_refl _) _
        replace HB := hidR (B3' HB.out hB)
        replace HO := hidR (HO.out.bel hB)
        replace HEr := hidR (HEr.out.below hB)
        replace HE := hidR (HE.out.below hB)
        clear hB
        have hU1 : (w8.alloc (.cells #[.string ue.p, .bool ue.d, .string ue.x] 34)).cell? ⟨w8.heap.size, 1, none⟩ = some (.bool ue.d) := by simp
        have HUd := hidR hU1
        clear hU1
        obtain ⟨b0, b1, b2, b3, -, -, -, -⟩ := HO.out
        go_wp2_with fail
        refine (HLi.out _ HEr.out HE.out).mono ?_
        rintro e w9 ⟨vl, rfl, hol, hB⟩
        clear b0 b1 b2 b3
        replace HB := hidR (B3' HB.out hB)
        replace HO := hidR (HO.out.bel hB)
        have HTd2 := hidR (below_cell hB HTd.out)
        have HUd2 := hidR (below_cell hB HUd.out)
        clear HTd HUd
        have hT := HTd2.out
        have hU := HUd2.out
        clear HTd2 HUd2
        obtain ⟨al, gl, cl, rfl, -, -⟩ := StrB.of_row hol
        clear hol
        clear hB
        obtain ⟨b0, b1, b2, b3, -, -, -, -⟩ := HO.out
        have hkn : kl.length ≤ 17 := by have := HL16.out; omega
        have d16 : (es.length = 16 ∧ ((es.length : Int) == 16) = true) ∨ (es.length < 16 ∧ ((es.length : Int) == 16) = false) := by
          by_cases h : es.length = 16
          · exact .inl ⟨h, by rw [beq_iff_eq]; omega⟩
          · exact .inr ⟨by omega, by rw [beq_eq_false_iff_ne]; omega⟩
        have dk : (0 < kl.length ∧ (0 : Int) < (kl.length : Int)) ∨ (kl.length = 0 ∧ ¬ (0 : Int) < (kl.length : Int)) := by omega
        obtain ⟨ud, hud⟩ : ∃ ud, ue.d = ud := ⟨_, rfl⟩
        obtain ⟨td, htd⟩ : ∃ td, te.d = td := ⟨_, rfl⟩
        rw [hud] at hU HN HP
        rw [htd] at hT HP HF3 HF4
        clear HL16 hpp
        rcases hcodes with ⟨rfl, hc⟩ | ⟨rfl, hc⟩ | ⟨rfl, hc⟩ | ⟨rfl, hc⟩ | ⟨rfl, hc⟩
        · rw [HN.out] at hc
          clear HN HP HF3 HF4 HM dk hT
          cases uh
          · obtain rfl : cc = 2 := by rw [hc, if_pos (by decide)]
            clear hc
            go_wp2
            go_ret
            exact ⟨rfl, HB.out⟩
          · cases ud
            · obtain rfl : cc = 3 := by rw [hc, if_neg (by decide), if_pos (by decide)]
              clear hc
              go_wp2
              go_ret
              exact ⟨rfl, HB.out⟩
            · cases th
              · rcases d16 with ⟨h, h'⟩ | ⟨h, h'⟩
                · obtain rfl : cc = 8 := by rw [hc, if_neg (by decide), if_neg (by decide), if_neg (by decide), if_pos (by omega)]
                  clear hc
                  go_wp2
                  go_ret
                  exact ⟨rfl, HB.out⟩
                · obtain rfl : cc = 0 := by rw [hc, if_neg (by decide), if_neg (by decide), if_neg (by decide), if_neg (by omega)]
                  clear hc
                  go_wp2
                  go_ret
                  exact ⟨rfl, HB.out⟩
              · obtain rfl : cc = 4 := by rw [hc, if_neg (by decide), if_neg (by decide), if_pos (by decide)]
                clear hc
                go_wp2
                go_ret
                exact ⟨rfl, HB.out⟩
        · rw [HP.out] at hc
          clear HN HP HF3 HF4 HM dk
          cases uh
          · obtain rfl : cc = 2 := by rw [hc, if_pos (by decide)]
            clear hc
            go_wp2
            go_ret
            exact ⟨rfl, HB.out⟩
          · cases ud
            · obtain rfl : cc = 3 := by rw [hc, if_neg (by decide), if_pos (by decide)]
              clear hc
              go_wp2
              go_ret
              exact ⟨rfl, HB.out⟩
            · cases th
              · rcases d16 with ⟨h, h'⟩ | ⟨h, h'⟩
                · obtain rfl : cc = 8 := by rw [hc, if_neg (by decide), if_neg (by decide), if_neg (by decide), if_pos (by omega)]
                  clear hc
                  go_wp2
                  go_ret
                  exact ⟨rfl, HB.out⟩
                · obtain rfl : cc = 0 := by rw [hc, if_neg (by decide), if_neg (by decide), if_neg (by decide), if_neg (by omega)]
                  clear hc
                  go_wp2
                  go_ret
                  exact ⟨rfl, HB.out⟩
              · cases td
                · obtain rfl : cc = 0 := by rw [hc, if_neg (by decide), if_neg (by decide), if_pos (by decide), if_neg (by decide)]
                  clear hc
                  go_wp2
                  go_ret
                  exact ⟨rfl, HB.out⟩
                · obtain rfl : cc = 5 := by rw [hc, if_neg (by decide), if_neg (by decide), if_pos (by decide), if_pos (by decide)]
                  clear hc
                  go_wp2
                  go_ret
                  exact ⟨rfl, HB.out⟩
        · rw [HF3.out] at hc
          clear HN HP HF3 HF4 HM d16 hU
          cases th
          · obtain rfl : cc = 2 := by rw [hc, if_pos (by decide)]
            clear hc
            go_wp2
            go_ret
            exact ⟨rfl, HB.out⟩
          · cases td
            · rcases dk with ⟨h, h'⟩ | ⟨h, h'⟩
              · obtain rfl : cc = 6 := by rw [hc, if_neg (by decide), if_neg (by decide), if_neg (by decide), if_pos (by omega)]
                clear hc
                go_wp2
                go_ret
                exact ⟨rfl, HB.out⟩
              · obtain rfl : cc = 0 := by rw [hc, if_neg (by decide), if_neg (by decide), if_neg (by decide), if_neg (by omega)]
                clear hc
                go_wp2
                go_ret
                exact ⟨rfl, HB.out⟩
            · obtain rfl : cc = 5 := by rw [hc, if_neg (by decide), if_pos (by decide)]
              clear hc
              go_wp2
              go_ret
              exact ⟨rfl, HB.out⟩
        · rw [HF4.out] at hc
          clear HN HP HF3 HF4 HM d16 hU
          cases th
          · obtain rfl : cc = 2 := by rw [hc, if_pos (by decide)]
            clear hc
            go_wp2
            go_ret
            exact ⟨rfl, HB.out⟩
          · cases td
            · obtain rfl : cc = 3 := by rw [hc, if_neg (by decide), if_neg (by decide), if_pos (by decide)]
              clear hc
              go_wp2
              go_ret
              exact ⟨rfl, HB.out⟩
            · rcases dk with ⟨h, h'⟩ | ⟨h, h'⟩
              · obtain rfl : cc = 6 := by rw [hc, if_neg (by decide), if_neg (by decide), if_neg (by decide), if_pos (by omega)]
                clear hc
                go_wp2
                go_ret
                exact ⟨rfl, HB.out⟩
              · obtain rfl : cc = 0 := by rw [hc, if_neg (by decide), if_neg (by decide), if_neg (by decide), if_neg (by omega)]
                clear hc
                go_wp2
                go_ret
                exact ⟨rfl, HB.out⟩
        · clear HN HP HF3 HF4 d16 dk hU hT
          cases th
          · obtain rfl : cc = 2 := by rw [hc]; exact HM.out rfl
            clear hc HM
            go_wp2
            go_ret
            exact ⟨rfl, HB.out⟩
          · clear hc HM
            by_cases h2 : cc = 2
            · subst h2
              go_wp2
              go_ret
              exact ⟨rfl, HB.out⟩
            · have h2' : (cc == 2) = false := by rw [beq_eq_false_iff_ne]; exact h2
              go_wp2
              go_ret
              exact ⟨rfl, HB.out⟩
  · go_enter Tryz.func7, Tryz.ntmps7
    go_wp2
    go_ret
    exact ⟨rfl, Below.refl _ _⟩
end Go.Proofs.YtbcogekeoklddaaGreatDoor
