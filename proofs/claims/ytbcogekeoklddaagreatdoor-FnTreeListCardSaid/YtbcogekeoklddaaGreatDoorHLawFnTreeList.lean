/-
  The walk of the law FnTreeList, out of the contracts.
-/
import Derived.Lib.QuietBelow
import Derived.Test.YtbcogekeoklddaaGreatDoorHDrawList
import Derived.Test.YtbcogekeoklddaaGreatDoorHWpWords
import Derived.Test.YtbcogekeoklddaaGreatDoorHImplGet
import Derived.Test.YtbcogekeoklddaaGreatDoorHListI
import Derived.Test.YtbcogekeoklddaaGreatDoorHTreeList
import Derived.Test.YtbcogekeoklddaaGreatDoorHPathOkW
import Derived.Test.YtbcogekeoklddaaGreatDoorHImpl3
import Derived.Test.YtbcogekeoklddaaGreatDoorHDoSz
namespace Go.Proofs.YtbcogekeoklddaaGreatDoor
open Go.RowKit Go.Lib Go.Sort

theorem kids_size {es : List E} {s n : ByteArray} (h : n ∈ listE es s) : n.size ≤ 3 := by
  by_cases hc : listC es s = 0
  · obtain ⟨h1, h2, _, h4⟩ := list_dir hc
    rw [h4] at h
    have := ((kids_mem (treeE_tr h1).1 h2 n).1 h).1
    unfold nameB at this
    rw [Bool.and_eq_true] at this
    exact (of_decide_eq_true this.1).2
  · rw [list_no (c := listC es s) rfl hc] at h; cases h
theorem sum_le (es ds : List E) : sumE es ds ≤ ds.length * es.length := by
  unfold sumE
  induction ds with
  | nil => simp
  | cons d r ih =>
    have := list_lenD es d.p
    simp only [List.map_cons, List.sum_cons, List.length_cons, Nat.succ_mul]
    omega
set_option maxHeartbeats 4000000 in
set_option maxRecDepth 100000 in
theorem walk_fnTreeList (ae : Int → Addr) (a : Option Addr) (len cap : Nat) (zs : List Int) (w : World) (hErr : Errs2R w ae) (hw : IsRow .u8 w a len cap zs) :
    Calls Tryz.prog 5 #[.slice a len cap] w fun e w' => e = .returned (.bool true) ∧ Below w.heap.size w w' := by
  have hC := hidR hw.cod
  have HEr := hidR hErr
  clear hw hErr
  by_cases hl : len ≤ 1048576
  · go_enter Tryz.func5, Tryz.ntmps5
    go_wp2_with fail
    refine (DrawTreeList_any _ a len cap hl hC.out).mono ?_
    rintro e w1 ⟨v, es, s, rfl, hL, hS, hs, hB⟩
    obtain ⟨a1, g1, o1, c1, rfl, ha1, hE, hc1, -⟩ := hL
    have HB := hidR hB
    replace HEr := hidR (HEr.out.below hB)
    have HE := hidR hE
    have HA := hidR ha1
    have HZ : Hid (∀ e ∈ es, e.p.size ≤ 16777216 ∧ e.x.size ≤ 16777216) := fun e he => ⟨by have := (hS.2 e he).1; omega, by have := (hS.2 e he).2; omega⟩
    have hlen : es.length ≤ 17 := hS.1
    have hn1 : es.length ≤ 1048576 := by omega
    have hn2 : es.length ≤ 16777216 := by omega
    have hs2 : s.size ≤ 16777216 := by omega
    clear hB hC hE ha1 hS
    have HGi := hidR (fun (W : World) (u : ByteArray) (hu : u.size ≤ 16777216) (hEr : Errs2R W ae) (hW : Ents W g1 o1 es) => iTreeGet_any W a1 g1 o1 c1 es u ae hEr.errs hn2 hu HZ.out HA.out hW)
    have HL := hidR (fun (W : World) (u : ByteArray) (hu : u.size ≤ 16777216) (hEr : Errs2R W ae) (hW : Ents W g1 o1 es) => iTreeList_any W a1 g1 o1 c1 es u ae hEr hn2 hu HZ.out HA.out hW)
    have HL1 := hidR (fun (W : World) (hEr : Errs2R W ae) (hW : Ents W g1 o1 es) => HL.out W s hs2 hEr hW)
    have HLs := hidR (fun (W : World) (hW : Ents W g1 o1 es) => sTreeList_any W a1 g1 o1 c1 es s hn1 hc1 hs2 HZ.out HA.out hW)
    have HTs := hidR (fun (W : World) (hW : Ents W g1 o1 es) => sTreeOk_any W a1 g1 o1 c1 es hn2 hc1 HZ.out HA.out hW)
    have HPo := hidR (fun (W : World) => iPathOk_anyW s (by omega) W)
    have HG1 := hidR (fun (W : World) (hEr : Errs2R W ae) (hW : Ents W g1 o1 es) => HGi.out W s hs2 hEr hW)
    have hcase : (treeE es = false ∧ listC es s = 1 ∧ listE es s = []) ∨ (treeE es = true ∧ isRoot s = false ∧ pathB s = false ∧ listC es s = 1 ∧ listE es s = []) ∨
        (treeE es = true ∧ stemOk s = true ∧ (tgetE es s).2 = false ∧ listC es s = 2 ∧ listE es s = []) ∨
        (treeE es = true ∧ stemOk s = true ∧ (tgetE es s).2 = true ∧ (tgetE es s).1.d = false ∧ listC es s = 3 ∧ listE es s = []) ∨
        (treeE es = true ∧ stemOk s = true ∧ (tgetE es s).2 = true ∧ (tgetE es s).1.d = true ∧ listC es s = 0) := by
      cases htr : treeE es with
      | false =>
        have : listC es s = 1 := listC_bad (by rw [htr]; rfl)
        exact .inl ⟨rfl, this, list_no this (by decide)⟩
      | true =>
        right
        cases hst : stemOk s with
        | false =>
          have h1 : isRoot s = false ∧ pathB s = false := by
            unfold stemOk at hst; rw [Bool.or_eq_false_iff] at hst; exact hst
          have : listC es s = 1 := listC_bad (by rw [htr]; exact hst)
          exact .inl ⟨rfl, h1.1, h1.2, this, list_no this (by decide)⟩
        | true =>
          right
          have hc := listC_get htr hst
          cases h2 : (tgetE es s).2 with
          | false =>
            rw [h2, if_pos rfl] at hc
            exact .inl ⟨rfl, rfl, rfl, hc, list_no hc (by decide)⟩
          | true =>
            right
            rw [h2, if_neg (by decide)] at hc
            cases h3 : (tgetE es s).1.d with
            | false =>
              rw [h3, if_pos rfl] at hc
              exact .inl ⟨rfl, rfl, rfl, rfl, hc, list_no hc (by decide)⟩
            | true =>
              rw [h3, if_neg (by decide)] at hc
              exact .inr ⟨rfl, rfl, rfl, rfl, hc⟩
    have HLT : Hid (listC es s = 0 → ∀ n ∈ listE es s, joinOk s n = true ∧ (tgetE es (joinS s n)).2 = true ∧ n.size ≤ 3) := fun h n hn => ⟨(list_there h hn).1, (list_there h hn).2, kids_size hn⟩
    have HRise := hidR (list_rise (es := es) (s := s))
    have HLen := hidR (list_lenD es s)
    obtain ⟨te, hte⟩ : ∃ te, (tgetE es s).1 = te := ⟨_, rfl⟩
    obtain ⟨th, hth⟩ : ∃ th, (tgetE es s).2 = th := ⟨_, rfl⟩
    obtain ⟨ls, hls⟩ : ∃ ls, listE es s = ls := ⟨_, rfl⟩
    obtain ⟨cc, hcc⟩ : ∃ cc, listC es s = cc := ⟨_, rfl⟩
    rw [hte, hth] at HG1 hcase
    rw [hls, hcc] at HL1 HLs hcase HLT
    rw [hls] at HRise HLen
    clear hte hth hls hcc
    have hln : ls.length ≤ 17 := by have := HLen.out; omega
    have hcne : (cc != cc) = false := by simp
    clear HLen
    go_wp2_with fail
    refine (HL1.out _ HEr.out HE.out).mono ?_
    rintro e w2 ⟨vl, rfl, hol, hB⟩
    replace HB := hidR (B3' HB.out hB)
    replace HEr := hidR (HEr.out.below hB)
    replace HE := hidR (HE.out.below hB)
    obtain ⟨al, gl, cl, rfl, hal, hSl⟩ := StrB.of_row hol
    have HS := hidR hSl
    have HAL := hidR hal
    clear hol hSl hal
    clear hB
    go_wp2_with fail
    refine (HLs.out _ HE.out).mono ?_
    rintro e w3 ⟨vm, rfl, hom, hB⟩
    replace HB := hidR (B3' HB.out hB)
    replace HEr := hidR (HEr.out.below hB)
    replace HE := hidR (HE.out.below hB)
    replace HS := hidR (HS.out.below hB)
    obtain ⟨am, gm, cm, rfl, ham, hSm⟩ := StrB.of_row hom
    have HM := hidR hSm
    have HAM := hidR ham
    clear hom hSm ham
    clear hB
    go_wp2_with fail
    refine (wpWords_same _ al gl cl am gm cm ls (by omega) HAL.out HAM.out HS.out HM.out).mono ?_
    rintro e w4 ⟨rfl, hB⟩
    replace HB := hidR (B3' HB.out hB)
    replace HEr := hidR (HEr.out.below hB)
    replace HE := hidR (HE.out.below hB)
    replace HS := hidR (HS.out.below hB)
    clear HM HAM
    clear hB
    go_wp2_with fail
    refine (HG1.out _ HEr.out HE.out).mono ?_
    rintro e w5 ⟨rfl, hB⟩
    replace HB := hidR (B3' HB.out hB)
    replace HEr := hidR (HEr.out.below hB)
    replace HE := hidR (HE.out.below hB)
    replace HS := hidR (HS.out.below hB)
    clear hB
    have hB : Below w5.heap.size w5 (w5.alloc (.cells #[.string te.p, .bool te.d, .string te.x] 34)) := (Below.refl _ _).alloc (Nat.le_refl _) _
    replace HB := hidR (B3' HB.out hB)
    replace HEr := hidR (HEr.out.below hB)
    replace HE := hidR (HE.out.below hB)
    replace HS := hidR (HS.out.below hB)
    clear hB
    have hT : (w5.alloc (.cells #[.string te.p, .bool te.d, .string te.x] 34)).cell? ⟨w5.heap.size, 1, none⟩ = some (.bool te.d) := by simp
    have HTd := hidR hT
    clear hT
    rcases hcase with ⟨htr, rfl, rfl⟩ | ⟨htr, hr, hpb, rfl, rfl⟩ | ⟨htr, hst, rfl, rfl, rfl⟩ | ⟨htr, hst, rfl, htd, rfl, rfl⟩ | ⟨htr, hst, rfl, htd, rfl⟩
    · rw [htr] at HTs
      go_wp2_with fail
      refine (HTs.out _ HE.out).mono ?_
      rintro e w6 ⟨rfl, hB⟩
      replace HB := hidR (B3' HB.out hB)
      clear hB
      go_wp2
      go_ret
      exact ⟨rfl, HB.out⟩
    · rw [htr] at HTs
      have hr' : (s.toList == [47]) = false := hr
      have hr2 : ¬ s.toList = [47] := by simpa using hr'
      rw [hpb] at HPo
      go_wp2_with fail
      refine (HTs.out _ HE.out).mono ?_
      rintro e w6 ⟨rfl, hB⟩
      replace HB := hidR (B3' HB.out hB)
      clear hB
      go_wp2_with fail
      refine (HPo.out _).mono ?_
      rintro e w7 ⟨rfl, hB⟩
      replace HB := hidR (B3' HB.out hB)
      clear hB
      go_wp2
      go_ret
      exact ⟨rfl, HB.out⟩
    · rw [htr] at HTs
      go_wp2_with fail
      refine (HTs.out _ HE.out).mono ?_
      rintro e w6 ⟨rfl, hB⟩
      replace HB := hidR (B3' HB.out hB)
      replace HEr := hidR (HEr.out.below hB)
      replace HE := hidR (HE.out.below hB)
      replace HS := hidR (HS.out.below hB)
      have HTd2 := hidR (below_cell hB HTd.out)
      clear HTd
      have HTd := HTd2
      clear HTd2
      clear hB
      cases hr : isRoot s with
      | true =>
        have hr' : (s.toList == [47]) = true := hr
        have hr2 : s.toList = [47] := by simpa using hr'
        have hT := HTd.out
        go_wp2
        go_ret
        exact ⟨rfl, HB.out⟩
      | false =>
        have hr' : (s.toList == [47]) = false := hr
        have hr2 : ¬ s.toList = [47] := by simpa using hr'
        have hpb : pathB s = true := by unfold stemOk at hst; rw [hr] at hst; simpa using hst
        rw [hpb] at HPo
        go_wp2_with fail
        refine (HPo.out _).mono ?_
        rintro e w7 ⟨rfl, hB⟩
        replace HB := hidR (B3' HB.out hB)
        replace HEr := hidR (HEr.out.below hB)
        replace HE := hidR (HE.out.below hB)
        replace HS := hidR (HS.out.below hB)
        have HTd2 := hidR (below_cell hB HTd.out)
        clear HTd
        have HTd := HTd2
        clear HTd2
        clear hB
        have hT := HTd.out
        go_wp2
        go_ret
        exact ⟨rfl, HB.out⟩
    · have HTD := hidR htd
      clear htd
      rw [htr] at HTs
      go_wp2_with fail
      refine (HTs.out _ HE.out).mono ?_
      rintro e w6 ⟨rfl, hB⟩
      replace HB := hidR (B3' HB.out hB)
      replace HEr := hidR (HEr.out.below hB)
      replace HE := hidR (HE.out.below hB)
      replace HS := hidR (HS.out.below hB)
      have HTd2 := hidR (below_cell hB HTd.out)
      clear HTd
      have HTd := HTd2
      clear HTd2
      clear hB
      cases hr : isRoot s with
      | true =>
        have hr' : (s.toList == [47]) = true := hr
        have hr2 : s.toList = [47] := by simpa using hr'
        have hT := HTd.out
        rw [HTD.out] at hT
        go_wp2
        go_ret
        exact ⟨rfl, HB.out⟩
      | false =>
        have hr' : (s.toList == [47]) = false := hr
        have hr2 : ¬ s.toList = [47] := by simpa using hr'
        have hpb : pathB s = true := by unfold stemOk at hst; rw [hr] at hst; simpa using hst
        rw [hpb] at HPo
        go_wp2_with fail
        refine (HPo.out _).mono ?_
        rintro e w7 ⟨rfl, hB⟩
        replace HB := hidR (B3' HB.out hB)
        replace HEr := hidR (HEr.out.below hB)
        replace HE := hidR (HE.out.below hB)
        replace HS := hidR (HS.out.below hB)
        have HTd2 := hidR (below_cell hB HTd.out)
        clear HTd
        have HTd := HTd2
        clear HTd2
        clear hB
        have hT := HTd.out
        rw [HTD.out] at hT
        go_wp2
        go_ret
        exact ⟨rfl, HB.out⟩
    · have HTD := hidR htd
      clear htd
      have HRoot := hidR (list_root htr)
      have HSelf := hidR (fun (e : E) (he : e ∈ es) => list_self htr he)
      have HSum := hidR (list_sum htr)
      rw [htr] at HTs
      go_wp2_with fail
      refine (HTs.out _ HE.out).mono ?_
      rintro e w6 ⟨rfl, hB⟩
      replace HB := hidR (B3' HB.out hB)
      replace HEr := hidR (HEr.out.below hB)
      replace HE := hidR (HE.out.below hB)
      replace HS := hidR (HS.out.below hB)
      have HTd2 := hidR (below_cell hB HTd.out)
      clear HTd
      have HTd := HTd2
      clear HTd2
      clear hB
      cases hr : isRoot s with
      | true =>
        have hr' : (s.toList == [47]) = true := hr
        have hr2 : s.toList = [47] := by simpa using hr'
        have hT := HTd.out
        rw [HTD.out] at hT
        go_wp2_with fail
        clear hT
        go_loopw [11] (fun iv wl => ∃ k : Nat, k ≤ ls.length ∧ iv = .int .i64 k ∧ Hid (Below w.heap.size w wl) ∧ Hid (Errs2R wl ae) ∧ Hid (Ents wl g1 o1 es) ∧ Hid (StrB wl gl ls)) (fun iv _ => ls.length - (RowKit.intOf iv).toNat)
        case atStart => exact ⟨0, Nat.zero_le _, rfl, HB, HEr, HE, HS⟩
        case round =>
          clear HB HEr HE HS HTd
          obtain ⟨k, hk, rfl, HB, HEr, HE, HS⟩ := hrel
          by_cases hlt : k < ls.length
          · obtain rfl := HAL.out (by omega)
            have s0 := HS.out k hlt
            obtain ⟨j1, j2, j3⟩ := HLT.out (by first | rfl | trivial) ls[k] (List.getElem_mem _)
            have HLs2 : Hid (0 < k → Op.bytesLess (ls[k - 1]'(by omega)).toList ls[k].toList = true) := fun h => List.pairwise_iff_getElem.1 HRise.out (k - 1) k (by omega) hlt (by omega)
            obtain ⟨u, hu⟩ : ∃ u, ls[k] = u := ⟨_, rfl⟩
            rw [hu] at s0 j1 j2 j3
            have HJ := hidR (iPathJoin_any s u hs2 (by omega))
            obtain ⟨js, hjs⟩ : ∃ js, joinS s u = js := ⟨_, rfl⟩
            have hjz : js.size ≤ 16777216 := by
              rw [← hjs]
              have hb := (join_parts j1).2.2
              rw [hb.2]
              have := path_sizeD hb.1
              omega
            rw [j1, hjs] at HJ
            rw [hjs] at j2
            have HGj := hidR (fun (W : World) (hEr : Errs2R W ae) (hW : Ents W g1 o1 es) => HGi.out W js hjz hEr hW)
            obtain ⟨je, hje⟩ : ∃ je, (tgetE es js).1 = je := ⟨_, rfl⟩
            rw [hje, j2] at HGj
            clear hu hjs j1 j2 hje
            go_wp2_with fail
            refine (HJ.out _).mono ?_
            rintro e w21 ⟨rfl, hB⟩
            replace HB := hidR (B3' HB.out hB)
            replace HEr := hidR (HEr.out.below hB)
            replace HE := hidR (HE.out.below hB)
            replace HS := hidR (HS.out.below hB)
            clear s0
            clear hB
            go_wp2_with fail
            refine (HGj.out _ HEr.out HE.out).mono ?_
            rintro e w22 ⟨rfl, hB⟩
            replace HB := hidR (B3' HB.out hB)
            replace HEr := hidR (HEr.out.below hB)
            replace HE := hidR (HE.out.below hB)
            replace HS := hidR (HS.out.below hB)
            clear hB
            have hB : Below w22.heap.size w22 (w22.alloc (.cells #[.string je.p, .bool je.d, .string je.x] 34)) := (Below.refl _ _).alloc (Nat.le_refl _) _
            replace HB := hidR (B3' HB.out hB)
            replace HEr := hidR (HEr.out.below hB)
            replace HE := hidR (HE.out.below hB)
            replace HS := hidR (HS.out.below hB)
            clear hB
            by_cases hk0 : 0 < k
            · have hk0' : (0 : Int) < (k : Int) := by omega
              obtain ⟨i, rfl⟩ : ∃ i, k = i + 1 := ⟨k - 1, by omega⟩
              have s0 := HS.out (i + 1) hlt
              have s1 := HS.out i (by omega)
              have f4 := HLs2.out hk0
              simp only [Nat.add_sub_cancel] at f4
              obtain ⟨u1, hu1⟩ : ∃ u1, ls[i + 1] = u1 := ⟨_, rfl⟩
              obtain ⟨u0, hu0⟩ : ∃ u0, ls[i] = u0 := ⟨_, rfl⟩
              rw [hu1] at s0 f4
              rw [hu0] at s1 f4
              clear hu0 hu1 HLs2
              have x0' := cell_regrown s0
              have x1' := cell_regrown s1
              go_wp2
              refine wp_region_quiet_below (by kernel_rfl) (by kernel_rfl) ?_
              repeat (go_big_quiet_step (fail))
              refine wpQuiet_nil ?_
              intro w23 hw'
              obtain ⟨⟨dq, osq⟩, hw''⟩ := hw'
              have hB : Below (w22.alloc (.cells #[.string je.p, .bool je.d, .string je.x] 34)).heap.size (w22.alloc (.cells #[.string je.p, .bool je.d, .string je.x] 34)) w23 := by rw [hw'']; exact below_regrown (w22.alloc (.cells #[.string je.p, .bool je.d, .string je.x] 34)) dq osq
              clear hw'' x0' x1' s0 s1
              replace HB := hidR (B3' HB.out hB)
              replace HEr := hidR (HEr.out.below hB)
              replace HE := hidR (HE.out.below hB)
              replace HS := hidR (HS.out.below hB)
              clear hB
              go_wp2
              refine ⟨⟨i + 1 + 1, by omega, by go_num, HB, HEr, HE, HS⟩, ?_⟩
              simp [RowKit.intOf]
              omega
            · have hk0' : ¬ (0 : Int) < (k : Int) := by omega
              have hkz : k = 0 := by omega
              subst hkz
              clear HLs2
              go_wp2
              refine wp_region_quiet_below (by kernel_rfl) (by kernel_rfl) ?_
              repeat (go_big_quiet_step (fail))
              refine wpQuiet_nil ?_
              intro w23 hw'
              obtain ⟨⟨dq, osq⟩, hw''⟩ := hw'
              have hB : Below (w22.alloc (.cells #[.string je.p, .bool je.d, .string je.x] 34)).heap.size (w22.alloc (.cells #[.string je.p, .bool je.d, .string je.x] 34)) w23 := by rw [hw'']; exact below_regrown (w22.alloc (.cells #[.string je.p, .bool je.d, .string je.x] 34)) dq osq
              clear hw'' 
              replace HB := hidR (B3' HB.out hB)
              replace HEr := hidR (HEr.out.below hB)
              replace HE := hidR (HE.out.below hB)
              replace HS := hidR (HS.out.below hB)
              clear hB
              go_wp2
              go_roundw
              case rel => exact ⟨0 + 1, by omega, by go_num, HB, HEr, HE, HS⟩
              case measure => simp [RowKit.intOf]; omega
          · clear HS
            go_wp2_with fail
            refine (HL.out _ ⟨#[47]⟩ (by decide) HEr.out HE.out).mono ?_
            rintro e w31 ⟨va, rfl, hoa, hB⟩
            replace HB := hidR (B3' HB.out hB)
            replace HEr := hidR (HEr.out.below hB)
            replace HE := hidR (HE.out.below hB)
            obtain ⟨aa, ga, ca, rfl, -, -⟩ := StrB.of_row hoa
            clear hoa
            rw [HRoot.out.1]
            clear hB
            have hr17 := list_lenD es ⟨#[47]⟩
            obtain ⟨nr, hnr⟩ : ∃ nr, (listE es ⟨#[47]⟩).length = nr := ⟨_, rfl⟩
            have HSum2 := HSum
            rw [hnr] at HSum2 hr17 ⊢
            clear hnr
            go_wp2_with fail
            go_loopw [18, 19] (fun nv iv wl => ∃ k : Nat, k ≤ es.length ∧ iv = .int .i64 k ∧ nv = .int .i64 ((nr + sumE es (es.take k) : Nat) : Int) ∧ Hid (Below w.heap.size w wl) ∧ Hid (Errs2R wl ae) ∧ Hid (Ents wl g1 o1 es)) (fun _ iv _ => es.length - (RowKit.intOf iv).toNat)
            case atStart => exact ⟨0, Nat.zero_le _, rfl, by rfl, HB, HEr, HE⟩
            case round =>
              clear HB HEr HE
              obtain ⟨k, hk, rfl, rfl, HB, HEr, HE⟩ := hrel
              have hsm := sum_le es (es.take k)
              have htk : (es.take k).length ≤ 17 := by rw [List.length_take]; omega
              have hsm2 : sumE es (es.take k) ≤ 289 := Nat.le_trans hsm (Nat.le_trans (Nat.mul_le_mul htk hlen) (by decide))
              by_cases hlt : k < es.length
              · obtain rfl := HA.out (by omega)
                obtain ⟨c0, c1', c2⟩ := HE.out k hlt
                have HSc := hidR (sum_succ es es k hlt)
                obtain ⟨hz1, -⟩ := HZ.out es[k] (List.getElem_mem _)
                have HSe := hidR (HSelf.out es[k] (List.getElem_mem _)).1
                have hkl := list_lenD es es[k].p
                obtain ⟨kp, hkp⟩ : ∃ kp, es[k].p = kp := ⟨_, rfl⟩
                obtain ⟨kd, hkd⟩ : ∃ kd, es[k].d = kd := ⟨_, rfl⟩
                rw [hkp] at c0 hz1 hkl HSe HSc
                rw [hkd] at c1' HSe
                have HC1 := hidR c1'
                have HLk := hidR (fun (W : World) (hEr : Errs2R W ae) (hW : Ents W g1 o1 es) => HL.out W kp hz1 hEr hW)
                obtain ⟨kl, hkl2⟩ : ∃ kl, listE es kp = kl := ⟨_, rfl⟩
                obtain ⟨kc, hkc⟩ : ∃ kc, listC es kp = kc := ⟨_, rfl⟩
                rw [hkl2, hkc] at HLk
                rw [hkl2] at HSc hkl
                rw [hkc] at HSe
                obtain ⟨sm, hsmm⟩ : ∃ sm, sumE es (es.take k) = sm := ⟨_, rfl⟩
                rw [hsmm] at HSc hsm2 ⊢
                clear hkp hkd hkl2 hkc hsmm hsm
                go_wp2_with fail
                refine (HLk.out _ HEr.out HE.out).mono ?_
                rintro e w41 ⟨vk, rfl, hok, hB⟩
                replace HB := hidR (B3' HB.out hB)
                replace HEr := hidR (HEr.out.below hB)
                replace HE := hidR (HE.out.below hB)
                have HC2 := hidR (below_cell hB HC1.out)
                clear HC1 c0 c1' c2
                obtain ⟨ak, gk, ck, rfl, -, -⟩ := StrB.of_row hok
                clear hok
                clear hB
                have c1' := HC2.out
                have hce : ((kc == 0) != kd) = false := by
                  cases kd with
                  | true => rw [HSe.out.2 rfl]; rfl
                  | false =>
                    have : kc ≠ 0 := fun q => by have := HSe.out.1 q; cases this
                    simp [this]
                have hce2 : ((kc == 0) == kd) = true := by simpa using hce
                go_wp2
                refine ⟨⟨k + 1, by omega, by go_num, ?_, HB, HEr, HE⟩, ?_⟩
                · rw [HSc.out]
                  congr 1
                  omega
                · simp [RowKit.intOf]
                  omega
              · have hke : k = es.length := by omega
                subst hke
                rw [List.take_length]
                have hfin : ((nr + sumE es es : Nat) : Int) = (es.length : Int) := by have := HSum2.out; omega
                rw [hfin]
                go_wp2
                go_ret
                exact ⟨rfl, HB.out⟩
      | false =>
        have hr' : (s.toList == [47]) = false := hr
        have hr2 : ¬ s.toList = [47] := by simpa using hr'
        have hpb : pathB s = true := by unfold stemOk at hst; rw [hr] at hst; simpa using hst
        rw [hpb] at HPo
        go_wp2_with fail
        refine (HPo.out _).mono ?_
        rintro e w7 ⟨rfl, hB⟩
        replace HB := hidR (B3' HB.out hB)
        replace HEr := hidR (HEr.out.below hB)
        replace HE := hidR (HE.out.below hB)
        replace HS := hidR (HS.out.below hB)
        have HTd2 := hidR (below_cell hB HTd.out)
        clear HTd
        have HTd := HTd2
        clear HTd2
        clear hB
        have hT := HTd.out
        rw [HTD.out] at hT
        go_wp2_with fail
        clear hT
        go_loopw [11] (fun iv wl => ∃ k : Nat, k ≤ ls.length ∧ iv = .int .i64 k ∧ Hid (Below w.heap.size w wl) ∧ Hid (Errs2R wl ae) ∧ Hid (Ents wl g1 o1 es) ∧ Hid (StrB wl gl ls)) (fun iv _ => ls.length - (RowKit.intOf iv).toNat)
        case atStart => exact ⟨0, Nat.zero_le _, rfl, HB, HEr, HE, HS⟩
        case round =>
          clear HB HEr HE HS HTd
          obtain ⟨k, hk, rfl, HB, HEr, HE, HS⟩ := hrel
          by_cases hlt : k < ls.length
          · obtain rfl := HAL.out (by omega)
            have s0 := HS.out k hlt
            obtain ⟨j1, j2, j3⟩ := HLT.out (by first | rfl | trivial) ls[k] (List.getElem_mem _)
            have HLs2 : Hid (0 < k → Op.bytesLess (ls[k - 1]'(by omega)).toList ls[k].toList = true) := fun h => List.pairwise_iff_getElem.1 HRise.out (k - 1) k (by omega) hlt (by omega)
            obtain ⟨u, hu⟩ : ∃ u, ls[k] = u := ⟨_, rfl⟩
            rw [hu] at s0 j1 j2 j3
            have HJ := hidR (iPathJoin_any s u hs2 (by omega))
            obtain ⟨js, hjs⟩ : ∃ js, joinS s u = js := ⟨_, rfl⟩
            have hjz : js.size ≤ 16777216 := by
              rw [← hjs]
              have hb := (join_parts j1).2.2
              rw [hb.2]
              have := path_sizeD hb.1
              omega
            rw [j1, hjs] at HJ
            rw [hjs] at j2
            have HGj := hidR (fun (W : World) (hEr : Errs2R W ae) (hW : Ents W g1 o1 es) => HGi.out W js hjz hEr hW)
            obtain ⟨je, hje⟩ : ∃ je, (tgetE es js).1 = je := ⟨_, rfl⟩
            rw [hje, j2] at HGj
            clear hu hjs j1 j2 hje
            go_wp2_with fail
            refine (HJ.out _).mono ?_
            rintro e w21 ⟨rfl, hB⟩
            replace HB := hidR (B3' HB.out hB)
            replace HEr := hidR (HEr.out.below hB)
            replace HE := hidR (HE.out.below hB)
            replace HS := hidR (HS.out.below hB)
            clear s0
            clear hB
            go_wp2_with fail
            refine (HGj.out _ HEr.out HE.out).mono ?_
            rintro e w22 ⟨rfl, hB⟩
            replace HB := hidR (B3' HB.out hB)
            replace HEr := hidR (HEr.out.below hB)
            replace HE := hidR (HE.out.below hB)
            replace HS := hidR (HS.out.below hB)
            clear hB
            have hB : Below w22.heap.size w22 (w22.alloc (.cells #[.string je.p, .bool je.d, .string je.x] 34)) := (Below.refl _ _).alloc (Nat.le_refl _) _
            replace HB := hidR (B3' HB.out hB)
            replace HEr := hidR (HEr.out.below hB)
            replace HE := hidR (HE.out.below hB)
            replace HS := hidR (HS.out.below hB)
            clear hB
            by_cases hk0 : 0 < k
            · have hk0' : (0 : Int) < (k : Int) := by omega
              obtain ⟨i, rfl⟩ : ∃ i, k = i + 1 := ⟨k - 1, by omega⟩
              have s0 := HS.out (i + 1) hlt
              have s1 := HS.out i (by omega)
              have f4 := HLs2.out hk0
              simp only [Nat.add_sub_cancel] at f4
              obtain ⟨u1, hu1⟩ : ∃ u1, ls[i + 1] = u1 := ⟨_, rfl⟩
              obtain ⟨u0, hu0⟩ : ∃ u0, ls[i] = u0 := ⟨_, rfl⟩
              rw [hu1] at s0 f4
              rw [hu0] at s1 f4
              clear hu0 hu1 HLs2
              have x0' := cell_regrown s0
              have x1' := cell_regrown s1
              go_wp2
              refine wp_region_quiet_below (by kernel_rfl) (by kernel_rfl) ?_
              repeat (go_big_quiet_step (fail))
              refine wpQuiet_nil ?_
              intro w23 hw'
              obtain ⟨⟨dq, osq⟩, hw''⟩ := hw'
              have hB : Below (w22.alloc (.cells #[.string je.p, .bool je.d, .string je.x] 34)).heap.size (w22.alloc (.cells #[.string je.p, .bool je.d, .string je.x] 34)) w23 := by rw [hw'']; exact below_regrown (w22.alloc (.cells #[.string je.p, .bool je.d, .string je.x] 34)) dq osq
              clear hw'' x0' x1' s0 s1
              replace HB := hidR (B3' HB.out hB)
              replace HEr := hidR (HEr.out.below hB)
              replace HE := hidR (HE.out.below hB)
              replace HS := hidR (HS.out.below hB)
              clear hB
              go_wp2
              refine ⟨⟨i + 1 + 1, by omega, by go_num, HB, HEr, HE, HS⟩, ?_⟩
              simp [RowKit.intOf]
              omega
            · have hk0' : ¬ (0 : Int) < (k : Int) := by omega
              have hkz : k = 0 := by omega
              subst hkz
              clear HLs2
              go_wp2
              refine wp_region_quiet_below (by kernel_rfl) (by kernel_rfl) ?_
              repeat (go_big_quiet_step (fail))
              refine wpQuiet_nil ?_
              intro w23 hw'
              obtain ⟨⟨dq, osq⟩, hw''⟩ := hw'
              have hB : Below (w22.alloc (.cells #[.string je.p, .bool je.d, .string je.x] 34)).heap.size (w22.alloc (.cells #[.string je.p, .bool je.d, .string je.x] 34)) w23 := by rw [hw'']; exact below_regrown (w22.alloc (.cells #[.string je.p, .bool je.d, .string je.x] 34)) dq osq
              clear hw'' 
              replace HB := hidR (B3' HB.out hB)
              replace HEr := hidR (HEr.out.below hB)
              replace HE := hidR (HE.out.below hB)
              replace HS := hidR (HS.out.below hB)
              clear hB
              go_wp2
              go_roundw
              case rel => exact ⟨0 + 1, by omega, by go_num, HB, HEr, HE, HS⟩
              case measure => simp [RowKit.intOf]; omega
          · clear HS
            go_wp2_with fail
            refine (HL.out _ ⟨#[47]⟩ (by decide) HEr.out HE.out).mono ?_
            rintro e w31 ⟨va, rfl, hoa, hB⟩
            replace HB := hidR (B3' HB.out hB)
            replace HEr := hidR (HEr.out.below hB)
            replace HE := hidR (HE.out.below hB)
            obtain ⟨aa, ga, ca, rfl, -, -⟩ := StrB.of_row hoa
            clear hoa
            rw [HRoot.out.1]
            clear hB
            have hr17 := list_lenD es ⟨#[47]⟩
            obtain ⟨nr, hnr⟩ : ∃ nr, (listE es ⟨#[47]⟩).length = nr := ⟨_, rfl⟩
            have HSum2 := HSum
            rw [hnr] at HSum2 hr17 ⊢
            clear hnr
            go_wp2_with fail
            go_loopw [18, 19] (fun nv iv wl => ∃ k : Nat, k ≤ es.length ∧ iv = .int .i64 k ∧ nv = .int .i64 ((nr + sumE es (es.take k) : Nat) : Int) ∧ Hid (Below w.heap.size w wl) ∧ Hid (Errs2R wl ae) ∧ Hid (Ents wl g1 o1 es)) (fun _ iv _ => es.length - (RowKit.intOf iv).toNat)
            case atStart => exact ⟨0, Nat.zero_le _, rfl, by rfl, HB, HEr, HE⟩
            case round =>
              clear HB HEr HE
              obtain ⟨k, hk, rfl, rfl, HB, HEr, HE⟩ := hrel
              have hsm := sum_le es (es.take k)
              have htk : (es.take k).length ≤ 17 := by rw [List.length_take]; omega
              have hsm2 : sumE es (es.take k) ≤ 289 := Nat.le_trans hsm (Nat.le_trans (Nat.mul_le_mul htk hlen) (by decide))
              by_cases hlt : k < es.length
              · obtain rfl := HA.out (by omega)
                obtain ⟨c0, c1', c2⟩ := HE.out k hlt
                have HSc := hidR (sum_succ es es k hlt)
                obtain ⟨hz1, -⟩ := HZ.out es[k] (List.getElem_mem _)
                have HSe := hidR (HSelf.out es[k] (List.getElem_mem _)).1
                have hkl := list_lenD es es[k].p
                obtain ⟨kp, hkp⟩ : ∃ kp, es[k].p = kp := ⟨_, rfl⟩
                obtain ⟨kd, hkd⟩ : ∃ kd, es[k].d = kd := ⟨_, rfl⟩
                rw [hkp] at c0 hz1 hkl HSe HSc
                rw [hkd] at c1' HSe
                have HC1 := hidR c1'
                have HLk := hidR (fun (W : World) (hEr : Errs2R W ae) (hW : Ents W g1 o1 es) => HL.out W kp hz1 hEr hW)
                obtain ⟨kl, hkl2⟩ : ∃ kl, listE es kp = kl := ⟨_, rfl⟩
                obtain ⟨kc, hkc⟩ : ∃ kc, listC es kp = kc := ⟨_, rfl⟩
                rw [hkl2, hkc] at HLk
                rw [hkl2] at HSc hkl
                rw [hkc] at HSe
                obtain ⟨sm, hsmm⟩ : ∃ sm, sumE es (es.take k) = sm := ⟨_, rfl⟩
                rw [hsmm] at HSc hsm2 ⊢
                clear hkp hkd hkl2 hkc hsmm hsm
                go_wp2_with fail
                refine (HLk.out _ HEr.out HE.out).mono ?_
                rintro e w41 ⟨vk, rfl, hok, hB⟩
                replace HB := hidR (B3' HB.out hB)
                replace HEr := hidR (HEr.out.below hB)
                replace HE := hidR (HE.out.below hB)
                have HC2 := hidR (below_cell hB HC1.out)
                clear HC1 c0 c1' c2
                obtain ⟨ak, gk, ck, rfl, -, -⟩ := StrB.of_row hok
                clear hok
                clear hB
                have c1' := HC2.out
                have hce : ((kc == 0) != kd) = false := by
                  cases kd with
                  | true => rw [HSe.out.2 rfl]; rfl
                  | false =>
                    have : kc ≠ 0 := fun q => by have := HSe.out.1 q; cases this
                    simp [this]
                have hce2 : ((kc == 0) == kd) = true := by simpa using hce
                go_wp2
                refine ⟨⟨k + 1, by omega, by go_num, ?_, HB, HEr, HE⟩, ?_⟩
                · rw [HSc.out]
                  congr 1
                  omega
                · simp [RowKit.intOf]
                  omega
              · have hke : k = es.length := by omega
                subst hke
                rw [List.take_length]
                have hfin : ((nr + sumE es es : Nat) : Int) = (es.length : Int) := by have := HSum2.out; omega
                rw [hfin]
                go_wp2
                go_ret
                exact ⟨rfl, HB.out⟩
  · go_enter Tryz.func5, Tryz.ntmps5
    go_wp2
    go_ret
    exact ⟨rfl, Below.refl _ _⟩
end Go.Proofs.YtbcogekeoklddaaGreatDoor
