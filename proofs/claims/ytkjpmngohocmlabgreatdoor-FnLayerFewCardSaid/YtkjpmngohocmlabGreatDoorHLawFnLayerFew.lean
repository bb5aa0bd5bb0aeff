/-
  The walk of the law FnLayerFew, out of the contracts.
-/
import Derived.Lib.QuietBelow
import Derived.Test.YtkjpmngohocmlabGreatDoorHPk32
import Derived.Test.YtkjpmngohocmlabGreatDoorHLyFewL
import Derived.Test.YtkjpmngohocmlabGreatDoorHLyOnL
import Derived.Test.YtkjpmngohocmlabGreatDoorHPk25
import Derived.Test.YtkjpmngohocmlabGreatDoorHWpIn
import Derived.Test.YtkjpmngohocmlabGreatDoorHUnderI
import Derived.Test.YtkjpmngohocmlabGreatDoorHPk21
import Derived.Test.YtkjpmngohocmlabGreatDoorHPk05
import Derived.Test.YtkjpmngohocmlabGreatDoorHLyDfW
import Derived.Test.YtkjpmngohocmlabGreatDoorHDrawDf
import Derived.Test.YtkjpmngohocmlabGreatDoorHMkSameI
import Derived.Test.YtkjpmngohocmlabGreatDoorHPk11
import Derived.Test.YtkjpmngohocmlabGreatDoorHPk15
namespace Go.Proofs.YtkjpmngohocmlabGreatDoor.Ly
open Go.RowKit Go.Lib Go.Sort

theorem sameT_reX : ∀ es : List E, sameT es es = true
  | [] => rfl
  | e :: r => by
    show (sameT1 e e && sameT r r) = true
    rw [sameT_reX r, Bool.and_true]
    unfold sameT1; simp
theorem sameM_reX : ∀ es : List Mk.E, Mk.sameT es es = true
  | [] => rfl
  | e :: r => by
    show (Mk.sameT1 e e && Mk.sameT r r) = true
    rw [sameM_reX r, Bool.and_true]
    unfold Mk.sameT1; simp
theorem turnE_lenF (es fs : List E) : (turnE es fs).length ≤ es.length + fs.length := by
  unfold turnE
  rw [List.length_map]
  have h1 := List.length_filter_le (turnB es fs) (bothE es fs)
  have h2 := both_len es fs fs.length (Nat.le_refl _)
  rw [List.take_length] at h2
  omega
theorem anyP_succ {α : Type} (P : α → Bool) (l : List α) (j : Nat) (h : j < l.length) : (l.take (j + 1)).any P = ((l.take j).any P || P l[j]) := by
  rw [List.take_succ_eq_append_getElem h, List.any_append]; simp
theorem tget_dirF {es : List E} (h : treeE es = true) (s : ByteArray) : ((tgetE es s).2 && (tgetE es s).1.d) = dirE es s := by
  cases hr : isRoot s with
  | true =>
    unfold tgetE dirE
    rw [if_pos h, getE_root hr, hr]; rfl
  | false =>
    rw [tgetO h hr, dirE_look, hr]
    cases lookE es s <;> rfl
set_option maxHeartbeats 4000000 in
set_option maxRecDepth 100000 in
theorem walk_fnLayerFew (ae : Int → Addr) (a : Option Addr) (len cap : Nat) (zs : List Int) (w : World) (hErr : Errs2 w ae) (hw : IsRow .u8 w a len cap zs) :
    Calls Tryz.prog 5 #[.slice a len cap] w fun e w' => e = .returned (.bool true) ∧ Below w.heap.size w w' := by
  have HC := hidR hw.cod
  have HEr := hidE (fun (W : World) (h : Below w.heap.size w W) => hErr.below h)
  clear hw hErr
  by_cases hl : len ≤ 1048576
  · go_enter Tryz.func5, Tryz.ntmps5
    go_wp2_with fail
    refine (DrawLayerDiff_any _ a len cap hl HC.out).mono ?_
    rintro e v1 ⟨v, v', lA, lU, rfl, hLA, hLU, hDA, hDU, hB⟩
    obtain ⟨aA, gA, oA, cA, rfl, haA, hEA, hcA, -⟩ := hLA
    have HA := hidE hEA
    have HAA := hidE haA
    obtain ⟨aU, gU, oU, cU, rfl, haU, hEU, hcU, -⟩ := hLU
    have HU := hidE hEU
    have HAU := hidE haU
    have HZA : Hid (∀ e ∈ lA, e.p.size ≤ 16777216 ∧ e.x.size ≤ 16777216) := fun e he => ⟨by have := (hDA.2 e he).1; omega, by have := (hDA.2 e he).2; omega⟩
    have hlA : lA.length ≤ 17 := hDA.1
    clear hEA haA hDA
    have HZU : Hid (∀ e ∈ lU, e.p.size ≤ 16777216 ∧ e.x.size ≤ 16777216) := fun e he => ⟨by have := (hDU.2 e he).1; omega, by have := (hDU.2 e he).2; omega⟩
    have hlU : lU.length ≤ 17 := hDU.1
    clear hEU haU hDU
    have HB := hidE (Below.refl w.heap.size w)
    replace HB := hidE (B3E HB.out hB)
    clear hB
    obtain ⟨lX, hqX⟩ : ∃ lX, diffE lA lU = lX := ⟨_, rfl⟩
    have HQX := hidE hqX
    have hsX := diff_sz HZA.out HZU.out
    rw [hqX] at hsX
    have hlX := hsX.1
    have HZX := hidE hsX.2
    clear hsX hqX
    go_wp2_with fail
    refine (iLayerDiff_any _ aA gA oA cA lA aU gU oU cU lU ae (HEr.out _ HB.out) (by omega) (by omega) HZA.out HZU.out HAA.out HAU.out HA.out HU.out).mono ?_
    rintro e v2 ⟨vx, rfl, ho, hB⟩
    rw [HQX.out] at ho
    obtain ⟨aX, gX, cX, rfl, haX, hEX, hcX⟩ := Mk.OwnE.ents ho
    have HX := hidE hEX
    have HAX := hidE haX
    clear ho haX hEX
    replace HB := hidE (B3E HB.out hB)
    replace HA := hidE (HA.out.below hB)
    replace HU := hidE (HU.out.below hB)
    clear hB
    go_wp2_with fail
    refine (sLayerDiff_any _ aA gA oA cA lA aU gU oU cU lU (by omega) (by omega) hcA hcU HZA.out HZU.out HAA.out HAU.out HA.out HU.out).mono ?_
    rintro e v3 ⟨vk, rfl, ho, hB⟩
    rw [HQX.out] at ho
    obtain ⟨aK, gK, oK, cK, rfl, haK, hEK, hcK, -⟩ := ho
    have HK := hidE hEK
    have HAK := hidE haK
    clear haK hEK
    replace HB := hidE (B3E HB.out hB)
    replace HA := hidE (HA.out.below hB)
    replace HU := hidE (HU.out.below hB)
    replace HX := hidE (HX.out.below hB)
    clear hB
    have HSX := hidE (fun (W : World) (h1 : Mk.Ents W gX 0 lX) (h2 : Mk.Ents W gK oK lX) => Mk.iTreeSame_any W aX gX 0 cX lX aK gK oK cK lX (by omega) (by omega) HAX.out HAK.out h1 h2)
    rw [sameM_reX] at HSX
    go_wp2_with fail
    refine (HSX.out _ HX.out HK.out).mono ?_
    rintro e v4 ⟨rfl, hB⟩
    replace HB := hidE (B3E HB.out hB)
    replace HA := hidE (HA.out.below hB)
    replace HU := hidE (HU.out.below hB)
    replace HX := hidE (HX.out.below hB)
    replace HK := hidE (HK.out.below hB)
    clear hB
    obtain ⟨bA, hbA⟩ : ∃ bA, treeE lA = bA := ⟨_, rfl⟩
    have HOA := hidE (fun (W : World) (h : Ents W gA oA lA) => sTreeOk_any W aA gA oA cA lA (by omega) hcA HZA.out HAA.out h)
    rw [hbA] at HOA
    have HPA := hidE hbA
    clear hbA
    go_wp2_with fail
    refine (HOA.out _ HA.out).mono ?_
    rintro e v5 ⟨rfl, hB⟩
    replace HB := hidE (B3E HB.out hB)
    replace HA := hidE (HA.out.below hB)
    replace HU := hidE (HU.out.below hB)
    replace HX := hidE (HX.out.below hB)
    replace HK := hidE (HK.out.below hB)
    clear hB
    cases bA with
    | false =>
      go_wp2_with fail
      refine (sLayerDiff_any _ aA gA oA cA lA aU gU oU cU lU (by omega) (by omega) hcA hcU HZA.out HZU.out HAA.out HAU.out HA.out HU.out).mono ?_
      rintro e v6 ⟨vm, rfl, ho, hB⟩
      rw [HQX.out] at ho
      obtain ⟨aM, gM, oM, cM, rfl, haM, hEM, hcM, -⟩ := ho
      have HM := hidE hEM
      have HAM := hidE haM
      clear haM hEM
      replace HB := hidE (B3E HB.out hB)
      replace HA := hidE (HA.out.below hB)
      replace HU := hidE (HU.out.below hB)
      replace HX := hidE (HX.out.below hB)
      replace HK := hidE (HK.out.below hB)
      clear hB
      have HSM := hidE (fun (W : World) (h1 : Mk.Ents W gX 0 lX) (h2 : Mk.Ents W gM oM lX) => Mk.iTreeSame_any W aX gX 0 cX lX aM gM oM cM lX (by omega) (by omega) HAX.out HAM.out h1 h2)
      rw [sameM_reX] at HSM
      go_wp2_with fail
      refine (HSM.out _ HX.out HM.out).mono ?_
      rintro e v7 ⟨rfl, hB⟩
      replace HB := hidE (B3E HB.out hB)
      replace HA := hidE (HA.out.below hB)
      replace HU := hidE (HU.out.below hB)
      replace HX := hidE (HX.out.below hB)
      replace HK := hidE (HK.out.below hB)
      replace HM := hidE (HM.out.below hB)
      clear hB
      go_wp2
      go_ret
      exact ⟨rfl, HB.out⟩
    | true =>
      obtain ⟨bU, hbU⟩ : ∃ bU, treeE lU = bU := ⟨_, rfl⟩
      have HOU := hidE (fun (W : World) (h : Ents W gU oU lU) => sTreeOk_any W aU gU oU cU lU (by omega) hcU HZU.out HAU.out h)
      rw [hbU] at HOU
      have HPU := hidE hbU
      clear hbU
      go_wp2_with fail
      refine (HOU.out _ HU.out).mono ?_
      rintro e v6 ⟨rfl, hB⟩
      replace HB := hidE (B3E HB.out hB)
      replace HA := hidE (HA.out.below hB)
      replace HU := hidE (HU.out.below hB)
      replace HX := hidE (HX.out.below hB)
      replace HK := hidE (HK.out.below hB)
      clear hB
      cases bU with
      | false =>
        go_wp2_with fail
        refine (sLayerDiff_any _ aA gA oA cA lA aU gU oU cU lU (by omega) (by omega) hcA hcU HZA.out HZU.out HAA.out HAU.out HA.out HU.out).mono ?_
        rintro e v7 ⟨vm, rfl, ho, hB⟩
        rw [HQX.out] at ho
        obtain ⟨aM, gM, oM, cM, rfl, haM, hEM, hcM, -⟩ := ho
        have HM := hidE hEM
        have HAM := hidE haM
        clear haM hEM
        replace HB := hidE (B3E HB.out hB)
        replace HA := hidE (HA.out.below hB)
        replace HU := hidE (HU.out.below hB)
        replace HX := hidE (HX.out.below hB)
        replace HK := hidE (HK.out.below hB)
        clear hB
        have HSM := hidE (fun (W : World) (h1 : Mk.Ents W gX 0 lX) (h2 : Mk.Ents W gM oM lX) => Mk.iTreeSame_any W aX gX 0 cX lX aM gM oM cM lX (by omega) (by omega) HAX.out HAM.out h1 h2)
        rw [sameM_reX] at HSM
        go_wp2_with fail
        refine (HSM.out _ HX.out HM.out).mono ?_
        rintro e v8 ⟨rfl, hB⟩
        replace HB := hidE (B3E HB.out hB)
        replace HA := hidE (HA.out.below hB)
        replace HU := hidE (HU.out.below hB)
        replace HX := hidE (HX.out.below hB)
        replace HK := hidE (HK.out.below hB)
        replace HM := hidE (HM.out.below hB)
        clear hB
        go_wp2
        go_ret
        exact ⟨rfl, HB.out⟩
      | true =>
        have P := DfP.of HPA.out HPU.out
        have hqx := HQX.out
        rw [diff_yes HPA.out HPU.out] at hqx
        have HMk : Hid (∀ m ∈ lX, m.d ≠ 4 ∧ (m.p ∈ turnE lA lU ∨ ((∃ s ∈ turnE lA lU, underI s m.p = true) ∧ m.d = 2))) := fun m hm => P.few_marks (hqx ▸ hm)
        have HCo : Hid ((lX.filter (fun m => inL (turnE lA lU) m.p)).length = ((turnE lA lU).filter (fun s => dirE lU (upS s))).length) := by
          show _ = _
          rw [← hqx]; exact P.few_count
        have HPh : Hid (∀ s ∈ turnE lA lU, pathB s = true) := P.paths
        have htn : turnedE lA lU = turnE lA lU := by unfold turnedE; rw [HPA.out, HPU.out]; rfl
        have hln : (turnE lA lU).length ≤ 34 := by have := turnE_lenF lA lU; omega
        have HTd := hidE (fun (s : ByteArray) => tget_dirF HPU.out s)
        have HTu := hidE (fun (W : World) (hb : Below w.heap.size w W) (h1 : Ents W gA oA lA) (h2 : Ents W gU oU lU) => iTurned_any W aA gA oA cA lA aU gU oU cU lU ae (HEr.out _ hb) (by omega) (by omega) HZA.out HZU.out HAA.out HAU.out h1 h2)
        have HTg := hidE (fun (W : World) (u : ByteArray) (hu : u.size ≤ 16777216) (hb : Below w.heap.size w W) (h1 : Ents W gU oU lU) => iTreeGet_any W aU gU oU cU lU u ae (HEr.out _ hb) (by omega) hu HZU.out HAU.out h1)
        rw [htn] at HTu
        obtain ⟨ls, hls⟩ : ∃ ls, turnE lA lU = ls := ⟨_, rfl⟩
        rw [hls] at HTu HMk HCo HPh hln
        clear hls htn hqx P HPA HPU HQX HOA HOU HSX
        go_wp2_with fail
        refine (HTu.out _ HB.out HA.out HU.out).mono ?_
        rintro e v20 ⟨vl, rfl, hol, hB⟩
        replace HB := hidE (B3E HB.out hB)
        replace HU := hidE (HU.out.below hB)
        replace HX := hidE (HX.out.below hB)
        clear hB
        obtain ⟨al, gl, cl, rfl, hal, hSl⟩ := StrB.of_row hol
        have HS := hidE hSl
        have HAL := hidE hal
        clear hol hSl hal HTu HA HK
        have HWp := hidE (fun (W : World) (s : ByteArray) (h : StrB W gl ls) => wpIn_any W al gl cl ls s (by omega) HAL.out h)
        go_wp2_with fail
        go_loopw [7, 8] (fun nv iv wl => ∃ i : Nat, i ≤ lX.length ∧ iv = .int .i64 i ∧ nv = .int .i64 (((lX.take i).filter (fun m => inL ls m.p)).length : Nat) ∧ Hid (Below w.heap.size w wl) ∧ Hid (Ents wl gU oU lU) ∧ Hid (Mk.Ents wl gX 0 lX) ∧ Hid (StrB wl gl ls)) (fun _ iv _ => lX.length - (RowKit.intOf iv).toNat)
        case atStart => exact ⟨0, Nat.zero_le _, rfl, rfl, HB, HU, HX, HS⟩
        case round =>
          clear HB HU HX HS
          obtain ⟨i, hi, rfl, rfl, HB, HU, HX, HS⟩ := hrel
          by_cases hil : i < lX.length
          · obtain rfl := HAX.out (by omega)
            have hcs := cntP_succ (fun m : Mk.E => inL ls m.p) lX i hil
            have hcl := cntP_le (fun m : Mk.E => inL ls m.p) lX i hi
            obtain ⟨cc, hcc⟩ : ∃ cc, ((lX.take i).filter (fun m : Mk.E => inL ls m.p)).length = cc := ⟨_, rfl⟩
            rw [hcc] at hcs hcl ⊢
            clear hcc
            obtain ⟨m0, m1, -⟩ := HX.out i hil
            simp only [Nat.zero_add] at m0 m1
            have hk := HMk.out lX[i] (List.getElem_mem _)
            have hsz := (HZX.out lX[i] (List.getElem_mem _)).1
            obtain ⟨mp, hmp⟩ : ∃ mp, lX[i].p = mp := ⟨_, rfl⟩
            obtain ⟨md, hmd⟩ : ∃ md, lX[i].d = md := ⟨_, rfl⟩
            rw [hmp] at m0 hk hsz hcs
            rw [hmd] at m1 hk
            have HMp := hidE hmp
            have HMd := hidE hmd
            have HCs := hidE hcs
            have h4 : (md == 4) = false := by rw [beq_eq_false_iff_ne]; exact hk.1
            have HK2 := hidE hk.2
            clear hmp hmd hcs hk
            go_wp2_with fail
            clear m0 m1
            go_loopw [9, 10] (fun bv kv wl => ∃ k : Nat, k ≤ ls.length ∧ kv = .int .i64 k ∧ bv = .bool ((ls.take k).any (fun s => underI s mp)) ∧ Hid (Below w.heap.size w wl) ∧ Hid (Ents wl gU oU lU) ∧ Hid (Mk.Ents wl gX 0 lX) ∧ Hid (StrB wl gl ls)) (fun _ kv _ => ls.length - (RowKit.intOf kv).toNat)
            case atStart => exact ⟨0, Nat.zero_le _, rfl, rfl, HB, HU, HX, HS⟩
            case round =>
              clear HB HU HX HS
              obtain ⟨k, hk, rfl, rfl, HB, HU, HX, HS⟩ := hrel
              by_cases hkl : k < ls.length
              · obtain rfl := HAL.out (by omega)
                have s0 := HS.out k hkl
                obtain ⟨m0, -, -⟩ := HX.out i hil
                rw [HMp.out] at m0
                simp only [Nat.zero_add] at m0
                have hu := anyP_succ (fun s => underI s mp) ls k hkl
                have hsk := path_sizeD (HPh.out ls[k] (List.getElem_mem _))
                obtain ⟨u, hu2⟩ : ∃ u, ls[k] = u := ⟨_, rfl⟩
                rw [hu2] at s0 hu hsk
                have HSu := hidE hu
                clear hu hu2
                obtain ⟨hb, hhb⟩ : ∃ hb, (ls.take k).any (fun s => underI s mp) = hb := ⟨_, rfl⟩
                rw [hhb] at HSu ⊢
                clear hhb
                cases hb with
                | true =>
                  go_wp2
                  go_quiet (fail)
                  have HB9 := hidE (Mk.below_draws2 HB.out nq)
                  have HU9 := hidE (HU.out.below (Mk.below_draws2 (Below.refl _ _) nq))
                  have HX9 := hidE (HX.out.below (Mk.below_draws2 (Below.refl _ _) nq))
                  have HS9 := hidE (HS.out.below (Mk.below_draws2 (Below.refl _ _) nq))
                  clear s0 m0
                  go_wp2
                  go_roundw
                  case rel => exact ⟨k + 1, by omega, by go_num, by rw [HSu.out]; rfl, HB9, HU9, HX9, HS9⟩
                  case measure => simp [RowKit.intOf]; omega
                | false =>
                  obtain ⟨ub, hub⟩ : ∃ ub, underI u mp = ub := ⟨_, rfl⟩
                  rw [hub] at HSu
                  have hcu := iPathUnder_any u mp (by omega) hsz
                  rw [hub] at hcu
                  have s0k := cell_regrown s0
                  have m0k := cell_regrown m0
                  have r0 := fun (d : Nat) (os : Array Obj) => Calls.regrown_of (hcu (grow (redrawn wr d) os))
                  clear hub hcu
                  go_wp2
                  refine wp_region_quiet_below (by kernel_rfl) (by kernel_rfl) ?_
                  repeat (go_big_quiet_step (first | exact r0 _ _))
                  refine wpQuiet_nil ?_
                  intro w4 hw'
                  obtain ⟨⟨dq, osq⟩, hw''⟩ := hw'
                  have hB : Below wr.heap.size wr w4 := by rw [hw'']; exact below_regrown wr dq osq
                  clear hw'' s0k m0k r0 s0 m0
                  replace HB := hidE (B3E HB.out hB)
                  replace HU := hidE (HU.out.below hB)
                  replace HX := hidE (HX.out.below hB)
                  replace HS := hidE (HS.out.below hB)
                  clear hB
                  go_wp2
                  go_roundw
                  case rel => exact ⟨k + 1, by omega, by go_num, by rw [HSu.out]; rfl, HB, HU, HX, HS⟩
                  case measure => simp [RowKit.intOf]; omega
              · have hke : ls.take k = ls := List.take_of_length_le (by omega)
                rw [hke]
                obtain ⟨bl, hbl⟩ : ∃ bl, ls.any (fun s => underI s mp) = bl := ⟨_, rfl⟩
                have hcase : inL ls mp = true ∨ (inL ls mp = false ∧ bl = true ∧ md = 2) := by
                  cases hin : inL ls mp with
                  | true => exact .inl rfl
                  | false =>
                    rcases HK2.out with h | ⟨⟨s, hs, h⟩, h2⟩
                    · rw [inL_iff.2 h] at hin; cases hin
                    · exact .inr ⟨rfl, by rw [← hbl, List.any_eq_true]; exact ⟨s, hs, h⟩, h2⟩
                rw [hbl]
                clear hbl HK2
                have HW1 := hidE (fun (W : World) (h : StrB W gl ls) => HWp.out W mp h)
                have hib : ls.any (fun y => y.toList == mp.toList) = inL ls mp := rfl
                rw [hib] at HW1
                obtain ⟨ib, hib2⟩ : ∃ ib, inL ls mp = ib := ⟨_, rfl⟩
                rw [hib2] at HW1 hcase HCs
                clear hib hib2
                obtain ⟨m0, m1, -⟩ := HX.out i hil
                rw [HMp.out] at m0
                rw [HMd.out] at m1
                simp only [Nat.zero_add] at m0 m1
                go_wp2_with fail
                refine (HW1.out _ HS.out).mono ?_
                rintro e v21 ⟨rfl, hB⟩
                clear m0 m1
                replace HB := hidE (B3E HB.out hB)
                replace HU := hidE (HU.out.below hB)
                replace HX := hidE (HX.out.below hB)
                replace HS := hidE (HS.out.below hB)
                clear hB
                obtain ⟨m0, m1, -⟩ := HX.out i hil
                rw [HMp.out] at m0
                rw [HMd.out] at m1
                simp only [Nat.zero_add] at m0 m1
                rcases hcase with rfl | ⟨rfl, rfl, rfl⟩
                · go_wp2_with fail
                  refine (HW1.out _ HS.out).mono ?_
                  rintro e v22 ⟨rfl, hB⟩
                  clear m0 m1
                  replace HB := hidE (B3E HB.out hB)
                  replace HU := hidE (HU.out.below hB)
                  replace HX := hidE (HX.out.below hB)
                  replace HS := hidE (HS.out.below hB)
                  clear hB
                  go_wp2
                  go_roundw
                  case rel => exact ⟨i + 1, by omega, by go_num, by rw [HCs.out]; go_num, HB, HU, HX, HS⟩
                  case measure => simp [RowKit.intOf]; omega
                · go_wp2_with fail
                  refine (HW1.out _ HS.out).mono ?_
                  rintro e v22 ⟨rfl, hB⟩
                  clear m0 m1
                  replace HB := hidE (B3E HB.out hB)
                  replace HU := hidE (HU.out.below hB)
                  replace HX := hidE (HX.out.below hB)
                  replace HS := hidE (HS.out.below hB)
                  clear hB
                  go_wp2
                  go_roundw
                  case rel => exact ⟨i + 1, by omega, by go_num, by rw [HCs.out]; rfl, HB, HU, HX, HS⟩
                  case measure => simp [RowKit.intOf]; omega
          · have hie : lX.take i = lX := List.take_of_length_le (by omega)
            rw [hie, HCo.out]
            have hcl : (ls.filter (fun s => dirE lU (upS s))).length ≤ 34 := by have := List.length_filter_le (fun s => dirE lU (upS s)) ls; omega
            obtain ⟨nn, hnn⟩ : ∃ nn, (ls.filter (fun s => dirE lU (upS s))).length = nn := ⟨_, rfl⟩
            rw [hnn] at hcl ⊢
            have HNn := hidE hnn
            clear hnn
            go_wp2_with fail
            go_loopw [7, 11] (fun nv kv wl => ∃ k : Nat, k ≤ ls.length ∧ kv = .int .i64 k ∧ nv = .int .i64 ((nn : Int) - (((ls.take k).filter (fun s => dirE lU (upS s))).length : Nat)) ∧ Hid (Below w.heap.size w wl) ∧ Hid (Ents wl gU oU lU) ∧ Hid (StrB wl gl ls)) (fun _ kv _ => ls.length - (RowKit.intOf kv).toNat)
            case atStart => exact ⟨0, Nat.zero_le _, rfl, by simp, HB, HU, HS⟩
            case round =>
              clear HB HU HX HS
              obtain ⟨k, hk, rfl, rfl, HB, HU, HS⟩ := hrel
              by_cases hkl : k < ls.length
              · obtain rfl := HAL.out (by omega)
                have hks := cntP_succ (fun s => dirE lU (upS s)) ls k hkl
                have hkc := cntP_le (fun s => dirE lU (upS s)) ls k hk
                obtain ⟨kk, hkk⟩ : ∃ kk, ((ls.take k).filter (fun s => dirE lU (upS s))).length = kk := ⟨_, rfl⟩
                rw [hkk] at hks hkc ⊢
                clear hkk
                have s0 := HS.out k hkl
                have hpk := HPh.out ls[k] (List.getElem_mem _)
                have hsk := path_sizeD hpk
                obtain ⟨u, hu⟩ : ∃ u, ls[k] = u := ⟨_, rfl⟩
                rw [hu] at s0 hks hpk hsk
                clear hu
                have hsu : (upS u).size ≤ 16777216 := by have := upS_sizeD u; omega
                have HQ := hidE (fun (W : World) (hb : Below w.heap.size w W) (h1 : Ents W gU oU lU) => HTg.out W (upS u) hsu hb h1)
                have hdd := HTd.out (upS u)
                obtain ⟨xa, hxa⟩ : ∃ xa, tgetE lU (upS u) = xa := ⟨_, rfl⟩
                rw [hxa] at HQ hdd
                rw [← hdd] at hks
                have HKs := hidE hks
                clear hxa hdd hks
                obtain ⟨⟨ep, ed, ex⟩, xp⟩ := xa
                go_wp2_with fail
                refine (iPathUp_any u (by omega) _).mono ?_
                rintro e v23 ⟨rfl, hB⟩
                clear s0
                replace HB := hidE (B3E HB.out hB)
                replace HU := hidE (HU.out.below hB)
                replace HS := hidE (HS.out.below hB)
                clear hB
                go_wp2_with fail
                refine (HQ.out _ HB.out HU.out).mono ?_
                rintro e v24 ⟨rfl, hB⟩
                replace HB := hidE (B3E HB.out hB)
                replace HU := hidE (HU.out.below hB)
                replace HS := hidE (HS.out.below hB)
                clear hB
                have hB : Below v24.heap.size v24 (v24.alloc (.cells #[.string ep, .bool ed, .string ex] 47)) := (Below.refl _ _).alloc (Nat.le_refl _) _
                replace HB := hidE (B3E HB.out hB)
                replace HU := hidE (HU.out.below hB)
                replace HS := hidE (HS.out.below hB)
                clear hB
                have x1 : (v24.alloc (.cells #[.string ep, .bool ed, .string ex] 47)).cell? ⟨v24.heap.size, 1, none⟩ = some (.bool ed) := by simp
                cases xp with
                | false =>
                  go_wp2
                  go_roundw
                  case rel => exact ⟨k + 1, by omega, by go_num, by rw [HKs.out]; go_num, HB, HU, HS⟩
                  case measure => simp [RowKit.intOf]; omega
                | true =>
                  cases ed with
                  | false =>
                    go_wp2
                    go_roundw
                    case rel => exact ⟨k + 1, by omega, by go_num, by rw [HKs.out]; go_num, HB, HU, HS⟩
                    case measure => simp [RowKit.intOf]; omega
                  | true =>
                    go_wp2
                    go_roundw
                    case rel => exact ⟨k + 1, by omega, by go_num, by rw [HKs.out]; go_num, HB, HU, HS⟩
                    case measure => simp [RowKit.intOf]; omega
              · have hke : ls.take k = ls := List.take_of_length_le (by omega)
                rw [hke, HNn.out]
                have q5 : ((nn : Int) - (nn : Int) == 0) = true := by simp
                have q6 : (nn : Int) - (nn : Int) = 0 := by omega
                rw [q6]
                go_wp2
                go_ret
                exact ⟨rfl, HB.out⟩
  · have hn : (1048576 : Int) < len := by omega
    go_enter Tryz.func5, Tryz.ntmps5
    go_wp2
    go_ret
    exact ⟨rfl, Below.refl _ _⟩
end Go.Proofs.YtkjpmngohocmlabGreatDoor.Ly
