/-
  The walk of the law FnLayerSteps, out of the contracts.
-/
import Derived.Test.YtkjpmngohocmlabGreatDoorHPk38
import Derived.Test.YtkjpmngohocmlabGreatDoorHLyDfW
import Derived.Test.YtkjpmngohocmlabGreatDoorHLyOn
import Derived.Test.YtkjpmngohocmlabGreatDoorHPk37
import Derived.Test.YtkjpmngohocmlabGreatDoorHSameI
import Derived.Test.YtkjpmngohocmlabGreatDoorHMkSameI
import Derived.Test.YtkjpmngohocmlabGreatDoorHPk15
import Derived.Test.YtkjpmngohocmlabGreatDoorHPk20
import Derived.Test.YtkjpmngohocmlabGreatDoorHPk27
namespace Go.Proofs.YtkjpmngohocmlabGreatDoor.Ly
open Go.RowKit Go.Lib

theorem sameT_reX : ∀ es : List E, sameT es es = true
  | [] => rfl
  | e :: r => by
    show (sameT1 e e && sameT r r) = true
    rw [sameT_reX r, Bool.and_true]
    unfold sameT1; simp
theorem sameM_reX : ∀ es : List Mk.E, Mk.sameT es es = true
  | [] => rfl
  | e :: r => by
    show (Mk.sameT1 e e && Mk.sameT r r) = true
    rw [sameM_reX r, Bool.and_true]
    unfold Mk.sameT1; simp
set_option maxHeartbeats 4000000 in
set_option maxRecDepth 100000 in
theorem walk_fnLayerSteps (ae : Int → Addr) (a : Option Addr) (len cap : Nat) (zs : List Int) (b : Option Addr) (len2 cap2 : Nat) (ys : List Int) (w : World) (hErr : Errs2 w ae) (hw : IsRow .u8 w a len cap zs) (hw2 : IsRow .u8 w b len2 cap2 ys) :
    Calls Tryz.prog 3 #[.slice a len cap, .slice b len2 cap2] w fun e w' => e = .returned (.bool true) ∧ Below w.heap.size w w' := by
  have HC := hidR hw.cod
  have HC2 := hidR hw2.cod
  have HEr := hidE (fun (W : World) (h : Below w.heap.size w W) => hErr.below h)
  clear hw hw2 hErr
  by_cases hl : len ≤ 1048576
  · by_cases hl2 : len2 ≤ 1048576
    · go_enter Tryz.func3, Tryz.ntmps3
      go_wp2_with fail
      refine (DrawLayerDiff_any _ a len cap hl HC.out).mono ?_
      rintro e v1 ⟨v, v', lA, lU, rfl, hLA, hLU, hDA, hDU, hB⟩
      obtain ⟨aA, gA, oA, cA, rfl, haA, hEA, hcA, -⟩ := hLA
      have HA := hidE hEA
      have HAA := hidE haA
      obtain ⟨aU, gU, oU, cU, rfl, haU, hEU, hcU, -⟩ := hLU
      have HU := hidE hEU
      have HAU := hidE haU
      have HZA : Hid (∀ e ∈ lA, e.p.size ≤ 16777216 ∧ e.x.size ≤ 16777216) := fun e he => ⟨by have := (hDA.2 e he).1; omega, by have := (hDA.2 e he).2; omega⟩
      have hlA : lA.length ≤ 17 := hDA.1
      clear hEA haA hDA
      have HZU : Hid (∀ e ∈ lU, e.p.size ≤ 16777216 ∧ e.x.size ≤ 16777216) := fun e he => ⟨by have := (hDU.2 e he).1; omega, by have := (hDU.2 e he).2; omega⟩
      have hlU : lU.length ≤ 17 := hDU.1
      clear hEU haU hDU
      have HB := hidE (Below.refl w.heap.size w)
      replace HC2 := hidR (HC2.out.below hB)
      replace HB := hidE (B3E HB.out hB)
      clear hB
      go_wp2_with fail
      refine (DrawLayerDiff_any _ b len2 cap2 hl2 HC2.out).mono ?_
      rintro e v2 ⟨v, v', lD, lV, rfl, hLD, hLV, hDD, hDV, hB⟩
      obtain ⟨aD, gD, oD, cD, rfl, haD, hED, hcD, -⟩ := hLD
      have HD := hidE hED
      have HAD := hidE haD
      obtain ⟨aV, gV, oV, cV, rfl, haV, hEV, hcV, -⟩ := hLV
      have HV := hidE hEV
      have HAV := hidE haV
      have HZD : Hid (∀ e ∈ lD, e.p.size ≤ 16777216 ∧ e.x.size ≤ 16777216) := fun e he => ⟨by have := (hDD.2 e he).1; omega, by have := (hDD.2 e he).2; omega⟩
      have hlD : lD.length ≤ 17 := hDD.1
      clear hED haD hDD
      have HZV : Hid (∀ e ∈ lV, e.p.size ≤ 16777216 ∧ e.x.size ≤ 16777216) := fun e he => ⟨by have := (hDV.2 e he).1; omega, by have := (hDV.2 e he).2; omega⟩
      have hlV : lV.length ≤ 17 := hDV.1
      clear hEV haV hDV
      replace HB := hidE (B3E HB.out hB)
      replace HA := hidE (HA.out.below hB)
      replace HU := hidE (HU.out.below hB)
      clear hB
      obtain ⟨lX, hqX⟩ : ∃ lX, diffE lA lU = lX := ⟨_, rfl⟩
      have HQX := hidE hqX
      have hsX := diff_sz HZA.out HZU.out
      rw [hqX] at hsX
      have hlX := hsX.1
      have HZX := hidE hsX.2
      clear hsX hqX
      go_wp2_with fail
      refine (iLayerDiff_any _ aA gA oA cA lA aU gU oU cU lU ae (HEr.out _ HB.out) (by omega) (by omega) HZA.out HZU.out HAA.out HAU.out HA.out HU.out).mono ?_
      rintro e v3 ⟨vx, rfl, ho, hB⟩
      rw [HQX.out] at ho
      obtain ⟨aX, gX, cX, rfl, haX, hEX, hcX⟩ := Mk.OwnE.ents ho
      have HX := hidE hEX
      have HAX := hidE haX
      clear ho haX hEX
      replace HB := hidE (B3E HB.out hB)
      replace HA := hidE (HA.out.below hB)
      replace HU := hidE (HU.out.below hB)
      replace HD := hidE (HD.out.below hB)
      replace HV := hidE (HV.out.below hB)
      clear hB
      go_wp2_with fail
      refine (sLayerDiff_any _ aA gA oA cA lA aU gU oU cU lU (by omega) (by omega) hcA hcU HZA.out HZU.out HAA.out HAU.out HA.out HU.out).mono ?_
      rintro e v4 ⟨vk, rfl, ho, hB⟩
      rw [HQX.out] at ho
      obtain ⟨aK, gK, oK, cK, rfl, haK, hEK, hcK, -⟩ := ho
      have HK := hidE hEK
      have HAK := hidE haK
      clear haK hEK
      replace HB := hidE (B3E HB.out hB)
      replace HA := hidE (HA.out.below hB)
      replace HU := hidE (HU.out.below hB)
      replace HD := hidE (HD.out.below hB)
      replace HV := hidE (HV.out.below hB)
      replace HX := hidE (HX.out.below hB)
      clear hB
      have HSX := hidE (fun (W : World) (h1 : Mk.Ents W gX 0 lX) (h2 : Mk.Ents W gK oK lX) => Mk.iTreeSame_any W aX gX 0 cX lX aK gK oK cK lX (by omega) (by omega) HAX.out HAK.out h1 h2)
      rw [sameM_reX] at HSX
      go_wp2_with fail
      refine (HSX.out _ HX.out HK.out).mono ?_
      rintro e v5 ⟨rfl, hB⟩
      replace HB := hidE (B3E HB.out hB)
      replace HA := hidE (HA.out.below hB)
      replace HU := hidE (HU.out.below hB)
      replace HD := hidE (HD.out.below hB)
      replace HV := hidE (HV.out.below hB)
      replace HX := hidE (HX.out.below hB)
      replace HK := hidE (HK.out.below hB)
      clear hB
      obtain ⟨bA, hbA⟩ : ∃ bA, treeE lA = bA := ⟨_, rfl⟩
      have HOA := hidE (fun (W : World) (h : Ents W gA oA lA) => sTreeOk_any W aA gA oA cA lA (by omega) hcA HZA.out HAA.out h)
      rw [hbA] at HOA
      have HPA := hidE hbA
      clear hbA
      go_wp2_with fail
      refine (HOA.out _ HA.out).mono ?_
      rintro e v6 ⟨rfl, hB⟩
      replace HB := hidE (B3E HB.out hB)
      replace HA := hidE (HA.out.below hB)
      replace HU := hidE (HU.out.below hB)
      replace HD := hidE (HD.out.below hB)
      replace HV := hidE (HV.out.below hB)
      replace HX := hidE (HX.out.below hB)
      replace HK := hidE (HK.out.below hB)
      clear hB
      cases bA with
      | false =>
        go_wp2_with fail
        refine (sLayerDiff_any _ aA gA oA cA lA aU gU oU cU lU (by omega) (by omega) hcA hcU HZA.out HZU.out HAA.out HAU.out HA.out HU.out).mono ?_
        rintro e v7 ⟨vm, rfl, ho, hB⟩
        rw [HQX.out] at ho
        obtain ⟨aM, gM, oM, cM, rfl, haM, hEM, hcM, -⟩ := ho
        have HM := hidE hEM
        have HAM := hidE haM
        clear haM hEM
        replace HB := hidE (B3E HB.out hB)
        replace HA := hidE (HA.out.below hB)
        replace HU := hidE (HU.out.below hB)
        replace HD := hidE (HD.out.below hB)
        replace HV := hidE (HV.out.below hB)
        replace HX := hidE (HX.out.below hB)
        replace HK := hidE (HK.out.below hB)
        clear hB
        have HSM := hidE (fun (W : World) (h1 : Mk.Ents W gX 0 lX) (h2 : Mk.Ents W gM oM lX) => Mk.iTreeSame_any W aX gX 0 cX lX aM gM oM cM lX (by omega) (by omega) HAX.out HAM.out h1 h2)
        rw [sameM_reX] at HSM
        go_wp2_with fail
        refine (HSM.out _ HX.out HM.out).mono ?_
        rintro e v8 ⟨rfl, hB⟩
        replace HB := hidE (B3E HB.out hB)
        replace HA := hidE (HA.out.below hB)
        replace HU := hidE (HU.out.below hB)
        replace HD := hidE (HD.out.below hB)
        replace HV := hidE (HV.out.below hB)
        replace HX := hidE (HX.out.below hB)
        replace HK := hidE (HK.out.below hB)
        replace HM := hidE (HM.out.below hB)
        clear hB
        go_wp2
        go_ret
        exact ⟨rfl, HB.out⟩
      | true =>
        obtain ⟨bU, hbU⟩ : ∃ bU, treeE lU = bU := ⟨_, rfl⟩
        have HOU := hidE (fun (W : World) (h : Ents W gU oU lU) => sTreeOk_any W aU gU oU cU lU (by omega) hcU HZU.out HAU.out h)
        rw [hbU] at HOU
        have HPU := hidE hbU
        clear hbU
        go_wp2_with fail
        refine (HOU.out _ HU.out).mono ?_
        rintro e v7 ⟨rfl, hB⟩
        replace HB := hidE (B3E HB.out hB)
        replace HA := hidE (HA.out.below hB)
        replace HU := hidE (HU.out.below hB)
        replace HD := hidE (HD.out.below hB)
        replace HV := hidE (HV.out.below hB)
        replace HX := hidE (HX.out.below hB)
        replace HK := hidE (HK.out.below hB)
        clear hB
        cases bU with
        | false =>
          go_wp2_with fail
          refine (sLayerDiff_any _ aA gA oA cA lA aU gU oU cU lU (by omega) (by omega) hcA hcU HZA.out HZU.out HAA.out HAU.out HA.out HU.out).mono ?_
          rintro e v8 ⟨vm, rfl, ho, hB⟩
          rw [HQX.out] at ho
          obtain ⟨aM, gM, oM, cM, rfl, haM, hEM, hcM, -⟩ := ho
          have HM := hidE hEM
          have HAM := hidE haM
          clear haM hEM
          replace HB := hidE (B3E HB.out hB)
          replace HA := hidE (HA.out.below hB)
          replace HU := hidE (HU.out.below hB)
          replace HD := hidE (HD.out.below hB)
          replace HV := hidE (HV.out.below hB)
          replace HX := hidE (HX.out.below hB)
          replace HK := hidE (HK.out.below hB)
          clear hB
          have HSM := hidE (fun (W : World) (h1 : Mk.Ents W gX 0 lX) (h2 : Mk.Ents W gM oM lX) => Mk.iTreeSame_any W aX gX 0 cX lX aM gM oM cM lX (by omega) (by omega) HAX.out HAM.out h1 h2)
          rw [sameM_reX] at HSM
          go_wp2_with fail
          refine (HSM.out _ HX.out HM.out).mono ?_
          rintro e v9 ⟨rfl, hB⟩
          replace HB := hidE (B3E HB.out hB)
          replace HA := hidE (HA.out.below hB)
          replace HU := hidE (HU.out.below hB)
          replace HD := hidE (HD.out.below hB)
          replace HV := hidE (HV.out.below hB)
          replace HX := hidE (HX.out.below hB)
          replace HK := hidE (HK.out.below hB)
          replace HM := hidE (HM.out.below hB)
          clear hB
          go_wp2
          go_ret
          exact ⟨rfl, HB.out⟩
        | true =>
          obtain ⟨bV, hbV⟩ : ∃ bV, treeE lV = bV := ⟨_, rfl⟩
          have HOV := hidE (fun (W : World) (h : Ents W gV oV lV) => sTreeOk_any W aV gV oV cV lV (by omega) hcV HZV.out HAV.out h)
          rw [hbV] at HOV
          have HPV := hidE hbV
          clear hbV
          go_wp2_with fail
          refine (HOV.out _ HV.out).mono ?_
          rintro e v8 ⟨rfl, hB⟩
          replace HB := hidE (B3E HB.out hB)
          replace HA := hidE (HA.out.below hB)
          replace HU := hidE (HU.out.below hB)
          replace HD := hidE (HD.out.below hB)
          replace HV := hidE (HV.out.below hB)
          replace HX := hidE (HX.out.below hB)
          replace HK := hidE (HK.out.below hB)
          clear hB
          cases bV with
          | false =>
            go_wp2_with fail
            refine (sLayerDiff_any _ aA gA oA cA lA aU gU oU cU lU (by omega) (by omega) hcA hcU HZA.out HZU.out HAA.out HAU.out HA.out HU.out).mono ?_
            rintro e v9 ⟨vm, rfl, ho, hB⟩
            rw [HQX.out] at ho
            obtain ⟨aM, gM, oM, cM, rfl, haM, hEM, hcM, -⟩ := ho
            have HM := hidE hEM
            have HAM := hidE haM
            clear haM hEM
            replace HB := hidE (B3E HB.out hB)
            replace HA := hidE (HA.out.below hB)
            replace HU := hidE (HU.out.below hB)
            replace HD := hidE (HD.out.below hB)
            replace HV := hidE (HV.out.below hB)
            replace HX := hidE (HX.out.below hB)
            replace HK := hidE (HK.out.below hB)
            clear hB
            have HSM := hidE (fun (W : World) (h1 : Mk.Ents W gX 0 lX) (h2 : Mk.Ents W gM oM lX) => Mk.iTreeSame_any W aX gX 0 cX lX aM gM oM cM lX (by omega) (by omega) HAX.out HAM.out h1 h2)
            rw [sameM_reX] at HSM
            go_wp2_with fail
            refine (HSM.out _ HX.out HM.out).mono ?_
            rintro e v10 ⟨rfl, hB⟩
            replace HB := hidE (B3E HB.out hB)
            replace HA := hidE (HA.out.below hB)
            replace HU := hidE (HU.out.below hB)
            replace HD := hidE (HD.out.below hB)
            replace HV := hidE (HV.out.below hB)
            replace HX := hidE (HX.out.below hB)
            replace HK := hidE (HK.out.below hB)
            replace HM := hidE (HM.out.below hB)
            clear hB
            go_wp2
            go_ret
            exact ⟨rfl, HB.out⟩
          | true =>
            obtain ⟨lY, hqY⟩ : ∃ lY, diffE lU lV = lY := ⟨_, rfl⟩
            have HQY := hidE hqY
            have hsY := diff_sz HZU.out HZV.out
            rw [hqY] at hsY
            have hlY := hsY.1
            have HZY := hidE hsY.2
            clear hsY hqY
            go_wp2_with fail
            refine (iLayerDiff_any _ aU gU oU cU lU aV gV oV cV lV ae (HEr.out _ HB.out) (by omega) (by omega) HZU.out HZV.out HAU.out HAV.out HU.out HV.out).mono ?_
            rintro e v9 ⟨vy, rfl, ho, hB⟩
            rw [HQY.out] at ho
            obtain ⟨aY, gY, cY, rfl, haY, hEY, hcY⟩ := Mk.OwnE.ents ho
            have HY := hidE hEY
            have HAY := hidE haY
            clear ho haY hEY
            replace HB := hidE (B3E HB.out hB)
            replace HA := hidE (HA.out.below hB)
            replace HU := hidE (HU.out.below hB)
            replace HD := hidE (HD.out.below hB)
            replace HV := hidE (HV.out.below hB)
            replace HX := hidE (HX.out.below hB)
            replace HK := hidE (HK.out.below hB)
            clear hB
            obtain ⟨lJ, hqJ⟩ : ∃ lJ, Mk.jnE lY lX = lJ := ⟨_, rfl⟩
            obtain ⟨bJ, hpJ⟩ : ∃ bJ, Mk.jnB lY lX = bJ := ⟨_, rfl⟩
            have HQJ := hidE hqJ
            have HPJ := hidE hpJ
            have hsJ := jn_sz HZY.out HZX.out
            rw [hqJ] at hsJ
            have hlJ := hsJ.1
            have HZJ := hidE hsJ.2
            clear hsJ hqJ hpJ
            go_wp2_with fail
            refine (Mk.iLayerJoin_any _ aY gY 0 cY lY aX gX 0 cX lX (by omega) (by omega) HZY.out HZX.out HAY.out HAX.out HY.out HX.out).mono ?_
            rintro e v10 ⟨vj, rfl, ho, hB⟩
            rw [HQJ.out] at ho
            obtain ⟨aJ, gJ, cJ, rfl, haJ, hEJ, hcJ⟩ := Mk.OwnE.ents ho
            have HJ := hidE hEJ
            have HAJ := hidE haJ
            rw [HPJ.out]
            clear ho haJ hEJ
            replace HB := hidE (B3E HB.out hB)
            replace HA := hidE (HA.out.below hB)
            replace HU := hidE (HU.out.below hB)
            replace HD := hidE (HD.out.below hB)
            replace HV := hidE (HV.out.below hB)
            replace HX := hidE (HX.out.below hB)
            replace HK := hidE (HK.out.below hB)
            replace HY := hidE (HY.out.below hB)
            clear hB
            cases bJ with
            | false =>
              go_wp2
              go_ret
              exact ⟨rfl, HB.out⟩
            | true =>
              obtain ⟨e1, e2⟩ := diff_steps HPA.out HPU.out HPV.out (by rw [HQX.out, HQY.out]; exact HPJ.out)
              rw [HQX.out, HQY.out, HQJ.out] at e1 e2
              have HE1 := hidE e1
              have HE2 := hidE e2
              clear e1 e2
              go_wp2_with fail
              refine (iLayerOn_any _ aJ gJ 0 cJ lJ aA gA oA cA lA ae (HEr.out _ HB.out) (by omega) (by omega) HZJ.out HZA.out HAJ.out HAA.out HJ.out HA.out).mono ?_
              rintro e v11 ⟨vn, rfl, ho, hB⟩
              rw [HE2.out] at ho
              obtain ⟨aN, gN, cN, rfl, haN, hEN, -, -⟩ := ho
              have HN := hidE hEN
              have HAN := hidE haN
              rw [HE1.out]
              clear haN hEN
              replace HB := hidE (B3E HB.out hB)
              replace HA := hidE (HA.out.below hB)
              replace HU := hidE (HU.out.below hB)
              replace HD := hidE (HD.out.below hB)
              replace HV := hidE (HV.out.below hB)
              replace HX := hidE (HX.out.below hB)
              replace HK := hidE (HK.out.below hB)
              replace HY := hidE (HY.out.below hB)
              replace HJ := hidE (HJ.out.below hB)
              clear hB
              have HSY := hidE (fun (W : World) (h1 : Ents W gN 0 lV) (h2 : Ents W gV oV lV) => iTreeSame_any W aN gN 0 cN lV aV gV oV cV lV (by omega) (by omega) HAN.out HAV.out h1 h2)
              rw [sameT_reX] at HSY
              go_wp2_with fail
              refine (HSY.out _ HN.out HV.out).mono ?_
              rintro e v12 ⟨rfl, hB⟩
              replace HB := hidE (B3E HB.out hB)
              replace HA := hidE (HA.out.below hB)
              replace HU := hidE (HU.out.below hB)
              replace HD := hidE (HD.out.below hB)
              replace HV := hidE (HV.out.below hB)
              replace HX := hidE (HX.out.below hB)
              replace HK := hidE (HK.out.below hB)
              replace HY := hidE (HY.out.below hB)
              replace HJ := hidE (HJ.out.below hB)
              replace HN := hidE (HN.out.below hB)
              clear hB
              go_wp2
              go_ret
              exact ⟨rfl, HB.out⟩
    · have hn : (1048576 : Int) < len2 := by omega
      go_enter Tryz.func3, Tryz.ntmps3
      go_wp2
      go_ret
      exact ⟨rfl, Below.refl _ _⟩
  · have hn : (1048576 : Int) < len := by omega
    go_enter Tryz.func3, Tryz.ntmps3
    go_wp2
    go_ret
    exact ⟨rfl, Below.refl _ _⟩
end Go.Proofs.YtkjpmngohocmlabGreatDoor.Ly
