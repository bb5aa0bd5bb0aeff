/-
  The walk of the law FnLayerThree, out of the contracts.
-/
import Derived.Test.YtkjpmngohocmlaaGreatDoorHLyJnL
import Derived.Test.YtkjpmngohocmlaaGreatDoorHLyOn
import Derived.Test.YtkjpmngohocmlaaGreatDoorHPk30
import Derived.Test.YtkjpmngohocmlaaGreatDoorHDrawJn
import Derived.Test.YtkjpmngohocmlaaGreatDoorHSameI
import Derived.Test.YtkjpmngohocmlaaGreatDoorHMkSameI
import Derived.Test.YtkjpmngohocmlaaGreatDoorHPk15
import Derived.Test.YtkjpmngohocmlaaGreatDoorHPk31
namespace Go.Proofs.YtkjpmngohocmlaaGreatDoor.Ly
open Go.RowKit Go.Lib

theorem sameT_reX : ∀ es : List E, sameT es es = true
  | [] => rfl
  | e :: r => by
    show (sameT1 e e && sameT r r) = true
    rw [sameT_reX r, Bool.and_true]
    unfold sameT1; simp
theorem sameM_reX : ∀ es : List Mk.E, Mk.sameT es es = true
  | [] => rfl
  | e :: r => by
    show (Mk.sameT1 e e && Mk.sameT r r) = true
    rw [sameM_reX r, Bool.and_true]
    unfold Mk.sameT1; simp
set_option maxHeartbeats 4000000 in
set_option maxRecDepth 100000 in
theorem walk_fnLayerThree (ae : Int → Addr) (a : Option Addr) (len cap : Nat) (zs : List Int) (b : Option Addr) (len2 cap2 : Nat) (ys : List Int) (w : World) (hErr : Errs2 w ae) (hw : IsRow .u8 w a len cap zs) (hw2 : IsRow .u8 w b len2 cap2 ys) :
    Calls Tryz.prog 6 #[.slice a len cap, .slice b len2 cap2] w fun e w' => e = .returned (.bool true) ∧ Below w.heap.size w w' := by
  have HC := hidR hw.cod
  have HC2 := hidR hw2.cod
  have HEr := hidE (fun (W : World) (h : Below w.heap.size w W) => hErr.below h)
  clear hw hw2 hErr
  by_cases hl : len ≤ 1048576
  · by_cases hl2 : len2 ≤ 1048576
    · go_enter Tryz.func6, Tryz.ntmps6
      go_wp2_with fail
      refine (DrawLayerJoin_any _ a len cap hl HC.out).mono ?_
      rintro e v1 ⟨v, v', lA, lU, rfl, hLA, hDA, hLU, hDU, hB⟩
      obtain ⟨aA, gA, oA, cA, rfl, haA, hEA, hcA, -⟩ := hLA
      have HA := hidE hEA
      have HAA := hidE haA
      obtain ⟨aU, gU, oU, cU, rfl, haU, hEU, hcU, -⟩ := hLU
      have HU := hidE hEU
      have HAU := hidE haU
      have HZA : Hid (∀ e ∈ lA, e.p.size ≤ 16777216 ∧ e.x.size ≤ 16777216) := fun e he => ⟨by have := Mk.okP_size (hDA.2 e he).1; omega, by have := (hDA.2 e he).2; omega⟩
      have hlA : lA.length ≤ 33 := hDA.1
      clear hEA haA hDA
      have HZU : Hid (∀ e ∈ lU, e.p.size ≤ 16777216 ∧ e.x.size ≤ 16777216) := fun e he => ⟨by have := Mk.okP_size (hDU.2 e he).1; omega, by have := (hDU.2 e he).2; omega⟩
      have hlU : lU.length ≤ 33 := hDU.1
      clear hEU haU hDU
      have HB := hidE (Below.refl w.heap.size w)
      replace HC2 := hidR (HC2.out.below hB)
      replace HB := hidE (B3E HB.out hB)
      clear hB
      go_wp2_with fail
      refine (DrawLayerOn_any _ b len2 cap2 hl2 HC2.out).mono ?_
      rintro e v2 ⟨v, v', lD, lT, rfl, hLD, hDD, hLT, hDT, hB⟩
      obtain ⟨aD, gD, oD, cD, rfl, haD, hED, hcD, -⟩ := hLD
      have HD := hidE hED
      have HAD := hidE haD
      obtain ⟨aT, gT, oT, cT, rfl, haT, hET, hcT, -⟩ := hLT
      have HT := hidE hET
      have HAT := hidE haT
      have HZD : Hid (∀ e ∈ lD, e.p.size ≤ 16777216 ∧ e.x.size ≤ 16777216) := fun e he => ⟨by have := Mk.okP_size (hDD.2 e he).1; omega, by have := (hDD.2 e he).2; omega⟩
      have hlD : lD.length ≤ 33 := hDD.1
      clear hED haD hDD
      have HZT : Hid (∀ e ∈ lT, e.p.size ≤ 16777216 ∧ e.x.size ≤ 16777216) := fun e he => ⟨by have := (hDT.2 e he).1; omega, by have := (hDT.2 e he).2; omega⟩
      have hlT : lT.length ≤ 17 := hDT.1
      clear hET haT hDT
      replace HB := hidE (B3E HB.out hB)
      replace HA := hidE (HA.out.below hB)
      replace HU := hidE (HU.out.below hB)
      clear hB
      obtain ⟨lX, hqX⟩ : ∃ lX, Mk.jnE lA lU = lX := ⟨_, rfl⟩
      obtain ⟨bX, hpX⟩ : ∃ bX, Mk.jnB lA lU = bX := ⟨_, rfl⟩
      have HQX := hidE hqX
      have HPX := hidE hpX
      have hsX := jn_sz HZA.out HZU.out
      rw [hqX] at hsX
      have hlX := hsX.1
      have HZX := hidE hsX.2
      clear hsX hqX hpX
      go_wp2_with fail
      refine (Mk.iLayerJoin_any _ aA gA oA cA lA aU gU oU cU lU (by omega) (by omega) HZA.out HZU.out HAA.out HAU.out HA.out HU.out).mono ?_
      rintro e v3 ⟨vx, rfl, ho, hB⟩
      rw [HQX.out] at ho
      obtain ⟨aX, gX, cX, rfl, haX, hEX, hcX⟩ := Mk.OwnE.ents ho
      have HX := hidE hEX
      have HAX := hidE haX
      rw [HPX.out]
      clear ho haX hEX
      replace HB := hidE (B3E HB.out hB)
      replace HA := hidE (HA.out.below hB)
      replace HU := hidE (HU.out.below hB)
      replace HD := hidE (HD.out.below hB)
      replace HT := hidE (HT.out.below hB)
      clear hB
      go_wp2_with fail
      refine (Mk.sLayerJoin_any _ aA gA oA cA lA aU gU oU cU lU (by omega) (by omega) hcA hcU HZA.out HZU.out HAA.out HAU.out HA.out HU.out).mono ?_
      rintro e v4 ⟨vw, rfl, ho, hB⟩
      rw [HPX.out]
      clear ho
      replace HB := hidE (B3E HB.out hB)
      replace HA := hidE (HA.out.below hB)
      replace HU := hidE (HU.out.below hB)
      replace HD := hidE (HD.out.below hB)
      replace HT := hidE (HT.out.below hB)
      replace HX := hidE (HX.out.below hB)
      clear hB
      have hne : (bX != bX) = false := by simp
      have heq : (bX == bX) = true := by simp
      obtain ⟨lY, hqY⟩ : ∃ lY, Mk.jnE lU lD = lY := ⟨_, rfl⟩
      obtain ⟨bY, hpY⟩ : ∃ bY, Mk.jnB lU lD = bY := ⟨_, rfl⟩
      have HQY := hidE hqY
      have HPY := hidE hpY
      have hsY := jn_sz HZU.out HZD.out
      rw [hqY] at hsY
      have hlY := hsY.1
      have HZY := hidE hsY.2
      clear hsY hqY hpY
      go_wp2_with fail
      refine (Mk.iLayerJoin_any _ aU gU oU cU lU aD gD oD cD lD (by omega) (by omega) HZU.out HZD.out HAU.out HAD.out HU.out HD.out).mono ?_
      rintro e v5 ⟨vy, rfl, ho, hB⟩
      rw [HQY.out] at ho
      obtain ⟨aY, gY, cY, rfl, haY, hEY, hcY⟩ := Mk.OwnE.ents ho
      have HY := hidE hEY
      have HAY := hidE haY
      rw [HPY.out]
      clear ho haY hEY
      replace HB := hidE (B3E HB.out hB)
      replace HA := hidE (HA.out.below hB)
      replace HU := hidE (HU.out.below hB)
      replace HD := hidE (HD.out.below hB)
      replace HT := hidE (HT.out.below hB)
      replace HX := hidE (HX.out.below hB)
      clear hB
      cases bX with
      | false =>
        go_wp2
        go_ret
        exact ⟨rfl, HB.out⟩
      | true =>
        cases bY with
        | false =>
          go_wp2
          go_ret
          exact ⟨rfl, HB.out⟩
        | true =>
          obtain ⟨lP, hqP⟩ : ∃ lP, Mk.jnE lX lD = lP := ⟨_, rfl⟩
          obtain ⟨bP, hpP⟩ : ∃ bP, Mk.jnB lX lD = bP := ⟨_, rfl⟩
          have HQP := hidE hqP
          have HPP := hidE hpP
          have hsP := jn_sz HZX.out HZD.out
          rw [hqP] at hsP
          have hlP := hsP.1
          have HZP := hidE hsP.2
          clear hsP hqP hpP
          go_wp2_with fail
          refine (Mk.iLayerJoin_any _ aX gX 0 cX lX aD gD oD cD lD (by omega) (by omega) HZX.out HZD.out HAX.out HAD.out HX.out HD.out).mono ?_
          rintro e v6 ⟨vp, rfl, ho, hB⟩
          rw [HQP.out] at ho
          obtain ⟨aP, gP, cP, rfl, haP, hEP, hcP⟩ := Mk.OwnE.ents ho
          have HP := hidE hEP
          have HAP := hidE haP
          rw [HPP.out]
          clear ho haP hEP
          replace HB := hidE (B3E HB.out hB)
          replace HA := hidE (HA.out.below hB)
          replace HU := hidE (HU.out.below hB)
          replace HD := hidE (HD.out.below hB)
          replace HT := hidE (HT.out.below hB)
          replace HX := hidE (HX.out.below hB)
          replace HY := hidE (HY.out.below hB)
          clear hB
          obtain ⟨lQ, hqQ⟩ : ∃ lQ, Mk.jnE lA lY = lQ := ⟨_, rfl⟩
          obtain ⟨bQ, hpQ⟩ : ∃ bQ, Mk.jnB lA lY = bQ := ⟨_, rfl⟩
          have HQQ := hidE hqQ
          have HPQ := hidE hpQ
          have hsQ := jn_sz HZA.out HZY.out
          rw [hqQ] at hsQ
          have hlQ := hsQ.1
          have HZQ := hidE hsQ.2
          clear hsQ hqQ hpQ
          go_wp2_with fail
          refine (Mk.iLayerJoin_any _ aA gA oA cA lA aY gY 0 cY lY (by omega) (by omega) HZA.out HZY.out HAA.out HAY.out HA.out HY.out).mono ?_
          rintro e v7 ⟨vq, rfl, ho, hB⟩
          rw [HQQ.out] at ho
          obtain ⟨aQ, gQ, cQ, rfl, haQ, hEQ, hcQ⟩ := Mk.OwnE.ents ho
          have HQ := hidE hEQ
          have HAQ := hidE haQ
          rw [HPQ.out]
          clear ho haQ hEQ
          replace HB := hidE (B3E HB.out hB)
          replace HA := hidE (HA.out.below hB)
          replace HU := hidE (HU.out.below hB)
          replace HD := hidE (HD.out.below hB)
          replace HT := hidE (HT.out.below hB)
          replace HX := hidE (HX.out.below hB)
          replace HY := hidE (HY.out.below hB)
          replace HP := hidE (HP.out.below hB)
          clear hB
          cases bP with
          | false =>
            go_wp2
            go_ret
            exact ⟨rfl, HB.out⟩
          | true =>
            cases bQ with
            | false =>
              go_wp2
              go_ret
              exact ⟨rfl, HB.out⟩
            | true =>
              have hth := jn_three (t := lT) HPX.out HPY.out (by rw [HQX.out]; exact HPP.out) (by rw [HQY.out]; exact HPQ.out)
              rw [HQX.out, HQY.out, HQP.out, HQQ.out] at hth
              obtain ⟨lM, hqM⟩ : ∃ lM, onE lP lT = lM := ⟨_, rfl⟩
              obtain ⟨bM, hpM⟩ : ∃ bM, onB lP lT = bM := ⟨_, rfl⟩
              have HQM := hidE hqM
              have HPM := hidE hpM
              have hsM := onE_sz HZP.out HZT.out
              rw [hqM] at hsM
              have hlM := hsM.1
              have HZM := hidE hsM.2
              clear hsM hqM hpM
              have HR1 := hidE hth.1.symm
              have HR2 := hidE hth.2.symm
              clear hth
              rw [HPM.out] at HR1
              rw [HQM.out] at HR2
              go_wp2_with fail
              refine (iLayerOn_any _ aP gP 0 cP lP aT gT oT cT lT ae (HEr.out _ HB.out) (by omega) (by omega) HZP.out HZT.out HAP.out HAT.out HP.out HT.out).mono ?_
              rintro e v8 ⟨vm, rfl, ho, hB⟩
              rw [HQM.out] at ho
              obtain ⟨aM, gM, cM, rfl, haM, hEM, -, -⟩ := ho
              have HM := hidE hEM
              have HAM := hidE haM
              rw [HPM.out]
              clear haM hEM
              replace HB := hidE (B3E HB.out hB)
              replace HA := hidE (HA.out.below hB)
              replace HU := hidE (HU.out.below hB)
              replace HD := hidE (HD.out.below hB)
              replace HT := hidE (HT.out.below hB)
              replace HX := hidE (HX.out.below hB)
              replace HY := hidE (HY.out.below hB)
              replace HP := hidE (HP.out.below hB)
              replace HQ := hidE (HQ.out.below hB)
              clear hB
              go_wp2_with fail
              refine (iLayerOn_any _ aQ gQ 0 cQ lQ aT gT oT cT lT ae (HEr.out _ HB.out) (by omega) (by omega) HZQ.out HZT.out HAQ.out HAT.out HQ.out HT.out).mono ?_
              rintro e v9 ⟨vn, rfl, ho, hB⟩
              rw [HR2.out] at ho
              obtain ⟨aN, gN, cN, rfl, haN, hEN, -, -⟩ := ho
              have HN := hidE hEN
              have HAN := hidE haN
              rw [HR1.out]
              clear haN hEN
              replace HB := hidE (B3E HB.out hB)
              replace HA := hidE (HA.out.below hB)
              replace HU := hidE (HU.out.below hB)
              replace HD := hidE (HD.out.below hB)
              replace HT := hidE (HT.out.below hB)
              replace HX := hidE (HX.out.below hB)
              replace HY := hidE (HY.out.below hB)
              replace HP := hidE (HP.out.below hB)
              replace HQ := hidE (HQ.out.below hB)
              replace HM := hidE (HM.out.below hB)
              clear hB
              have hn2 : (bM == bM) = true := by simp
              have HSY := hidE (fun (W : World) (h1 : Ents W gM 0 lM) (h2 : Ents W gN 0 lM) => iTreeSame_any W aM gM 0 cM lM aN gN 0 cN lM (by omega) (by omega) HAM.out HAN.out h1 h2)
              rw [sameT_reX] at HSY
              go_wp2_with fail
              refine (HSY.out _ HM.out HN.out).mono ?_
              rintro e v10 ⟨rfl, hB⟩
              replace HB := hidE (B3E HB.out hB)
              replace HA := hidE (HA.out.below hB)
              replace HU := hidE (HU.out.below hB)
              replace HD := hidE (HD.out.below hB)
              replace HT := hidE (HT.out.below hB)
              replace HX := hidE (HX.out.below hB)
              replace HY := hidE (HY.out.below hB)
              replace HP := hidE (HP.out.below hB)
              replace HQ := hidE (HQ.out.below hB)
              replace HM := hidE (HM.out.below hB)
              replace HN := hidE (HN.out.below hB)
              clear hB
              go_wp2
              go_ret
              exact ⟨rfl, HB.out⟩
    · have hn : (1048576 : Int) < len2 := by omega
      go_enter Tryz.func6, Tryz.ntmps6
      go_wp2
      go_ret
      exact ⟨rfl, Below.refl _ _⟩
  · have hn : (1048576 : Int) < len := by omega
    go_enter Tryz.func6, Tryz.ntmps6
    go_wp2
    go_ret
    exact ⟨rfl, Below.refl _ _⟩
end Go.Proofs.YtkjpmngohocmlaaGreatDoor.Ly
