/-
  The walk of the law FnLayerTop, out of the contracts.
-/
import Derived.Test.YtkjpmngohocmlabGreatDoorHLyJnL
import Derived.Test.YtkjpmngohocmlabGreatDoorHLyOn
import Derived.Test.YtkjpmngohocmlabGreatDoorHPk30
import Derived.Test.YtkjpmngohocmlabGreatDoorHDrawJn
import Derived.Test.YtkjpmngohocmlabGreatDoorHSameI
import Derived.Test.YtkjpmngohocmlabGreatDoorHMkSameI
import Derived.Test.YtkjpmngohocmlabGreatDoorHPk15
import Derived.Test.YtkjpmngohocmlabGreatDoorHPk31
namespace Go.Proofs.YtkjpmngohocmlabGreatDoor.Ly
open Go.RowKit Go.Lib

theorem sameT_reX : ∀ es : List E, sameT es es = true
  | [] => rfl
  | e :: r => by
    show (sameT1 e e && sameT r r) = true
    rw [sameT_reX r, Bool.and_true]
    unfold sameT1; simp
theorem sameM_reX : ∀ es : List Mk.E, Mk.sameT es es = true
  | [] => rfl
  | e :: r => by
    show (Mk.sameT1 e e && Mk.sameT r r) = true
    rw [sameM_reX r, Bool.and_true]
    unfold Mk.sameT1; simp
set_option maxHeartbeats 4000000 in
set_option maxRecDepth 100000 in
theorem walk_fnLayerTop (ae : Int → Addr) (a : Option Addr) (len cap : Nat) (zs : List Int) (b : Option Addr) (len2 cap2 : Nat) (ys : List Int) (w : World) (hErr : Errs2 w ae) (hw : IsRow .u8 w a len cap zs) (hw2 : IsRow .u8 w b len2 cap2 ys) :
    Calls Tryz.prog 4 #[.slice a len cap, .slice b len2 cap2] w fun e w' => e = .returned (.bool true) ∧ Below w.heap.size w w' := by
  have HC := hidR hw.cod
  have HC2 := hidR hw2.cod
  have HEr := hidE (fun (W : World) (h : Below w.heap.size w W) => hErr.below h)
  clear hw hw2 hErr
  by_cases hl : len ≤ 1048576
  · by_cases hl2 : len2 ≤ 1048576
    · go_enter Tryz.func4, Tryz.ntmps4
      go_wp2_with fail
      refine (DrawLayerJoin_any _ a len cap hl HC.out).mono ?_
      rintro e v1 ⟨v, v', lA, lU, rfl, hLA, hDA, hLU, hDU, hB⟩
      obtain ⟨aA, gA, oA, cA, rfl, haA, hEA, hcA, -⟩ := hLA
      have HA := hidE hEA
      have HAA := hidE haA
      obtain ⟨aU, gU, oU, cU, rfl, haU, hEU, hcU, -⟩ := hLU
      have HU := hidE hEU
      have HAU := hidE haU
      have HZA : Hid (∀ e ∈ lA, e.p.size ≤ 16777216 ∧ e.x.size ≤ 16777216) := fun e he => ⟨by have := Mk.okP_size (hDA.2 e he).1; omega, by have := (hDA.2 e he).2; omega⟩
      have hlA : lA.length ≤ 33 := hDA.1
      clear hEA haA hDA
      have HZU : Hid (∀ e ∈ lU, e.p.size ≤ 16777216 ∧ e.x.size ≤ 16777216) := fun e he => ⟨by have := Mk.okP_size (hDU.2 e he).1; omega, by have := (hDU.2 e he).2; omega⟩
      have hlU : lU.length ≤ 33 := hDU.1
      clear hEU haU hDU
      have HB := hidE (Below.refl w.heap.size w)
      replace HC2 := hidR (HC2.out.below hB)
      replace HB := hidE (B3E HB.out hB)
      clear hB
      go_wp2_with fail
      refine (DrawLayerOn_any _ b len2 cap2 hl2 HC2.out).mono ?_
      rintro e v2 ⟨v, v', lD, lT, rfl, hLD, hDD, hLT, hDT, hB⟩
      obtain ⟨aD, gD, oD, cD, rfl, haD, hED, hcD, -⟩ := hLD
      have HD := hidE hED
      have HAD := hidE haD
      obtain ⟨aT, gT, oT, cT, rfl, haT, hET, hcT, -⟩ := hLT
      have HT := hidE hET
      have HAT := hidE haT
      have HZD : Hid (∀ e ∈ lD, e.p.size ≤ 16777216 ∧ e.x.size ≤ 16777216) := fun e he => ⟨by have := Mk.okP_size (hDD.2 e he).1; omega, by have := (hDD.2 e he).2; omega⟩
      have hlD : lD.length ≤ 33 := hDD.1
      clear hED haD hDD
      have HZT : Hid (∀ e ∈ lT, e.p.size ≤ 16777216 ∧ e.x.size ≤ 16777216) := fun e he => ⟨by have := (hDT.2 e he).1; omega, by have := (hDT.2 e he).2; omega⟩
      have hlT : lT.length ≤ 17 := hDT.1
      clear hET haT hDT
      replace HB := hidE (B3E HB.out hB)
      replace HA := hidE (HA.out.below hB)
      replace HU := hidE (HU.out.below hB)
      clear hB
      obtain ⟨lJ, hqJ⟩ : ∃ lJ, Mk.jnE lA lU = lJ := ⟨_, rfl⟩
      obtain ⟨bJ, hpJ⟩ : ∃ bJ, Mk.jnB lA lU = bJ := ⟨_, rfl⟩
      have HQJ := hidE hqJ
      have HPJ := hidE hpJ
      have hsJ := jn_sz HZA.out HZU.out
      rw [hqJ] at hsJ
      have hlJ := hsJ.1
      have HZJ := hidE hsJ.2
      clear hsJ hqJ hpJ
      go_wp2_with fail
      refine (Mk.iLayerJoin_any _ aA gA oA cA lA aU gU oU cU lU (by omega) (by omega) HZA.out HZU.out HAA.out HAU.out HA.out HU.out).mono ?_
      rintro e v3 ⟨vx, rfl, ho, hB⟩
      rw [HQJ.out] at ho
      obtain ⟨aJ, gJ, cJ, rfl, haJ, hEJ, hcJ⟩ := Mk.OwnE.ents ho
      have HJ := hidE hEJ
      have HAJ := hidE haJ
      rw [HPJ.out]
      clear ho haJ hEJ
      replace HB := hidE (B3E HB.out hB)
      replace HA := hidE (HA.out.below hB)
      replace HU := hidE (HU.out.below hB)
      replace HD := hidE (HD.out.below hB)
      replace HT := hidE (HT.out.below hB)
      clear hB
      go_wp2_with fail
      refine (Mk.sLayerJoin_any _ aA gA oA cA lA aU gU oU cU lU (by omega) (by omega) hcA hcU HZA.out HZU.out HAA.out HAU.out HA.out HU.out).mono ?_
      rintro e v4 ⟨vw, rfl, ho, hB⟩
      rw [HPJ.out]
      clear ho
      replace HB := hidE (B3E HB.out hB)
      replace HA := hidE (HA.out.below hB)
      replace HU := hidE (HU.out.below hB)
      replace HD := hidE (HD.out.below hB)
      replace HT := hidE (HT.out.below hB)
      replace HJ := hidE (HJ.out.below hB)
      clear hB
      have hne : (bJ != bJ) = false := by simp
      have heq : (bJ == bJ) = true := by simp
      cases bJ with
      | false =>
        go_wp2
        go_ret
        exact ⟨rfl, HB.out⟩
      | true =>
        obtain ⟨lX, hqX⟩ : ∃ lX, onE lJ lT = lX := ⟨_, rfl⟩
        obtain ⟨bX, hpX⟩ : ∃ bX, onB lJ lT = bX := ⟨_, rfl⟩
        have HQX := hidE hqX
        have HPX := hidE hpX
        have hsX := onE_sz HZJ.out HZT.out
        rw [hqX] at hsX
        have hlX := hsX.1
        have HZX := hidE hsX.2
        clear hsX hqX hpX
        go_wp2_with fail
        refine (iLayerOn_any _ aJ gJ 0 cJ lJ aT gT oT cT lT ae (HEr.out _ HB.out) (by omega) (by omega) HZJ.out HZT.out HAJ.out HAT.out HJ.out HT.out).mono ?_
        rintro e v5 ⟨vy, rfl, ho, hB⟩
        rw [HQX.out] at ho
        obtain ⟨aX, gX, cX, rfl, haX, hEX, -, -⟩ := ho
        have HX := hidE hEX
        have HAX := hidE haX
        rw [HPX.out]
        clear haX hEX
        replace HB := hidE (B3E HB.out hB)
        replace HA := hidE (HA.out.below hB)
        replace HU := hidE (HU.out.below hB)
        replace HD := hidE (HD.out.below hB)
        replace HT := hidE (HT.out.below hB)
        replace HJ := hidE (HJ.out.below hB)
        clear hB
        obtain ⟨lK, hqK⟩ : ∃ lK, Mk.jnE lA lJ = lK := ⟨_, rfl⟩
        obtain ⟨bK, hpK⟩ : ∃ bK, Mk.jnB lA lJ = bK := ⟨_, rfl⟩
        have HQK := hidE hqK
        have HPK := hidE hpK
        have hsK := jn_sz HZA.out HZJ.out
        rw [hqK] at hsK
        have hlK := hsK.1
        have HZK := hidE hsK.2
        clear hsK hqK hpK
        go_wp2_with fail
        refine (Mk.iLayerJoin_any _ aA gA oA cA lA aJ gJ 0 cJ lJ (by omega) (by omega) HZA.out HZJ.out HAA.out HAJ.out HA.out HJ.out).mono ?_
        rintro e v6 ⟨vk, rfl, ho, hB⟩
        rw [HQK.out] at ho
        obtain ⟨aK, gK, cK, rfl, haK, hEK, hcK⟩ := Mk.OwnE.ents ho
        have HK := hidE hEK
        have HAK := hidE haK
        rw [HPK.out]
        clear ho haK hEK
        replace HB := hidE (B3E HB.out hB)
        replace HA := hidE (HA.out.below hB)
        replace HU := hidE (HU.out.below hB)
        replace HD := hidE (HD.out.below hB)
        replace HT := hidE (HT.out.below hB)
        replace HJ := hidE (HJ.out.below hB)
        replace HX := hidE (HX.out.below hB)
        clear hB
        cases bX with
        | false =>
          go_wp2
          go_ret
          exact ⟨rfl, HB.out⟩
        | true =>
          cases bK with
          | false =>
            go_wp2
            go_ret
            exact ⟨rfl, HB.out⟩
          | true =>
            obtain ⟨t1, t2, t3, t4⟩ := jn_top (t := lT) HPJ.out (by rw [HQJ.out]; exact HPX.out) (by rw [HQJ.out]; exact HPK.out)
            rw [HQJ.out] at t1 t2 t3 t4
            rw [HQK.out] at t1 t2
            rw [HQX.out] at t2 t3 t4
            have HT1 := hidE t1
            have HT2 := hidE t2
            have HT3 := hidE t3
            have HT4 := hidE t4
            clear t1 t2 t3 t4
            go_wp2_with fail
            refine (iLayerOn_any _ aK gK 0 cK lK aT gT oT cT lT ae (HEr.out _ HB.out) (by omega) (by omega) HZK.out HZT.out HAK.out HAT.out HK.out HT.out).mono ?_
            rintro e v7 ⟨vm, rfl, ho, hB⟩
            rw [HT2.out] at ho
            obtain ⟨aY, gY, cY, rfl, haY, hEY, -, -⟩ := ho
            have HY := hidE hEY
            have HAY := hidE haY
            rw [HT1.out]
            clear haY hEY
            replace HB := hidE (B3E HB.out hB)
            replace HA := hidE (HA.out.below hB)
            replace HU := hidE (HU.out.below hB)
            replace HD := hidE (HD.out.below hB)
            replace HT := hidE (HT.out.below hB)
            replace HJ := hidE (HJ.out.below hB)
            replace HX := hidE (HX.out.below hB)
            replace HK := hidE (HK.out.below hB)
            clear hB
            go_wp2_with fail
            refine (iLayerOn_any _ aA gA oA cA lA aX gX 0 cX lX ae (HEr.out _ HB.out) (by omega) (by omega) HZA.out HZX.out HAA.out HAX.out HA.out HX.out).mono ?_
            rintro e v8 ⟨vn, rfl, ho, hB⟩
            rw [HT4.out] at ho
            obtain ⟨aZ, gZ, cZ, rfl, haZ, hEZ, -, -⟩ := ho
            have HZ := hidE hEZ
            have HAZ := hidE haZ
            rw [HT3.out]
            clear haZ hEZ
            replace HB := hidE (B3E HB.out hB)
            replace HA := hidE (HA.out.below hB)
            replace HU := hidE (HU.out.below hB)
            replace HD := hidE (HD.out.below hB)
            replace HT := hidE (HT.out.below hB)
            replace HJ := hidE (HJ.out.below hB)
            replace HX := hidE (HX.out.below hB)
            replace HK := hidE (HK.out.below hB)
            replace HY := hidE (HY.out.below hB)
            clear hB
            have HSY := hidE (fun (W : World) (h1 : Ents W gX 0 lX) (h2 : Ents W gY 0 lX) => iTreeSame_any W aX gX 0 cX lX aY gY 0 cY lX (by omega) (by omega) HAX.out HAY.out h1 h2)
            rw [sameT_reX] at HSY
            have HSZ := hidE (fun (W : World) (h1 : Ents W gX 0 lX) (h2 : Ents W gZ 0 lX) => iTreeSame_any W aX gX 0 cX lX aZ gZ 0 cZ lX (by omega) (by omega) HAX.out HAZ.out h1 h2)
            rw [sameT_reX] at HSZ
            go_wp2_with fail
            refine (HSY.out _ HX.out HY.out).mono ?_
            rintro e v9 ⟨rfl, hB⟩
            replace HB := hidE (B3E HB.out hB)
            replace HA := hidE (HA.out.below hB)
            replace HU := hidE (HU.out.below hB)
            replace HD := hidE (HD.out.below hB)
            replace HT := hidE (HT.out.below hB)
            replace HJ := hidE (HJ.out.below hB)
            replace HX := hidE (HX.out.below hB)
            replace HK := hidE (HK.out.below hB)
            replace HY := hidE (HY.out.below hB)
            replace HZ := hidE (HZ.out.below hB)
            clear hB
            go_wp2_with fail
            refine (HSZ.out _ HX.out HZ.out).mono ?_
            rintro e v10 ⟨rfl, hB⟩
            replace HB := hidE (B3E HB.out hB)
            replace HA := hidE (HA.out.below hB)
            replace HU := hidE (HU.out.below hB)
            replace HD := hidE (HD.out.below hB)
            replace HT := hidE (HT.out.below hB)
            replace HJ := hidE (HJ.out.below hB)
            replace HX := hidE (HX.out.below hB)
            replace HK := hidE (HK.out.below hB)
            replace HY := hidE (HY.out.below hB)
            replace HZ := hidE (HZ.out.below hB)
            clear hB
            go_wp2
            go_ret
            exact ⟨rfl, HB.out⟩
    · have hn : (1048576 : Int) < len2 := by omega
      go_enter Tryz.func4, Tryz.ntmps4
      go_wp2
      go_ret
      exact ⟨rfl, Below.refl _ _⟩
  · have hn : (1048576 : Int) < len := by omega
    go_enter Tryz.func4, Tryz.ntmps4
    go_wp2
    go_ret
    exact ⟨rfl, Below.refl _ _⟩
end Go.Proofs.YtkjpmngohocmlabGreatDoor.Ly
