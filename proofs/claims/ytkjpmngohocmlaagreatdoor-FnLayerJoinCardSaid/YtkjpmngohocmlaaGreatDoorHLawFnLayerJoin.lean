/-
  The walk of the law FnLayerJoin, out of the contracts.
-/
import Derived.Test.YtkjpmngohocmlaaGreatDoorHLyJnL
import Derived.Test.YtkjpmngohocmlaaGreatDoorHLyOn
import Derived.Test.YtkjpmngohocmlaaGreatDoorHPk30
import Derived.Test.YtkjpmngohocmlaaGreatDoorHDrawJn
import Derived.Test.YtkjpmngohocmlaaGreatDoorHSameI
import Derived.Test.YtkjpmngohocmlaaGreatDoorHMkSameI
import Derived.Test.YtkjpmngohocmlaaGreatDoorHPk15
import Derived.Test.YtkjpmngohocmlaaGreatDoorHPk31
namespace Go.Proofs.YtkjpmngohocmlaaGreatDoor.Ly
open Go.RowKit Go.Lib

theorem sameT_reX : ∀ es : List E, sameT es es = true
  | [] => rfl
  | e :: r => by
    show (sameT1 e e && sameT r r) = true
    rw [sameT_reX r, Bool.and_true]
    unfold sameT1; simp
theorem sameM_reX : ∀ es : List Mk.E, Mk.sameT es es = true
  | [] => rfl
  | e :: r => by
    show (Mk.sameT1 e e && Mk.sameT r r) = true
    rw [sameM_reX r, Bool.and_true]
    unfold Mk.sameT1; simp
set_option maxHeartbeats 4000000 in
set_option maxRecDepth 100000 in
theorem walk_fnLayerJoin (ae : Int → Addr) (a : Option Addr) (len cap : Nat) (zs : List Int) (b : Option Addr) (len2 cap2 : Nat) (ys : List Int) (w : World) (hErr : Errs2 w ae) (hw : IsRow .u8 w a len cap zs) (hw2 : IsRow .u8 w b len2 cap2 ys) :
    Calls Tryz.prog 5 #[.slice a len cap, .slice b len2 cap2] w fun e w' => e = .returned (.bool true) ∧ Below w.heap.size w w' := by
  have HC := hidR hw.cod
  have HC2 := hidR hw2.cod
  have HEr := hidE (fun (W : World) (h : Below w.heap.size w W) => hErr.below h)
  clear hw hw2 hErr
  by_cases hl : len ≤ 1048576
  · by_cases hl2 : len2 ≤ 1048576
    · go_enter Tryz.func5, Tryz.ntmps5
      go_wp2_with fail
      refine (DrawLayerJoin_any _ a len cap hl HC.out).mono ?_
      rintro e v1 ⟨v, v', lA, lU, rfl, hLA, hDA, hLU, hDU, hB⟩
      obtain ⟨aA, gA, oA, cA, rfl, haA, hEA, hcA, -⟩ := hLA
      have HA := hidE hEA
      have HAA := hidE haA
      obtain ⟨aU, gU, oU, cU, rfl, haU, hEU, hcU, -⟩ := hLU
      have HU := hidE hEU
      have HAU := hidE haU
      have HZA : Hid (∀ e ∈ lA, e.p.size ≤ 16777216 ∧ e.x.size ≤ 16777216) := fun e he => ⟨by have := Mk.okP_size (hDA.2 e he).1; omega, by have := (hDA.2 e he).2; omega⟩
      have hlA : lA.length ≤ 33 := hDA.1
      clear hEA haA hDA
      have HZU : Hid (∀ e ∈ lU, e.p.size ≤ 16777216 ∧ e.x.size ≤ 16777216) := fun e he => ⟨by have := Mk.okP_size (hDU.2 e he).1; omega, by have := (hDU.2 e he).2; omega⟩
      have hlU : lU.length ≤ 33 := hDU.1
      clear hEU haU hDU
      have HB := hidE (Below.refl w.heap.size w)
      replace HC2 := hidR (HC2.out.below hB)
      replace HB := hidE (B3E HB.out hB)
      clear hB
      go_wp2_with fail
      refine (DrawLayerOn_any _ b len2 cap2 hl2 HC2.out).mono ?_
      rintro e v2 ⟨v, v', lD, lT, rfl, hLD, hDD, hLT, hDT, hB⟩
      obtain ⟨aD, gD, oD, cD, rfl, haD, hED, hcD, -⟩ := hLD
      have HD := hidE hED
      have HAD := hidE haD
      obtain ⟨aT, gT, oT, cT, rfl, haT, hET, hcT, -⟩ := hLT
      have HT := hidE hET
      have HAT := hidE haT
      have HZD : Hid (∀ e ∈ lD, e.p.size ≤ 16777216 ∧ e.x.size ≤ 16777216) := fun e he => ⟨by have := Mk.okP_size (hDD.2 e he).1; omega, by have := (hDD.2 e he).2; omega⟩
      have hlD : lD.length ≤ 33 := hDD.1
      clear hED haD hDD
      have HZT : Hid (∀ e ∈ lT, e.p.size ≤ 16777216 ∧ e.x.size ≤ 16777216) := fun e he => ⟨by have := (hDT.2 e he).1; omega, by have := (hDT.2 e he).2; omega⟩
      have hlT : lT.length ≤ 17 := hDT.1
      clear hET haT hDT
      replace HB := hidE (B3E HB.out hB)
      replace HA := hidE (HA.out.below hB)
      replace HU := hidE (HU.out.below hB)
      clear hB
      obtain ⟨lJ, hqJ⟩ : ∃ lJ, Mk.jnE lA lU = lJ := ⟨_, rfl⟩
      obtain ⟨bJ, hpJ⟩ : ∃ bJ, Mk.jnB lA lU = bJ := ⟨_, rfl⟩
      have HQJ := hidE hqJ
      have HPJ := hidE hpJ
      have hsJ := jn_sz HZA.out HZU.out
      rw [hqJ] at hsJ
      have hlJ := hsJ.1
      have HZJ := hidE hsJ.2
      clear hsJ hqJ hpJ
      go_wp2_with fail
      refine (Mk.iLayerJoin_any _ aA gA oA cA lA aU gU oU cU lU (by omega) (by omega) HZA.out HZU.out HAA.out HAU.out HA.out HU.out).mono ?_
      rintro e v3 ⟨vj, rfl, ho, hB⟩
      rw [HQJ.out] at ho
      obtain ⟨aJ, gJ, cJ, rfl, haJ, hEJ, hcJ⟩ := Mk.OwnE.ents ho
      have HJ := hidE hEJ
      have HAJ := hidE haJ
      rw [HPJ.out]
      clear ho haJ hEJ
      replace HB := hidE (B3E HB.out hB)
      replace HA := hidE (HA.out.below hB)
      replace HU := hidE (HU.out.below hB)
      replace HD := hidE (HD.out.below hB)
      replace HT := hidE (HT.out.below hB)
      clear hB
      go_wp2_with fail
      refine (Mk.sLayerJoin_any _ aA gA oA cA lA aU gU oU cU lU (by omega) (by omega) hcA hcU HZA.out HZU.out HAA.out HAU.out HA.out HU.out).mono ?_
      rintro e v4 ⟨vj, rfl, ho, hB⟩
      rw [HQJ.out] at ho
      obtain ⟨aK, gK, cK, rfl, haK, hEK, hcK⟩ := Mk.OwnE.ents ho
      have HK := hidE hEK
      have HAK := hidE haK
      rw [HPJ.out]
      clear ho haK hEK
      replace HB := hidE (B3E HB.out hB)
      replace HA := hidE (HA.out.below hB)
      replace HU := hidE (HU.out.below hB)
      replace HD := hidE (HD.out.below hB)
      replace HT := hidE (HT.out.below hB)
      replace HJ := hidE (HJ.out.below hB)
      clear hB
      have hne : (bJ != bJ) = false := by simp
      have HSJ := hidE (fun (W : World) (h1 : Mk.Ents W gJ 0 lJ) (h2 : Mk.Ents W gK 0 lJ) => Mk.iTreeSame_any W aJ gJ 0 cJ lJ aK gK 0 cK lJ (by omega) (by omega) HAJ.out HAK.out h1 h2)
      rw [sameM_reX] at HSJ
      go_wp2_with fail
      refine (HSJ.out _ HJ.out HK.out).mono ?_
      rintro e v5 ⟨rfl, hB⟩
      replace HB := hidE (B3E HB.out hB)
      replace HA := hidE (HA.out.below hB)
      replace HU := hidE (HU.out.below hB)
      replace HD := hidE (HD.out.below hB)
      replace HT := hidE (HT.out.below hB)
      replace HJ := hidE (HJ.out.below hB)
      clear HK
      clear hB
      cases bJ with
      | false =>
        have hj0 : lJ = [] := HQJ.out.symm.trans (jn_no HPJ.out)
        subst hj0
        go_wp2
        go_ret
        exact ⟨rfl, HB.out⟩
      | true =>
        obtain ⟨q1, q2, q3, q4⟩ := jn_parts HPJ.out
        rw [← q3, HQJ.out] at q4
        have HOK := hidE (fun (W : World) (h1 : Mk.Ents W gJ 0 lJ) => Mk.iLayerOk_any W aJ gJ 0 cJ lJ (by omega) HZJ.out HAJ.out h1)
        rw [q4] at HOK
        clear q1 q2 q3 q4
        obtain ⟨lX, hqX⟩ : ∃ lX, onE lU lT = lX := ⟨_, rfl⟩
        obtain ⟨bX, hpX⟩ : ∃ bX, onB lU lT = bX := ⟨_, rfl⟩
        have HQX := hidE hqX
        have HPX := hidE hpX
        have hsX := onE_sz HZU.out HZT.out
        rw [hqX] at hsX
        have hlX := hsX.1
        have HZX := hidE hsX.2
        clear hsX hqX hpX
        go_wp2_with fail
        refine (iLayerOn_any _ aU gU oU cU lU aT gT oT cT lT ae (HEr.out _ HB.out) (by omega) (by omega) HZU.out HZT.out HAU.out HAT.out HU.out HT.out).mono ?_
        rintro e v6 ⟨vx, rfl, ho, hB⟩
        rw [HQX.out] at ho
        obtain ⟨aX, gX, cX, rfl, haX, hEX, -, -⟩ := ho
        have HX := hidE hEX
        have HAX := hidE haX
        rw [HPX.out]
        clear haX hEX
        replace HB := hidE (B3E HB.out hB)
        replace HA := hidE (HA.out.below hB)
        replace HU := hidE (HU.out.below hB)
        replace HD := hidE (HD.out.below hB)
        replace HT := hidE (HT.out.below hB)
        replace HJ := hidE (HJ.out.below hB)
        clear hB
        cases bX with
        | false =>
          go_wp2_with fail
          refine (HOK.out _ HJ.out).mono ?_
          rintro e v7 ⟨rfl, hB⟩
          replace HB := hidE (B3E HB.out hB)
          replace HA := hidE (HA.out.below hB)
          replace HU := hidE (HU.out.below hB)
          replace HD := hidE (HD.out.below hB)
          replace HT := hidE (HT.out.below hB)
          replace HJ := hidE (HJ.out.below hB)
          replace HX := hidE (HX.out.below hB)
          clear hB
          go_wp2
          go_ret
          exact ⟨rfl, HB.out⟩
        | true =>
          obtain ⟨r1, r2⟩ := jn_on HPJ.out HPX.out
          rw [HQX.out, HQJ.out] at r1 r2
          obtain ⟨lY, hqY⟩ : ∃ lY, onE lA lX = lY := ⟨_, rfl⟩
          obtain ⟨bY, hpY⟩ : ∃ bY, onB lA lX = bY := ⟨_, rfl⟩
          have HQY := hidE hqY
          have HPY := hidE hpY
          have hsY := onE_sz HZA.out HZX.out
          rw [hqY] at hsY
          have hlY := hsY.1
          have HZY := hidE hsY.2
          clear hsY hqY hpY
          rw [HPY.out] at r1
          rw [HQY.out] at r2
          have HR1 := hidE r1.symm
          have HR2 := hidE r2.symm
          clear r1 r2
          go_wp2_with fail
          refine (iLayerOn_any _ aA gA oA cA lA aX gX 0 cX lX ae (HEr.out _ HB.out) (by omega) (by omega) HZA.out HZX.out HAA.out HAX.out HA.out HX.out).mono ?_
          rintro e v7 ⟨vy, rfl, ho, hB⟩
          rw [HQY.out] at ho
          obtain ⟨aY, gY, cY, rfl, haY, hEY, -, -⟩ := ho
          have HY := hidE hEY
          have HAY := hidE haY
          rw [HPY.out]
          clear haY hEY
          replace HB := hidE (B3E HB.out hB)
          replace HA := hidE (HA.out.below hB)
          replace HU := hidE (HU.out.below hB)
          replace HD := hidE (HD.out.below hB)
          replace HT := hidE (HT.out.below hB)
          replace HJ := hidE (HJ.out.below hB)
          replace HX := hidE (HX.out.below hB)
          clear hB
          go_wp2_with fail
          refine (iLayerOn_any _ aJ gJ 0 cJ lJ aT gT oT cT lT ae (HEr.out _ HB.out) (by omega) (by omega) HZJ.out HZT.out HAJ.out HAT.out HJ.out HT.out).mono ?_
          rintro e v8 ⟨vz, rfl, ho, hB⟩
          rw [HR2.out] at ho
          obtain ⟨aZ, gZ, cZ, rfl, haZ, hEZ, -, -⟩ := ho
          have HZr := hidE hEZ
          have HAZ := hidE haZ
          rw [HR1.out]
          clear haZ hEZ
          replace HB := hidE (B3E HB.out hB)
          replace HA := hidE (HA.out.below hB)
          replace HU := hidE (HU.out.below hB)
          replace HD := hidE (HD.out.below hB)
          replace HT := hidE (HT.out.below hB)
          replace HJ := hidE (HJ.out.below hB)
          replace HX := hidE (HX.out.below hB)
          replace HY := hidE (HY.out.below hB)
          clear hB
          have hn2 : (bY == bY) = true := by simp
          have HSY := hidE (fun (W : World) (h1 : Ents W gY 0 lY) (h2 : Ents W gZ 0 lY) => iTreeSame_any W aY gY 0 cY lY aZ gZ 0 cZ lY (by omega) (by omega) HAY.out HAZ.out h1 h2)
          rw [sameT_reX] at HSY
          go_wp2_with fail
          refine (HOK.out _ HJ.out).mono ?_
          rintro e v9 ⟨rfl, hB⟩
          replace HB := hidE (B3E HB.out hB)
          replace HA := hidE (HA.out.below hB)
          replace HU := hidE (HU.out.below hB)
          replace HD := hidE (HD.out.below hB)
          replace HT := hidE (HT.out.below hB)
          replace HJ := hidE (HJ.out.below hB)
          replace HX := hidE (HX.out.below hB)
          replace HY := hidE (HY.out.below hB)
          replace HZr := hidE (HZr.out.below hB)
          clear hB
          go_wp2_with fail
          refine (HSY.out _ HY.out HZr.out).mono ?_
          rintro e v10 ⟨rfl, hB⟩
          replace HB := hidE (B3E HB.out hB)
          replace HA := hidE (HA.out.below hB)
          replace HU := hidE (HU.out.below hB)
          replace HD := hidE (HD.out.below hB)
          replace HT := hidE (HT.out.below hB)
          replace HJ := hidE (HJ.out.below hB)
          replace HX := hidE (HX.out.below hB)
          replace HY := hidE (HY.out.below hB)
          replace HZr := hidE (HZr.out.below hB)
          clear hB
          go_wp2
          go_ret
          exact ⟨rfl, HB.out⟩
    · have hn : (1048576 : Int) < len2 := by omega
      go_enter Tryz.func5, Tryz.ntmps5
      go_wp2
      go_ret
      exact ⟨rfl, Below.refl _ _⟩
  · have hn : (1048576 : Int) < len := by omega
    go_enter Tryz.func5, Tryz.ntmps5
    go_wp2
    go_ret
    exact ⟨rfl, Below.refl _ _⟩
end Go.Proofs.YtkjpmngohocmlaaGreatDoor.Ly
