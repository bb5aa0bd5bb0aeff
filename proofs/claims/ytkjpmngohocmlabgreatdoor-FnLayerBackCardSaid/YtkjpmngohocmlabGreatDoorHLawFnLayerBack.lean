/-
  The walk of the law FnLayerBack, out of the contracts.
-/
import Derived.Test.YtkjpmngohocmlabGreatDoorHPk38
import Derived.Test.YtkjpmngohocmlabGreatDoorHLyDfW
import Derived.Test.YtkjpmngohocmlabGreatDoorHLyOn
import Derived.Test.YtkjpmngohocmlabGreatDoorHPk37
import Derived.Test.YtkjpmngohocmlabGreatDoorHSameI
import Derived.Test.YtkjpmngohocmlabGreatDoorHMkSameI
import Derived.Test.YtkjpmngohocmlabGreatDoorHPk15
import Derived.Test.YtkjpmngohocmlabGreatDoorHPk20
import Derived.Test.YtkjpmngohocmlabGreatDoorHPk27
namespace Go.Proofs.YtkjpmngohocmlabGreatDoor.Ly
open Go.RowKit Go.Lib

theorem sameT_reX : ∀ es : List E, sameT es es = true
  | [] => rfl
  | e :: r => by
    show (sameT1 e e && sameT r r) = true
    rw [sameT_reX r, Bool.and_true]
    unfold sameT1; simp
theorem sameM_reX : ∀ es : List Mk.E, Mk.sameT es es = true
  | [] => rfl
  | e :: r => by
    show (Mk.sameT1 e e && Mk.sameT r r) = true
    rw [sameM_reX r, Bool.and_true]
    unfold Mk.sameT1; simp
set_option maxHeartbeats 4000000 in
set_option maxRecDepth 100000 in
theorem walk_fnLayerBack (ae : Int → Addr) (a : Option Addr) (len cap : Nat) (zs : List Int) (w : World) (hErr : Errs2 w ae) (hw : IsRow .u8 w a len cap zs) :
    Calls Tryz.prog 6 #[.slice a len cap] w fun e w' => e = .returned (.bool true) ∧ Below w.heap.size w w' := by
  have HC := hidR hw.cod
  have HEr := hidE (fun (W : World) (h : Below w.heap.size w W) => hErr.below h)
  clear hw hErr
  by_cases hl : len ≤ 1048576
  · go_enter Tryz.func6, Tryz.ntmps6
    go_wp2_with fail
    refine (DrawLayerDiff_any _ a len cap hl HC.out).mono ?_
    rintro e v1 ⟨v, v', lA, lU, rfl, hLA, hLU, hDA, hDU, hB⟩
    obtain ⟨aA, gA, oA, cA, rfl, haA, hEA, hcA, -⟩ := hLA
    have HA := hidE hEA
    have HAA := hidE haA
    obtain ⟨aU, gU, oU, cU, rfl, haU, hEU, hcU, -⟩ := hLU
    have HU := hidE hEU
    have HAU := hidE haU
    have HZA : Hid (∀ e ∈ lA, e.p.size ≤ 16777216 ∧ e.x.size ≤ 16777216) := fun e he => ⟨by have := (hDA.2 e he).1; omega, by have := (hDA.2 e he).2; omega⟩
    have hlA : lA.length ≤ 17 := hDA.1
    clear hEA haA hDA
    have HZU : Hid (∀ e ∈ lU, e.p.size ≤ 16777216 ∧ e.x.size ≤ 16777216) := fun e he => ⟨by have := (hDU.2 e he).1; omega, by have := (hDU.2 e he).2; omega⟩
    have hlU : lU.length ≤ 17 := hDU.1
    clear hEU haU hDU
    have HB := hidE (Below.refl w.heap.size w)
    replace HB := hidE (B3E HB.out hB)
    clear hB
    obtain ⟨lX, hqX⟩ : ∃ lX, diffE lA lU = lX := ⟨_, rfl⟩
    have HQX := hidE hqX
    have hsX := diff_sz HZA.out HZU.out
    rw [hqX] at hsX
    have hlX := hsX.1
    have HZX := hidE hsX.2
    clear hsX hqX
    go_wp2_with fail
    refine (iLayerDiff_any _ aA gA oA cA lA aU gU oU cU lU ae (HEr.out _ HB.out) (by omega) (by omega) HZA.out HZU.out HAA.out HAU.out HA.out HU.out).mono ?_
    rintro e v2 ⟨vx, rfl, ho, hB⟩
    rw [HQX.out] at ho
    obtain ⟨aX, gX, cX, rfl, haX, hEX, hcX⟩ := Mk.OwnE.ents ho
    have HX := hidE hEX
    have HAX := hidE haX
    clear ho haX hEX
    replace HB := hidE (B3E HB.out hB)
    replace HA := hidE (HA.out.below hB)
    replace HU := hidE (HU.out.below hB)
    clear hB
    go_wp2_with fail
    refine (sLayerDiff_any _ aA gA oA cA lA aU gU oU cU lU (by omega) (by omega) hcA hcU HZA.out HZU.out HAA.out HAU.out HA.out HU.out).mono ?_
    rintro e v3 ⟨vk, rfl, ho, hB⟩
    rw [HQX.out] at ho
    obtain ⟨aK, gK, oK, cK, rfl, haK, hEK, hcK, -⟩ := ho
    have HK := hidE hEK
    have HAK := hidE haK
    clear haK hEK
    replace HB := hidE (B3E HB.out hB)
    replace HA := hidE (HA.out.below hB)
    replace HU := hidE (HU.out.below hB)
    replace HX := hidE (HX.out.below hB)
    clear hB
    have HSX := hidE (fun (W : World) (h1 : Mk.Ents W gX 0 lX) (h2 : Mk.Ents W gK oK lX) => Mk.iTreeSame_any W aX gX 0 cX lX aK gK oK cK lX (by omega) (by omega) HAX.out HAK.out h1 h2)
    rw [sameM_reX] at HSX
    go_wp2_with fail
    refine (HSX.out _ HX.out HK.out).mono ?_
    rintro e v4 ⟨rfl, hB⟩
    replace HB := hidE (B3E HB.out hB)
    replace HA := hidE (HA.out.below hB)
    replace HU := hidE (HU.out.below hB)
    replace HX := hidE (HX.out.below hB)
    replace HK := hidE (HK.out.below hB)
    clear hB
    obtain ⟨bA, hbA⟩ : ∃ bA, treeE lA = bA := ⟨_, rfl⟩
    have HOA := hidE (fun (W : World) (h : Ents W gA oA lA) => sTreeOk_any W aA gA oA cA lA (by omega) hcA HZA.out HAA.out h)
    rw [hbA] at HOA
    have HPA := hidE hbA
    clear hbA
    go_wp2_with fail
    refine (HOA.out _ HA.out).mono ?_
    rintro e v5 ⟨rfl, hB⟩
    replace HB := hidE (B3E HB.out hB)
    replace HA := hidE (HA.out.below hB)
    replace HU := hidE (HU.out.below hB)
    replace HX := hidE (HX.out.below hB)
    replace HK := hidE (HK.out.below hB)
    clear hB
    cases bA with
    | false =>
      go_wp2_with fail
      refine (sLayerDiff_any _ aA gA oA cA lA aU gU oU cU lU (by omega) (by omega) hcA hcU HZA.out HZU.out HAA.out HAU.out HA.out HU.out).mono ?_
      rintro e v6 ⟨vm, rfl, ho, hB⟩
      rw [HQX.out] at ho
      obtain ⟨aM, gM, oM, cM, rfl, haM, hEM, hcM, -⟩ := ho
      have HM := hidE hEM
      have HAM := hidE haM
      clear haM hEM
      replace HB := hidE (B3E HB.out hB)
      replace HA := hidE (HA.out.below hB)
      replace HU := hidE (HU.out.below hB)
      replace HX := hidE (HX.out.below hB)
      replace HK := hidE (HK.out.below hB)
      clear hB
      have HSM := hidE (fun (W : World) (h1 : Mk.Ents W gX 0 lX) (h2 : Mk.Ents W gM oM lX) => Mk.iTreeSame_any W aX gX 0 cX lX aM gM oM cM lX (by omega) (by omega) HAX.out HAM.out h1 h2)
      rw [sameM_reX] at HSM
      go_wp2_with fail
      refine (HSM.out _ HX.out HM.out).mono ?_
      rintro e v7 ⟨rfl, hB⟩
      replace HB := hidE (B3E HB.out hB)
      replace HA := hidE (HA.out.below hB)
      replace HU := hidE (HU.out.below hB)
      replace HX := hidE (HX.out.below hB)
      replace HK := hidE (HK.out.below hB)
      replace HM := hidE (HM.out.below hB)
      clear hB
      go_wp2
      go_ret
      exact ⟨rfl, HB.out⟩
    | true =>
      obtain ⟨bU, hbU⟩ : ∃ bU, treeE lU = bU := ⟨_, rfl⟩
      have HOU := hidE (fun (W : World) (h : Ents W gU oU lU) => sTreeOk_any W aU gU oU cU lU (by omega) hcU HZU.out HAU.out h)
      rw [hbU] at HOU
      have HPU := hidE hbU
      clear hbU
      go_wp2_with fail
      refine (HOU.out _ HU.out).mono ?_
      rintro e v6 ⟨rfl, hB⟩
      replace HB := hidE (B3E HB.out hB)
      replace HA := hidE (HA.out.below hB)
      replace HU := hidE (HU.out.below hB)
      replace HX := hidE (HX.out.below hB)
      replace HK := hidE (HK.out.below hB)
      clear hB
      cases bU with
      | false =>
        go_wp2_with fail
        refine (sLayerDiff_any _ aA gA oA cA lA aU gU oU cU lU (by omega) (by omega) hcA hcU HZA.out HZU.out HAA.out HAU.out HA.out HU.out).mono ?_
        rintro e v7 ⟨vm, rfl, ho, hB⟩
        rw [HQX.out] at ho
        obtain ⟨aM, gM, oM, cM, rfl, haM, hEM, hcM, -⟩ := ho
        have HM := hidE hEM
        have HAM := hidE haM
        clear haM hEM
        replace HB := hidE (B3E HB.out hB)
        replace HA := hidE (HA.out.below hB)
        replace HU := hidE (HU.out.below hB)
        replace HX := hidE (HX.out.below hB)
        replace HK := hidE (HK.out.below hB)
        clear hB
        have HSM := hidE (fun (W : World) (h1 : Mk.Ents W gX 0 lX) (h2 : Mk.Ents W gM oM lX) => Mk.iTreeSame_any W aX gX 0 cX lX aM gM oM cM lX (by omega) (by omega) HAX.out HAM.out h1 h2)
        rw [sameM_reX] at HSM
        go_wp2_with fail
        refine (HSM.out _ HX.out HM.out).mono ?_
        rintro e v8 ⟨rfl, hB⟩
        replace HB := hidE (B3E HB.out hB)
        replace HA := hidE (HA.out.below hB)
        replace HU := hidE (HU.out.below hB)
        replace HX := hidE (HX.out.below hB)
        replace HK := hidE (HK.out.below hB)
        replace HM := hidE (HM.out.below hB)
        clear hB
        go_wp2
        go_ret
        exact ⟨rfl, HB.out⟩
      | true =>
        obtain ⟨lY, hqY⟩ : ∃ lY, diffE lU lA = lY := ⟨_, rfl⟩
        have HQY := hidE hqY
        have hsY := diff_sz HZU.out HZA.out
        rw [hqY] at hsY
        have hlY := hsY.1
        have HZY := hidE hsY.2
        clear hsY hqY
        go_wp2_with fail
        refine (iLayerDiff_any _ aU gU oU cU lU aA gA oA cA lA ae (HEr.out _ HB.out) (by omega) (by omega) HZU.out HZA.out HAU.out HAA.out HU.out HA.out).mono ?_
        rintro e v7 ⟨vy, rfl, ho, hB⟩
        rw [HQY.out] at ho
        obtain ⟨aY, gY, cY, rfl, haY, hEY, hcY⟩ := Mk.OwnE.ents ho
        have HY := hidE hEY
        have HAY := hidE haY
        clear ho haY hEY
        replace HB := hidE (B3E HB.out hB)
        replace HA := hidE (HA.out.below hB)
        replace HU := hidE (HU.out.below hB)
        replace HX := hidE (HX.out.below hB)
        replace HK := hidE (HK.out.below hB)
        clear hB
        obtain ⟨lJ, hqJ⟩ : ∃ lJ, Mk.jnE lY lX = lJ := ⟨_, rfl⟩
        obtain ⟨bJ, hpJ⟩ : ∃ bJ, Mk.jnB lY lX = bJ := ⟨_, rfl⟩
        have HQJ := hidE hqJ
        have HPJ := hidE hpJ
        have hsJ := jn_sz HZY.out HZX.out
        rw [hqJ] at hsJ
        have hlJ := hsJ.1
        have HZJ := hidE hsJ.2
        clear hsJ hqJ hpJ
        go_wp2_with fail
        refine (Mk.iLayerJoin_any _ aY gY 0 cY lY aX gX 0 cX lX (by omega) (by omega) HZY.out HZX.out HAY.out HAX.out HY.out HX.out).mono ?_
        rintro e v8 ⟨vj, rfl, ho, hB⟩
        rw [HQJ.out] at ho
        obtain ⟨aJ, gJ, cJ, rfl, haJ, hEJ, hcJ⟩ := Mk.OwnE.ents ho
        have HJ := hidE hEJ
        have HAJ := hidE haJ
        rw [HPJ.out]
        clear ho haJ hEJ
        replace HB := hidE (B3E HB.out hB)
        replace HA := hidE (HA.out.below hB)
        replace HU := hidE (HU.out.below hB)
        replace HX := hidE (HX.out.below hB)
        replace HK := hidE (HK.out.below hB)
        replace HY := hidE (HY.out.below hB)
        clear hB
        obtain ⟨lN, hqN⟩ : ∃ lN, onE lJ lA = lN := ⟨_, rfl⟩
        obtain ⟨bN, hpN⟩ : ∃ bN, onB lJ lA = bN := ⟨_, rfl⟩
        have HQN := hidE hqN
        have HPN := hidE hpN
        have hsN := onE_sz HZJ.out HZA.out
        rw [hqN] at hsN
        have hlN := hsN.1
        have HZN := hidE hsN.2
        clear hsN hqN hpN
        go_wp2_with fail
        refine (iLayerOn_any _ aJ gJ 0 cJ lJ aA gA oA cA lA ae (HEr.out _ HB.out) (by omega) (by omega) HZJ.out HZA.out HAJ.out HAA.out HJ.out HA.out).mono ?_
        rintro e v9 ⟨vn, rfl, ho, hB⟩
        rw [HQN.out] at ho
        obtain ⟨aN, gN, cN, rfl, haN, hEN, -, -⟩ := ho
        have HN := hidE hEN
        have HAN := hidE haN
        rw [HPN.out]
        clear haN hEN
        replace HB := hidE (B3E HB.out hB)
        replace HA := hidE (HA.out.below hB)
        replace HU := hidE (HU.out.below hB)
        replace HX := hidE (HX.out.below hB)
        replace HK := hidE (HK.out.below hB)
        replace HY := hidE (HY.out.below hB)
        replace HJ := hidE (HJ.out.below hB)
        clear hB
        cases bJ with
        | false =>
          go_wp2
          go_ret
          exact ⟨rfl, HB.out⟩
        | true =>
          obtain ⟨e1, e2⟩ := diff_steps HPA.out HPU.out HPA.out (by rw [HQX.out, HQY.out]; exact HPJ.out)
          rw [HQX.out, HQY.out, HQJ.out] at e1 e2
          have hbN : bN = true := HPN.out.symm.trans e1
          have hlN2 : lN = lA := HQN.out.symm.trans e2
          clear e1 e2
          subst hbN hlN2
          have HSY := hidE (fun (W : World) (h1 : Ents W gN 0 lN) (h2 : Ents W gA oA lN) => iTreeSame_any W aN gN 0 cN lN aA gA oA cA lN (by omega) (by omega) HAN.out HAA.out h1 h2)
          rw [sameT_reX] at HSY
          go_wp2_with fail
          refine (HSY.out _ HN.out HA.out).mono ?_
          rintro e v10 ⟨rfl, hB⟩
          replace HB := hidE (B3E HB.out hB)
          replace HA := hidE (HA.out.below hB)
          replace HU := hidE (HU.out.below hB)
          replace HX := hidE (HX.out.below hB)
          replace HK := hidE (HK.out.below hB)
          replace HY := hidE (HY.out.below hB)
          replace HJ := hidE (HJ.out.below hB)
          replace HN := hidE (HN.out.below hB)
          clear hB
          go_wp2
          go_ret
          exact ⟨rfl, HB.out⟩
  · have hn : (1048576 : Int) < len := by omega
    go_enter Tryz.func6, Tryz.ntmps6
    go_wp2
    go_ret
    exact ⟨rfl, Below.refl _ _⟩
end Go.Proofs.YtkjpmngohocmlabGreatDoor.Ly
