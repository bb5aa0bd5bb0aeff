/-
  The walk of the law FnLayerDiff, out of the contracts.
-/
import Derived.Test.YtkjpmngohocmlaaGreatDoorHPk38
import Derived.Test.YtkjpmngohocmlaaGreatDoorHLyDfW
import Derived.Test.YtkjpmngohocmlaaGreatDoorHLyOn
import Derived.Test.YtkjpmngohocmlaaGreatDoorHPk37
import Derived.Test.YtkjpmngohocmlaaGreatDoorHSameI
import Derived.Test.YtkjpmngohocmlaaGreatDoorHMkSameI
import Derived.Test.YtkjpmngohocmlaaGreatDoorHPk15
import Derived.Test.YtkjpmngohocmlaaGreatDoorHPk20
import Derived.Test.YtkjpmngohocmlaaGreatDoorHPk27
namespace Go.Proofs.YtkjpmngohocmlaaGreatDoor.Ly
open Go.RowKit Go.Lib

theorem sameT_reX : ∀ es : List E, sameT es es = true
  | [] => rfl
  | e :: r => by
    show (sameT1 e e && sameT r r) = true
    rw [sameT_reX r, Bool.and_true]
    unfold sameT1; simp
theorem sameM_reX : ∀ es : List Mk.E, Mk.sameT es es = true
  | [] => rfl
  | e :: r => by
    show (Mk.sameT1 e e && Mk.sameT r r) = true
    rw [sameM_reX r, Bool.and_true]
    unfold Mk.sameT1; simp
theorem sameT_iffX : ∀ es fs : List E, sameT es fs = true ↔ es = fs
  | [], [] => by simp [sameT]
  | [], _ :: _ => by simp [sameT]
  | _ :: _, [] => by simp [sameT]
  | e :: r, f :: q => by
    show (sameT1 e f && sameT r q) = true ↔ _
    rw [Bool.and_eq_true, sameT1_iff, sameT_iffX r q, List.cons.injEq]
set_option maxHeartbeats 4000000 in
set_option maxRecDepth 100000 in
theorem walk_fnLayerDiff (ae : Int → Addr) (a : Option Addr) (len cap : Nat) (zs : List Int) (w : World) (hErr : Errs2 w ae) (hw : IsRow .u8 w a len cap zs) :
    Calls Tryz.prog 7 #[.slice a len cap] w fun e w' => e = .returned (.bool true) ∧ Below w.heap.size w w' := by
  have HC := hidR hw.cod
  have HEr := hidE (fun (W : World) (h : Below w.heap.size w W) => hErr.below h)
  clear hw hErr
  by_cases hl : len ≤ 1048576
  · go_enter Tryz.func7, Tryz.ntmps7
    go_wp2_with fail
    refine (DrawLayerDiff_any _ a len cap hl HC.out).mono ?_
    rintro e v1 ⟨v, v', lA, lU, rfl, hLA, hLU, hDA, hDU, hB⟩
    obtain ⟨aA, gA, oA, cA, rfl, haA, hEA, hcA, -⟩ := hLA
    have HA := hidE hEA
    have HAA := hidE haA
    obtain ⟨aU, gU, oU, cU, rfl, haU, hEU, hcU, -⟩ := hLU
    have HU := hidE hEU
    have HAU := hidE haU
    have HZA : Hid (∀ e ∈ lA, e.p.size ≤ 16777216 ∧ e.x.size ≤ 16777216) := fun e he => ⟨by have := (hDA.2 e he).1; omega, by have := (hDA.2 e he).2; omega⟩
    have hlA : lA.length ≤ 17 := hDA.1
    clear hEA haA hDA
    have HZU : Hid (∀ e ∈ lU, e.p.size ≤ 16777216 ∧ e.x.size ≤ 16777216) := fun e he => ⟨by have := (hDU.2 e he).1; omega, by have := (hDU.2 e he).2; omega⟩
    have hlU : lU.length ≤ 17 := hDU.1
    clear hEU haU hDU
    have HB := hidE (Below.refl w.heap.size w)
    replace HB := hidE (B3E HB.out hB)
    clear hB
    obtain ⟨lX, hqX⟩ : ∃ lX, diffE lA lU = lX := ⟨_, rfl⟩
    have HQX := hidE hqX
    have hsX := diff_sz HZA.out HZU.out
    rw [hqX] at hsX
    have hlX := hsX.1
    have HZX := hidE hsX.2
    clear hsX hqX
    go_wp2_with fail
    refine (iLayerDiff_any _ aA gA oA cA lA aU gU oU cU lU ae (HEr.out _ HB.out) (by omega) (by omega) HZA.out HZU.out HAA.out HAU.out HA.out HU.out).mono ?_
    rintro e v2 ⟨vx, rfl, ho, hB⟩
    rw [HQX.out] at ho
    obtain ⟨aX, gX, cX, rfl, haX, hEX, hcX⟩ := Mk.OwnE.ents ho
    have HX := hidE hEX
    have HAX := hidE haX
    clear ho haX hEX
    replace HB := hidE (B3E HB.out hB)
    replace HA := hidE (HA.out.below hB)
    replace HU := hidE (HU.out.below hB)
    clear hB
    go_wp2_with fail
    refine (sLayerDiff_any _ aA gA oA cA lA aU gU oU cU lU (by omega) (by omega) hcA hcU HZA.out HZU.out HAA.out HAU.out HA.out HU.out).mono ?_
    rintro e v3 ⟨vk, rfl, ho, hB⟩
    rw [HQX.out] at ho
    obtain ⟨aK, gK, oK, cK, rfl, haK, hEK, hcK, -⟩ := ho
    have HK := hidE hEK
    have HAK := hidE haK
    clear haK hEK
    replace HB := hidE (B3E HB.out hB)
    replace HA := hidE (HA.out.below hB)
    replace HU := hidE (HU.out.below hB)
    replace HX := hidE (HX.out.below hB)
    clear hB
    have HSX := hidE (fun (W : World) (h1 : Mk.Ents W gX 0 lX) (h2 : Mk.Ents W gK oK lX) => Mk.iTreeSame_any W aX gX 0 cX lX aK gK oK cK lX (by omega) (by omega) HAX.out HAK.out h1 h2)
    rw [sameM_reX] at HSX
    go_wp2_with fail
    refine (HSX.out _ HX.out HK.out).mono ?_
    rintro e v4 ⟨rfl, hB⟩
    replace HB := hidE (B3E HB.out hB)
    replace HA := hidE (HA.out.below hB)
    replace HU := hidE (HU.out.below hB)
    replace HX := hidE (HX.out.below hB)
    replace HK := hidE (HK.out.below hB)
    clear hB
    obtain ⟨bA, hbA⟩ : ∃ bA, treeE lA = bA := ⟨_, rfl⟩
    have HOA := hidE (fun (W : World) (h : Ents W gA oA lA) => sTreeOk_any W aA gA oA cA lA (by omega) hcA HZA.out HAA.out h)
    rw [hbA] at HOA
    have HPA := hidE hbA
    clear hbA
    go_wp2_with fail
    refine (HOA.out _ HA.out).mono ?_
    rintro e v5 ⟨rfl, hB⟩
    replace HB := hidE (B3E HB.out hB)
    replace HA := hidE (HA.out.below hB)
    replace HU := hidE (HU.out.below hB)
    replace HX := hidE (HX.out.below hB)
    replace HK := hidE (HK.out.below hB)
    clear hB
    cases bA with
    | false =>
      have hnil : lX = [] := HQX.out.symm.trans (diff_no (by rw [HPA.out]; rfl))
      subst hnil
      go_wp2
      go_ret
      exact ⟨rfl, HB.out⟩
    | true =>
      obtain ⟨bU, hbU⟩ : ∃ bU, treeE lU = bU := ⟨_, rfl⟩
      have HOU := hidE (fun (W : World) (h : Ents W gU oU lU) => sTreeOk_any W aU gU oU cU lU (by omega) hcU HZU.out HAU.out h)
      rw [hbU] at HOU
      have HPU := hidE hbU
      clear hbU
      go_wp2_with fail
      refine (HOU.out _ HU.out).mono ?_
      rintro e v6 ⟨rfl, hB⟩
      replace HB := hidE (B3E HB.out hB)
      replace HA := hidE (HA.out.below hB)
      replace HU := hidE (HU.out.below hB)
      replace HX := hidE (HX.out.below hB)
      replace HK := hidE (HK.out.below hB)
      clear hB
      cases bU with
      | false =>
        have hnil : lX = [] := HQX.out.symm.trans (diff_no (by rw [HPU.out, HPA.out]; rfl))
        subst hnil
        go_wp2
        go_ret
        exact ⟨rfl, HB.out⟩
      | true =>
        obtain ⟨e1, e2, e3⟩ := diff_on HPA.out HPU.out
        rw [HQX.out] at e1 e2 e3
        have HE1 := hidE e1
        have HE2 := hidE e2
        have HOX := hidE (fun (W : World) (h1 : Mk.Ents W gX 0 lX) => Mk.iLayerOk_any W aX gX 0 cX lX (by omega) HZX.out HAX.out h1)
        rw [e3] at HOX
        clear e1 e2 e3
        go_wp2_with fail
        refine (iLayerOn_any _ aX gX 0 cX lX aA gA oA cA lA ae (HEr.out _ HB.out) (by omega) (by omega) HZX.out HZA.out HAX.out HAA.out HX.out HA.out).mono ?_
        rintro e v7 ⟨vn, rfl, ho, hB⟩
        rw [HE2.out] at ho
        obtain ⟨aN, gN, cN, rfl, haN, hEN, -, -⟩ := ho
        have HN := hidE hEN
        have HAN := hidE haN
        rw [HE1.out]
        clear haN hEN
        replace HB := hidE (B3E HB.out hB)
        replace HA := hidE (HA.out.below hB)
        replace HU := hidE (HU.out.below hB)
        replace HX := hidE (HX.out.below hB)
        replace HK := hidE (HK.out.below hB)
        clear hB
        have HSY := hidE (fun (W : World) (h1 : Ents W gN 0 lU) (h2 : Ents W gU oU lU) => iTreeSame_any W aN gN 0 cN lU aU gU oU cU lU (by omega) (by omega) HAN.out HAU.out h1 h2)
        rw [sameT_reX] at HSY
        have HSE := hidE (fun (W : World) (h1 : Ents W gA oA lA) (h2 : Ents W gU oU lU) => iTreeSame_any W aA gA oA cA lA aU gU oU cU lU (by omega) (by omega) HAA.out HAU.out h1 h2)
        have hself : diffE lA lA = [] := by rw [diff_yes HPA.out HPA.out]; exact diff_self (treeE_tr HPA.out).1
        have HDA := hidE (fun (W : World) (h0 : Errs2 W ae) (h1 : Ents W gA oA lA) => iLayerDiff_any W aA gA oA cA lA aA gA oA cA lA ae h0 (by omega) (by omega) HZA.out HZA.out HAA.out HAA.out h1 h1)
        rw [hself] at HDA
        obtain ⟨be, hbe⟩ : ∃ be, sameT lA lU = be := ⟨_, rfl⟩
        rw [hbe] at HSE
        have hle : (((lX.length : Nat) : Int) == 0) = be := by
          rw [← hbe]
          have P := DfP.of HPA.out HPU.out
          have h1 : lX = [] ↔ lA = lU := by rw [← HQX.out, diff_yes HPA.out HPU.out]; exact P.nil_iff
          have h2 : sameT lA lU = true ↔ lA = lU := sameT_iffX lA lU
          rw [Bool.eq_iff_iff, beq_iff_eq, h2, ← h1]
          constructor
          · intro h; exact List.length_eq_zero_iff.1 (by omega)
          · intro h; rw [h]; rfl
        have hbb : (be == be) = true := by simp
        clear hself hbe
        go_wp2_with fail
        refine (HSY.out _ HN.out HU.out).mono ?_
        rintro e v8 ⟨rfl, hB⟩
        replace HB := hidE (B3E HB.out hB)
        replace HA := hidE (HA.out.below hB)
        replace HU := hidE (HU.out.below hB)
        replace HX := hidE (HX.out.below hB)
        replace HK := hidE (HK.out.below hB)
        clear HN
        clear hB
        go_wp2_with fail
        refine (HOX.out _ HX.out).mono ?_
        rintro e v9 ⟨rfl, hB⟩
        replace HB := hidE (B3E HB.out hB)
        replace HA := hidE (HA.out.below hB)
        replace HU := hidE (HU.out.below hB)
        replace HX := hidE (HX.out.below hB)
        replace HK := hidE (HK.out.below hB)
        clear hB
        go_wp2_with fail
        refine (HDA.out _ (HEr.out _ HB.out) HA.out).mono ?_
        rintro e v10 ⟨vd, rfl, ho, hB⟩
        obtain ⟨aD, gD, cD, rfl, -, -, -⟩ := Mk.OwnE.ents ho
        clear ho
        replace HB := hidE (B3E HB.out hB)
        replace HA := hidE (HA.out.below hB)
        replace HU := hidE (HU.out.below hB)
        replace HX := hidE (HX.out.below hB)
        replace HK := hidE (HK.out.below hB)
        clear hB
        go_wp2_with fail
        refine (HSE.out _ HA.out HU.out).mono ?_
        rintro e v11 ⟨rfl, hB⟩
        replace HB := hidE (B3E HB.out hB)
        replace HA := hidE (HA.out.below hB)
        replace HU := hidE (HU.out.below hB)
        replace HX := hidE (HX.out.below hB)
        replace HK := hidE (HK.out.below hB)
        clear hB
        go_wp2
        go_ret
        exact ⟨rfl, HB.out⟩
  · have hn : (1048576 : Int) < len := by omega
    go_enter Tryz.func7, Tryz.ntmps7
    go_wp2
    go_ret
    exact ⟨rfl, Below.refl _ _⟩
end Go.Proofs.YtkjpmngohocmlaaGreatDoor.Ly
