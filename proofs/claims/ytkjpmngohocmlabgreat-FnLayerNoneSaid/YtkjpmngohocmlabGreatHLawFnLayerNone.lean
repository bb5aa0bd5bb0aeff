/-
  The walk of the law FnLayerNone, out of the contracts.
-/
import Derived.Test.YtkjpmngohocmlabGreatHPk22
import Derived.Test.YtkjpmngohocmlabGreatHDrawJn
import Derived.Test.YtkjpmngohocmlabGreatHPk04
import Derived.Test.YtkjpmngohocmlabGreatHMkSameI
import Derived.Test.YtkjpmngohocmlabGreatHPk18
import Derived.Test.YtkjpmngohocmlabGreatHLawTop
namespace Go.Proofs.YtkjpmngohocmlabGreat.Ly
open Go.RowKit Go.Lib

theorem sameM_reX : ∀ es : List Mk.E, Mk.sameT es es = true
  | [] => rfl
  | e :: r => by
    show (Mk.sameT1 e e && Mk.sameT r r) = true
    rw [sameM_reX r, Bool.and_true]
    unfold Mk.sameT1; simp
set_option maxHeartbeats 4000000 in
set_option maxRecDepth 100000 in
theorem walk_fnLayerNone (a : Option Addr) (len cap : Nat) (zs : List Int) (w : World) (hw : IsRow .u8 w a len cap zs) :
    Calls Tryz.prog 3 #[.slice a len cap] w fun e w' => e = .returned (.bool true) ∧ Below w.heap.size w w' := by
  have HC := hidR hw.cod
  clear hw
  by_cases hl : len ≤ 1048576
  · go_enter Tryz.func3, Tryz.ntmps3
    go_wp2_with fail
    refine (DrawLayerJoin_any _ a len cap hl HC.out).mono ?_
    rintro e v1 ⟨v, v', lA, lU, rfl, hLA, hDA, hLU, hDU, hB⟩
    obtain ⟨aA, gA, oA, cA, rfl, haA, hEA, hcA, -⟩ := hLA
    have HA := hidE hEA
    have HAA := hidE haA
    obtain ⟨aU, gU, oU, cU, rfl, haU, hEU, hcU, -⟩ := hLU
    have HU := hidE hEU
    have HAU := hidE haU
    have HZA : Hid (∀ e ∈ lA, e.p.size ≤ 16777216 ∧ e.x.size ≤ 16777216) := fun e he => ⟨by have := Mk.okP_size (hDA.2 e he).1; omega, by have := (hDA.2 e he).2; omega⟩
    have hlA : lA.length ≤ 33 := hDA.1
    clear hEA haA hDA
    have HZU : Hid (∀ e ∈ lU, e.p.size ≤ 16777216 ∧ e.x.size ≤ 16777216) := fun e he => ⟨by have := Mk.okP_size (hDU.2 e he).1; omega, by have := (hDU.2 e he).2; omega⟩
    have hlU : lU.length ≤ 33 := hDU.1
    clear hEU haU hDU
    have HB := hidE (Below.refl w.heap.size w)
    replace HB := hidE (B3E HB.out hB)
    clear hB
    obtain ⟨lJ, hqJ⟩ : ∃ lJ, Mk.jnE lA lU = lJ := ⟨_, rfl⟩
    obtain ⟨bJ, hpJ⟩ : ∃ bJ, Mk.jnB lA lU = bJ := ⟨_, rfl⟩
    have HQJ := hidE hqJ
    have HPJ := hidE hpJ
    have hsJ := jn_sz HZA.out HZU.out
    rw [hqJ] at hsJ
    have hlJ := hsJ.1
    have HZJ := hidE hsJ.2
    clear hsJ hqJ hpJ
    go_wp2_with fail
    refine (Mk.iLayerJoin_any _ aA gA oA cA lA aU gU oU cU lU (by omega) (by omega) HZA.out HZU.out HAA.out HAU.out HA.out HU.out).mono ?_
    rintro e v2 ⟨vx, rfl, ho, hB⟩
    rw [HPJ.out]
    clear ho
    replace HB := hidE (B3E HB.out hB)
    replace HA := hidE (HA.out.below hB)
    replace HU := hidE (HU.out.below hB)
    clear hB
    go_wp2_with fail
    refine (Mk.sLayerJoin_any _ aA gA oA cA lA aU gU oU cU lU (by omega) (by omega) hcA hcU HZA.out HZU.out HAA.out HAU.out HA.out HU.out).mono ?_
    rintro e v3 ⟨vw, rfl, ho, hB⟩
    rw [HPJ.out]
    clear ho
    replace HB := hidE (B3E HB.out hB)
    replace HA := hidE (HA.out.below hB)
    replace HU := hidE (HU.out.below hB)
    clear hB
    have hne : (bJ != bJ) = false := by simp
    have heq : (bJ == bJ) = true := by simp
    have HOA := hidE (fun (W : World) (h1 : Mk.Ents W gA oA lA) => Mk.sLayerOk_any W aA gA oA cA lA (by omega) hcA HZA.out HAA.out h1)
    obtain ⟨bA, hbA⟩ : ∃ bA, Mk.layB lA = bA := ⟨_, rfl⟩
    rw [hbA] at HOA
    have HPA := hidE hbA
    clear hbA
    go_wp2_with fail
    refine (HOA.out _ HA.out).mono ?_
    rintro e v4 ⟨rfl, hB⟩
    replace HB := hidE (B3E HB.out hB)
    replace HA := hidE (HA.out.below hB)
    replace HU := hidE (HU.out.below hB)
    clear hB
    cases bA with
    | false =>
      go_wp2
      go_ret
      exact ⟨rfl, HB.out⟩
    | true =>
      obtain ⟨n1, n2, n3, n4⟩ := jn_none HPA.out
      have hnil : Hid (∀ e ∈ ([] : List Mk.E), e.p.size ≤ 16777216 ∧ e.x.size ≤ 16777216) := fun e he => by cases he
      have HJ1 := hidE (fun (W : World) (h1 : Mk.Ents W gA oA lA) => Mk.iLayerJoin_any W aA gA oA cA lA none 0 0 0 [] (by omega) (by simp) HZA.out hnil.out HAA.out (fun h => absurd h (by simp)) h1 (fun i hi => absurd hi (by simp)))
      have HJ2 := hidE (fun (W : World) (h1 : Mk.Ents W gA oA lA) => Mk.iLayerJoin_any W none 0 0 0 [] aA gA oA cA lA (by simp) (by omega) hnil.out HZA.out (fun h => absurd h (by simp)) HAA.out (fun i hi => absurd hi (by simp)) h1)
      rw [n1, n2] at HJ1
      rw [n3, n4] at HJ2
      clear n1 n2 n3 n4
      go_wp2_with fail
      refine (HJ1.out _ HA.out).mono ?_
      rintro e v5 ⟨vy, rfl, ho, hB⟩
      obtain ⟨aX, gX, cX, rfl, haX, hEX, hcX⟩ := Mk.OwnE.ents ho
      have HX := hidE hEX
      have HAX := hidE haX
      clear ho haX hEX
      replace HB := hidE (B3E HB.out hB)
      replace HA := hidE (HA.out.below hB)
      replace HU := hidE (HU.out.below hB)
      clear hB
      go_wp2_with fail
      refine (HJ2.out _ HA.out).mono ?_
      rintro e v6 ⟨vz, rfl, ho, hB⟩
      obtain ⟨aY, gY, cY, rfl, haY, hEY, hcY⟩ := Mk.OwnE.ents ho
      have HY := hidE hEY
      have HAY := hidE haY
      clear ho haY hEY
      replace HB := hidE (B3E HB.out hB)
      replace HA := hidE (HA.out.below hB)
      replace HU := hidE (HU.out.below hB)
      replace HX := hidE (HX.out.below hB)
      clear hB
      have HSX := hidE (fun (W : World) (h1 : Mk.Ents W gX 0 lA) (h2 : Mk.Ents W gA oA lA) => Mk.iTreeSame_any W aX gX 0 cX lA aA gA oA cA lA (by omega) (by omega) HAX.out HAA.out h1 h2)
      rw [sameM_reX] at HSX
      have HSY := hidE (fun (W : World) (h1 : Mk.Ents W gY 0 lA) (h2 : Mk.Ents W gA oA lA) => Mk.iTreeSame_any W aY gY 0 cY lA aA gA oA cA lA (by omega) (by omega) HAY.out HAA.out h1 h2)
      rw [sameM_reX] at HSY
      go_wp2_with fail
      refine (HSX.out _ HX.out HA.out).mono ?_
      rintro e v7 ⟨rfl, hB⟩
      replace HB := hidE (B3E HB.out hB)
      replace HA := hidE (HA.out.below hB)
      replace HU := hidE (HU.out.below hB)
      replace HX := hidE (HX.out.below hB)
      replace HY := hidE (HY.out.below hB)
      clear hB
      go_wp2_with fail
      refine (HSY.out _ HY.out HA.out).mono ?_
      rintro e v8 ⟨rfl, hB⟩
      replace HB := hidE (B3E HB.out hB)
      replace HA := hidE (HA.out.below hB)
      replace HU := hidE (HU.out.below hB)
      replace HX := hidE (HX.out.below hB)
      replace HY := hidE (HY.out.below hB)
      clear hB
      go_wp2
      go_ret
      exact ⟨rfl, HB.out⟩
  · have hn : (1048576 : Int) < len := by omega
    go_enter Tryz.func3, Tryz.ntmps3
    go_wp2
    go_ret
    exact ⟨rfl, Below.refl _ _⟩
end Go.Proofs.YtkjpmngohocmlabGreat.Ly
