/-
  The walk of the law FnLayerHides, out of the contracts.
-/
import Derived.Test.YtlgahgnjifhbhaaHUnderI
import Derived.Test.YtlgahgnjifhbhaaHMkDrawH
import Derived.Test.YtlgahgnjifhbhaaHMkLayI
import Derived.Test.YtlgahgnjifhbhaaHMkSpecHi
namespace Go.Proofs.Ytlgahgnjifhbhaa.Mk
open Go.RowKit Go.Lib

theorem lay_under {es : List E} {s o : ByteArray} (h : layHides es s = true) (hu : underI o s = true) : layHides es o = true := by
  unfold layHides at h ⊢
  simp only [Bool.and_eq_true] at h
  obtain ⟨hl, hp, hh⟩ := h
  have T := layB_tr hl
  obtain ⟨_, hpo, _⟩ := (underI_iff _ _).1 hu
  rw [hl, hpo, Bool.true_and, Bool.true_and]
  unfold hidesM at hh ⊢
  rw [List.any_eq_true] at hh ⊢
  obtain ⟨e, he, hm⟩ := hh
  refine ⟨e, he, ?_⟩
  have hpe := T.path e he
  unfold hideM at hm ⊢
  simp only [Bool.or_eq_true, Bool.and_eq_true] at hm ⊢
  right
  rcases hm with ⟨h1, h2⟩ | ⟨h2, h1⟩
  · have : e.p = s := by
      rw [beqL] at h1; exact of_decide_eq_true h1
    rw [this]
    exact ⟨h2, by rw [underL_I hpo hp]; exact hu⟩
  · rw [underL_I hp hpe] at h1
    exact ⟨h2, by rw [underL_I hpo hpe]; exact under_trans hu h1⟩
theorem lay_nil (s : ByteArray) : layHides [] s = false := by
  unfold layHides hidesM; simp

set_option maxHeartbeats 4000000 in
set_option maxRecDepth 100000 in
theorem walk_fnLayerHides (a : Option Addr) (len cap : Nat) (zs : List Int) (a' : Option Addr) (len' cap' : Nat) (zs' : List Int) (w : World) (hw : IsRow .u8 w a len cap zs) (hw' : IsRow .u8 w a' len' cap' zs') :
    Calls Try.prog 3 #[.slice a len cap, .slice a' len' cap'] w fun e w' => e = .returned (.bool true) ∧ Below w.heap.size w w' := by
  have hC := hidR hw.cod
  have hC' := hidR hw'.cod
  clear hw hw'
  by_cases hl : len ≤ 1048576
  · by_cases hl' : len' ≤ 1048576
    · go_enter Try.func3, Try.ntmps3
      go_wp2_with fail
      refine (DrawLayerHides_any _ a len cap hl hC.out).mono ?_
      rintro e w1 ⟨v, es, s, rfl, hL, hS, hs, hB⟩
      obtain ⟨a1, g1, o1, c1, rfl, ha1, hE, hc1, -⟩ := hL
      have HB := hidR hB
      have HE := hidR hE
      have HC1 := hidR (hC'.out.below hB)
      have HZ : Hid (∀ e ∈ es, e.p.size ≤ 16777216 ∧ e.x.size ≤ 16777216) := fun e he => ⟨by have := okP_size (hS.2 e he).1; omega, by have := (hS.2 e he).2; omega⟩
      have HA := hidR ha1
      have hlen : es.length ≤ 33 := hS.1
      clear hB hE ha1 hS hC hC'
      go_wp2_with fail
      refine (DrawLayerHides_any _ a' len' cap' hl' HC1.out).mono ?_
      rintro e w2 ⟨v2, es2, t, rfl, hL2, hS2, ht, hB2⟩
      obtain ⟨a2, g2, o2, c2, rfl, -⟩ := hL2
      have HB2 := hidR (tBelow HB.out hB2)
      have HE2 := hidR (HE.out.below hB2)
      clear hB2 hS2 HC1 HB HE
      go_wp2_with fail
      refine (iLayerHides_any _ a1 g1 o1 c1 es s (by omega) (by omega) HZ.out HA.out HE2.out).mono ?_
      rintro e w3 ⟨rfl, hB3⟩
      have HB3 := hidR (tBelow HB2.out hB3)
      have HE3 := hidR (HE2.out.below hB3)
      clear hB3 HB2 HE2
      go_wp2_with fail
      refine (sLayerHides_any _ a1 g1 o1 c1 es s (by omega) hc1 (by omega) HZ.out HA.out HE3.out).mono ?_
      rintro e w4 ⟨rfl, hB4⟩
      have HB4 := hidR (tBelow HB3.out hB4)
      have HE4 := hidR (HE3.out.below hB4)
      clear hB4 HB3 HE3
      have HN := hidR (fun (W : World) => iLayerHides_any W none 0 0 0 [] s (by simp) (by omega) (fun e he => by cases he) (fun h => absurd h (by simp)) (fun i hi => absurd hi (by simp)))
      rw [lay_nil] at HN
      have HU := hidR (fun (W : World) => iPathUnder_any t s (by omega) (by omega) W)
      have HO := hidR (fun (W : World) (hW : Ents W g1 o1 es) => iLayerHides_any W a1 g1 o1 c1 es t (by omega) (by omega) HZ.out HA.out hW)
      have HX := hidR (fun (h : layHides es s = true) (hu : underI t s = true) => lay_under h hu)
      cases hx : layHides es s with
      | false =>
        go_wp2_with fail
        refine (HN.out _).mono ?_
        rintro e w5 ⟨rfl, hB5⟩
        have HB5 := hidR (tBelow HB4.out hB5)
        clear hB5
        go_wp2
        go_ret
        exact ⟨rfl, HB5.out⟩
      | true =>
        cases hu : underI t s with
        | false =>
          rw [hu] at HU
          go_wp2_with fail
          refine (HU.out _).mono ?_
          rintro e w5 ⟨rfl, hB5⟩
          have HB5 := hidR (tBelow HB4.out hB5)
          clear hB5
          go_wp2_with fail
          refine (HN.out _).mono ?_
          rintro e w6 ⟨rfl, hB6⟩
          have HB6 := hidR (tBelow HB5.out hB6)
          clear hB6
          go_wp2
          go_ret
          exact ⟨rfl, HB6.out⟩
        | true =>
          rw [hu] at HU
          have ho := HX.out hx hu
          rw [ho] at HO
          go_wp2_with fail
          refine (HU.out _).mono ?_
          rintro e w5 ⟨rfl, hB5⟩
          have HB5 := hidR (tBelow HB4.out hB5)
          have HE5 := hidR (HE4.out.below hB5)
          clear hB5
          go_wp2_with fail
          refine (HO.out _ HE5.out).mono ?_
          rintro e w6 ⟨rfl, hB6⟩
          have HB6 := hidR (tBelow HB5.out hB6)
          clear hB6
          go_wp2_with fail
          refine (HN.out _).mono ?_
          rintro e w7 ⟨rfl, hB7⟩
          have HB7 := hidR (tBelow HB6.out hB7)
          clear hB7
          go_wp2
          go_ret
          exact ⟨rfl, HB7.out⟩
    · have hn : (1048576 : Int) < len' := by omega
      go_enter Try.func3, Try.ntmps3
      go_wp2
      go_ret
      exact ⟨rfl, Below.refl _ _⟩
  · have hn : (1048576 : Int) < len := by omega
    go_enter Try.func3, Try.ntmps3
    go_wp2
    go_ret
    exact ⟨rfl, Below.refl _ _⟩
end Go.Proofs.Ytlgahgnjifhbhaa.Mk
