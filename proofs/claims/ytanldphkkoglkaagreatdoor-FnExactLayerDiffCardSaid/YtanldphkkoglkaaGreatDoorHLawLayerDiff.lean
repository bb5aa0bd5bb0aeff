/-
  The walk of the law FnExactLayerDiff, out of the contracts.
-/
import Derived.Test.YtanldphkkoglkaaGreatDoorHLawMarks
import Derived.Test.YtanldphkkoglkaaGreatDoorHLawRowsE
import Derived.Test.YtanldphkkoglkaaGreatDoorHMkLawHeld
import Derived.Test.YtanldphkkoglkaaGreatDoorHMkLawMarks
import Derived.Test.YtanldphkkoglkaaGreatDoorHMkLawRowsE
import Derived.Test.YtanldphkkoglkaaGreatDoorHMkLawTop
import Derived.Test.YtanldphkkoglkaaGreatDoorHLawTop
import Derived.Test.YtanldphkkoglkaaGreatDoorHLawRows
import Derived.Test.YtanldphkkoglkaaGreatDoorHLyDfW
namespace Go.Proofs.YtanldphkkoglkaaGreatDoor.Ly
open Go.RowKit Go.Lib

theorem df_len (es fs : List E) : (diffE es fs).length ≤ 500 := by
  unfold diffE
  split
  · rename_i h
    rw [Bool.and_eq_true] at h
    obtain ⟨-, h2, h3, -⟩ := turned_facts (es := es) h.2
    have h4 : turnedE es fs = turnE es fs := by unfold turnedE; rw [h.1, h.2]; rfl
    rw [h4] at h2 h3
    have := diff_len fs (turnE es fs) h2
    unfold diffM
    omega
  · exact Nat.zero_le _

set_option maxHeartbeats 4000000 in
set_option maxRecDepth 100000 in
theorem walk_fnExactLayerDiff (ae : Int → Addr) (a : Option Addr) (len cap : Nat) (es : List E) (a' : Option Addr) (len' cap' : Nat) (fs : List E) (w : World) (hErr : Errs2 w ae) (hw : EntSl w a len cap es) (hw' : EntSl w a' len' cap' fs) :
    Calls Tryz.prog 4 #[.slice a len cap, .slice a' len' cap'] w fun r w' => r = .returned (.bool true) ∧ Below w.heap.size w w' := by
  obtain ⟨rfl, hcap, hm, hz, g, o, ha, hE⟩ := hw
  obtain ⟨rfl, hcap', hm', hz', g', o', ha', hE'⟩ := hw'
  have HEr := hidE hErr
  have HE := hidE hE
  have HZ := hidE hz
  have HE' := hidE hE'
  have HZ' := hidE hz'
  clear hE hz hErr hE' hz'
  go_enter Tryz.func4, Tryz.ntmps4
  go_wp2_with fail
  refine (szEntS_any _ a g o cap es _ (by omega) (by omega) hm HZ.out ha HE.out).mono ?_
  rintro e w1 ⟨r, rfl, r1, r2, r3, hB1⟩
  have HB1 := hidE hB1
  have HR := hidE r3
  clear hB1 r3 HZ
  by_cases hr : 0 ≤ r
  · obtain ⟨l1, l2⟩ := HR.out hr
    have hn : es.length ≤ 1048576 := by omega
    have HL : Hid (∀ e ∈ es, e.p.size ≤ 16777216 ∧ e.x.size ≤ 16777216) := fun e he => ⟨by have := (l2 e he).1; omega, by have := (l2 e he).2; omega⟩
    clear HR l2
    go_wp2_with fail
    refine (szEntS_any _ a' g' o' cap' fs r hr (by omega) hm' HZ'.out ha' (HE'.out.below HB1.out)).mono ?_
    rintro e w2 ⟨r', rfl, r1', r2', r3', hB2⟩
    have HB2 := hidE (B3E HB1.out hB2)
    have HR' := hidE r3'
    clear hB2 r3' HZ'
    by_cases hr' : 0 ≤ r'
    · obtain ⟨l1', l2'⟩ := HR'.out hr'
      have hn' : fs.length ≤ 1048576 := by omega
      have HL' : Hid (∀ e ∈ fs, e.p.size ≤ 16777216 ∧ e.x.size ≤ 16777216) := fun e he => ⟨by have := (l2' e he).1; omega, by have := (l2' e he).2; omega⟩
      clear HR' l2'
      go_wp2_with fail
      refine (toEntS_any _ a g o cap es hn ha (HE.out.below HB2.out)).mono ?_
      rintro e w3 ⟨rfl, hX3, _, hB3⟩
      have HB3 := hidE (B3E HB2.out hB3)
      have HX3 := hidE hX3
      clear hX3 hB3
      go_wp2_with fail
      refine (toEntS_any _ a' g' o' cap' fs hn' ha' (HE'.out.below HB3.out)).mono ?_
      rintro e w4 ⟨rfl, hX4, _, hB4⟩
      have HB4 := hidE (B3E HB3.out hB4)
      have HX3' := hidE (HX3.out.below hB4)
      have HX4 := hidE hX4
      clear hX4 hB4 HX3
      go_wp2_with fail
      refine (sLayerDiff_any _ _ w2.heap.size 0 es.length es _ w3.heap.size 0 fs.length fs (by omega) (by omega) (Nat.le_refl _) (Nat.le_refl _) HL.out HL'.out (fun _ => rfl) (fun _ => rfl) HX3'.out HX4.out).mono ?_
      rintro e w5 ⟨vw, rfl, hown, hB5⟩
      have HB5 := hidE (B3E HB4.out hB5)
      obtain ⟨aw, gw, ow, capw, rfl, haw, hSw, -, -⟩ := hown
      have hlen := df_len es fs
      obtain ⟨ss, hss⟩ : ∃ ss, diffE es fs = ss := ⟨_, rfl⟩
      have hgw : 0 < ss.length → gw < w5.heap.size := fun h => World.block_lt_of_cell? w5 ⟨gw, ow + 0 * 3, none⟩ (hSw 0 (by rw [hss]; exact h)).1
      rw [hss] at haw hSw hlen
      have HS5 := hidE hSw
      have HSS := hidE hss
      have HGw := hidE hgw
      have HAw := hidE haw
      rw [hss]
      clear hB5 hSw hss hgw haw HX3' HX4
      go_wp2_with fail
      refine (toEntS_any _ a g o cap es hn ha (HE.out.below HB5.out)).mono ?_
      rintro e w6 ⟨rfl, hX6, hR6, hB6⟩
      have HB6 := hidE (B3E HB5.out hB6)
      have HS6 := hidE (HS5.out.below hB6)
      have HX6 := hidE hX6
      have HR6 := hidE hR6
      have H56 : Hid (0 < es.length → w5.heap.size < w6.heap.size) := fun h => World.block_lt_of_cell? w6 ⟨w5.heap.size, 0 + 0 * 3, none⟩ (hX6 0 h).1
      have hs56 := hB6.size
      clear hX6 hR6 hB6 HS5
      go_wp2_with fail
      refine (toEntS_any _ a' g' o' cap' fs hn' ha' (HE'.out.below HB6.out)).mono ?_
      rintro e w7 ⟨rfl, hX7, hR7, hB7⟩
      have HB7 := hidE (B3E HB6.out hB7)
      have HS7 := hidE (HS6.out.below hB7)
      have HX7 := hidE (HX6.out.below hB7)
      have HR7 := hidE (HR6.out.below hB7)
      have HY7 := hidE hX7
      have HT7 := hidE hR7
      have H67 : Hid (0 < fs.length → w6.heap.size < w7.heap.size) := fun h => World.block_lt_of_cell? w7 ⟨w6.heap.size, 0 + 0 * 3, none⟩ (hX7 0 h).1
      have hs67 := hB7.size
      clear hX7 hR7 hB7 HS6 HX6 HR6
      go_wp2_with fail
      refine (iLayerDiff_any _ _ w5.heap.size 0 es.length es _ w6.heap.size 0 fs.length fs ae (HEr.out.below HB7.out) (by omega) (by omega) HL.out HL'.out (fun _ => rfl) (fun _ => rfl) HX7.out HY7.out).mono ?_
      rintro e w8 ⟨vg, rfl, hown, hB8⟩
      obtain ⟨ag, gg, capg, rfl, hag, hSg, hRg, hgg⟩ := Mk.row_entsE hown
      rw [HSS.out] at hag hSg hRg
      rw [HSS.out]
      have HB8 := hidE (B3E HB7.out hB8)
      have HS8 := hidE (HS7.out.below hB8)
      have HX8 := hidE (HX7.out.below hB8)
      have HR8 := hidE (HR7.out.below hB8)
      have HY8 := hidE (HY7.out.below hB8)
      have HT8 := hidE (HT7.out.below hB8)
      have HG8 := hidE hSg
      have HQ8 := hidE hRg
      have HAg := hidE hag
      have hs78 := hB8.size
      clear hB8 hown hSg hRg hag HS7 HX7 HR7 HY7 HT7
      have hsame := Mk.sameES_self ss
      go_wp2_with fail
      refine (Mk.eqEntS_any _ _ _ gg 0 capg gw ow capw ss ss (by omega) (by omega) HAg.out HAw.out HG8.out HS8.out).mono ?_
      rintro e w9 ⟨rfl, hB9⟩
      have HB9 := hidE (B3E HB8.out hB9)
      have HS9 := hidE (HS8.out.below hB9)
      have HX9 := hidE (HX8.out.below hB9)
      have HR9 := hidE (HR8.out.below hB9)
      have HY9 := hidE (HY8.out.below hB9)
      have HT9 := hidE (HT8.out.below hB9)
      have HG9 := hidE (HG8.out.below hB9)
      have HQ9 := hidE (HQ8.out.below hB9)
      have hs89 := hB9.size
      clear hB9 HS8 HX8 HR8 HY8 HT8 HG8 HQ8
      rw [hsame]
      go_wp2_with fail
      refine (toEntS_any _ a g o cap es hn ha (HE.out.below HB9.out)).mono ?_
      rintro e w10 ⟨rfl, hX10, _, hB10⟩
      have HU10 := hidE hX10
      have HB10 := hidE (B3E HB9.out hB10)
      have HS10 := hidE (HS9.out.below hB10)
      have HX10 := hidE (HX9.out.below hB10)
      have HR10 := hidE (HR9.out.below hB10)
      have HY10 := hidE (HY9.out.below hB10)
      have HT10 := hidE (HT9.out.below hB10)
      have HG10 := hidE (HG9.out.below hB10)
      have HQ10 := hidE (HQ9.out.below hB10)
      have hs910 := hB10.size
      clear hB10 HS9 HX9 HR9 HY9 HT9 HG9 HQ9
      clear hX10
      go_wp2_with fail
      refine (eqEntS_any _ _ _ w5.heap.size 0 es.length w9.heap.size 0 es.length es es (by omega) (by omega) (fun _ => rfl) (fun _ => rfl) HX10.out HU10.out).mono ?_
      rintro e w11 ⟨rfl, hB11⟩
      have HB11 := hidE (B3E HB10.out hB11)
      have HS11 := hidE (HS10.out.below hB11)
      have HR11 := hidE (HR10.out.below hB11)
      have HY11 := hidE (HY10.out.below hB11)
      have HT11 := hidE (HT10.out.below hB11)
      have HG11 := hidE (HG10.out.below hB11)
      have HQ11 := hidE (HQ10.out.below hB11)
      have hs1011 := hB11.size
      clear hB11 HS10 HR10 HY10 HT10 HG10 HQ10
      have hs' := sameES_self es
      clear HX10 HU10
      rw [hs']
      go_wp2_with fail
      refine (toEntS_any _ a' g' o' cap' fs hn' ha' (HE'.out.below HB11.out)).mono ?_
      rintro e w12 ⟨rfl, hX12, _, hB12⟩
      have HU12 := hidE hX12
      have HB12 := hidE (B3E HB11.out hB12)
      have HS12 := hidE (HS11.out.below hB12)
      have HR12 := hidE (HR11.out.below hB12)
      have HY12 := hidE (HY11.out.below hB12)
      have HT12 := hidE (HT11.out.below hB12)
      have HG12 := hidE (HG11.out.below hB12)
      have HQ12 := hidE (HQ11.out.below hB12)
      have hs1112 := hB12.size
      clear hB12 HS11 HR11 HY11 HT11 HG11 HQ11
      clear hX12
      go_wp2_with fail
      refine (eqEntS_any _ _ _ w6.heap.size 0 fs.length w11.heap.size 0 fs.length fs fs (by omega) (by omega) (fun _ => rfl) (fun _ => rfl) HY12.out HU12.out).mono ?_
      rintro e w13 ⟨rfl, hB13⟩
      have HB13 := hidE (B3E HB12.out hB13)
      have HS13 := hidE (HS12.out.below hB13)
      have HR13 := hidE (HR12.out.below hB13)
      have HT13 := hidE (HT12.out.below hB13)
      have HG13 := hidE (HG12.out.below hB13)
      have HQ13 := hidE (HQ12.out.below hB13)
      have hs1213 := hB13.size
      clear hB13 HS12 HR12 HT12 HG12 HQ12
      have hs'' := sameES_self fs
      clear HY12 HU12
      rw [hs'']
      have hw5 := HB5.out.size
      have hgge : w7.heap.size ≤ gg := hgg
      have hggl : 0 < ss.length → gg < w13.heap.size := fun h => World.block_lt_of_cell? w13 ⟨gg, 0 + 0 * 3, none⟩ (HG13.out 0 h).1
      have HGG := hidE hggl
      obtain ⟨gx, hgx⟩ : ∃ gx, (0 < es.length → gx = w5.heap.size) ∧ (es.length = 0 → gx = w13.heap.size) := by
        by_cases h : 0 < es.length
        · exact ⟨w5.heap.size, fun _ => rfl, fun h' => by omega⟩
        · exact ⟨w13.heap.size, fun h' => absurd h' h, fun _ => rfl⟩
      have HGX := hidE hgx
      have hgxl : w5.heap.size ≤ gx := by
        by_cases h : 0 < es.length
        · have := HGX.out.1 h; omega
        · have := HGX.out.2 (by omega); omega
      clear hgx hggl
      go_wp2_with fail
      refine (markEntS_any _ _ gx es.length es.length 1 (by omega) (by omega) (by omega) (fun h => by rw [HGX.out.1 h]) (fun i hi => by rw [HGX.out.1 (by omega)]; exact HR13.out i hi) (fun h => by have := H56.out h; rw [HGX.out.1 h]; omega)).mono ?_
      rintro e w14 ⟨rfl, -, -, hb14⟩
      have hs1314 := hb14.2.2.2.1
      have HB14 := hidE (hb14.belowE HB13.out HB13.out.size (by omega))
      have hnw : 0 < ss.length → gw ≠ gx := fun h e => by have := HGw.out h; omega
      have hng : 0 < ss.length → gg ≠ gx := fun h e => by
        have h1 := HGG.out h
        by_cases h0 : 0 < es.length
        · have h2 := HGX.out.1 h0; have h3 := H56.out h0; omega
        · have h2 := HGX.out.2 (by omega); omega
      have hnt : 0 < fs.length * 3 → w6.heap.size ≠ gx := fun h e => by
        have h1 := H67.out (by omega)
        by_cases h0 : 0 < es.length
        · have h2 := HGX.out.1 h0; have h3 := H56.out h0; omega
        · have h2 := HGX.out.2 (by omega); omega
      have HS14 := hidE (HS13.out.but hb14 hnw)
      have HG14 := hidE (HG13.out.but hb14 hng)
      have HQ14 := hidE (HQ13.out.butE hb14 (fun h => hng (by omega)))
      have HT14 := hidE (HT13.out.butE hb14 hnt)
      clear hb14 HS13 HR13 HG13 HQ13 HT13 hnw hng hnt
      obtain ⟨kk, hkk⟩ : ∃ kk : Nat, 1 + es.length * 3 = kk := ⟨_, rfl⟩
      have hk0 : 0 < kk := by omega
      have hk1 : kk ≤ 4194304 := by omega
      rw [hkk]
      clear hkk
      obtain ⟨gy, hgy⟩ : ∃ gy, (0 < fs.length → gy = w6.heap.size) ∧ (fs.length = 0 → gy = w14.heap.size) := by
        by_cases h : 0 < fs.length
        · exact ⟨w6.heap.size, fun _ => rfl, fun h' => by omega⟩
        · exact ⟨w14.heap.size, fun h' => absurd h' h, fun _ => rfl⟩
      have HGY := hidE hgy
      have hgyl : w6.heap.size ≤ gy := by
        by_cases h : 0 < fs.length
        · have := HGY.out.1 h; omega
        · have := HGY.out.2 (by omega); omega
      clear hgy
      go_wp2_with fail
      refine (markEntS_any _ _ gy fs.length fs.length kk (by omega) hk0 hk1 (fun h => by rw [HGY.out.1 h]) (fun i hi => by rw [HGY.out.1 (by omega)]; exact HT14.out i hi) (fun h => by have := H67.out h; rw [HGY.out.1 h]; omega)).mono ?_
      rintro e w15 ⟨rfl, -, -, hb15⟩
      have hs1415 := hb15.2.2.2.1
      have HB15 := hidE (hb15.belowE HB14.out HB14.out.size (by omega))
      have hnw : 0 < ss.length → gw ≠ gy := fun h e => by have := HGw.out h; omega
      have hng : 0 < ss.length → gg ≠ gy := fun h e => by
        have h1 := HGG.out h
        by_cases h0 : 0 < fs.length
        · have h2 := HGY.out.1 h0; have h3 := H67.out h0; omega
        · have h2 := HGY.out.2 (by omega); omega
      have HS15 := hidE (HS14.out.but hb15 hnw)
      have HG15 := hidE (HG14.out.but hb15 hng)
      have HQ15 := hidE (HQ14.out.butE hb15 (fun h => hng (by omega)))
      clear hb15 HS14 HG14 HQ14 HT14 hnw hng
      have hk2 : ¬ ((kk + fs.length * 3 : Nat) : Int) < 0 := by omega
      obtain ⟨kz, hkz⟩ : ∃ kz, ((kk + fs.length * 3 : Nat) : Int) = kz := ⟨_, rfl⟩
      rw [hkz] at hk2
      rw [hkz]
      clear hkz
      go_wp2_with fail
      refine (Mk.eqEntS_any _ _ _ gg 0 capg gw ow capw ss ss (by omega) (by omega) HAg.out HAw.out HG15.out HS15.out).mono ?_
      rintro e w16 ⟨rfl, hB16⟩
      have HB16 := hidE (B3E HB15.out hB16)
      have HS16 := hidE (HS15.out.below hB16)
      have HQ16 := hidE (HQ15.out.below hB16)
      have hs1516 := hB16.size
      clear hB16 HS15 HQ15
      clear HG15
      rw [hsame]
      go_wp2_with fail
      refine (Mk.markEntS_any _ _ gg capg ss.length 1 (by omega) (by omega) (by omega) HAg.out HQ16.out (fun h => by have := HGG.out h; omega)).mono ?_
      rintro e w17 ⟨rfl, hM17, -, hb17⟩
      have hs1617 := hb17.2.2.2.1
      have HB17 := hidE (hb17.belowE HB16.out HB16.out.size (by omega))
      have HS17 := hidE (HS16.out.but hb17 (fun h => by have := HGw.out h; omega))
      have HM17 := hidE hM17
      clear hb17 hM17 HS16 HQ16
      have hm0 : ¬ ((1 + ss.length * 3 : Nat) : Int) < 0 := by omega
      obtain ⟨mm, hmm⟩ : ∃ mm, ((1 + ss.length * 3 : Nat) : Int) = mm := ⟨_, rfl⟩
      have HMM := hidE hmm
      rw [hmm] at hm0
      rw [hmm]
      clear hmm
      have hmne : (mm != mm) = false := by simp
      go_wp2_with fail
      refine (Mk.heldEntS_any _ _ gg capg ss.length 1 (by omega) (by omega) (by omega) HAg.out HM17.out).mono ?_
      rintro e w18 ⟨rfl, hB18⟩
      rw [HMM.out]
      have HB18 := hidE (B3E HB17.out hB18)
      have HS18 := hidE (HS17.out.below hB18)
      have HM18 := hidE (HM17.out.below hB18)
      have hs1718 := hB18.size
      clear hB18 HS17 HM17
      go_wp2_with fail
      refine (toEntS_any _ a g o cap es hn ha (HE.out.below HB18.out)).mono ?_
      rintro e w19 ⟨rfl, hX19, _, hB19⟩
      have HX19 := hidE hX19
      have HB19 := hidE (B3E HB18.out hB19)
      have HS19 := hidE (HS18.out.below hB19)
      have HM19 := hidE (HM18.out.below hB19)
      have hs1819 := hB19.size
      clear hB19 HS18 HM18
      clear hX19
      go_wp2_with fail
      refine (toEntS_any _ a' g' o' cap' fs hn' ha' (HE'.out.below HB19.out)).mono ?_
      rintro e w20 ⟨rfl, hX20, _, hB20⟩
      have HY20 := hidE hX20
      have HB20 := hidE (B3E HB19.out hB20)
      have HS20 := hidE (HS19.out.below hB20)
      have HM20 := hidE (HM19.out.below hB20)
      have HX20 := hidE (HX19.out.below hB20)
      have hs1920 := hB20.size
      clear hB20 HS19 HM19 HX19
      clear hX20
      go_wp2_with fail
      refine (iLayerDiff_any _ _ w18.heap.size 0 es.length es _ w19.heap.size 0 fs.length fs ae (HEr.out.below HB20.out) (by omega) (by omega) HL.out HL'.out (fun _ => rfl) (fun _ => rfl) HX20.out HY20.out).mono ?_
      rintro e w21 ⟨vh, rfl, hown, hB21⟩
      obtain ⟨ah, gh, caph, rfl, hah, hSh, -, -⟩ := Mk.row_entsE hown
      rw [HSS.out] at hah hSh
      rw [HSS.out]
      have HH21 := hidE hSh
      have HAh := hidE hah
      have HB21 := hidE (B3E HB20.out hB21)
      have HS21 := hidE (HS20.out.below hB21)
      have HM21 := hidE (HM20.out.below hB21)
      have hs2021 := hB21.size
      clear hB21 HS20 HM20
      clear hown hSh hah HX20 HY20
      go_wp2_with fail
      refine (Mk.eqEntS_any _ _ _ gh 0 caph gw ow capw ss ss (by omega) (by omega) HAh.out HAw.out HH21.out HS21.out).mono ?_
      rintro e w22 ⟨rfl, hB22⟩
      have HB22 := hidE (B3E HB21.out hB22)
      have HM22 := hidE (HM21.out.below hB22)
      have hs2122 := hB22.size
      clear hB22 HM21
      clear HS21 HH21
      rw [hsame]
      go_wp2_with fail
      refine (Mk.heldEntS_any _ _ gg capg ss.length 1 (by omega) (by omega) (by omega) HAg.out HM22.out).mono ?_
      rintro e w23 ⟨rfl, hB23⟩
      rw [HMM.out]
      have HB23 := hidE (B3E HB22.out hB23)
      have hs2223 := hB23.size
      clear hB23
      clear HM22
      go_wp2
      go_ret
      exact ⟨rfl, HB23.out⟩
    · go_wp2
      go_ret
      exact ⟨rfl, HB2.out⟩
  · go_wp2
    go_ret
    exact ⟨rfl, HB1.out⟩
end Go.Proofs.YtanldphkkoglkaaGreatDoor.Ly
