/-
  The walk of the law FnExactTreeList, out of the contracts.
-/
import Derived.Test.YtfbhkcfecdbdeaaDoorLawRows
import Derived.Test.YtfbhkcfecdbdeaaDoorTreeList
import Derived.Test.YtfbhkcfecdbdeaaDoorListI
namespace Go.Proofs.YtfbhkcfecdbdeaaDoor
open Go.RowKit Go.Lib

set_option maxHeartbeats 2000000 in
set_option maxRecDepth 100000 in
theorem walk_fnExactTreeList (ae : Int → Addr) (a : Option Addr) (len cap : Nat) (es : List E) (s : ByteArray) (w : World) (hErr : Errs2R w ae) (hw : EntSl w a len cap es) :
    Calls Tryd.prog 5 #[.slice a len cap, .string s] w fun r w' => r = .returned (.bool true) ∧ Below w.heap.size w w' := by
  obtain ⟨rfl, hcap, hm, hz, g, o, ha, hE⟩ := hw
  have HEr := hidE hErr
  have HE := hidE hE
  have HZ := hidE hz
  clear hE hz hErr
  by_cases hs : s.size ≤ 1048576
  · go_enter Tryd.func5, Tryd.ntmps5
    go_wp2_with fail
    refine (szEntS_any _ a g o cap es _ (by omega) (by omega) hm HZ.out ha HE.out).mono ?_
    rintro e w1 ⟨r, rfl, r1, r2, r3, hB1⟩
    have HB1 := hidE hB1
    have HR := hidE r3
    clear hB1 r3 HZ
    by_cases hr : 0 ≤ r
    · obtain ⟨l1, l2⟩ := HR.out hr
      have hn : es.length ≤ 1048576 := by omega
      have HL : Hid (∀ e ∈ es, e.p.size ≤ 16777216 ∧ e.x.size ≤ 16777216) := fun e he => ⟨by have := (l2 e he).1; omega, by have := (l2 e he).2; omega⟩
      clear HR l2
      go_wp2_with fail
      refine (toEntS_any _ a g o cap es hn ha (HE.out.below HB1.out)).mono ?_
      rintro e w2 ⟨rfl, hX2, _, hB2⟩
      have HB2 := hidE (B3E HB1.out hB2)
      have HX2 := hidE hX2
      clear hX2 hB2
      go_wp2_with fail
      refine (sTreeList_any _ _ w1.heap.size 0 es.length es s (by omega) (Nat.le_refl _) (by omega) HL.out (fun _ => rfl) HX2.out).mono ?_
      rintro e w3 ⟨vw, rfl, hown, hB3⟩
      have HB3 := hidE (B3E HB2.out hB3)
      obtain ⟨aw, gw, capw, rfl, haw, hSw, -, -⟩ := row_strs hown
      have hlen := list_len es s
      obtain ⟨ss, hss⟩ : ∃ ss, listE es s = ss := ⟨_, rfl⟩
      obtain ⟨cc, hcc⟩ : ∃ cc, listC es s = cc := ⟨_, rfl⟩
      have hgw : 0 < ss.length → gw < w3.heap.size := fun h => World.block_lt_of_cell? w3 ⟨gw, 0 + 0, none⟩ (hSw 0 (by rw [hss]; exact h))
      rw [hss] at haw hSw hlen
      have hnl : ss.length ≤ 1048576 := by omega
      have HS3 := hidE hSw
      have HSS := hidE hss
      have HCC := hidE hcc
      have HGw := hidE hgw
      have HAw := hidE haw
      rw [hss, hcc]
      clear hB3 hown hSw hss hcc hgw haw hlen HX2
      go_wp2_with fail
      refine (toEntS_any _ a g o cap es hn ha (HE.out.below HB3.out)).mono ?_
      rintro e w4 ⟨rfl, hX4, hR4, hB4⟩
      have HB4 := hidE (B3E HB3.out hB4)
      have HS4 := hidE (HS3.out.below hB4)
      have HX4 := hidE hX4
      have HR4 := hidE hR4
      have h34 : w3.heap.size < w4.heap.size ∨ es.length = 0 := by
        by_cases h0 : 0 < es.length
        · exact .inl (World.block_lt_of_cell? w4 ⟨w3.heap.size, 0 + 0 * 3, none⟩ (hX4 0 h0).1)
        · exact .inr (by omega)
      have H34 := hidE h34
      have hs34 := hB4.size
      clear hX4 hR4 hB4 h34 HS3
      go_wp2_with fail
      refine (iTreeList_any _ _ w3.heap.size 0 es.length es s ae (HEr.out.below HB4.out) (by omega) (by omega) HL.out (fun _ => rfl) HX4.out).mono ?_
      rintro e w5 ⟨vg, rfl, hown, hB5⟩
      obtain ⟨ag, gg, capg, rfl, hag, hSg, hRg, hgg⟩ := row_strs hown
      rw [HSS.out] at hag hSg hRg
      rw [HSS.out, HCC.out]
      have HB5 := hidE (B3E HB4.out hB5)
      have HS5 := hidE (HS4.out.below hB5)
      have HX5 := hidE (HX4.out.below hB5)
      have HR5 := hidE (HR4.out.below hB5)
      have HG5 := hidE hSg
      have HQ5 := hidE hRg
      have HAg := hidE hag
      have hs45 := hB5.size
      clear hB5 hown hSg hRg hag HS4 HX4 HR4
      have hsame := sameSS_refl ss
      have hcc : (cc != cc) = false := by simp
      go_wp2_with fail
      refine (eqStringS_any _ _ _ gg 0 capg gw 0 capw ss ss (by omega) (by omega) HAg.out HAw.out HG5.out HS5.out).mono ?_
      rintro e w6 ⟨rfl, hB6⟩
      have HB6 := hidE (B3E HB5.out hB6)
      have HS6 := hidE (HS5.out.below hB6)
      have HX6 := hidE (HX5.out.below hB6)
      have HR6 := hidE (HR5.out.below hB6)
      have HG6 := hidE (HG5.out.below hB6)
      have HQ6 := hidE (HQ5.out.below hB6)
      have hs56 := hB6.size
      clear hB6 HS5 HX5 HR5 HG5 HQ5
      rw [hsame]
      go_wp2_with fail
      refine (toEntS_any _ a g o cap es hn ha (HE.out.below HB6.out)).mono ?_
      rintro e w7 ⟨rfl, hX7, _, hB7⟩
      have HB7 := hidE (B3E HB6.out hB7)
      have HS7 := hidE (HS6.out.below hB7)
      have HX7 := hidE (HX6.out.below hB7)
      have HR7 := hidE (HR6.out.below hB7)
      have HG7 := hidE (HG6.out.below hB7)
      have HQ7 := hidE (HQ6.out.below hB7)
      have HY7 := hidE hX7
      have hs67 := hB7.size
      clear hX7 hB7 HS6 HX6 HR6 HG6 HQ6
      go_wp2_with fail
      refine (eqEntS_any _ _ _ w3.heap.size 0 es.length w6.heap.size 0 es.length es es (by omega) (by omega) (fun _ => rfl) (fun _ => rfl) HX7.out HY7.out).mono ?_
      rintro e w8 ⟨rfl, hB8⟩
      have HB8 := hidE (B3E HB7.out hB8)
      have HS8 := hidE (HS7.out.below hB8)
      have HR8 := hidE (HR7.out.below hB8)
      have HG8 := hidE (HG7.out.below hB8)
      have HQ8 := hidE (HQ7.out.below hB8)
      have hs78 := hB8.size
      have hs' := sameES_self es
      clear hB8 HS7 HX7 HR7 HG7 HQ7 HY7
      rw [hs']
      have hgge : w4.heap.size ≤ gg := hgg
      have hg1 : 0 < es.length → w3.heap.size < w8.heap.size := fun h => by rcases H34.out with h1 | h1 <;> omega
      have hw3 := HB3.out.size
      go_wp2_with fail
      refine (markEntS_any _ _ w3.heap.size es.length es.length 1 (by omega) (by omega) (by omega) (fun _ => rfl) HR8.out hg1).mono ?_
      rintro e w9 ⟨rfl, -, -, hb9⟩
      have hs89 := hb9.2.2.2.1
      have HB9 := hidE (hb9.below HB8.out HB8.out.size hw3)
      have HS9 := hidE (HS8.out.but hb9 (fun h => by have := HGw.out h; omega))
      have hne : 0 < ss.length → gg ≠ w3.heap.size := fun h => by
        rcases H34.out with h1 | h1
        · omega
        · exfalso; have := list_len es s; rw [HSS.out] at this; omega
      have HG9 := hidE (HG8.out.but hb9 hne)
      have HQ9 := hidE (HQ8.out.but hb9 hne)
      clear hb9 HS8 HR8 HG8 HQ8 hne hg1
      have hk0 : ¬ ((1 + es.length * 3 : Nat) : Int) < 0 := by omega
      obtain ⟨kk, hkk⟩ : ∃ kk, ((1 + es.length * 3 : Nat) : Int) = kk := ⟨_, rfl⟩
      rw [hkk] at hk0
      rw [hkk]
      clear hkk
      go_wp2_with fail
      refine (eqStringS_any _ _ _ gg 0 capg gw 0 capw ss ss (by omega) (by omega) HAg.out HAw.out HG9.out HS9.out).mono ?_
      rintro e w10 ⟨rfl, hB10⟩
      have HB10 := hidE (B3E HB9.out hB10)
      have HS10 := hidE (HS9.out.below hB10)
      have HQ10 := hidE (HQ9.out.below hB10)
      have hs910 := hB10.size
      clear hB10 HS9 HG9 HQ9
      rw [hsame]
      go_wp2_with fail
      refine (markStringS_any _ _ gg capg ss.length 1 (by omega) (by omega) (by omega) HAg.out HQ10.out).mono ?_
      rintro e w11 ⟨rfl, hM11, -, hb11⟩
      have hs1011 := hb11.2.2.2.1
      have HB11 := hidE (hb11.below HB10.out HB10.out.size (by omega))
      have HS11 := hidE (HS10.out.but hb11 (fun h => by have := HGw.out h; omega))
      have HM11 := hidE hM11
      clear hb11 hM11 HS10 HQ10
      have hm0 : ¬ ((1 + ss.length : Nat) : Int) < 0 := by omega
      obtain ⟨mm, hmm⟩ : ∃ mm, ((1 + ss.length : Nat) : Int) = mm := ⟨_, rfl⟩
      have HMM := hidE hmm
      rw [hmm] at hm0
      rw [hmm]
      clear hmm
      have hmne : (mm != mm) = false := by simp
      go_wp2_with fail
      refine (heldStringS_any _ _ gg capg ss.length 1 (by omega) (by omega) (by omega) HAg.out HM11.out).mono ?_
      rintro e w12 ⟨rfl, hB12⟩
      rw [HMM.out]
      have HB12 := hidE (B3E HB11.out hB12)
      have HS12 := hidE (HS11.out.below hB12)
      have HM12 := hidE (HM11.out.below hB12)
      clear hB12 HS11 HM11
      go_wp2_with fail
      refine (toEntS_any _ a g o cap es hn ha (HE.out.below HB12.out)).mono ?_
      rintro e w13 ⟨rfl, hX13, _, hB13⟩
      have HB13 := hidE (B3E HB12.out hB13)
      have HS13 := hidE (HS12.out.below hB13)
      have HM13 := hidE (HM12.out.below hB13)
      have HX13 := hidE hX13
      clear hX13 hB13 HS12 HM12
      go_wp2_with fail
      refine (iTreeList_any _ _ w12.heap.size 0 es.length es s ae (HEr.out.below HB13.out) (by omega) (by omega) HL.out (fun _ => rfl) HX13.out).mono ?_
      rintro e w14 ⟨vh, rfl, hown, hB14⟩
      obtain ⟨ah, gh, caph, rfl, hah, hSh, -, -⟩ := row_strs hown
      rw [HSS.out] at hah hSh
      rw [HSS.out, HCC.out]
      have HB14 := hidE (B3E HB13.out hB14)
      have HS14 := hidE (HS13.out.below hB14)
      have HM14 := hidE (HM13.out.below hB14)
      have HH14 := hidE hSh
      have HAh := hidE hah
      clear hB14 hown hSh hah HS13 HM13 HX13
      go_wp2_with fail
      refine (eqStringS_any _ _ _ gh 0 caph gw 0 capw ss ss (by omega) (by omega) HAh.out HAw.out HH14.out HS14.out).mono ?_
      rintro e w15 ⟨rfl, hB15⟩
      have HB15 := hidE (B3E HB14.out hB15)
      have HM15 := hidE (HM14.out.below hB15)
      clear hB15 HS14 HH14 HM14
      rw [hsame]
      go_wp2_with fail
      refine (heldStringS_any _ _ gg capg ss.length 1 (by omega) (by omega) (by omega) HAg.out HM15.out).mono ?_
      rintro e w16 ⟨rfl, hB16⟩
      rw [HMM.out]
      have HB16 := hidE (B3E HB15.out hB16)
      clear hB16 HM15
      go_wp2
      go_ret
      exact ⟨rfl, HB16.out⟩
    · go_wp2
      go_ret
      exact ⟨rfl, HB1.out⟩
  · have hs' : (1048576 : Int) < s.size := by omega
    go_enter Tryd.func5, Tryd.ntmps5
    go_wp2
    go_ret
    exact ⟨rfl, Below.refl _ _⟩
end Go.Proofs.YtfbhkcfecdbdeaaDoor
