/-
  The walk of the law FnExactLayerRead, out of the contracts.
-/
import Derived.Test.YtfbfmckfmdodlaaDoorHPk06
import Derived.Test.YtfbfmckfmdodlaaDoorHPk08
import Derived.Test.YtfbfmckfmdodlaaDoorHRdLayI
import Derived.Test.YtfbfmckfmdodlaaDoorHRdLayS
namespace Go.Proofs.YtfbfmckfmdodlaaDoor.Mk
open Go.RowKit Go.Lib

theorem spec_len (s : ByteArray) : ((specLay s).getD []).length ≤ 32 := by
  cases h : specLay s with
  | none => exact Nat.zero_le _
  | some es => exact lay_len ((spec_lay s es).1 h).1

set_option maxHeartbeats 3200000 in
set_option maxRecDepth 100000 in
theorem walk_fnExactLayerRead (s : ByteArray) (w : World) (hw : MarkTab w) (hs : s.size ≤ maxLen) :
    Calls Tryd.prog 4 #[.string s] w fun r w' => r = .returned (.bool true) ∧ Below w.heap.size w w' := by
  unfold maxLen at hs
  by_cases hz : s.size ≤ 1048576
  · have HS := hidE (fun W => sLayerRead_any s (by omega) W)
    have HI := hidE (fun W h2 => iLayerRead_any s (by omega) W h2)
    rw [read_lay] at HI
    have hlen := spec_len s
    obtain ⟨ds, hds⟩ : ∃ ds, (specLay s).getD [] = ds := ⟨_, rfl⟩
    obtain ⟨b, hb⟩ : ∃ b, (specLay s).isSome = b := ⟨_, rfl⟩
    rw [hds, hb] at HS HI
    rw [hds] at hlen
    clear hds hb
    have HW := hidE (fun (W : World) (h : Below w.heap.size w W) => hw.below h)
    have hbb : (b != b) = false := by simp
    have hsame := sameES_self ds
    clear hw
    go_enter Tryd.func4, Tryd.ntmps4
    go_wp2_with fail
    refine (HS.out _).mono ?_
    rintro e w1 ⟨vw, rfl, hown, hB1⟩
    have HB1 := hidE hB1
    obtain ⟨aw, gw, capw, rfl, haw, hSw, -, -⟩ := row_entsE hown
    have hgw : 0 < ds.length → gw < w1.heap.size := fun h => World.block_lt_of_cell? w1 ⟨gw, 0 + 0 * 3, none⟩ (hSw 0 h).1
    have HS1 := hidE hSw
    have HGw := hidE hgw
    have HAw := hidE haw
    clear hB1 hown hSw hgw haw
    go_wp2_with fail
    refine (HI.out _ (HW.out _ HB1.out)).mono ?_
    rintro e w2 ⟨vg, rfl, hown, hB2⟩
    obtain ⟨ag, gg, capg, rfl, hag, hSg, hRg, hgg⟩ := row_entsE hown
    have HB2 := hidE (B3E HB1.out hB2)
    have HS2 := hidE (HS1.out.below hB2)
    have HG2 := hidE hSg
    have HQ2 := hidE hRg
    have HAg := hidE hag
    have hs12 := hB2.size
    clear hB2 hown hSg hRg hag HS1
    go_wp2_with fail
    refine (eqEntS_any _ _ _ gg 0 capg gw 0 capw ds ds (by omega) (by omega) HAg.out HAw.out HG2.out HS2.out).mono ?_
    rintro e w3 ⟨rfl, hB3⟩
    have HB3 := hidE (B3E HB2.out hB3)
    have HS3 := hidE (HS2.out.below hB3)
    have HG3 := hidE (HG2.out.below hB3)
    have HQ3 := hidE (HQ2.out.below hB3)
    have hs23 := hB3.size
    clear hB3 HS2 HG2 HQ2
    rw [hsame]
    have hggl : 0 < ds.length → gg < w3.heap.size := fun h => World.block_lt_of_cell? w3 ⟨gg, 0 + 0 * 3, none⟩ (HG3.out 0 h).1
    have HGG := hidE hggl
    clear hggl
    have hw1 := HB1.out.size
    go_wp2_with fail
    refine (markEntS_any _ _ gg capg ds.length 1 (by omega) (by omega) (by omega) HAg.out HQ3.out (fun h => by have := HGG.out h; omega)).mono ?_
    rintro e w4 ⟨rfl, hM4, -, hb4⟩
    have hs34 := hb4.2.2.2.1
    have HB4 := hidE (hb4.belowE HB3.out HB3.out.size (by omega))
    have HS4 := hidE (HS3.out.but hb4 (fun h => by have := HGw.out h; omega))
    have HM4 := hidE hM4
    clear hb4 hM4 HS3 HQ3 HG3
    have hm0 : ¬ ((1 + ds.length * 3 : Nat) : Int) < 0 := by omega
    obtain ⟨mm, hmm⟩ : ∃ mm, ((1 + ds.length * 3 : Nat) : Int) = mm := ⟨_, rfl⟩
    have HMM := hidE hmm
    rw [hmm] at hm0
    rw [hmm]
    clear hmm
    have hmne : (mm != mm) = false := by simp
    go_wp2_with fail
    refine (heldEntS_any _ _ gg capg ds.length 1 (by omega) (by omega) (by omega) HAg.out HM4.out).mono ?_
    rintro e w5 ⟨rfl, hB5⟩
    rw [HMM.out]
    have HB5 := hidE (B3E HB4.out hB5)
    have HS5 := hidE (HS4.out.below hB5)
    have HM5 := hidE (HM4.out.below hB5)
    clear hB5 HS4 HM4
    go_wp2_with fail
    refine (HI.out _ (HW.out _ HB5.out)).mono ?_
    rintro e w6 ⟨vh, rfl, hown, hB6⟩
    obtain ⟨ah, gh, caph, rfl, hah, hSh, -, -⟩ := row_entsE hown
    have HB6 := hidE (B3E HB5.out hB6)
    have HS6 := hidE (HS5.out.below hB6)
    have HM6 := hidE (HM5.out.below hB6)
    have HH6 := hidE hSh
    have HAh := hidE hah
    clear hB6 hown hSh hah HS5 HM5
    go_wp2_with fail
    refine (eqEntS_any _ _ _ gh 0 caph gw 0 capw ds ds (by omega) (by omega) HAh.out HAw.out HH6.out HS6.out).mono ?_
    rintro e w7 ⟨rfl, hB7⟩
    have HB7 := hidE (B3E HB6.out hB7)
    have HM7 := hidE (HM6.out.below hB7)
    clear hB7 HM6 HS6 HH6
    rw [hsame]
    go_wp2_with fail
    refine (heldEntS_any _ _ gg capg ds.length 1 (by omega) (by omega) (by omega) HAg.out HM7.out).mono ?_
    rintro e w8 ⟨rfl, hB8⟩
    rw [HMM.out]
    have HB8 := hidE (B3E HB7.out hB8)
    clear hB8 HM7
    go_wp2
    go_ret
    exact ⟨rfl, HB8.out⟩
  · go_enter Tryd.func4, Tryd.ntmps4
    go_wp2
    go_ret
    exact ⟨rfl, Below.refl _ _⟩
end Go.Proofs.YtfbfmckfmdodlaaDoor.Mk
