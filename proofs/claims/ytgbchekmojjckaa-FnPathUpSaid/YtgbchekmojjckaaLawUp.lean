/-
  The walk of the law FnPathUp, out of the contracts.
-/
import Derived.Test.YtgbchekmojjckaaTop
import Derived.Test.YtgbchekmojjckaaDraws
namespace Go.Proofs.Ytgbchekmojjckaa
open Go.RowKit Go.Lib

theorem levS_path {t : ByteArray} (h : pathB t = true) : 1 ≤ levS t := by
  unfold levS; rw [h, if_pos rfl]
  have : 1 ≤ (items t).length := itemsL_pos t _ _ _
  omega
/-- What the loop has come to behind k steps. -/
def UpAt (s t : ByteArray) (k : Nat) : Prop := levS t = levS s - k ∧ ((k : Int) < levS s → pathB t = true) ∧ (k = 0 → t = s) ∧ (0 < k → underI s t = true) ∧ ((k : Int) = levS s → t = ⟨#[47]⟩)
theorem UpAt.step {s t : ByteArray} {k : Nat} (h : UpAt s t k) (hk : (k : Int) < levS s) : UpAt s (upS t) (k + 1) ∧ underI s (upS t) = true := by
  obtain ⟨h1, h2, h3, h4, h5⟩ := h
  have hp := h2 hk
  have hf := up_facts hp
  have hu : underI s (upS t) = true := by
    by_cases h0 : k = 0
    · rw [← h3 h0]; exact up_under hp
    · exact under_trans (h4 (by omega)) (up_under hp)
  refine ⟨⟨by omega, fun hk' => ?_, fun h => by omega, fun _ => hu, fun hk' => ?_⟩, hu⟩
  · cases hq : pathB (upS t) with
    | true => rfl
    | false => have := levS_no hq; omega
  · rcases stemOk_is hf.1 with r | r
    · exact r
    · have := levS_path r; omega

set_option maxHeartbeats 1000000 in
set_option maxRecDepth 100000 in
theorem walk_fnPathUp (a : Option Addr) (len cap : Nat) (zs : List Int) (w : World) (hw : IsRow .u8 w a len cap zs) :
    Calls Try.prog 8 #[.slice a len cap] w fun e w' => e = .returned (.bool true) ∧ Below w.heap.size w w' := by
  have hC := hidR hw.cod
  clear hw
  by_cases hl : len ≤ 1048576
  · go_enter Try.func8, Try.ntmps8
    go_wp2_with fail
    refine (DrawPathLevels_any _ a len cap hl hC.out).mono ?_
    rintro e w1 ⟨s, rfl, hs, hB1⟩
    have HB1 := hidR hB1
    clear hB1 hC
    have hr := levS_range s
    by_cases h0 : levS s = 0
    · go_wp2_with (first
        | (go_at_call 16; refine (iPathLevels_any _ (by omega) _).mono ?_; rintro e wn ⟨rfl, hBn⟩; replace HB1 := hidR (B3 HB1.out hBn); clear hBn)
        | (go_at_call 17; refine (sPathLevels_any _ (by omega) _).mono ?_; rintro e wn ⟨rfl, hBn⟩; replace HB1 := hidR (B3 HB1.out hBn); clear hBn))
      go_ret
      exact ⟨rfl, HB1.out⟩
    · have h0' : (levS s == 0) = false := by rw [beq_eq_false_iff_ne]; exact h0
      have hps : pathB s = true := by
        cases hq : pathB s with
        | true => rfl
        | false => exact absurd (levS_no hq) h0
      have HU := hidR (show UpAt s s 0 from ⟨by omega, fun _ => hps, fun _ => rfl, fun h => by omega, fun h => by omega⟩)
      have hup : upS ⟨#[47]⟩ = ⟨#[]⟩ := upS_no (by
        cases hq : pathB ⟨#[47]⟩ with
        | false => rfl
        | true => have := path_not_root hq; rw [root_root] at this; cases this)
      have zr : (⟨#[47]⟩ : ByteArray).size ≤ 64 := by decide
      clear hps h0
      obtain ⟨n, hn⟩ : ∃ n, levS s = n := ⟨_, rfl⟩
      have HN := hidR hn
      rw [hn] at hr h0'
      go_wp2_with (first
        | (go_at_call 16; refine (iPathLevels_any _ (by omega) _).mono ?_; rintro e wn ⟨rfl, hBn⟩; replace HB1 := hidR (B3 HB1.out hBn); clear hBn)
        | (go_at_call 17; refine (sPathLevels_any _ (by omega) _).mono ?_; rintro e wn ⟨rfl, hBn⟩; replace HB1 := hidR (B3 HB1.out hBn); clear hBn))
      clear hn
      go_loopw [5, 6] (fun tv iv wl => ∃ (k : Nat) (t : ByteArray), (k : Int) ≤ n ∧ iv = .int .i64 k ∧ tv = .string t ∧ t.size ≤ 64 + k ∧ Hid (Below w.heap.size w wl) ∧ Hid (UpAt s t k)) (fun _ iv _ => (n - RowKit.intOf iv).toNat)
      case atStart => exact ⟨0, s, by omega, rfl, rfl, by omega, HB1, HU⟩
      case round =>
        clear HB1 HU
        obtain ⟨k, t, hk, rfl, rfl, hz, HB1, HU⟩ := hrel
        by_cases hlt : (k : Int) < n
        · obtain ⟨hu1, hu2⟩ := HU.out.step (by rw [HN.out]; exact hlt)
          have HU2 := hidR hu1
          have hz2 := upS_size t
          clear hu1 HU
          go_wp2_with (first
            | (go_at_call 10; refine (iPathUp_any _ (by omega) _).mono ?_; rintro e wn ⟨rfl, hBn⟩; replace HB1 := hidR (B3 HB1.out hBn); clear hBn)
            | (go_at_call 19; refine (iPathUnder_any _ _ (by omega) (by omega) _).mono ?_; rintro e wn ⟨rfl, hBn⟩; replace HB1 := hidR (B3 HB1.out hBn); clear hBn))
          go_roundw
          case rel => exact ⟨k + 1, upS t, by omega, by go_num, rfl, by omega, HB1, HU2⟩
          case measure => simp [RowKit.intOf]; omega
        · obtain rfl : t = ⟨#[47]⟩ := HU.out.2.2.2.2 (by rw [HN.out]; omega)
          have hkn : n ≤ (k : Int) := by omega
          clear HU
          go_wp2_with (go_at_call 10; refine (iPathUp_any _ (by omega) _).mono ?_; rintro e wn ⟨rfl, hBn⟩; replace HB1 := hidR (B3 HB1.out hBn); clear hBn)
          go_ret
          exact ⟨rfl, HB1.out⟩
  · go_enter Try.func8, Try.ntmps8
    go_wp2
    go_ret
    exact ⟨rfl, Below.refl _ _⟩
end Go.Proofs.Ytgbchekmojjckaa
