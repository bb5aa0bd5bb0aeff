/-
  The walk of whether the exact laws' marks still lie there.
-/
import Derived.Test.YteedhlljcfojfaaDoorHLawMarks
import Derived.Test.YteedhlljcfojfaaDoorHLawCMark
namespace Go.Proofs.YteedhlljcfojfaaDoor
open Go.RowKit Go.Lib Go.Sort

theorem marks_at (n k i : Nat) (h : i < (markEs n k).length) : (markEs n k)[i] = markE (k + i * 3) :=
  (List.getElem_map (fun i => markE (k + i * 3)) ..).trans (by rw [List.getElem_range])
set_option maxHeartbeats 1600000 in
set_option maxRecDepth 100000 in
theorem heldEntS_any (w : World) (a : Option Addr) (g cap n k : Nat) (hn : n ≤ 1048576) (hk : 0 < k) (hk' : k ≤ 1048576) (ha : 0 < n → a = some ⟨g, 0, none⟩) (hM : Ents w g 0 (markEs n k)) :
    Calls Tryd.prog 16 #[.slice a n cap, .int .i64 k] w fun r w' => r = .returned (.int .i64 ((k + n * 3 : Nat) : Int)) ∧ RowKit.Below w.heap.size w w' := by
  have HM := hidE hM
  clear hM
  go_enter Tryd.func16, Tryd.ntmps16
  go_wp2
  go_loopw [1, 5] (fun kv iv wl => ∃ j : Nat, j ≤ n ∧ iv = .int .i64 j ∧ kv = .int .i64 ((k + j * 3 : Nat) : Int) ∧ Hid (RowKit.Below w.heap.size w wl)) (fun _ iv _ => n - (RowKit.intOf iv).toNat)
  case atStart => exact ⟨0, Nat.zero_le _, rfl, rfl, RowKit.Below.refl _ _⟩
  case round =>
    obtain ⟨j, hj, rfl, rfl, HB⟩ := hrel
    obtain ⟨m, hm⟩ : ∃ m, k + j * 3 = m := ⟨_, rfl⟩
    have hm0 : 0 < m := by omega
    have hm1 : m ≤ 4194304 := by omega
    have HMm := hidE hm
    rw [hm]
    clear hm
    by_cases hlt : j < n
    · obtain rfl := ha (by omega)
      have hjl : j < (markEs n k).length := by rw [marks_len]; exact hlt
      obtain ⟨c0, c1, c2⟩ := (HM.out.below HB.out) j hjl
      rw [marks_at, HMm.out] at c0 c1 c2
      simp only [markE, Nat.zero_add] at c0 c1 c2
      have k0 := cell_regrown c0
      have k1 := cell_regrown c1
      have k2 := cell_regrown c2
      clear c0 c1 c2
      have a1 := cMark wr m m rfl hm0 (by omega)
      go_wp2
      refine wp_region_quiet_below (by kernel_rfl) (by kernel_rfl) ?_
      repeat (go_big_quiet_step (first | exact a1 _ _))
      refine wpQuiet_nil ?_
      intro _ hw'
      obtain ⟨⟨dq, osq⟩, hw''⟩ := hw'
      subst hw''
      have HB1 := hidE (HB.out.trans ((below_regrown wr dq osq).mono HB.out.size))
      obtain ⟨w1, hw1⟩ : ∃ w1, w1 = grow (redrawn wr dq) osq := ⟨_, rfl⟩
      rw [← hw1] at HB1 ⊢
      clear hw1 HB
      clear k0 k1 k2 a1
      obtain ⟨c0, c1, c2⟩ := (HM.out.below HB1.out) j hjl
      rw [marks_at, HMm.out] at c0 c1 c2
      simp only [markE, Nat.zero_add] at c0 c1 c2
      go_wp2
      have k0 := cell_regrown c0
      have k1 := cell_regrown c1
      have k2 := cell_regrown c2
      clear c0 c1 c2
      have a1 := cMark w1 (m + 2) ((m : Int) + 1 + 1) (by omega) (by omega) (by omega)
      refine wp_region_quiet_below (by kernel_rfl) (by kernel_rfl) ?_
      repeat (go_big_quiet_step (first | exact a1 _ _))
      refine wpQuiet_nil ?_
      intro _ hw'
      obtain ⟨⟨dq, osq⟩, hw''⟩ := hw'
      subst hw''
      have HB2 := hidE (HB1.out.trans ((below_regrown w1 dq osq).mono HB1.out.size))
      obtain ⟨w2, hw1⟩ : ∃ w2, w2 = grow (redrawn w1 dq) osq := ⟨_, rfl⟩
      rw [← hw1] at HB2 ⊢
      clear hw1 HB1
      clear k0 k1 k2 a1
      go_wp2
      go_roundw
      case rel => exact ⟨j + 1, by omega, by go_num, by have := HMm.out; congr 1; omega, HB2⟩
      case measure => simp [RowKit.intOf]; omega
    · go_wp2
      go_ret
      have hjn : j = n := by omega
      subst hjn
      exact ⟨ret_iE (by rw [HMm.out]), HB.out⟩
end Go.Proofs.YteedhlljcfojfaaDoor
