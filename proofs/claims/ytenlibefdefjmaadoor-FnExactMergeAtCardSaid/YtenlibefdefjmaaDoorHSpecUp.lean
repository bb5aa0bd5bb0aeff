/-
  The walks of the model's last stroke, and of its PathUp.
-/
import Derived.Test.YtenlibefdefjmaaDoorHSpecOk
namespace Go.Proofs.YtenlibefdefjmaaDoor
open Go.RowKit Go.Lib

set_option maxHeartbeats 400000 in
set_option maxRecDepth 100000 in
theorem l1Slash_any (s : ByteArray) (h1 : 1 ≤ s.size) (hs : s.size ≤ 16777216) (w : World) :
    Calls Tryd.prog 32 #[.string s] w fun e w' => e = .returned (.int .i64 (slashF s (s.size - 1) : Nat)) ∧ w' = w := by
  go_enter Tryd.func32, Tryd.ntmps32
  go_wp2
  go_loop [3] (fun i => ∃ k : Nat, k < s.size ∧ i = .int .i64 k ∧ Hid (slashF s k = slashF s (s.size - 1))) (fun i => (intOf i).toNat)
  case atStart => exact ⟨s.size - 1, by omega, by congr 1; omega, rfl⟩
  case round =>
    obtain ⟨k, hk, rfl, HA⟩ := hrel
    by_cases h0 : 0 < k
    · obtain ⟨m, rfl⟩ : ∃ m, k = m + 1 := ⟨k - 1, by omega⟩
      by_cases hc : s[m + 1] = 47
      · have hcb : ((s[m + 1].toNat : Int) != 47) = false := by rw [hc]; rfl
        have HE : Hid (slashF s (m + 1) = m + 1) := by
          show _ = _; unfold slashF; rw [if_pos (by rw [get_plus s (m + 1) hk]; exact hc)]
        clear hc
        go_wp2
        go_ret
        exact ⟨ret_int' (by rw [← HA.out, HE.out]; omega), rfl⟩
      · have hcb : ((s[m + 1].toNat : Int) != 47) = true := by rw [bne_iff_ne]; intro e; exact hc (toNat_47.1 (by omega))
        have HE : Hid (slashF s (m + 1) = slashF s m) := by
          show _ = _; rw [slashF, if_neg (by rw [get_plus s (m + 1) hk]; exact hc)]
        clear hc
        go_wp2
        go_round
        case rel => exact ⟨m, by omega, by go_num, by show _ = _; rw [← HE.out]; exact HA.out⟩
        case measure => simp [intOf]
    · obtain rfl : k = 0 := by omega
      go_wp2
      go_ret
      exact ⟨ret_int' (by rw [← HA.out]; rfl), rfl⟩

set_option maxHeartbeats 400000 in
theorem sPathUp_any (s : ByteArray) (hs : s.size ≤ 16777216) (w : World) :
    Calls Tryd.prog 24 #[.string s] w fun e w' => e = .returned (.string (upS s)) ∧ Below w.heap.size w w' := by
  cases hb : pathB s with
  | true =>
    have hh := (pathB_head s hb).1
    have hle := slashF_le s (s.size - 1)
    have HL : Hid (lastS s = (slashF s (s.size - 1) : Nat)) := lastS_slash s hb
    have HZ : Hid (∀ W : World, Calls Tryd.prog 32 #[.string s] W _) := fun W => l1Slash_any s (by omega) hs W
    obtain ⟨k, hk⟩ : ∃ k, slashF s (s.size - 1) = k := ⟨_, rfl⟩
    rw [hk] at hle HL HZ
    clear hk
    by_cases h0 : k = 0
    · subst h0
      go_enter Tryd.func24, Tryd.ntmps24
      go_wp2_with (first | (go_at_call 21; refine (sOk_any _ (by omega) _).mono ?_; rintro e w1 ⟨rfl, hB1⟩) | (go_at_call 32; refine (HZ.out _).mono ?_; rintro e w2 ⟨rfl, rfl⟩))
      go_ret
      exact ⟨ret_str' (by unfold upS; rw [hb, if_pos rfl, HL.out]; rfl), hB1⟩
    · have h0' : ((k : Int) == 0) = false := by rw [beq_eq_false_iff_ne]; omega
      go_enter Tryd.func24, Tryd.ntmps24
      go_wp2_with (first | (go_at_call 21; refine (sOk_any _ (by omega) _).mono ?_; rintro e w1 ⟨rfl, hB1⟩) | (go_at_call 32; refine (HZ.out _).mono ?_; rintro e w2 ⟨rfl, rfl⟩))
      go_ret
      exact ⟨ret_str' (by unfold upS; rw [hb, if_pos rfl, HL.out, if_neg (by omega)]; rfl), hB1⟩
  | false =>
    go_enter Tryd.func24, Tryd.ntmps24
    go_wp2_with (first | (go_at_call 21; refine (sOk_any _ (by omega) _).mono ?_; rintro e w1 ⟨rfl, hB1⟩))
    go_ret
    exact ⟨ret_str' (by unfold upS; rw [hb]; rfl), hB1⟩
end Go.Proofs.YtenlibefdefjmaaDoor
