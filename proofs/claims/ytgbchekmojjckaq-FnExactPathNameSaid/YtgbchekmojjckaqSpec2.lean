/-
  The walks of the model's functions: levels, up, name, join, under.
-/
import Derived.Test.YtgbchekmojjckaqSpec
namespace Go.Proofs.Ytgbchekmojjckaq
open Go.RowKit Go.Lib

theorem ret_int' {k : IntKind} {a b : Int} (h : a = b) : Ending.returned (.int k a) = .returned (.int k b) := by rw [h]
theorem ret_str' {a b : ByteArray} (h : a = b) : Ending.returned (.string a) = .returned (.string b) := by rw [h]
theorem ret_two' {a b : ByteArray} {c d : Bool} (h : a = b) (k : c = d) : Ending.returned (.tuple #[.string a, .bool c]) = .returned (.tuple #[.string b, .bool d]) := by rw [h, k]

/-- The model's PathOk, in the words of the program's. -/
theorem sOk_any (s : ByteArray) (hm : s.size ≤ 67108864) (w : World) :
    Calls Try.prog 9 #[.string s] w fun e w' => e = .returned (.bool (pathB s)) ∧ Below w.heap.size w w' := by
  rw [← specOk_eq]; exact sPathOk_any s w (by omega)

set_option maxHeartbeats 400000 in
theorem sPathLevels_any (s : ByteArray) (hs : s.size ≤ 16777216) (w : World) :
    Calls Try.prog 11 #[.string s] w fun e w' => e = .returned (.int .i64 (levS s)) ∧ Below w.heap.size w w' := by
  cases hb : pathB s with
  | true =>
    have HL : Hid (((namesS s).length : Int) = levS s) := by
      show _ = _; unfold levS; rw [hb, if_pos rfl, names_len s hb]
    have hl := namesS_length s
    go_enter Try.func11, Try.ntmps11
    go_wp2_with (first | (go_at_call 9; refine (sOk_any _ (by omega) _).mono ?_; rintro e w1 ⟨rfl, hB1⟩) | (go_at_call 21; refine (l1Names_form _ (by omega) _).mono ?_; rintro e w2 ⟨a, g, cap, rfl, _, _, hB2⟩))
    go_ret
    exact ⟨ret_int' HL.out, hB1.trans (hB2.mono hB1.size)⟩
  | false =>
    go_enter Try.func11, Try.ntmps11
    go_wp2_with (first | (go_at_call 9; refine (sOk_any _ (by omega) _).mono ?_; rintro e w1 ⟨rfl, hB1⟩))
    go_ret
    exact ⟨ret_int' (by unfold levS; rw [hb]; rfl), hB1⟩

set_option maxHeartbeats 400000 in
set_option maxRecDepth 100000 in
theorem l1Slash_any (s : ByteArray) (h1 : 1 ≤ s.size) (hs : s.size ≤ 16777216) (w : World) :
    Calls Try.prog 25 #[.string s] w fun e w' => e = .returned (.int .i64 (slashF s (s.size - 1) : Nat)) ∧ w' = w := by
  go_enter Try.func25, Try.ntmps25
  go_wp2
  go_loop [3] (fun i => ∃ k : Nat, k < s.size ∧ i = .int .i64 k ∧ Hid (slashF s k = slashF s (s.size - 1))) (fun i => (intOf i).toNat)
  case atStart => exact ⟨s.size - 1, by omega, by congr 1; omega, rfl⟩
  case round =>
    obtain ⟨k, hk, rfl, HA⟩ := hrel
    by_cases h0 : 0 < k
    · obtain ⟨m, rfl⟩ : ∃ m, k = m + 1 := ⟨k - 1, by omega⟩
      by_cases hc : s[m + 1] = 47
      · have hcb : ((s[m + 1].toNat : Int) != 47) = false := by rw [hc]; rfl
        have HE : Hid (slashF s (m + 1) = m + 1) := by
          show _ = _; unfold slashF; rw [if_pos (by rw [get_plus s (m + 1) hk]; exact hc)]
        clear hc
        go_wp2
        go_ret
        exact ⟨ret_int' (by rw [← HA.out, HE.out]; omega), rfl⟩
      · have hcb : ((s[m + 1].toNat : Int) != 47) = true := by rw [bne_iff_ne]; intro e; exact hc (toNat_47.1 (by omega))
        have HE : Hid (slashF s (m + 1) = slashF s m) := by
          show _ = _; rw [slashF, if_neg (by rw [get_plus s (m + 1) hk]; exact hc)]
        clear hc
        go_wp2
        go_round
        case rel => exact ⟨m, by omega, by go_num, by show _ = _; rw [← HE.out]; exact HA.out⟩
        case measure => simp [intOf]
    · obtain rfl : k = 0 := by omega
      go_wp2
      go_ret
      exact ⟨ret_int' (by rw [← HA.out]; rfl), rfl⟩

set_option maxHeartbeats 400000 in
theorem sPathUp_any (s : ByteArray) (hs : s.size ≤ 16777216) (w : World) :
    Calls Try.prog 13 #[.string s] w fun e w' => e = .returned (.string (upS s)) ∧ Below w.heap.size w w' := by
  cases hb : pathB s with
  | true =>
    have hh := (pathB_head s hb).1
    have hle := slashF_le s (s.size - 1)
    have HL : Hid (lastS s = (slashF s (s.size - 1) : Nat)) := lastS_slash s hb
    have HZ : Hid (∀ W : World, Calls Try.prog 25 #[.string s] W _) := fun W => l1Slash_any s (by omega) hs W
    obtain ⟨k, hk⟩ : ∃ k, slashF s (s.size - 1) = k := ⟨_, rfl⟩
    rw [hk] at hle HL HZ
    clear hk
    by_cases h0 : k = 0
    · subst h0
      go_enter Try.func13, Try.ntmps13
      go_wp2_with (first | (go_at_call 9; refine (sOk_any _ (by omega) _).mono ?_; rintro e w1 ⟨rfl, hB1⟩) | (go_at_call 25; refine (HZ.out _).mono ?_; rintro e w2 ⟨rfl, rfl⟩))
      go_ret
      exact ⟨ret_str' (by unfold upS; rw [hb, if_pos rfl, HL.out]; rfl), hB1⟩
    · have h0' : ((k : Int) == 0) = false := by rw [beq_eq_false_iff_ne]; omega
      go_enter Try.func13, Try.ntmps13
      go_wp2_with (first | (go_at_call 9; refine (sOk_any _ (by omega) _).mono ?_; rintro e w1 ⟨rfl, hB1⟩) | (go_at_call 25; refine (HZ.out _).mono ?_; rintro e w2 ⟨rfl, rfl⟩))
      go_ret
      exact ⟨ret_str' (by unfold upS; rw [hb, if_pos rfl, HL.out, if_neg (by omega)]; rfl), hB1⟩
  | false =>
    go_enter Try.func13, Try.ntmps13
    go_wp2_with (first | (go_at_call 9; refine (sOk_any _ (by omega) _).mono ?_; rintro e w1 ⟨rfl, hB1⟩))
    go_ret
    exact ⟨ret_str' (by unfold upS; rw [hb]; rfl), hB1⟩

set_option maxHeartbeats 400000 in
theorem sPathName_any (s : ByteArray) (hs : s.size ≤ 16777216) (w : World) :
    Calls Try.prog 15 #[.string s] w fun e w' => e = .returned (.string (nmS s)) ∧ Below w.heap.size w w' := by
  cases hb : pathB s with
  | true =>
    have hh := (pathB_head s hb).1
    have hle := slashF_le s (s.size - 1)
    have HL : Hid (lastS s = (slashF s (s.size - 1) : Nat)) := lastS_slash s hb
    have HZ : Hid (∀ W : World, Calls Try.prog 25 #[.string s] W _) := fun W => l1Slash_any s (by omega) hs W
    obtain ⟨k, hk⟩ : ∃ k, slashF s (s.size - 1) = k := ⟨_, rfl⟩
    rw [hk] at hle HL HZ
    clear hk
    go_enter Try.func15, Try.ntmps15
    go_wp2_with (first | (go_at_call 9; refine (sOk_any _ (by omega) _).mono ?_; rintro e w1 ⟨rfl, hB1⟩) | (go_at_call 25; refine (HZ.out _).mono ?_; rintro e w2 ⟨rfl, rfl⟩))
    go_ret
    exact ⟨ret_str' (by unfold nmS; rw [hb, if_pos rfl, HL.out]; rfl), hB1⟩
  | false =>
    go_enter Try.func15, Try.ntmps15
    go_wp2_with (first | (go_at_call 9; refine (sOk_any _ (by omega) _).mono ?_; rintro e w1 ⟨rfl, hB1⟩))
    go_ret
    exact ⟨ret_str' (by unfold nmS; rw [hb]; rfl), hB1⟩

set_option maxHeartbeats 400000 in
theorem l1Under_any (s d : ByteArray) (_hs : s.size ≤ 16777216) (hd : d.size ≤ 16777216) (w : World) :
    Calls Try.prog 31 #[.string s, .string d] w fun e w' => e = .returned (.bool (underL s d)) ∧ w' = w := by
  cases hr : (d.toList == [47]) with
  | true =>
    go_enter Try.func31, Try.ntmps31
    go_wp2
    go_ret
    exact ⟨ret_bool' (by unfold underL isRoot; rw [hr]; rfl), rfl⟩
  | false =>
    by_cases hlt : d.size < s.size
    · cases hp : ((s.extract 0 d.size).toList == d.toList) with
      | true =>
        go_enter Try.func31, Try.ntmps31
        go_wp2
        go_ret
        exact ⟨ret_bool' (by unfold underL isRoot; rw [hr, if_neg (by decide), decide_eq_true hlt, hp, get_plus s d.size hlt]; exact (byte_eq _).symm), rfl⟩
      | false =>
        go_enter Try.func31, Try.ntmps31
        go_wp2
        go_ret
        exact ⟨ret_bool' (by unfold underL isRoot; rw [hr, if_neg (by decide), decide_eq_true hlt, hp]; rfl), rfl⟩
    · go_enter Try.func31, Try.ntmps31
      go_wp2
      go_ret
      exact ⟨ret_bool' (by unfold underL isRoot; rw [hr, if_neg (by decide), decide_eq_false hlt]; rfl), rfl⟩

set_option maxHeartbeats 400000 in
theorem sPathUnder_any (s d : ByteArray) (hs : s.size ≤ 16777216) (hd : d.size ≤ 16777216) (w : World) :
    Calls Try.prog 19 #[.string s, .string d] w fun e w' => e = .returned (.bool (underI s d)) ∧ Below w.heap.size w w' := by
  have HE := hid' (underI_eq s d)
  cases h1 : pathB s with
  | false =>
    go_enter Try.func19, Try.ntmps19
    go_wp2_with (first | (go_at_call 9; refine (sOk_any s (by omega) _).mono ?_; rintro e w1 ⟨rfl, hB1⟩))
    go_ret
    exact ⟨ret_bool' (by rw [HE.out, h1]; rfl), hB1⟩
  | true =>
    cases hr : (d.toList == [47]) with
    | true =>
      have h2 : stemOk d = true := by unfold stemOk isRoot; rw [hr]; rfl
      have H2 := hid' h2
      clear h2
      go_enter Try.func19, Try.ntmps19
      go_wp2_with (first | (go_at_call 9; refine (sOk_any s (by omega) _).mono ?_; rintro e w1 ⟨rfl, hB1⟩) | (go_at_call 31; refine (l1Under_any s d hs hd _).mono ?_; rintro e w3 ⟨rfl, rfl⟩))
      go_ret
      exact ⟨ret_bool' (by rw [HE.out, h1, H2.out]; rfl), hB1⟩
    | false =>
      have h2 : stemOk d = pathB d := by unfold stemOk isRoot; rw [hr]; rfl
      have H2 := hid' h2
      clear h2
      cases h3 : pathB d with
      | true =>
        go_enter Try.func19, Try.ntmps19
        go_wp2_with fail
        refine (sOk_any s (by omega) _).mono ?_
        rintro e w1 ⟨rfl, hB1⟩
        go_wp2_with fail
        refine (sOk_any d (by omega) _).mono ?_
        rintro e w2 ⟨rfl, hB2⟩
        go_wp2_with fail
        refine (l1Under_any s d hs hd _).mono ?_
        rintro e w3 ⟨rfl, rfl⟩
        go_wp2
        go_ret
        exact ⟨ret_bool' (by rw [HE.out, h1, H2.out, h3]; rfl), hB1.trans (hB2.mono hB1.size)⟩
      | false =>
        go_enter Try.func19, Try.ntmps19
        go_wp2_with fail
        refine (sOk_any s (by omega) _).mono ?_
        rintro e w1 ⟨rfl, hB1⟩
        go_wp2_with fail
        refine (sOk_any d (by omega) _).mono ?_
        rintro e w2 ⟨rfl, hB2⟩
        go_wp2
        go_ret
        exact ⟨ret_bool' (by rw [HE.out, h1, H2.out, h3]; rfl), hB1.trans (hB2.mono hB1.size)⟩
end Go.Proofs.Ytgbchekmojjckaq
