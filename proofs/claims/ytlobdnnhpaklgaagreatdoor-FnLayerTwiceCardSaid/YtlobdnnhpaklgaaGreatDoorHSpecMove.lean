/-
  The walk of the model's PathMove.
-/
import Derived.Test.YtlobdnnhpaklgaaGreatDoorHUnder
namespace Go.Proofs.YtlobdnnhpaklgaaGreatDoor
open Go.RowKit Go.Lib

theorem hit_eq {s f : ByteArray} (h : (s.toList == f.toList) = true) : movHit s f = true := by unfold movHit; rw [h]; rfl
theorem hit_pre {s f : ByteArray} {b : Bool} (h : (s.toList == f.toList) = false) (k : preB s (f ++ ⟨#[47]⟩) = b) : movHit s f = b := by unfold movHit; rw [h, k]; rfl
theorem size_of_eq {s f : ByteArray} (h : (s.toList == f.toList) = true) : s.size = f.size := by
  rw [toList_inj (beq_iff_eq.1 h)]
theorem movAll_of {s f t : ByteArray} {a b c : Bool} (h1 : pathB s = a) (h2 : pathB f = b) (h3 : pathB t = c) : movAll s f t = ((a && b) && c) := by unfold movAll; rw [h1, h2, h3]

set_option maxHeartbeats 400000 in
theorem sMove_bad (s f t : ByteArray) (hs : s.size ≤ 16777216) (hf : f.size ≤ 16777216) (ht : t.size ≤ 16777216) (w : World) (ha : movAll s f t = false) :
    Calls Tryz.prog 115 #[.string s, .string f, .string t] w fun e w' => e = .returned (.tuple #[.string (movS s f t), .bool (movOk s f t)]) ∧ Below w.heap.size w w' := by
  rw [movS_bad ha, movOk_bad ha]
  cases h1 : pathB s with
  | false =>
    clear ha
    go_enter Tryz.func115, Tryz.ntmps115
    go_wp2_with fail
    refine (sOk_any s (by omega) _).mono ?_
    rintro e w1 ⟨rfl, hB1⟩
    go_wp2
    go_ret2
    exact ⟨rfl, hB1⟩
  | true =>
    cases h2 : pathB f with
    | false =>
      clear ha
      go_enter Tryz.func115, Tryz.ntmps115
      go_wp2_with fail
      refine (sOk_any s (by omega) _).mono ?_
      rintro e w1 ⟨rfl, hB1⟩
      go_wp2_with fail
      refine (sOk_any f (by omega) _).mono ?_
      rintro e w2 ⟨rfl, hB2⟩
      go_wp2
      go_ret2
      exact ⟨rfl, hB1.trans (hB2.mono hB1.size)⟩
    | true =>
      have h3 : pathB t = false := by unfold movAll at ha; rw [h1, h2] at ha; exact ha
      clear ha
      go_enter Tryz.func115, Tryz.ntmps115
      go_wp2_with fail
      refine (sOk_any s (by omega) _).mono ?_
      rintro e w1 ⟨rfl, hB1⟩
      go_wp2_with fail
      refine (sOk_any f (by omega) _).mono ?_
      rintro e w2 ⟨rfl, hB2⟩
      go_wp2_with fail
      refine (sOk_any t (by omega) _).mono ?_
      rintro e w3 ⟨rfl, hB3⟩
      go_wp2
      go_ret2
      exact ⟨rfl, (hB1.trans (hB2.mono hB1.size)).trans (hB3.mono (Nat.le_trans hB1.size hB2.size))⟩

theorem ifS_yes {x : ByteArray} (h : pathB x = true) : ifS x = x := by unfold ifS; rw [h, if_pos rfl]
theorem ifS_no {x : ByteArray} (h : pathB x = false) : ifS x = ⟨#[]⟩ := by unfold ifS; rw [h]; rfl

set_option maxHeartbeats 800000 in
theorem sMove_good (s f t : ByteArray) (hs : s.size ≤ 16777216) (hf : f.size ≤ 16777216) (ht : t.size ≤ 16777216) (w : World) (h1 : pathB s = true) (h2 : pathB f = true) (h3 : pathB t = true) :
    Calls Tryz.prog 115 #[.string s, .string f, .string t] w fun e w' => e = .returned (.tuple #[.string (movS s f t), .bool (movOk s f t)]) ∧ Below w.heap.size w w' := by
  have HA := hid' (movAll_of h1 h2 h3)
  have hz : (t ++ s.extract f.size s.size : ByteArray).size ≤ 67108864 := by
    rw [ByteArray.size_append, ByteArray.size_extract]; omega
  cases h4 : (s.toList == f.toList) with
  | true =>
    have hn : s.toList = f.toList := beq_iff_eq.1 h4
    have hfz := size_of_eq h4
    have HS := hid' (movS_go (t := t) HA.out (hit_eq h4))
    have HO := hid' (movOk_go (t := t) HA.out (hit_eq h4))
    have hle : f.size ≤ s.size := by omega
    clear hfz
    cases h6 : pathB (t ++ s.extract f.size s.size) with
    | true =>
      go_enter Tryz.func115, Tryz.ntmps115
      go_wp2_with fail
      refine (sOk_any s (by omega) _).mono ?_
      rintro e w1 ⟨rfl, hB1⟩
      go_wp2_with fail
      refine (sOk_any f (by omega) _).mono ?_
      rintro e w2 ⟨rfl, hB2⟩
      go_wp2_with fail
      refine (sOk_any t (by omega) _).mono ?_
      rintro e w3 ⟨rfl, hB3⟩
      go_wp2_with fail
      refine (sOk_any _ hz _).mono ?_
      rintro e w4 ⟨rfl, hB4⟩
      go_wp2
      go_ret2
      exact ⟨ret_two' (by rw [HS.out]; exact (ifS_yes h6).symm) (by rw [HO.out]; exact h6.symm), ((hB1.trans (hB2.mono hB1.size)).trans (hB3.mono (Nat.le_trans hB1.size hB2.size))).trans (hB4.mono (Nat.le_trans hB1.size (Nat.le_trans hB2.size hB3.size)))⟩
    | false =>
      go_enter Tryz.func115, Tryz.ntmps115
      go_wp2_with fail
      refine (sOk_any s (by omega) _).mono ?_
      rintro e w1 ⟨rfl, hB1⟩
      go_wp2_with fail
      refine (sOk_any f (by omega) _).mono ?_
      rintro e w2 ⟨rfl, hB2⟩
      go_wp2_with fail
      refine (sOk_any t (by omega) _).mono ?_
      rintro e w3 ⟨rfl, hB3⟩
      go_wp2_with fail
      refine (sOk_any _ hz _).mono ?_
      rintro e w4 ⟨rfl, hB4⟩
      go_wp2
      go_ret2
      exact ⟨ret_two' (by rw [HS.out]; exact (ifS_no h6).symm) (by rw [HO.out]; exact h6.symm), ((hB1.trans (hB2.mono hB1.size)).trans (hB3.mono (Nat.le_trans hB1.size hB2.size))).trans (hB4.mono (Nat.le_trans hB1.size (Nat.le_trans hB2.size hB3.size)))⟩
  | false =>
    have hn : ¬ s.toList = f.toList := fun e => by rw [e, beq_self_eq_true] at h4; cases h4
    have hu := underL_path s h2
    cases h5 : preB s (f ++ ⟨#[47]⟩) with
    | true =>
      rw [h5] at hu
      have hle := preB_stroke_size h5
      have HS := hid' (movS_go (t := t) HA.out (hit_pre h4 h5))
      have HO := hid' (movOk_go (t := t) HA.out (hit_pre h4 h5))
      clear h5
      cases h6 : pathB (t ++ s.extract f.size s.size) with
      | true =>
        go_enter Tryz.func115, Tryz.ntmps115
        go_wp2_with fail
        refine (sOk_any s (by omega) _).mono ?_
        rintro e w1 ⟨rfl, hB1⟩
        go_wp2_with fail
        refine (sOk_any f (by omega) _).mono ?_
        rintro e w2 ⟨rfl, hB2⟩
        go_wp2_with fail
        refine (sOk_any t (by omega) _).mono ?_
        rintro e w3 ⟨rfl, hB3⟩
        go_wp2_with fail
        refine (l1Under_any s f hs hf _).mono ?_
        rintro e w5 ⟨rfl, rfl⟩
        go_wp2_with fail
        refine (sOk_any _ hz _).mono ?_
        rintro e w4 ⟨rfl, hB4⟩
        go_wp2
        go_ret2
        exact ⟨ret_two' (by rw [HS.out]; exact (ifS_yes h6).symm) (by rw [HO.out]; exact h6.symm), ((hB1.trans (hB2.mono hB1.size)).trans (hB3.mono (Nat.le_trans hB1.size hB2.size))).trans (hB4.mono (Nat.le_trans hB1.size (Nat.le_trans hB2.size hB3.size)))⟩
      | false =>
        go_enter Tryz.func115, Tryz.ntmps115
        go_wp2_with fail
        refine (sOk_any s (by omega) _).mono ?_
        rintro e w1 ⟨rfl, hB1⟩
        go_wp2_with fail
        refine (sOk_any f (by omega) _).mono ?_
        rintro e w2 ⟨rfl, hB2⟩
        go_wp2_with fail
        refine (sOk_any t (by omega) _).mono ?_
        rintro e w3 ⟨rfl, hB3⟩
        go_wp2_with fail
        refine (l1Under_any s f hs hf _).mono ?_
        rintro e w5 ⟨rfl, rfl⟩
        go_wp2_with fail
        refine (sOk_any _ hz _).mono ?_
        rintro e w4 ⟨rfl, hB4⟩
        go_wp2
        go_ret2
        exact ⟨ret_two' (by rw [HS.out]; exact (ifS_no h6).symm) (by rw [HO.out]; exact h6.symm), ((hB1.trans (hB2.mono hB1.size)).trans (hB3.mono (Nat.le_trans hB1.size hB2.size))).trans (hB4.mono (Nat.le_trans hB1.size (Nat.le_trans hB2.size hB3.size)))⟩
    | false =>
      rw [h5] at hu
      have HS := hid' (movS_stay (t := t) HA.out (hit_pre h4 h5))
      have HO := hid' (movOk_stay (t := t) HA.out (hit_pre h4 h5))
      clear h5
      go_enter Tryz.func115, Tryz.ntmps115
      go_wp2_with fail
      refine (sOk_any s (by omega) _).mono ?_
      rintro e w1 ⟨rfl, hB1⟩
      go_wp2_with fail
      refine (sOk_any f (by omega) _).mono ?_
      rintro e w2 ⟨rfl, hB2⟩
      go_wp2_with fail
      refine (sOk_any t (by omega) _).mono ?_
      rintro e w3 ⟨rfl, hB3⟩
      go_wp2_with fail
      refine (l1Under_any s f hs hf _).mono ?_
      rintro e w5 ⟨rfl, rfl⟩
      go_wp2
      go_ret2
      exact ⟨ret_two' HS.out.symm HO.out.symm, (hB1.trans (hB2.mono hB1.size)).trans (hB3.mono (Nat.le_trans hB1.size hB2.size))⟩

theorem sPathMove_any (s f t : ByteArray) (hs : s.size ≤ 16777216) (hf : f.size ≤ 16777216) (ht : t.size ≤ 16777216) (w : World) :
    Calls Tryz.prog 115 #[.string s, .string f, .string t] w fun e w' => e = .returned (.tuple #[.string (movS s f t), .bool (movOk s f t)]) ∧ Below w.heap.size w w' := by
  cases ha : movAll s f t with
  | false => exact sMove_bad s f t hs hf ht w ha
  | true =>
    have hb := ha
    unfold movAll at hb
    simp only [Bool.and_eq_true] at hb
    exact sMove_good s f t hs hf ht w hb.1.1 hb.1.2 hb.2
end Go.Proofs.YtlobdnnhpaklgaaGreatDoor
