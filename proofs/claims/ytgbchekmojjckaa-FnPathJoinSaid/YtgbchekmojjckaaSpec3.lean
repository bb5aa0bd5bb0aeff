/-
  The walk of the model's PathJoin.
-/
import Derived.Test.YtgbchekmojjckaaSpec2
namespace Go.Proofs.Ytgbchekmojjckaa
open Go.RowKit Go.Lib

theorem joinOk_of (d n x : ByteArray) (a b c : Bool) (hx : joinI d n = x) (h1 : stemOk d = a) (h2 : nameB n = b) (h3 : pathB x = c) : joinOk d n = ((a && b) && c) := by
  unfold joinOk; rw [h1, h2, hx, h3]
theorem joinS_of (d n x : ByteArray) (a b c : Bool) (hx : joinI d n = x) (h1 : stemOk d = a) (h2 : nameB n = b) (h3 : pathB x = c) : joinS d n = if ((a && b) && c) = true then x else ⟨#[]⟩ := by
  unfold joinS; rw [joinOk_of d n x a b c hx h1 h2 h3, hx]
theorem stemOk_root {d : ByteArray} (h : (d.toList == [47]) = true) : stemOk d = true := by unfold stemOk isRoot; rw [h]; rfl
theorem stemOk_other {d : ByteArray} (h : (d.toList == [47]) = false) : stemOk d = pathB d := by unfold stemOk isRoot; rw [h]; rfl

set_option maxHeartbeats 400000 in
theorem sPathJoin_any (d n : ByteArray) (hd : d.size ≤ 16777216) (hn : n.size ≤ 16777216) (w : World) :
    Calls Try.prog 21 #[.string d, .string n] w fun e w' => e = .returned (.tuple #[.string (joinS d n), .bool (joinOk d n)]) ∧ Below w.heap.size w w' := by
  have hz : (d ++ ⟨#[47]⟩ ++ n : ByteArray).size ≤ 67108864 := by
    rw [ByteArray.size_append, ByteArray.size_append]; show d.size + 1 + n.size ≤ _; omega
  have hz2 : (⟨#[47]⟩ ++ n : ByteArray).size ≤ 67108864 := by
    rw [ByteArray.size_append]; show 1 + n.size ≤ _; omega
  cases h2 : nameB n with
  | false =>
    cases hr : (d.toList == [47]) with
    | true =>
      go_enter Try.func21, Try.ntmps21
      go_wp2_with (go_at_call 35; refine (l1Name_any _ (by omega) _).mono ?_; rintro e w1 ⟨rfl, rfl⟩)
      go_ret2
      exact ⟨ret_two' (by unfold joinS joinOk; rw [h2, Bool.and_false]; rfl) (by unfold joinOk; rw [h2, Bool.and_false]; rfl), Below.refl _ _⟩
    | false =>
      go_enter Try.func21, Try.ntmps21
      go_wp2_with (go_at_call 35; refine (l1Name_any _ (by omega) _).mono ?_; rintro e w1 ⟨rfl, rfl⟩)
      go_ret2
      exact ⟨ret_two' (by unfold joinS joinOk; rw [h2, Bool.and_false]; rfl) (by unfold joinOk; rw [h2, Bool.and_false]; rfl), Below.refl _ _⟩
  | true =>
    cases hr : (d.toList == [47]) with
    | true =>
      have HI := hid' (joinI_root d n hr)
      have HS := hid' (stemOk_root hr)
      cases h3 : pathB (⟨#[47]⟩ ++ n) with
      | true =>
        go_enter Try.func21, Try.ntmps21
        go_wp2_with (first | (go_at_call 35; refine (l1Name_any _ (by omega) _).mono ?_; rintro e w1 ⟨rfl, rfl⟩) | (go_at_call 15; refine (sOk_any _ hz2 _).mono ?_; rintro e w2 ⟨rfl, hB2⟩))
        go_ret2
        exact ⟨ret_two' (by rw [joinS_of d n _ true true true HI.out HS.out h2 h3]; rfl) (by rw [joinOk_of d n _ true true true HI.out HS.out h2 h3]; rfl), hB2⟩
      | false =>
        go_enter Try.func21, Try.ntmps21
        go_wp2_with (first | (go_at_call 35; refine (l1Name_any _ (by omega) _).mono ?_; rintro e w1 ⟨rfl, rfl⟩) | (go_at_call 15; refine (sOk_any _ hz2 _).mono ?_; rintro e w2 ⟨rfl, hB2⟩))
        go_ret2
        exact ⟨ret_two' (by rw [joinS_of d n _ true true false HI.out HS.out h2 h3]; rfl) (by rw [joinOk_of d n _ true true false HI.out HS.out h2 h3]; rfl), hB2⟩
    | false =>
      have HI := hid' (joinI_other d n hr)
      have HS := hid' (stemOk_other hr)
      cases h4 : pathB d with
      | false =>
        rw [h4] at HS
        go_enter Try.func21, Try.ntmps21
        go_wp2_with (first | (go_at_call 35; refine (l1Name_any _ (by omega) _).mono ?_; rintro e w1 ⟨rfl, rfl⟩) | (go_at_call 15; refine (sOk_any d (by omega) _).mono ?_; rintro e w2 ⟨rfl, hB2⟩))
        go_ret2
        exact ⟨ret_two' (by unfold joinS joinOk; rw [HS.out]; rfl) (by unfold joinOk; rw [HS.out]; rfl), hB2⟩
      | true =>
        rw [h4] at HS
        cases h3 : pathB (d ++ ⟨#[47]⟩ ++ n) with
        | true =>
          go_enter Try.func21, Try.ntmps21
          go_wp2_with fail
          refine (l1Name_any _ (by omega) _).mono ?_
          rintro e w1 ⟨rfl, rfl⟩
          go_wp2_with fail
          refine (sOk_any d (by omega) _).mono ?_
          rintro e w2 ⟨rfl, hB2⟩
          go_wp2_with fail
          refine (sOk_any _ hz _).mono ?_
          rintro e w3 ⟨rfl, hB3⟩
          go_wp2
          go_ret2
          exact ⟨ret_two' (by rw [joinS_of d n _ true true true HI.out HS.out h2 h3]; rfl) (by rw [joinOk_of d n _ true true true HI.out HS.out h2 h3]; rfl), hB2.trans (hB3.mono hB2.size)⟩
        | false =>
          go_enter Try.func21, Try.ntmps21
          go_wp2_with fail
          refine (l1Name_any _ (by omega) _).mono ?_
          rintro e w1 ⟨rfl, rfl⟩
          go_wp2_with fail
          refine (sOk_any d (by omega) _).mono ?_
          rintro e w2 ⟨rfl, hB2⟩
          go_wp2_with fail
          refine (sOk_any _ hz _).mono ?_
          rintro e w3 ⟨rfl, hB3⟩
          go_wp2
          go_ret2
          exact ⟨ret_two' (by rw [joinS_of d n _ true true false HI.out HS.out h2 h3]; rfl) (by rw [joinOk_of d n _ true true false HI.out HS.out h2 h3]; rfl), hB2.trans (hB3.mono hB2.size)⟩
end Go.Proofs.Ytgbchekmojjckaa
