/-
  The walk of how the model says that taking away ends.
-/
import Derived.Test.YtlobdnnhpaklgaaGreatDoorHCodes
import Derived.Test.YtlobdnnhpaklgaaGreatDoorHOpOk
namespace Go.Proofs.YtlobdnnhpaklgaaGreatDoor
open Go.RowKit Go.Lib

theorem row_slice {w : World} {base : Nat} {e : TypeId} {size : Nat} {v : Value} {n : Nat} {xs : List Value} (h : w.ownsRow base e size v n xs) : ∃ a cap, v = .slice a n cap := by
  obtain ⟨_, ⟨rfl, rfl⟩ | ⟨g, cap, cur, rfl, _⟩⟩ := h
  · exact ⟨_, _, rfl⟩
  · exact ⟨_, _, rfl⟩

set_option maxHeartbeats 2000000 in
theorem l2OffCode_any (w : World) (a : Option Addr) (g o cap : Nat) (es : List E) (k : Int) (p t x : ByteArray) (hl : es.length ≤ 1048576) (hz : ∀ e ∈ es, e.p.size ≤ 16777216 ∧ e.x.size ≤ 16777216) (ha : 0 < es.length → a = some ⟨g, o, none⟩) (hE : Ents w g o es) :
    Calls Tryz.prog 93 #[.slice a es.length cap, .agg #[.int .i64 k, .string p, .string t, .string x]] w fun r w' => r = .returned (.int .i64 (offC es k p)) ∧ Below w.heap.size w w' := by
  have hb : Below w.heap.size w (w.alloc (.cells #[.int .i64 k, .string p, .string t, .string x] 79)) := (Below.refl _ w).alloc (Nat.le_refl _) _
  have HE := hidE (hE.below hb)
  have HB := hidE hb
  have HU : Hid (offC es k p = if (getE es p).2 = false then 2 else if k = 3 ∧ (getE es p).1.d = true then 5 else if k = 4 ∧ (getE es p).1.d = false then 3 else if 0 < (kidsE es p).length then 6 else 0) := show _ = _ from rfl
  have HG := hidE (fun (W : World) (hW : Ents W g o es) => l2Get_any W a g o cap es p (by omega) ha hW)
  have HK := hidE (fun (W : World) (hW : Ents W g o es) => l2Kids_any W a g o cap es p hl hz ha hW)
  clear hE hb hz
  obtain ⟨⟨p', d, x'⟩, b, hg⟩ : ∃ e b, getE es p = (e, b) := ⟨_, _, rfl⟩
  obtain ⟨ks, hks⟩ : ∃ ks, kidsE es p = ks := ⟨_, rfl⟩
  have hkl : ks.length ≤ es.length := by
    have := kids_len es p es.length
    rw [List.take_of_length_le (Nat.le_refl _), hks] at this; exact this
  rw [hg, hks] at HU
  rw [hg] at HG
  rw [hks] at HK
  clear hg hks
  go_enter Tryz.func93, Tryz.ntmps93
  go_wp2_with fail
  refine (HG.out _ HE.out).mono ?_
  rintro e w1 ⟨rfl, hB1⟩
  obtain ⟨c00, c01, c02, c03⟩ := box4 (hB1.alloc hB1.size (.cells #[.string p', .bool d, .string x'] 57))
  have hz1 := hB1.size
  simp only [World.size_alloc] at hz1
  have HB1 := hidE (HB.out.trans (hB1.mono (by simp)))
  have HE1 := hidE ((HE.out.below hB1).below ((Below.refl _ w1).alloc (Nat.le_refl _) (.cells #[.string p', .bool d, .string x'] 57)))
  clear hB1 HB HE HG
  have hlt1 : w.heap.size ≤ w1.heap.size := by omega
  have HB2 := hidE (HB1.out.alloc hlt1 (.cells #[.string p', .bool d, .string x'] 57))
  clear HB1
  cases b with
  | false =>
    go_wp2
    go_ret
    exact ⟨ret_iE (by rw [HU.out]; rfl), HB2.out⟩
  | true =>
    by_cases h3 : k = 3
    · subst h3
      cases d with
      | true =>
        go_wp2
        go_ret
        exact ⟨ret_iE (by rw [HU.out]; rfl), HB2.out⟩
      | false =>
        go_wp2_with fail
        refine (HK.out _ HE1.out).mono ?_
        rintro e w3 ⟨v, rfl, hown, hB3⟩
        obtain ⟨a3, cap3, rfl⟩ := row_slice hown
        have HB3 := hidE (HB2.out.trans (hB3.mono (by simp; omega)))
        clear hB3 hown
        cases h0 : decide (0 < ks.length) with
        | true =>
          have h0 := of_decide_eq_true h0
          go_wp2
          go_ret
          exact ⟨ret_iE (by rw [HU.out]; simp [*]), HB3.out⟩
        | false =>
          have h0 := of_decide_eq_false h0
          have h00 : ks.length = 0 := by omega
          go_wp2
          go_ret
          exact ⟨ret_iE (by rw [HU.out]; simp [*]), HB3.out⟩
    · have n3 : (k == 3) = false := by rw [beq_eq_false_iff_ne]; exact h3
      by_cases h4 : k = 4
      · subst h4
        cases d with
        | false =>
          go_wp2
          go_ret
          exact ⟨ret_iE (by rw [HU.out]; rfl), HB2.out⟩
        | true =>
          go_wp2_with fail
          refine (HK.out _ HE1.out).mono ?_
          rintro e w3 ⟨v, rfl, hown, hB3⟩
          obtain ⟨a3, cap3, rfl⟩ := row_slice hown
          have HB3 := hidE (HB2.out.trans (hB3.mono (by simp; omega)))
          clear hB3 hown
          cases h0 : decide (0 < ks.length) with
          | true =>
            have h0 := of_decide_eq_true h0
            go_wp2
            go_ret
            exact ⟨ret_iE (by rw [HU.out]; simp [*]), HB3.out⟩
          | false =>
            have h0 := of_decide_eq_false h0
            have h00 : ks.length = 0 := by omega
            go_wp2
            go_ret
            exact ⟨ret_iE (by rw [HU.out]; simp [*]), HB3.out⟩
      · have n4 : (k == 4) = false := by rw [beq_eq_false_iff_ne]; exact h4
        go_wp2_with fail
        refine (HK.out _ HE1.out).mono ?_
        rintro e w3 ⟨v, rfl, hown, hB3⟩
        obtain ⟨a3, cap3, rfl⟩ := row_slice hown
        have HB3 := hidE (HB2.out.trans (hB3.mono (by simp; omega)))
        clear hB3 hown
        cases h0 : decide (0 < ks.length) with
        | true =>
          have h0 := of_decide_eq_true h0
          go_wp2
          go_ret
          exact ⟨ret_iE (by rw [HU.out]; simp [*]), HB3.out⟩
        | false =>
          have h0 := of_decide_eq_false h0
          have h00 : ks.length = 0 := by omega
          go_wp2
          go_ret
          exact ⟨ret_iE (by rw [HU.out]; simp [*]), HB3.out⟩
end Go.Proofs.YtlobdnnhpaklgaaGreatDoor
