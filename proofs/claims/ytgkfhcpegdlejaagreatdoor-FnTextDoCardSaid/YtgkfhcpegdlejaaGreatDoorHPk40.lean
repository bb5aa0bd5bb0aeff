/-
  A box of four cells, and the model's list of words.
-/
import Derived.Test.YtgkfhcpegdlejaaGreatDoorHPk01
import Derived.Test.YtgkfhcpegdlejaaGreatDoorHPk22
import Derived.Test.YtgkfhcpegdlejaaGreatDoorHPk04
import Derived.Deep.RegionHeld3
namespace Go.Proofs.YtgkfhcpegdlejaaGreatDoor
open Go.RowKit Go.Lib

theorem box4t {w w' : World} {a b c d : Value} {T : TypeId} (h : Below (w.alloc (.cells #[a, b, c, d] T)).heap.size (w.alloc (.cells #[a, b, c, d] T)) w') :
    w'.cell? ⟨w.heap.size, 0, none⟩ = some a ∧ w'.cell? ⟨w.heap.size, 1, none⟩ = some b ∧ w'.cell? ⟨w.heap.size, 2, none⟩ = some c ∧ w'.cell? ⟨w.heap.size, 3, none⟩ = some d := by
  have hl : w.heap.size < (w.alloc (.cells #[a, b, c, d] T)).heap.size := by simp
  exact ⟨(h.cell (p := ⟨w.heap.size, 0, none⟩) hl).trans (by simp), (h.cell (p := ⟨w.heap.size, 1, none⟩) hl).trans (by simp), (h.cell (p := ⟨w.heap.size, 2, none⟩) hl).trans (by simp), (h.cell (p := ⟨w.heap.size, 3, none⟩) hl).trans (by simp)⟩

theorem l6Words_any (w : World) :
    Calls Tryz.prog 48 #[] w fun r w' => r = .returned (.slice (some ⟨w.heap.size, 0, none⟩) 6 6) ∧ w' = w.alloc (.cells #[.string ⟨#[]⟩, .string oW1, .string oW2, .string oW3, .string oW4, .string oW5] 9) := by
  go_enter Tryz.func48, Tryz.ntmps48
  go_wp2
  go_ret
  exact ⟨rfl, rfl⟩
end Go.Proofs.YtgkfhcpegdlejaaGreatDoor

/-
  The walk of the model's text of what is done, and of the law.
-/
namespace Go.Proofs.YtgkfhcpegdlejaaGreatDoor
open Go.RowKit Go.Lib

set_option maxHeartbeats 3200000 in
set_option maxRecDepth 100000 in
theorem sOpText_any (k : Int) (p t x : ByteArray) (w : World) (hp : p.size ≤ 16777216) (ht : t.size ≤ 16777216) (hx : x.size ≤ 16777216) :
    Calls Tryz.prog 17 #[.agg #[.int .i64 k, .string p, .string t, .string x]] w fun r w' => r = .returned (.string (opT ⟨k, p, t, x⟩)) ∧ Below w.heap.size w w' := by
  have hB : Below w.heap.size w (w.alloc (.cells #[.int .i64 k, .string p, .string t, .string x] 37)) := (Below.refl _ w).alloc (Nat.le_refl _) _
  have HB := hidE hB
  have HO := hidE (fun W => sOpOk_any W k p t x hp ht hx)
  clear hB
  cases ho : opB ⟨k, p, t, x⟩ with
  | false =>
    have HE := hidE (opT_no ho)
    have HF := hidE ho
    clear ho
    go_enter Tryz.func17, Tryz.ntmps17
    go_wp2_with (first | (go_at_call 19; refine (HO.out _).mono ?_; rintro e w1 ⟨rfl, hB1⟩; rw [HF.out]) | fail)
    go_ret
    exact ⟨retS HE.out.symm, HB.out.trans (hB1.mono (by simp))⟩
  | true =>
    have HF := hidE ho
    rcases op_kind ho with rfl | rfl | rfl | rfl | rfl
    · have HE := hidE ho
      clear ho
      go_enter Tryz.func17, Tryz.ntmps17
      go_wp2_with (first | (go_at_call 19; refine (HO.out _).mono ?_; rintro e w1 ⟨rfl, hB1⟩; rw [HF.out]) | fail)
      have HB1 := hidE (HB.out.trans (hB1.mono (by simp)))
      have HK := hidE hB1
      clear hB1
      have HS := hidE (fun (W' : World) (h : Below w1.heap.size w1 W') => box4t (HK.out.trans (h.mono HK.out.size)))
      refine wp_region_held_drew (S := fun W' => Below w1.heap.size w1 W') (by kernel_rfl) ((Below.refl _ w1).drew) (fun hS0 => ?_)
      refine wpAnyH_take (i := 1) (v := ?_) rfl (by kernel_rfl) (by kernel_rfl) (by kernel_rfl) (fun _ _ _ h => h) (Or.inl ⟨by rfl, ?_⟩) hS0 ?_
      rotate_left 1
      · intro w' hw'; obtain ⟨q0, q1, q2, q3⟩ := HS.out w' hw'; go_simp; first | done | with_reducible rfl
      refine wpAnyH_take (i := 2) (v := ?_) rfl (by kernel_rfl) (by kernel_rfl) (by kernel_rfl) (fun _ _ _ h => h) (Or.inl ⟨by rfl, ?_⟩) hS0 ?_
      rotate_left 1
      · intro w' hw'; obtain ⟨q0, q1, q2, q3⟩ := HS.out w' hw'; go_simp; first | done | with_reducible rfl
      refine wpAnyH_take (i := 6) (v := ?_) rfl (by kernel_rfl) (by kernel_rfl) (by kernel_rfl) (fun _ _ _ h => h) (Or.inl ⟨by rfl, ?_⟩) hS0 ?_
      rotate_left 1
      · intro w' hw'; obtain ⟨q0, q1, q2, q3⟩ := HS.out w' hw'; go_simp; first | done | with_reducible rfl
      refine wpAnyH_take (i := 7) (v := ?_) rfl (by kernel_rfl) (by kernel_rfl) (by kernel_rfl) (fun _ _ _ h => h) (Or.inl ⟨by rfl, ?_⟩) hS0 ?_
      rotate_left 1
      · intro w' hw'; obtain ⟨q0, q1, q2, q3⟩ := HS.out w' hw'; go_simp; first | done | with_reducible rfl
      refine wpAnyH_ready (rs := [0]) (by kernel_rfl) (by simp) (AllReadyH.cons rfl (fun K hK => ?_) AllReadyH.nil)
      go_simp
      go_wp2_with (first | (go_at_call 48; refine (l6Words_any _).mono ?_; rintro e w2 ⟨rfl, rfl⟩) | fail)
      have hS2 := hS0.alloc hS0.size (.cells #[.string ⟨#[]⟩, .string oW1, .string oW2, .string oW3, .string oW4, .string oW5] 9)
      refine hK.out _ _ hS2 (fun _ => ?_)
      clear hK K
      have q1 : (oW1 ++ (⟨#[32]⟩ : ByteArray)).size ≤ 16 := by decide
      have q2 : (oW1 ++ (⟨#[32]⟩ : ByteArray) ++ p).size ≤ 16777232 := by rw [ByteArray.size_append]; omega
      refine wpAnyH_ready (rs := [3]) (by kernel_rfl) (by simp) (AllReadyH.cons rfl (fun K hK => ?_) AllReadyH.nil)
      go_simp
      refine hK.out _ _ hS2 (fun _ => ?_)
      clear hK K
      refine wpAnyH_ready (rs := [4]) (by kernel_rfl) (by simp) (AllReadyH.cons rfl (fun K hK => ?_) AllReadyH.nil)
      go_simp
      refine hK.out _ _ hS2 (fun _ => ?_)
      clear hK K
      refine wpAnyH_ready (rs := [5]) (by kernel_rfl) (by simp) (AllReadyH.cons rfl (fun K hK => ?_) AllReadyH.nil)
      go_simp
      refine hK.out _ _ hS2 (fun _ => ?_)
      clear hK K
      have h5 : oW1.size ≤ 5 := by decide
      refine wpAnyH_ready (rs := [8]) (by kernel_rfl) (by simp) (AllReadyH.cons rfl (fun K hK => ?_) AllReadyH.nil)
      go_simp
      rw [if_neg (show ¬ (9223372036854775807 < oW1.size + 1 + p.size) by omega)]
      go_simp
      refine hK.out _ _ hS2 (fun _ => ?_)
      clear hK K
      refine wpAnyH_ready (rs := [9]) (by kernel_rfl) (by simp) (AllReadyH.cons rfl (fun K hK => ?_) AllReadyH.nil)
      go_simp
      refine hK.out _ _ hS2 (fun _ => ?_)
      clear hK K
      refine wpAnyH_done (by kernel_rfl) ?_ _
      have hS3 : Below w1.heap.size w1 (w1.alloc (.cells #[.string ⟨#[]⟩, .string oW1, .string oW2, .string oW3, .string oW4, .string oW5] 9)).drew := hS2
      obtain ⟨b0, b1, b2, b3⟩ := HS.out _ hS3
      obtain ⟨W3, hW3⟩ : ∃ W3, (w1.alloc (.cells #[.string ⟨#[]⟩, .string oW1, .string oW2, .string oW3, .string oW4, .string oW5] 9)).drew = W3 := ⟨_, rfl⟩
      rw [hW3] at hS3 b0 b1 b2 b3 ⊢
      clear hW3 hS0 hS2
      by_cases h0 : x.size = 0
      · have HT := hidE (opT_bare HE.out (by decide) h0)
        have he : x = ⟨#[]⟩ := by cases x with | mk d => simp [ByteArray.size] at h0; rw [h0]
        subst he
        clear h0
        go_wp2
        go_ret
        exact ⟨retS HT.out.symm, HB1.out.trans (hS3.mono HB1.out.size)⟩
      · have HT := hidE (opT_data HE.out (by decide) h0)
        have hne : (x.toList == []) = false := by
          rw [Lib.toList_data]; simp; intro q; apply h0; show x.data.size = 0; rw [q]; rfl
        have hne' : ¬ x.toList = [] := by simpa using hne
        have q3 : (oW1 ++ (⟨#[32]⟩ : ByteArray) ++ p ++ ⟨#[32]⟩).size ≤ 16777233 := by rw [ByteArray.size_append]; show _ + 1 ≤ _; omega
        clear h0
        go_wp2
        go_ret
        exact ⟨retS HT.out.symm, HB1.out.trans (hS3.mono HB1.out.size)⟩
    · have HE := hidE ho
      clear ho
      go_enter Tryz.func17, Tryz.ntmps17
      go_wp2_with (first | (go_at_call 19; refine (HO.out _).mono ?_; rintro e w1 ⟨rfl, hB1⟩; rw [HF.out]) | fail)
      have HB1 := hidE (HB.out.trans (hB1.mono (by simp)))
      have HK := hidE hB1
      clear hB1
      have HS := hidE (fun (W' : World) (h : Below w1.heap.size w1 W') => box4t (HK.out.trans (h.mono HK.out.size)))
      refine wp_region_held_drew (S := fun W' => Below w1.heap.size w1 W') (by kernel_rfl) ((Below.refl _ w1).drew) (fun hS0 => ?_)
      refine wpAnyH_take (i := 1) (v := ?_) rfl (by kernel_rfl) (by kernel_rfl) (by kernel_rfl) (fun _ _ _ h => h) (Or.inl ⟨by rfl, ?_⟩) hS0 ?_
      rotate_left 1
      · intro w' hw'; obtain ⟨q0, q1, q2, q3⟩ := HS.out w' hw'; go_simp; first | done | with_reducible rfl
      refine wpAnyH_take (i := 2) (v := ?_) rfl (by kernel_rfl) (by kernel_rfl) (by kernel_rfl) (fun _ _ _ h => h) (Or.inl ⟨by rfl, ?_⟩) hS0 ?_
      rotate_left 1
      · intro w' hw'; obtain ⟨q0, q1, q2, q3⟩ := HS.out w' hw'; go_simp; first | done | with_reducible rfl
      refine wpAnyH_take (i := 6) (v := ?_) rfl (by kernel_rfl) (by kernel_rfl) (by kernel_rfl) (fun _ _ _ h => h) (Or.inl ⟨by rfl, ?_⟩) hS0 ?_
      rotate_left 1
      · intro w' hw'; obtain ⟨q0, q1, q2, q3⟩ := HS.out w' hw'; go_simp; first | done | with_reducible rfl
      refine wpAnyH_take (i := 7) (v := ?_) rfl (by kernel_rfl) (by kernel_rfl) (by kernel_rfl) (fun _ _ _ h => h) (Or.inl ⟨by rfl, ?_⟩) hS0 ?_
      rotate_left 1
      · intro w' hw'; obtain ⟨q0, q1, q2, q3⟩ := HS.out w' hw'; go_simp; first | done | with_reducible rfl
      refine wpAnyH_ready (rs := [0]) (by kernel_rfl) (by simp) (AllReadyH.cons rfl (fun K hK => ?_) AllReadyH.nil)
      go_simp
      go_wp2_with (first | (go_at_call 48; refine (l6Words_any _).mono ?_; rintro e w2 ⟨rfl, rfl⟩) | fail)
      have hS2 := hS0.alloc hS0.size (.cells #[.string ⟨#[]⟩, .string oW1, .string oW2, .string oW3, .string oW4, .string oW5] 9)
      refine hK.out _ _ hS2 (fun _ => ?_)
      clear hK K
      have q1 : (oW2 ++ (⟨#[32]⟩ : ByteArray)).size ≤ 16 := by decide
      have q2 : (oW2 ++ (⟨#[32]⟩ : ByteArray) ++ p).size ≤ 16777232 := by rw [ByteArray.size_append]; omega
      refine wpAnyH_ready (rs := [3]) (by kernel_rfl) (by simp) (AllReadyH.cons rfl (fun K hK => ?_) AllReadyH.nil)
      go_simp
      refine hK.out _ _ hS2 (fun _ => ?_)
      clear hK K
      refine wpAnyH_ready (rs := [4]) (by kernel_rfl) (by simp) (AllReadyH.cons rfl (fun K hK => ?_) AllReadyH.nil)
      go_simp
      refine hK.out _ _ hS2 (fun _ => ?_)
      clear hK K
      refine wpAnyH_ready (rs := [5]) (by kernel_rfl) (by simp) (AllReadyH.cons rfl (fun K hK => ?_) AllReadyH.nil)
      go_simp
      refine hK.out _ _ hS2 (fun _ => ?_)
      clear hK K
      have h5 : oW2.size ≤ 5 := by decide
      refine wpAnyH_ready (rs := [8]) (by kernel_rfl) (by simp) (AllReadyH.cons rfl (fun K hK => ?_) AllReadyH.nil)
      go_simp
      rw [if_neg (show ¬ (9223372036854775807 < oW2.size + 1 + p.size) by omega)]
      go_simp
      refine hK.out _ _ hS2 (fun _ => ?_)
      clear hK K
      refine wpAnyH_ready (rs := [9]) (by kernel_rfl) (by simp) (AllReadyH.cons rfl (fun K hK => ?_) AllReadyH.nil)
      go_simp
      refine hK.out _ _ hS2 (fun _ => ?_)
      clear hK K
      refine wpAnyH_done (by kernel_rfl) ?_ _
      have hS3 : Below w1.heap.size w1 (w1.alloc (.cells #[.string ⟨#[]⟩, .string oW1, .string oW2, .string oW3, .string oW4, .string oW5] 9)).drew := hS2
      obtain ⟨b0, b1, b2, b3⟩ := HS.out _ hS3
      obtain ⟨W3, hW3⟩ : ∃ W3, (w1.alloc (.cells #[.string ⟨#[]⟩, .string oW1, .string oW2, .string oW3, .string oW4, .string oW5] 9)).drew = W3 := ⟨_, rfl⟩
      rw [hW3] at hS3 b0 b1 b2 b3 ⊢
      clear hW3 hS0 hS2
      by_cases h0 : x.size = 0
      · have HT := hidE (opT_bare HE.out (by decide) h0)
        have he : x = ⟨#[]⟩ := by cases x with | mk d => simp [ByteArray.size] at h0; rw [h0]
        subst he
        clear h0
        go_wp2
        go_ret
        exact ⟨retS HT.out.symm, HB1.out.trans (hS3.mono HB1.out.size)⟩
      · have HT := hidE (opT_data HE.out (by decide) h0)
        have hne : (x.toList == []) = false := by
          rw [Lib.toList_data]; simp; intro q; apply h0; show x.data.size = 0; rw [q]; rfl
        have hne' : ¬ x.toList = [] := by simpa using hne
        have q3 : (oW2 ++ (⟨#[32]⟩ : ByteArray) ++ p ++ ⟨#[32]⟩).size ≤ 16777233 := by rw [ByteArray.size_append]; show _ + 1 ≤ _; omega
        clear h0
        go_wp2
        go_ret
        exact ⟨retS HT.out.symm, HB1.out.trans (hS3.mono HB1.out.size)⟩
    · have HE := hidE ho
      clear ho
      go_enter Tryz.func17, Tryz.ntmps17
      go_wp2_with (first | (go_at_call 19; refine (HO.out _).mono ?_; rintro e w1 ⟨rfl, hB1⟩; rw [HF.out]) | fail)
      have HB1 := hidE (HB.out.trans (hB1.mono (by simp)))
      have HK := hidE hB1
      clear hB1
      have HS := hidE (fun (W' : World) (h : Below w1.heap.size w1 W') => box4t (HK.out.trans (h.mono HK.out.size)))
      refine wp_region_held_drew (S := fun W' => Below w1.heap.size w1 W') (by kernel_rfl) ((Below.refl _ w1).drew) (fun hS0 => ?_)
      refine wpAnyH_take (i := 1) (v := ?_) rfl (by kernel_rfl) (by kernel_rfl) (by kernel_rfl) (fun _ _ _ h => h) (Or.inl ⟨by rfl, ?_⟩) hS0 ?_
      rotate_left 1
      · intro w' hw'; obtain ⟨q0, q1, q2, q3⟩ := HS.out w' hw'; go_simp; first | done | with_reducible rfl
      refine wpAnyH_take (i := 2) (v := ?_) rfl (by kernel_rfl) (by kernel_rfl) (by kernel_rfl) (fun _ _ _ h => h) (Or.inl ⟨by rfl, ?_⟩) hS0 ?_
      rotate_left 1
      · intro w' hw'; obtain ⟨q0, q1, q2, q3⟩ := HS.out w' hw'; go_simp; first | done | with_reducible rfl
      refine wpAnyH_take (i := 6) (v := ?_) rfl (by kernel_rfl) (by kernel_rfl) (by kernel_rfl) (fun _ _ _ h => h) (Or.inl ⟨by rfl, ?_⟩) hS0 ?_
      rotate_left 1
      · intro w' hw'; obtain ⟨q0, q1, q2, q3⟩ := HS.out w' hw'; go_simp; first | done | with_reducible rfl
      refine wpAnyH_take (i := 7) (v := ?_) rfl (by kernel_rfl) (by kernel_rfl) (by kernel_rfl) (fun _ _ _ h => h) (Or.inl ⟨by rfl, ?_⟩) hS0 ?_
      rotate_left 1
      · intro w' hw'; obtain ⟨q0, q1, q2, q3⟩ := HS.out w' hw'; go_simp; first | done | with_reducible rfl
      refine wpAnyH_ready (rs := [0]) (by kernel_rfl) (by simp) (AllReadyH.cons rfl (fun K hK => ?_) AllReadyH.nil)
      go_simp
      go_wp2_with (first | (go_at_call 48; refine (l6Words_any _).mono ?_; rintro e w2 ⟨rfl, rfl⟩) | fail)
      have hS2 := hS0.alloc hS0.size (.cells #[.string ⟨#[]⟩, .string oW1, .string oW2, .string oW3, .string oW4, .string oW5] 9)
      refine hK.out _ _ hS2 (fun _ => ?_)
      clear hK K
      have q1 : (oW3 ++ (⟨#[32]⟩ : ByteArray)).size ≤ 16 := by decide
      have q2 : (oW3 ++ (⟨#[32]⟩ : ByteArray) ++ p).size ≤ 16777232 := by rw [ByteArray.size_append]; omega
      refine wpAnyH_ready (rs := [3]) (by kernel_rfl) (by simp) (AllReadyH.cons rfl (fun K hK => ?_) AllReadyH.nil)
      go_simp
      refine hK.out _ _ hS2 (fun _ => ?_)
      clear hK K
      refine wpAnyH_ready (rs := [4]) (by kernel_rfl) (by simp) (AllReadyH.cons rfl (fun K hK => ?_) AllReadyH.nil)
      go_simp
      refine hK.out _ _ hS2 (fun _ => ?_)
      clear hK K
      refine wpAnyH_ready (rs := [5]) (by kernel_rfl) (by simp) (AllReadyH.cons rfl (fun K hK => ?_) AllReadyH.nil)
      go_simp
      refine hK.out _ _ hS2 (fun _ => ?_)
      clear hK K
      have h5 : oW3.size ≤ 5 := by decide
      refine wpAnyH_ready (rs := [8]) (by kernel_rfl) (by simp) (AllReadyH.cons rfl (fun K hK => ?_) AllReadyH.nil)
      go_simp
      rw [if_neg (show ¬ (9223372036854775807 < oW3.size + 1 + p.size) by omega)]
      go_simp
      refine hK.out _ _ hS2 (fun _ => ?_)
      clear hK K
      refine wpAnyH_ready (rs := [9]) (by kernel_rfl) (by simp) (AllReadyH.cons rfl (fun K hK => ?_) AllReadyH.nil)
      go_simp
      refine hK.out _ _ hS2 (fun _ => ?_)
      clear hK K
      refine wpAnyH_done (by kernel_rfl) ?_ _
      have hS3 : Below w1.heap.size w1 (w1.alloc (.cells #[.string ⟨#[]⟩, .string oW1, .string oW2, .string oW3, .string oW4, .string oW5] 9)).drew := hS2
      obtain ⟨b0, b1, b2, b3⟩ := HS.out _ hS3
      obtain ⟨W3, hW3⟩ : ∃ W3, (w1.alloc (.cells #[.string ⟨#[]⟩, .string oW1, .string oW2, .string oW3, .string oW4, .string oW5] 9)).drew = W3 := ⟨_, rfl⟩
      rw [hW3] at hS3 b0 b1 b2 b3 ⊢
      clear hW3 hS0 hS2
      by_cases h0 : x.size = 0
      · have HT := hidE (opT_bare HE.out (by decide) h0)
        have he : x = ⟨#[]⟩ := by cases x with | mk d => simp [ByteArray.size] at h0; rw [h0]
        subst he
        clear h0
        go_wp2
        go_ret
        exact ⟨retS HT.out.symm, HB1.out.trans (hS3.mono HB1.out.size)⟩
      · have HT := hidE (opT_data HE.out (by decide) h0)
        have hne : (x.toList == []) = false := by
          rw [Lib.toList_data]; simp; intro q; apply h0; show x.data.size = 0; rw [q]; rfl
        have hne' : ¬ x.toList = [] := by simpa using hne
        have q3 : (oW3 ++ (⟨#[32]⟩ : ByteArray) ++ p ++ ⟨#[32]⟩).size ≤ 16777233 := by rw [ByteArray.size_append]; show _ + 1 ≤ _; omega
        clear h0
        go_wp2
        go_ret
        exact ⟨retS HT.out.symm, HB1.out.trans (hS3.mono HB1.out.size)⟩
    · have HE := hidE ho
      clear ho
      go_enter Tryz.func17, Tryz.ntmps17
      go_wp2_with (first | (go_at_call 19; refine (HO.out _).mono ?_; rintro e w1 ⟨rfl, hB1⟩; rw [HF.out]) | fail)
      have HB1 := hidE (HB.out.trans (hB1.mono (by simp)))
      have HK := hidE hB1
      clear hB1
      have HS := hidE (fun (W' : World) (h : Below w1.heap.size w1 W') => box4t (HK.out.trans (h.mono HK.out.size)))
      refine wp_region_held_drew (S := fun W' => Below w1.heap.size w1 W') (by kernel_rfl) ((Below.refl _ w1).drew) (fun hS0 => ?_)
      refine wpAnyH_take (i := 1) (v := ?_) rfl (by kernel_rfl) (by kernel_rfl) (by kernel_rfl) (fun _ _ _ h => h) (Or.inl ⟨by rfl, ?_⟩) hS0 ?_
      rotate_left 1
      · intro w' hw'; obtain ⟨q0, q1, q2, q3⟩ := HS.out w' hw'; go_simp; first | done | with_reducible rfl
      refine wpAnyH_take (i := 2) (v := ?_) rfl (by kernel_rfl) (by kernel_rfl) (by kernel_rfl) (fun _ _ _ h => h) (Or.inl ⟨by rfl, ?_⟩) hS0 ?_
      rotate_left 1
      · intro w' hw'; obtain ⟨q0, q1, q2, q3⟩ := HS.out w' hw'; go_simp; first | done | with_reducible rfl
      refine wpAnyH_take (i := 6) (v := ?_) rfl (by kernel_rfl) (by kernel_rfl) (by kernel_rfl) (fun _ _ _ h => h) (Or.inl ⟨by rfl, ?_⟩) hS0 ?_
      rotate_left 1
      · intro w' hw'; obtain ⟨q0, q1, q2, q3⟩ := HS.out w' hw'; go_simp; first | done | with_reducible rfl
      refine wpAnyH_take (i := 7) (v := ?_) rfl (by kernel_rfl) (by kernel_rfl) (by kernel_rfl) (fun _ _ _ h => h) (Or.inl ⟨by rfl, ?_⟩) hS0 ?_
      rotate_left 1
      · intro w' hw'; obtain ⟨q0, q1, q2, q3⟩ := HS.out w' hw'; go_simp; first | done | with_reducible rfl
      refine wpAnyH_ready (rs := [0]) (by kernel_rfl) (by simp) (AllReadyH.cons rfl (fun K hK => ?_) AllReadyH.nil)
      go_simp
      go_wp2_with (first | (go_at_call 48; refine (l6Words_any _).mono ?_; rintro e w2 ⟨rfl, rfl⟩) | fail)
      have hS2 := hS0.alloc hS0.size (.cells #[.string ⟨#[]⟩, .string oW1, .string oW2, .string oW3, .string oW4, .string oW5] 9)
      refine hK.out _ _ hS2 (fun _ => ?_)
      clear hK K
      have q1 : (oW4 ++ (⟨#[32]⟩ : ByteArray)).size ≤ 16 := by decide
      have q2 : (oW4 ++ (⟨#[32]⟩ : ByteArray) ++ p).size ≤ 16777232 := by rw [ByteArray.size_append]; omega
      refine wpAnyH_ready (rs := [3]) (by kernel_rfl) (by simp) (AllReadyH.cons rfl (fun K hK => ?_) AllReadyH.nil)
      go_simp
      refine hK.out _ _ hS2 (fun _ => ?_)
      clear hK K
      refine wpAnyH_ready (rs := [4]) (by kernel_rfl) (by simp) (AllReadyH.cons rfl (fun K hK => ?_) AllReadyH.nil)
      go_simp
      refine hK.out _ _ hS2 (fun _ => ?_)
      clear hK K
      refine wpAnyH_ready (rs := [5]) (by kernel_rfl) (by simp) (AllReadyH.cons rfl (fun K hK => ?_) AllReadyH.nil)
      go_simp
      refine hK.out _ _ hS2 (fun _ => ?_)
      clear hK K
      have h5 : oW4.size ≤ 5 := by decide
      refine wpAnyH_ready (rs := [8]) (by kernel_rfl) (by simp) (AllReadyH.cons rfl (fun K hK => ?_) AllReadyH.nil)
      go_simp
      rw [if_neg (show ¬ (9223372036854775807 < oW4.size + 1 + p.size) by omega)]
      go_simp
      refine hK.out _ _ hS2 (fun _ => ?_)
      clear hK K
      refine wpAnyH_ready (rs := [9]) (by kernel_rfl) (by simp) (AllReadyH.cons rfl (fun K hK => ?_) AllReadyH.nil)
      go_simp
      refine hK.out _ _ hS2 (fun _ => ?_)
      clear hK K
      refine wpAnyH_done (by kernel_rfl) ?_ _
      have hS3 : Below w1.heap.size w1 (w1.alloc (.cells #[.string ⟨#[]⟩, .string oW1, .string oW2, .string oW3, .string oW4, .string oW5] 9)).drew := hS2
      obtain ⟨b0, b1, b2, b3⟩ := HS.out _ hS3
      obtain ⟨W3, hW3⟩ : ∃ W3, (w1.alloc (.cells #[.string ⟨#[]⟩, .string oW1, .string oW2, .string oW3, .string oW4, .string oW5] 9)).drew = W3 := ⟨_, rfl⟩
      rw [hW3] at hS3 b0 b1 b2 b3 ⊢
      clear hW3 hS0 hS2
      by_cases h0 : x.size = 0
      · have HT := hidE (opT_bare HE.out (by decide) h0)
        have he : x = ⟨#[]⟩ := by cases x with | mk d => simp [ByteArray.size] at h0; rw [h0]
        subst he
        clear h0
        go_wp2
        go_ret
        exact ⟨retS HT.out.symm, HB1.out.trans (hS3.mono HB1.out.size)⟩
      · have HT := hidE (opT_data HE.out (by decide) h0)
        have hne : (x.toList == []) = false := by
          rw [Lib.toList_data]; simp; intro q; apply h0; show x.data.size = 0; rw [q]; rfl
        have hne' : ¬ x.toList = [] := by simpa using hne
        have q3 : (oW4 ++ (⟨#[32]⟩ : ByteArray) ++ p ++ ⟨#[32]⟩).size ≤ 16777233 := by rw [ByteArray.size_append]; show _ + 1 ≤ _; omega
        clear h0
        go_wp2
        go_ret
        exact ⟨retS HT.out.symm, HB1.out.trans (hS3.mono HB1.out.size)⟩
    · have HE := hidE ho
      clear ho
      go_enter Tryz.func17, Tryz.ntmps17
      go_wp2_with (first | (go_at_call 19; refine (HO.out _).mono ?_; rintro e w1 ⟨rfl, hB1⟩; rw [HF.out]) | fail)
      have HB1 := hidE (HB.out.trans (hB1.mono (by simp)))
      have HK := hidE hB1
      clear hB1
      have HS := hidE (fun (W' : World) (h : Below w1.heap.size w1 W') => box4t (HK.out.trans (h.mono HK.out.size)))
      refine wp_region_held_drew (S := fun W' => Below w1.heap.size w1 W') (by kernel_rfl) ((Below.refl _ w1).drew) (fun hS0 => ?_)
      refine wpAnyH_take (i := 1) (v := ?_) rfl (by kernel_rfl) (by kernel_rfl) (by kernel_rfl) (fun _ _ _ h => h) (Or.inl ⟨by rfl, ?_⟩) hS0 ?_
      rotate_left 1
      · intro w' hw'; obtain ⟨q0, q1, q2, q3⟩ := HS.out w' hw'; go_simp; first | done | with_reducible rfl
      refine wpAnyH_take (i := 2) (v := ?_) rfl (by kernel_rfl) (by kernel_rfl) (by kernel_rfl) (fun _ _ _ h => h) (Or.inl ⟨by rfl, ?_⟩) hS0 ?_
      rotate_left 1
      · intro w' hw'; obtain ⟨q0, q1, q2, q3⟩ := HS.out w' hw'; go_simp; first | done | with_reducible rfl
      refine wpAnyH_take (i := 6) (v := ?_) rfl (by kernel_rfl) (by kernel_rfl) (by kernel_rfl) (fun _ _ _ h => h) (Or.inl ⟨by rfl, ?_⟩) hS0 ?_
      rotate_left 1
      · intro w' hw'; obtain ⟨q0, q1, q2, q3⟩ := HS.out w' hw'; go_simp; first | done | with_reducible rfl
      refine wpAnyH_take (i := 7) (v := ?_) rfl (by kernel_rfl) (by kernel_rfl) (by kernel_rfl) (fun _ _ _ h => h) (Or.inl ⟨by rfl, ?_⟩) hS0 ?_
      rotate_left 1
      · intro w' hw'; obtain ⟨q0, q1, q2, q3⟩ := HS.out w' hw'; go_simp; first | done | with_reducible rfl
      refine wpAnyH_ready (rs := [0]) (by kernel_rfl) (by simp) (AllReadyH.cons rfl (fun K hK => ?_) AllReadyH.nil)
      go_simp
      go_wp2_with (first | (go_at_call 48; refine (l6Words_any _).mono ?_; rintro e w2 ⟨rfl, rfl⟩) | fail)
      have hS2 := hS0.alloc hS0.size (.cells #[.string ⟨#[]⟩, .string oW1, .string oW2, .string oW3, .string oW4, .string oW5] 9)
      refine hK.out _ _ hS2 (fun _ => ?_)
      clear hK K
      have q1 : (oW5 ++ (⟨#[32]⟩ : ByteArray)).size ≤ 16 := by decide
      have q2 : (oW5 ++ (⟨#[32]⟩ : ByteArray) ++ p).size ≤ 16777232 := by rw [ByteArray.size_append]; omega
      refine wpAnyH_ready (rs := [3]) (by kernel_rfl) (by simp) (AllReadyH.cons rfl (fun K hK => ?_) AllReadyH.nil)
      go_simp
      refine hK.out _ _ hS2 (fun _ => ?_)
      clear hK K
      refine wpAnyH_ready (rs := [4]) (by kernel_rfl) (by simp) (AllReadyH.cons rfl (fun K hK => ?_) AllReadyH.nil)
      go_simp
      refine hK.out _ _ hS2 (fun _ => ?_)
      clear hK K
      refine wpAnyH_ready (rs := [5]) (by kernel_rfl) (by simp) (AllReadyH.cons rfl (fun K hK => ?_) AllReadyH.nil)
      go_simp
      refine hK.out _ _ hS2 (fun _ => ?_)
      clear hK K
      have h5 : oW5.size ≤ 5 := by decide
      refine wpAnyH_ready (rs := [8]) (by kernel_rfl) (by simp) (AllReadyH.cons rfl (fun K hK => ?_) AllReadyH.nil)
      go_simp
      rw [if_neg (show ¬ (9223372036854775807 < oW5.size + 1 + p.size) by omega)]
      go_simp
      refine hK.out _ _ hS2 (fun _ => ?_)
      clear hK K
      refine wpAnyH_ready (rs := [9]) (by kernel_rfl) (by simp) (AllReadyH.cons rfl (fun K hK => ?_) AllReadyH.nil)
      go_simp
      refine hK.out _ _ hS2 (fun _ => ?_)
      clear hK K
      refine wpAnyH_done (by kernel_rfl) ?_ _
      have hS3 : Below w1.heap.size w1 (w1.alloc (.cells #[.string ⟨#[]⟩, .string oW1, .string oW2, .string oW3, .string oW4, .string oW5] 9)).drew := hS2
      obtain ⟨b0, b1, b2, b3⟩ := HS.out _ hS3
      obtain ⟨W3, hW3⟩ : ∃ W3, (w1.alloc (.cells #[.string ⟨#[]⟩, .string oW1, .string oW2, .string oW3, .string oW4, .string oW5] 9)).drew = W3 := ⟨_, rfl⟩
      rw [hW3] at hS3 b0 b1 b2 b3 ⊢
      clear hW3 hS0 hS2
      have q3 : (oW5 ++ (⟨#[32]⟩ : ByteArray) ++ p ++ ⟨#[32]⟩).size ≤ 16777233 := by rw [ByteArray.size_append]; show _ + 1 ≤ _; omega
      have HT := hidE (opT_move HE.out)
      go_wp2
      go_ret
      exact ⟨retS HT.out.symm, HB1.out.trans (hS3.mono HB1.out.size)⟩

end Go.Proofs.YtgkfhcpegdlejaaGreatDoor
