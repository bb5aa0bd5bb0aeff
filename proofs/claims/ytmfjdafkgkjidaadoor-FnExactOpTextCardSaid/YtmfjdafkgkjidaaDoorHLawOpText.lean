/-
  The walk of the model's text of what is done, and of the law.
-/
import Derived.Test.YtmfjdafkgkjidaaDoorHTxOp
namespace Go.Proofs.YtmfjdafkgkjidaaDoor
open Go.RowKit Go.Lib

set_option maxHeartbeats 3200000 in
set_option maxRecDepth 100000 in
theorem sOpText_any (k : Int) (p t x : ByteArray) (w : World) (hp : p.size ≤ 16777216) (ht : t.size ≤ 16777216) (hx : x.size ≤ 16777216) :
    Calls Tryd.prog 27 #[.agg #[.int .i64 k, .string p, .string t, .string x]] w fun r w' => r = .returned (.string (opT ⟨k, p, t, x⟩)) ∧ Below w.heap.size w w' := by
  have hB : Below w.heap.size w (w.alloc (.cells #[.int .i64 k, .string p, .string t, .string x] 54)) := (Below.refl _ w).alloc (Nat.le_refl _) _
  have HB := hidE hB
  have HO := hidE (fun W => sOpOk_any W k p t x hp ht hx)
  clear hB
  cases ho : opB ⟨k, p, t, x⟩ with
  | false =>
    have HE := hidE (opT_no ho)
    have HF := hidE ho
    clear ho
    go_enter Tryd.func27, Tryd.ntmps27
    go_wp2_with (first | (go_at_call 40; refine (HO.out _).mono ?_; rintro e w1 ⟨rfl, hB1⟩; rw [HF.out]) | fail)
    go_ret
    exact ⟨retS HE.out.symm, HB.out.trans (hB1.mono (by simp))⟩
  | true =>
    have HF := hidE ho
    rcases op_kind ho with rfl | rfl | rfl | rfl | rfl
    · have HE := hidE ho
      clear ho
      go_enter Tryd.func27, Tryd.ntmps27
      go_wp2_with (first | (go_at_call 40; refine (HO.out _).mono ?_; rintro e w1 ⟨rfl, hB1⟩; rw [HF.out]) | fail)
      have HB1 := hidE (HB.out.trans (hB1.mono (by simp)))
      have HK := hidE hB1
      clear hB1
      have HS := hidE (fun (W' : World) (h : Below w1.heap.size w1 W') => box4t (HK.out.trans (h.mono HK.out.size)))
      refine wp_region_held_drew (S := fun W' => Below w1.heap.size w1 W') (by kernel_rfl) ((Below.refl _ w1).drew) (fun hS0 => ?_)
      refine wpAnyH_take (i := 1) (v := ?_) rfl (by kernel_rfl) (by kernel_rfl) (by kernel_rfl) (fun _ _ _ h => h) (Or.inl ⟨by rfl, ?_⟩) hS0 ?_
      rotate_left 1
      · intro w' hw'; obtain ⟨q0, q1, q2, q3⟩ := HS.out w' hw'; go_simp; first | done | with_reducible rfl
      refine wpAnyH_take (i := 2) (v := ?_) rfl (by kernel_rfl) (by kernel_rfl) (by kernel_rfl) (fun _ _ _ h => h) (Or.inl ⟨by rfl, ?_⟩) hS0 ?_
      rotate_left 1
      · intro w' hw'; obtain ⟨q0, q1, q2, q3⟩ := HS.out w' hw'; go_simp; first | done | with_reducible rfl
      refine wpAnyH_take (i := 6) (v := ?_) rfl (by kernel_rfl) (by kernel_rfl) (by kernel_rfl) (fun _ _ _ h => h) (Or.inl ⟨by rfl, ?_⟩) hS0 ?_
      rotate_left 1
      · intro w' hw'; obtain ⟨q0, q1, q2, q3⟩ := HS.out w' hw'; go_simp; first | done | with_reducible rfl
      refine wpAnyH_take (i := 7) (v := ?_) rfl (by kernel_rfl) (by kernel_rfl) (by kernel_rfl) (fun _ _ _ h => h) (Or.inl ⟨by rfl, ?_⟩) hS0 ?_
      rotate_left 1
      · intro w' hw'; obtain ⟨q0, q1, q2, q3⟩ := HS.out w' hw'; go_simp; first | done | with_reducible rfl
      refine wpAnyH_ready (rs := [0]) (by kernel_rfl) (by simp) (AllReadyH.cons rfl (fun K hK => ?_) AllReadyH.nil)
      go_simp
      go_wp2_with (first | (go_at_call 41; refine (l6Words_any _).mono ?_; rintro e w2 ⟨rfl, rfl⟩) | fail)
      have hS2 := hS0.alloc hS0.size (.cells #[.string ⟨#[]⟩, .string oW1, .string oW2, .string oW3, .string oW4, .string oW5] 9)
      refine hK.out _ _ hS2 (fun _ => ?_)
      clear hK K
      have q1 : (oW1 ++ (⟨#[32]⟩ : ByteArray)).size ≤ 16 := by decide
      have q2 : (oW1 ++ (⟨#[32]⟩ : ByteArray) ++ p).size ≤ 16777232 := by rw [ByteArray.size_append]; omega
      refine wpAnyH_ready (rs := [3]) (by kernel_rfl) (by simp) (AllReadyH.cons rfl (fun K hK => ?_) AllReadyH.nil)
      go_simp
      refine hK.out _ _ hS2 (fun _ => ?_)
      clear hK K
      refine wpAnyH_ready (rs := [4]) (by kernel_rfl) (by simp) (AllReadyH.cons rfl (fun K hK => ?_) AllReadyH.nil)
      go_simp
      refine hK.out _ _ hS2 (fun _ => ?_)
      clear hK K
      refine wpAnyH_ready (rs := [5]) (by kernel_rfl) (by simp) (AllReadyH.cons rfl (fun K hK => ?_) AllReadyH.nil)
      go_simp
      refine hK.out _ _ hS2 (fun _ => ?_)
      clear hK K
      have h5 : oW1.size ≤ 5 := by decide
      refine wpAnyH_ready (rs := [8]) (by kernel_rfl) (by simp) (AllReadyH.cons rfl (fun K hK => ?_) AllReadyH.nil)
      go_simp
      rw [if_neg (show ¬ (9223372036854775807 < oW1.size + 1 + p.size) by omega)]
      go_simp
      refine hK.out _ _ hS2 (fun _ => ?_)
      clear hK K
      refine wpAnyH_ready (rs := [9]) (by kernel_rfl) (by simp) (AllReadyH.cons rfl (fun K hK => ?_) AllReadyH.nil)
      go_simp
      refine hK.out _ _ hS2 (fun _ => ?_)
      clear hK K
      refine wpAnyH_done (by kernel_rfl) ?_ _
      have hS3 : Below w1.heap.size w1 (w1.alloc (.cells #[.string ⟨#[]⟩, .string oW1, .string oW2, .string oW3, .string oW4, .string oW5] 9)).drew := hS2
      obtain ⟨b0, b1, b2, b3⟩ := HS.out _ hS3
      obtain ⟨W3, hW3⟩ : ∃ W3, (w1.alloc (.cells #[.string ⟨#[]⟩, .string oW1, .string oW2, .string oW3, .string oW4, .string oW5] 9)).drew = W3 := ⟨_, rfl⟩
      rw [hW3] at hS3 b0 b1 b2 b3 ⊢
      clear hW3 hS0 hS2
      by_cases h0 : x.size = 0
      · have HT := hidE (opT_bare HE.out (by decide) h0)
        have he : x = ⟨#[]⟩ := by cases x with | mk d => simp [ByteArray.size] at h0; rw [h0]
        subst he
        clear h0
        go_wp2
        go_ret
        exact ⟨retS HT.out.symm, HB1.out.trans (hS3.mono HB1.out.size)⟩
      · have HT := hidE (opT_data HE.out (by decide) h0)
        have hne : (x.toList == []) = false := by
          rw [Lib.toList_data]; simp; intro q; apply h0; show x.data.size = 0; rw [q]; rfl
        have hne' : ¬ x.toList = [] := by simpa using hne
        have q3 : (oW1 ++ (⟨#[32]⟩ : ByteArray) ++ p ++ ⟨#[32]⟩).size ≤ 16777233 := by rw [ByteArray.size_append]; show _ + 1 ≤ _; omega
        clear h0
        go_wp2
        go_ret
        exact ⟨retS HT.out.symm, HB1.out.trans (hS3.mono HB1.out.size)⟩
    · have HE := hidE ho
      clear ho
      go_enter Tryd.func27, Tryd.ntmps27
      go_wp2_with (first | (go_at_call 40; refine (HO.out _).mono ?_; rintro e w1 ⟨rfl, hB1⟩; rw [HF.out]) | fail)
      have HB1 := hidE (HB.out.trans (hB1.mono (by simp)))
      have HK := hidE hB1
      clear hB1
      have HS := hidE (fun (W' : World) (h : Below w1.heap.size w1 W') => box4t (HK.out.trans (h.mono HK.out.size)))
      refine wp_region_held_drew (S := fun W' => Below w1.heap.size w1 W') (by kernel_rfl) ((Below.refl _ w1).drew) (fun hS0 => ?_)
      refine wpAnyH_take (i := 1) (v := ?_) rfl (by kernel_rfl) (by kernel_rfl) (by kernel_rfl) (fun _ _ _ h => h) (Or.inl ⟨by rfl, ?_⟩) hS0 ?_
      rotate_left 1
      · intro w' hw'; obtain ⟨q0, q1, q2, q3⟩ := HS.out w' hw'; go_simp; first | done | with_reducible rfl
      refine wpAnyH_take (i := 2) (v := ?_) rfl (by kernel_rfl) (by kernel_rfl) (by kernel_rfl) (fun _ _ _ h => h) (Or.inl ⟨by rfl, ?_⟩) hS0 ?_
      rotate_left 1
      · intro w' hw'; obtain ⟨q0, q1, q2, q3⟩ := HS.out w' hw'; go_simp; first | done | with_reducible rfl
      refine wpAnyH_take (i := 6) (v := ?_) rfl (by kernel_rfl) (by kernel_rfl) (by kernel_rfl) (fun _ _ _ h => h) (Or.inl ⟨by rfl, ?_⟩) hS0 ?_
      rotate_left 1
      · intro w' hw'; obtain ⟨q0, q1, q2, q3⟩ := HS.out w' hw'; go_simp; first | done | with_reducible rfl
      refine wpAnyH_take (i := 7) (v := ?_) rfl (by kernel_rfl) (by kernel_rfl) (by kernel_rfl) (fun _ _ _ h => h) (Or.inl ⟨by rfl, ?_⟩) hS0 ?_
      rotate_left 1
      · intro w' hw'; obtain ⟨q0, q1, q2, q3⟩ := HS.out w' hw'; go_simp; first | done | with_reducible rfl
      refine wpAnyH_ready (rs := [0]) (by kernel_rfl) (by simp) (AllReadyH.cons rfl (fun K hK => ?_) AllReadyH.nil)
      go_simp
      go_wp2_with (first | (go_at_call 41; refine (l6Words_any _).mono ?_; rintro e w2 ⟨rfl, rfl⟩) | fail)
      have hS2 := hS0.alloc hS0.size (.cells #[.string ⟨#[]⟩, .string oW1, .string oW2, .string oW3, .string oW4, .string oW5] 9)
      refine hK.out _ _ hS2 (fun _ => ?_)
      clear hK K
      have q1 : (oW2 ++ (⟨#[32]⟩ : ByteArray)).size ≤ 16 := by decide
      have q2 : (oW2 ++ (⟨#[32]⟩ : ByteArray) ++ p).size ≤ 16777232 := by rw [ByteArray.size_append]; omega
      refine wpAnyH_ready (rs := [3]) (by kernel_rfl) (by simp) (AllReadyH.cons rfl (fun K hK => ?_) AllReadyH.nil)
      go_simp
      refine hK.out _ _ hS2 (fun _ => ?_)
      clear hK K
      refine wpAnyH_ready (rs := [4]) (by kernel_rfl) (by simp) (AllReadyH.cons rfl (fun K hK => ?_) AllReadyH.nil)
      go_simp
      refine hK.out _ _ hS2 (fun _ => ?_)
      clear hK K
      refine wpAnyH_ready (rs := [5]) (by kernel_rfl) (by simp) (AllReadyH.cons rfl (fun K hK => ?_) AllReadyH.nil)
      go_simp
      refine hK.out _ _ hS2 (fun _ => ?_)
      clear hK K
      have h5 : oW2.size ≤ 5 := by decide
      refine wpAnyH_ready (rs := [8]) (by kernel_rfl) (by simp) (AllReadyH.cons rfl (fun K hK => ?_) AllReadyH.nil)
      go_simp
      rw [if_neg (show ¬ (9223372036854775807 < oW2.size + 1 + p.size) by omega)]
      go_simp
      refine hK.out _ _ hS2 (fun _ => ?_)
      clear hK K
      refine wpAnyH_ready (rs := [9]) (by kernel_rfl) (by simp) (AllReadyH.cons rfl (fun K hK => ?_) AllReadyH.nil)
      go_simp
      refine hK.out _ _ hS2 (fun _ => ?_)
      clear hK K
      refine wpAnyH_done (by kernel_rfl) ?_ _
      have hS3 : Below w1.heap.size w1 (w1.alloc (.cells #[.string ⟨#[]⟩, .string oW1, .string oW2, .string oW3, .string oW4, .string oW5] 9)).drew := hS2
      obtain ⟨b0, b1, b2, b3⟩ := HS.out _ hS3
      obtain ⟨W3, hW3⟩ : ∃ W3, (w1.alloc (.cells #[.string ⟨#[]⟩, .string oW1, .string oW2, .string oW3, .string oW4, .string oW5] 9)).drew = W3 := ⟨_, rfl⟩
      rw [hW3] at hS3 b0 b1 b2 b3 ⊢
      clear hW3 hS0 hS2
      by_cases h0 : x.size = 0
      · have HT := hidE (opT_bare HE.out (by decide) h0)
        have he : x = ⟨#[]⟩ := by cases x with | mk d => simp [ByteArray.size] at h0; rw [h0]
        subst he
        clear h0
        go_wp2
        go_ret
        exact ⟨retS HT.out.symm, HB1.out.trans (hS3.mono HB1.out.size)⟩
      · have HT := hidE (opT_data HE.out (by decide) h0)
        have hne : (x.toList == []) = false := by
          rw [Lib.toList_data]; simp; intro q; apply h0; show x.data.size = 0; rw [q]; rfl
        have hne' : ¬ x.toList = [] := by simpa using hne
        have q3 : (oW2 ++ (⟨#[32]⟩ : ByteArray) ++ p ++ ⟨#[32]⟩).size ≤ 16777233 := by rw [ByteArray.size_append]; show _ + 1 ≤ _; omega
        clear h0
        go_wp2
        go_ret
        exact ⟨retS HT.out.symm, HB1.out.trans (hS3.mono HB1.out.size)⟩
    · have HE := hidE ho
      clear ho
      go_enter Tryd.func27, Tryd.ntmps27
      go_wp2_with (first | (go_at_call 40; refine (HO.out _).mono ?_; rintro e w1 ⟨rfl, hB1⟩; rw [HF.out]) | fail)
      have HB1 := hidE (HB.out.trans (hB1.mono (by simp)))
      have HK := hidE hB1
      clear hB1
      have HS := hidE (fun (W' : World) (h : Below w1.heap.size w1 W') => box4t (HK.out.trans (h.mono HK.out.size)))
      refine wp_region_held_drew (S := fun W' => Below w1.heap.size w1 W') (by kernel_rfl) ((Below.refl _ w1).drew) (fun hS0 => ?_)
      refine wpAnyH_take (i := 1) (v := ?_) rfl (by kernel_rfl) (by kernel_rfl) (by kernel_rfl) (fun _ _ _ h => h) (Or.inl ⟨by rfl, ?_⟩) hS0 ?_
      rotate_left 1
      · intro w' hw'; obtain ⟨q0, q1, q2, q3⟩ := HS.out w' hw'; go_simp; first | done | with_reducible rfl
      refine wpAnyH_take (i := 2) (v := ?_) rfl (by kernel_rfl) (by kernel_rfl) (by kernel_rfl) (fun _ _ _ h => h) (Or.inl ⟨by rfl, ?_⟩) hS0 ?_
      rotate_left 1
      · intro w' hw'; obtain ⟨q0, q1, q2, q3⟩ := HS.out w' hw'; go_simp; first | done | with_reducible rfl
      refine wpAnyH_take (i := 6) (v := ?_) rfl (by kernel_rfl) (by kernel_rfl) (by kernel_rfl) (fun _ _ _ h => h) (Or.inl ⟨by rfl, ?_⟩) hS0 ?_
      rotate_left 1
      · intro w' hw'; obtain ⟨q0, q1, q2, q3⟩ := HS.out w' hw'; go_simp; first | done | with_reducible rfl
      refine wpAnyH_take (i := 7) (v := ?_) rfl (by kernel_rfl) (by kernel_rfl) (by kernel_rfl) (fun _ _ _ h => h) (Or.inl ⟨by rfl, ?_⟩) hS0 ?_
      rotate_left 1
      · intro w' hw'; obtain ⟨q0, q1, q2, q3⟩ := HS.out w' hw'; go_simp; first | done | with_reducible rfl
      refine wpAnyH_ready (rs := [0]) (by kernel_rfl) (by simp) (AllReadyH.cons rfl (fun K hK => ?_) AllReadyH.nil)
      go_simp
      go_wp2_with (first | (go_at_call 41; refine (l6Words_any _).mono ?_; rintro e w2 ⟨rfl, rfl⟩) | fail)
      have hS2 := hS0.alloc hS0.size (.cells #[.string ⟨#[]⟩, .string oW1, .string oW2, .string oW3, .string oW4, .string oW5] 9)
      refine hK.out _ _ hS2 (fun _ => ?_)
      clear hK K
      have q1 : (oW3 ++ (⟨#[32]⟩ : ByteArray)).size ≤ 16 := by decide
      have q2 : (oW3 ++ (⟨#[32]⟩ : ByteArray) ++ p).size ≤ 16777232 := by rw [ByteArray.size_append]; omega
      refine wpAnyH_ready (rs := [3]) (by kernel_rfl) (by simp) (AllReadyH.cons rfl (fun K hK => ?_) AllReadyH.nil)
      go_simp
      refine hK.out _ _ hS2 (fun _ => ?_)
      clear hK K
      refine wpAnyH_ready (rs := [4]) (by kernel_rfl) (by simp) (AllReadyH.cons rfl (fun K hK => ?_) AllReadyH.nil)
      go_simp
      refine hK.out _ _ hS2 (fun _ => ?_)
      clear hK K
      refine wpAnyH_ready (rs := [5]) (by kernel_rfl) (by simp) (AllReadyH.cons rfl (fun K hK => ?_) AllReadyH.nil)
      go_simp
      refine hK.out _ _ hS2 (fun _ => ?_)
      clear hK K
      have h5 : oW3.size ≤ 5 := by decide
      refine wpAnyH_ready (rs := [8]) (by kernel_rfl) (by simp) (AllReadyH.cons rfl (fun K hK => ?_) AllReadyH.nil)
      go_simp
      rw [if_neg (show ¬ (9223372036854775807 < oW3.size + 1 + p.size) by omega)]
      go_simp
      refine hK.out _ _ hS2 (fun _ => ?_)
      clear hK K
      refine wpAnyH_ready (rs := [9]) (by kernel_rfl) (by simp) (AllReadyH.cons rfl (fun K hK => ?_) AllReadyH.nil)
      go_simp
      refine hK.out _ _ hS2 (fun _ => ?_)
      clear hK K
      refine wpAnyH_done (by kernel_rfl) ?_ _
      have hS3 : Below w1.heap.size w1 (w1.alloc (.cells #[.string ⟨#[]⟩, .string oW1, .string oW2, .string oW3, .string oW4, .string oW5] 9)).drew := hS2
      obtain ⟨b0, b1, b2, b3⟩ := HS.out _ hS3
      obtain ⟨W3, hW3⟩ : ∃ W3, (w1.alloc (.cells #[.string ⟨#[]⟩, .string oW1, .string oW2, .string oW3, .string oW4, .string oW5] 9)).drew = W3 := ⟨_, rfl⟩
      rw [hW3] at hS3 b0 b1 b2 b3 ⊢
      clear hW3 hS0 hS2
      by_cases h0 : x.size = 0
      · have HT := hidE (opT_bare HE.out (by decide) h0)
        have he : x = ⟨#[]⟩ := by cases x with | mk d => simp [ByteArray.size] at h0; rw [h0]
        subst he
        clear h0
        go_wp2
        go_ret
        exact ⟨retS HT.out.symm, HB1.out.trans (hS3.mono HB1.out.size)⟩
      · have HT := hidE (opT_data HE.out (by decide) h0)
        have hne : (x.toList == []) = false := by
          rw [Lib.toList_data]; simp; intro q; apply h0; show x.data.size = 0; rw [q]; rfl
        have hne' : ¬ x.toList = [] := by simpa using hne
        have q3 : (oW3 ++ (⟨#[32]⟩ : ByteArray) ++ p ++ ⟨#[32]⟩).size ≤ 16777233 := by rw [ByteArray.size_append]; show _ + 1 ≤ _; omega
        clear h0
        go_wp2
        go_ret
        exact ⟨retS HT.out.symm, HB1.out.trans (hS3.mono HB1.out.size)⟩
    · have HE := hidE ho
      clear ho
      go_enter Tryd.func27, Tryd.ntmps27
      go_wp2_with (first | (go_at_call 40; refine (HO.out _).mono ?_; rintro e w1 ⟨rfl, hB1⟩; rw [HF.out]) | fail)
      have HB1 := hidE (HB.out.trans (hB1.mono (by simp)))
      have HK := hidE hB1
      clear hB1
      have HS := hidE (fun (W' : World) (h : Below w1.heap.size w1 W') => box4t (HK.out.trans (h.mono HK.out.size)))
      refine wp_region_held_drew (S := fun W' => Below w1.heap.size w1 W') (by kernel_rfl) ((Below.refl _ w1).drew) (fun hS0 => ?_)
      refine wpAnyH_take (i := 1) (v := ?_) rfl (by kernel_rfl) (by kernel_rfl) (by kernel_rfl) (fun _ _ _ h => h) (Or.inl ⟨by rfl, ?_⟩) hS0 ?_
      rotate_left 1
      · intro w' hw'; obtain ⟨q0, q1, q2, q3⟩ := HS.out w' hw'; go_simp; first | done | with_reducible rfl
      refine wpAnyH_take (i := 2) (v := ?_) rfl (by kernel_rfl) (by kernel_rfl) (by kernel_rfl) (fun _ _ _ h => h) (Or.inl ⟨by rfl, ?_⟩) hS0 ?_
      rotate_left 1
      · intro w' hw'; obtain ⟨q0, q1, q2, q3⟩ := HS.out w' hw'; go_simp; first | done | with_reducible rfl
      refine wpAnyH_take (i := 6) (v := ?_) rfl (by kernel_rfl) (by kernel_rfl) (by kernel_rfl) (fun _ _ _ h => h) (Or.inl ⟨by rfl, ?_⟩) hS0 ?_
      rotate_left 1
      · intro w' hw'; obtain ⟨q0, q1, q2, q3⟩ := HS.out w' hw'; go_simp; first | done | with_reducible rfl
      refine wpAnyH_take (i := 7) (v := ?_) rfl (by kernel_rfl) (by kernel_rfl) (by kernel_rfl) (fun _ _ _ h => h) (Or.inl ⟨by rfl, ?_⟩) hS0 ?_
      rotate_left 1
      · intro w' hw'; obtain ⟨q0, q1, q2, q3⟩ := HS.out w' hw'; go_simp; first | done | with_reducible rfl
      refine wpAnyH_ready (rs := [0]) (by kernel_rfl) (by simp) (AllReadyH.cons rfl (fun K hK => ?_) AllReadyH.nil)
      go_simp
      go_wp2_with (first | (go_at_call 41; refine (l6Words_any _).mono ?_; rintro e w2 ⟨rfl, rfl⟩) | fail)
      have hS2 := hS0.alloc hS0.size (.cells #[.string ⟨#[]⟩, .string oW1, .string oW2, .string oW3, .string oW4, .string oW5] 9)
      refine hK.out _ _ hS2 (fun _ => ?_)
      clear hK K
      have q1 : (oW4 ++ (⟨#[32]⟩ : ByteArray)).size ≤ 16 := by decide
      have q2 : (oW4 ++ (⟨#[32]⟩ : ByteArray) ++ p).size ≤ 16777232 := by rw [ByteArray.size_append]; omega
      refine wpAnyH_ready (rs := [3]) (by kernel_rfl) (by simp) (AllReadyH.cons rfl (fun K hK => ?_) AllReadyH.nil)
      go_simp
      refine hK.out _ _ hS2 (fun _ => ?_)
      clear hK K
      refine wpAnyH_ready (rs := [4]) (by kernel_rfl) (by simp) (AllReadyH.cons rfl (fun K hK => ?_) AllReadyH.nil)
      go_simp
      refine hK.out _ _ hS2 (fun _ => ?_)
      clear hK K
      refine wpAnyH_ready (rs := [5]) (by kernel_rfl) (by simp) (AllReadyH.cons rfl (fun K hK => ?_) AllReadyH.nil)
      go_simp
      refine hK.out _ _ hS2 (fun _ => ?_)
      clear hK K
      have h5 : oW4.size ≤ 5 := by decide
      refine wpAnyH_ready (rs := [8]) (by kernel_rfl) (by simp) (AllReadyH.cons rfl (fun K hK => ?_) AllReadyH.nil)
      go_simp
      rw [if_neg (show ¬ (9223372036854775807 < oW4.size + 1 + p.size) by omega)]
      go_simp
      refine hK.out _ _ hS2 (fun _ => ?_)
      clear hK K
      refine wpAnyH_ready (rs := [9]) (by kernel_rfl) (by simp) (AllReadyH.cons rfl (fun K hK => ?_) AllReadyH.nil)
      go_simp
      refine hK.out _ _ hS2 (fun _ => ?_)
      clear hK K
      refine wpAnyH_done (by kernel_rfl) ?_ _
      have hS3 : Below w1.heap.size w1 (w1.alloc (.cells #[.string ⟨#[]⟩, .string oW1, .string oW2, .string oW3, .string oW4, .string oW5] 9)).drew := hS2
      obtain ⟨b0, b1, b2, b3⟩ := HS.out _ hS3
      obtain ⟨W3, hW3⟩ : ∃ W3, (w1.alloc (.cells #[.string ⟨#[]⟩, .string oW1, .string oW2, .string oW3, .string oW4, .string oW5] 9)).drew = W3 := ⟨_, rfl⟩
      rw [hW3] at hS3 b0 b1 b2 b3 ⊢
      clear hW3 hS0 hS2
      by_cases h0 : x.size = 0
      · have HT := hidE (opT_bare HE.out (by decide) h0)
        have he : x = ⟨#[]⟩ := by cases x with | mk d => simp [ByteArray.size] at h0; rw [h0]
        subst he
        clear h0
        go_wp2
        go_ret
        exact ⟨retS HT.out.symm, HB1.out.trans (hS3.mono HB1.out.size)⟩
      · have HT := hidE (opT_data HE.out (by decide) h0)
        have hne : (x.toList == []) = false := by
          rw [Lib.toList_data]; simp; intro q; apply h0; show x.data.size = 0; rw [q]; rfl
        have hne' : ¬ x.toList = [] := by simpa using hne
        have q3 : (oW4 ++ (⟨#[32]⟩ : ByteArray) ++ p ++ ⟨#[32]⟩).size ≤ 16777233 := by rw [ByteArray.size_append]; show _ + 1 ≤ _; omega
        clear h0
        go_wp2
        go_ret
        exact ⟨retS HT.out.symm, HB1.out.trans (hS3.mono HB1.out.size)⟩
    · have HE := hidE ho
      clear ho
      go_enter Tryd.func27, Tryd.ntmps27
      go_wp2_with (first | (go_at_call 40; refine (HO.out _).mono ?_; rintro e w1 ⟨rfl, hB1⟩; rw [HF.out]) | fail)
      have HB1 := hidE (HB.out.trans (hB1.mono (by simp)))
      have HK := hidE hB1
      clear hB1
      have HS := hidE (fun (W' : World) (h : Below w1.heap.size w1 W') => box4t (HK.out.trans (h.mono HK.out.size)))
      refine wp_region_held_drew (S := fun W' => Below w1.heap.size w1 W') (by kernel_rfl) ((Below.refl _ w1).drew) (fun hS0 => ?_)
      refine wpAnyH_take (i := 1) (v := ?_) rfl (by kernel_rfl) (by kernel_rfl) (by kernel_rfl) (fun _ _ _ h => h) (Or.inl ⟨by rfl, ?_⟩) hS0 ?_
      rotate_left 1
      · intro w' hw'; obtain ⟨q0, q1, q2, q3⟩ := HS.out w' hw'; go_simp; first | done | with_reducible rfl
      refine wpAnyH_take (i := 2) (v := ?_) rfl (by kernel_rfl) (by kernel_rfl) (by kernel_rfl) (fun _ _ _ h => h) (Or.inl ⟨by rfl, ?_⟩) hS0 ?_
      rotate_left 1
      · intro w' hw'; obtain ⟨q0, q1, q2, q3⟩ := HS.out w' hw'; go_simp; first | done | with_reducible rfl
      refine wpAnyH_take (i := 6) (v := ?_) rfl (by kernel_rfl) (by kernel_rfl) (by kernel_rfl) (fun _ _ _ h => h) (Or.inl ⟨by rfl, ?_⟩) hS0 ?_
      rotate_left 1
      · intro w' hw'; obtain ⟨q0, q1, q2, q3⟩ := HS.out w' hw'; go_simp; first | done | with_reducible rfl
      refine wpAnyH_take (i := 7) (v := ?_) rfl (by kernel_rfl) (by kernel_rfl) (by kernel_rfl) (fun _ _ _ h => h) (Or.inl ⟨by rfl, ?_⟩) hS0 ?_
      rotate_left 1
      · intro w' hw'; obtain ⟨q0, q1, q2, q3⟩ := HS.out w' hw'; go_simp; first | done | with_reducible rfl
      refine wpAnyH_ready (rs := [0]) (by kernel_rfl) (by simp) (AllReadyH.cons rfl (fun K hK => ?_) AllReadyH.nil)
      go_simp
      go_wp2_with (first | (go_at_call 41; refine (l6Words_any _).mono ?_; rintro e w2 ⟨rfl, rfl⟩) | fail)
      have hS2 := hS0.alloc hS0.size (.cells #[.string ⟨#[]⟩, .string oW1, .string oW2, .string oW3, .string oW4, .string oW5] 9)
      refine hK.out _ _ hS2 (fun _ => ?_)
      clear hK K
      have q1 : (oW5 ++ (⟨#[32]⟩ : ByteArray)).size ≤ 16 := by decide
      have q2 : (oW5 ++ (⟨#[32]⟩ : ByteArray) ++ p).size ≤ 16777232 := by rw [ByteArray.size_append]; omega
      refine wpAnyH_ready (rs := [3]) (by kernel_rfl) (by simp) (AllReadyH.cons rfl (fun K hK => ?_) AllReadyH.nil)
      go_simp
      refine hK.out _ _ hS2 (fun _ => ?_)
      clear hK K
      refine wpAnyH_ready (rs := [4]) (by kernel_rfl) (by simp) (AllReadyH.cons rfl (fun K hK => ?_) AllReadyH.nil)
      go_simp
      refine hK.out _ _ hS2 (fun _ => ?_)
      clear hK K
      refine wpAnyH_ready (rs := [5]) (by kernel_rfl) (by simp) (AllReadyH.cons rfl (fun K hK => ?_) AllReadyH.nil)
      go_simp
      refine hK.out _ _ hS2 (fun _ => ?_)
      clear hK K
      have h5 : oW5.size ≤ 5 := by decide
      refine wpAnyH_ready (rs := [8]) (by kernel_rfl) (by simp) (AllReadyH.cons rfl (fun K hK => ?_) AllReadyH.nil)
      go_simp
      rw [if_neg (show ¬ (9223372036854775807 < oW5.size + 1 + p.size) by omega)]
      go_simp
      refine hK.out _ _ hS2 (fun _ => ?_)
      clear hK K
      refine wpAnyH_ready (rs := [9]) (by kernel_rfl) (by simp) (AllReadyH.cons rfl (fun K hK => ?_) AllReadyH.nil)
      go_simp
      refine hK.out _ _ hS2 (fun _ => ?_)
      clear hK K
      refine wpAnyH_done (by kernel_rfl) ?_ _
      have hS3 : Below w1.heap.size w1 (w1.alloc (.cells #[.string ⟨#[]⟩, .string oW1, .string oW2, .string oW3, .string oW4, .string oW5] 9)).drew := hS2
      obtain ⟨b0, b1, b2, b3⟩ := HS.out _ hS3
      obtain ⟨W3, hW3⟩ : ∃ W3, (w1.alloc (.cells #[.string ⟨#[]⟩, .string oW1, .string oW2, .string oW3, .string oW4, .string oW5] 9)).drew = W3 := ⟨_, rfl⟩
      rw [hW3] at hS3 b0 b1 b2 b3 ⊢
      clear hW3 hS0 hS2
      have q3 : (oW5 ++ (⟨#[32]⟩ : ByteArray) ++ p ++ ⟨#[32]⟩).size ≤ 16777233 := by rw [ByteArray.size_append]; show _ + 1 ≤ _; omega
      have HT := hidE (opT_move HE.out)
      go_wp2
      go_ret
      exact ⟨retS HT.out.symm, HB1.out.trans (hS3.mono HB1.out.size)⟩

theorem B3O {a b c : World} (h : Below a.heap.size a b) (k : Below b.heap.size b c) : Below a.heap.size a c := h.trans (k.mono h.size)

set_option maxHeartbeats 800000 in
set_option maxRecDepth 100000 in
theorem walk_fnExactOpText (k : Int) (p t x : ByteArray) (w : World) (hw : OpWords w) (hp : p.size ≤ maxLen) (ht : t.size ≤ maxLen) (hx : x.size ≤ maxLen) :
    Calls Tryd.prog 7 #[.agg #[.int .i64 k, .string p, .string t, .string x]] w fun r w' => r = .returned (.bool true) ∧ Below w.heap.size w w' := by
  have hB0 : Below w.heap.size w (w.alloc (.cells #[.int .i64 k, .string p, .string t, .string x] 51)) := (Below.refl _ w).alloc (Nat.le_refl _) _
  have HB0 := hidE hB0
  have HW := hidE hw
  clear hw
  clear hB0
  go_enter Tryd.func7, Tryd.ntmps7
  go_wp2_with fail
  refine (szOp_any _ k p t x _ (by omega) (by omega) hp ht hx).mono ?_
  rintro e w1 ⟨r, rfl, r1, r2, r3, hB1⟩
  obtain ⟨c0, c1, c2, c3⟩ := box4i hB1
  have HK1 := hidE hB1
  have HR := hidE r3
  clear hB1 r3
  by_cases hr : 0 ≤ r
  · obtain ⟨l1, l2, l3⟩ := HR.out hr
    clear HR
    go_wp2_with fail
    refine (toOp_any _ k p t x).mono ?_
    rintro e w2 ⟨rfl, hB2⟩
    have HK2 := hidE (B3O HK1.out hB2)
    clear hB2 HK1 c0 c1 c2 c3
    go_wp2_with fail
    refine (sOpText_any k p t x _ (by omega) (by omega) (by omega)).mono ?_
    rintro e w3 ⟨rfl, hB3⟩
    have HK3 := hidE (B3O HK2.out hB3)
    obtain ⟨c0, c1, c2, c3⟩ := box4i HK3.out
    clear hB3 HK2
    go_wp2_with fail
    refine (toOp_any _ k p t x).mono ?_
    rintro e w4 ⟨rfl, hB4⟩
    have HK4 := hidE (B3O HK3.out hB4)
    clear hB4 HK3 c0 c1 c2 c3
    have hW4 := HW.out.below (HB0.out.trans (HK4.out.mono (by simp)))
    go_wp2_with fail
    refine (iOpText_any k p t x _ hW4 (by omega) (by omega) (by omega)).mono ?_
    rintro e w5 ⟨rfl, hB5⟩
    have HK5 := hidE (B3O HK4.out hB5)
    clear hB5 HK4 hW4
    go_wp2
    go_ret
    exact ⟨rfl, HB0.out.trans (HK5.out.mono (by simp))⟩
  · go_wp2
    go_ret
    exact ⟨rfl, HB0.out.trans (HK1.out.mono (by simp))⟩
end Go.Proofs.YtmfjdafkgkjidaaDoor
