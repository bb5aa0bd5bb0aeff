/-
  The walks of the text of what is done: the program's own, and the model's.
-/
import Derived.Test.YtgkfhcpegdlejaaGreatDoorHPk19
import Derived.Test.YtgkfhcpegdlejaaGreatDoorHPk01
import Derived.Test.YtgkfhcpegdlejaaGreatDoorHPk40
import Derived.Test.YtgkfhcpegdlejaaGreatDoorHPk06
import Derived.Test.YtgkfhcpegdlejaaGreatDoorHPk22
import Derived.Deep.RegionHeld3
namespace Go.Proofs.YtgkfhcpegdlejaaGreatDoor
open Go.RowKit Go.Lib

/-- The words of what is done lie where they are laid. -/
structure OpWords (w : World) : Prop where
  c1 : w.cell? ⟨0, 1, none⟩ = some (.string oW1)
  c2 : w.cell? ⟨0, 2, none⟩ = some (.string oW2)
  c3 : w.cell? ⟨0, 3, none⟩ = some (.string oW3)
  c4 : w.cell? ⟨0, 4, none⟩ = some (.string oW4)
  c5 : w.cell? ⟨0, 5, none⟩ = some (.string oW5)
theorem OpWords.below {w w' : World} (h : OpWords w) (hb : Below w.heap.size w w') : OpWords w' := by
  have hB : 0 < w.heap.size := World.block_lt_of_cell? w ⟨0, 1, none⟩ h.c1
  exact ⟨(hb.cell (p := ⟨0, _, none⟩) hB).trans h.c1, (hb.cell (p := ⟨0, _, none⟩) hB).trans h.c2, (hb.cell (p := ⟨0, _, none⟩) hB).trans h.c3, (hb.cell (p := ⟨0, _, none⟩) hB).trans h.c4, (hb.cell (p := ⟨0, _, none⟩) hB).trans h.c5⟩
set_option maxHeartbeats 3200000 in
set_option maxRecDepth 100000 in
theorem iOpText_any (k : Int) (p t x : ByteArray) (w : World) (hw : OpWords w) (hp : p.size ≤ 16777216) (ht : t.size ≤ 16777216) (hx : x.size ≤ 16777216) :
    Calls Tryz.prog 16 #[.agg #[.int .i64 k, .string p, .string t, .string x]] w fun r w' => r = .returned (.string (opT ⟨k, p, t, x⟩)) ∧ Below w.heap.size w w' := by
  have hB : Below w.heap.size w (w.alloc (.cells #[.int .i64 k, .string p, .string t, .string x] 37)) := (Below.refl _ w).alloc (Nat.le_refl _) _
  have HB := hidE hB
  have HW := hidE hw
  have HO := hidE (fun W => iOpOk_any W k p t x hp ht)
  clear hB hw
  cases ho : opB ⟨k, p, t, x⟩ with
  | false =>
    have HE := hidE (opT_no ho)
    have HF : Hid ((pathB p && fitB k t x) = false) := by show _ = _; rw [fit_op]; exact ho
    clear ho
    go_enter Tryz.func16, Tryz.ntmps16
    go_wp2_with (first | (go_at_call 46; refine (HO.out _).mono ?_; rintro e w1 ⟨rfl, hB1⟩; rw [HF.out]) | fail)
    go_ret
    exact ⟨retS HE.out.symm, HB.out.trans (hB1.mono (by simp))⟩
  | true =>
    have HF : Hid ((pathB p && fitB k t x) = true) := by show _ = _; rw [fit_op]; exact ho
    rcases op_kind ho with rfl | rfl | rfl | rfl | rfl
    · have HE : Hid (opT ⟨1, p, t, x⟩ = lineT oW1 p [t, x]) := by show opT _ = _; unfold opT; rw [if_pos ho]; rfl
      clear ho
      go_enter Tryz.func16, Tryz.ntmps16
      go_wp2_with (first | (go_at_call 46; refine (HO.out _).mono ?_; rintro e w1 ⟨rfl, hB1⟩; rw [HF.out]) | fail)
      have HB1 := hidE (HB.out.trans (hB1.mono (by simp)))
      have HK := hidE hB1
      clear hB1
      have HC := hidE (fun (W' : World) (hB' : Below w1.heap.size w1 W') => appendLine_any (W'.heap.size + 1) (.slice none 0 0) ⟨#[]⟩ oW1 p (some ⟨W'.heap.size, 0, none⟩) 2 W'.heap.size #[.string t, .string x] (0, 0) [t, x] (W'.alloc (.cells #[.string t, .string x] 9)) (W'.alloc (.cells #[.string t, .string x] 9)) (BufB.nil 5 (by simp)) (fun _ => ⟨rfl, heap_alloc_new W' _, fun i hi => by
        have hi2 : i < 2 := hi
        match i, hi2 with
        | 0, _ => rfl
        | 1, _ => rfl⟩) (by decide) (by decide) (by omega) (fun m hm => by
          simp only [List.mem_cons, List.not_mem_nil, or_false] at hm
          rcases hm with rfl | rfl <;> omega) (by simp))
      have HS := hidE (fun (W' : World) (h : Below w1.heap.size w1 W') => show W'.cell? ⟨w.heap.size, 0, none⟩ = some (.int .i64 1) ∧ W'.cell? ⟨w.heap.size, 1, none⟩ = some (.string p) ∧ W'.cell? ⟨w.heap.size, 2, none⟩ = some (.string t) ∧ W'.cell? ⟨w.heap.size, 3, none⟩ = some (.string x) ∧ W'.cell? ⟨0, 1, none⟩ = some (.string oW1) by
        obtain ⟨q0, q1, q2, q3⟩ := box4t (HK.out.trans (h.mono HK.out.size))
        exact ⟨q0, q1, q2, q3, ((HW.out.below HB1.out).below h).c1⟩)
      refine wp_region_held_drew (S := fun W' => Below w1.heap.size w1 W') (by kernel_rfl) ((Below.refl _ w1).drew) (fun hS0 => ?_)
      refine wpAnyH_take (i := 0) (v := ?_) rfl (by kernel_rfl) (by kernel_rfl) (by kernel_rfl) (fun _ _ _ h => h) (Or.inl ⟨by rfl, ?_⟩) hS0 ?_
      rotate_left 1
      · intro w' hw'; obtain ⟨q0, q1, q2, q3, q4⟩ := HS.out w' hw'; go_simp; first | done | with_reducible rfl
      refine wpAnyH_take (i := 1) (v := ?_) rfl (by kernel_rfl) (by kernel_rfl) (by kernel_rfl) (fun _ _ _ h => h) (Or.inl ⟨by rfl, ?_⟩) hS0 ?_
      rotate_left 1
      · intro w' hw'; obtain ⟨q0, q1, q2, q3, q4⟩ := HS.out w' hw'; go_simp; first | done | with_reducible rfl
      refine wpAnyH_take (i := 2) (v := ?_) rfl (by kernel_rfl) (by kernel_rfl) (by kernel_rfl) (fun _ _ _ h => h) (Or.inl ⟨by rfl, ?_⟩) hS0 ?_
      rotate_left 1
      · intro w' hw'; obtain ⟨q0, q1, q2, q3, q4⟩ := HS.out w' hw'; go_simp; first | done | with_reducible rfl
      refine wpAnyH_take (i := 3) (v := ?_) rfl (by kernel_rfl) (by kernel_rfl) (by kernel_rfl) (fun _ _ _ h => h) (Or.inl ⟨by rfl, ?_⟩) hS0 ?_
      rotate_left 1
      · intro w' hw'; obtain ⟨q0, q1, q2, q3, q4⟩ := HS.out w' hw'; go_simp; first | done | with_reducible rfl
      refine wpAnyH_take (i := 4) (v := ?_) rfl (by kernel_rfl) (by kernel_rfl) (by kernel_rfl) (fun _ _ _ h => h) (Or.inl ⟨by rfl, ?_⟩) hS0 ?_
      rotate_left 1
      · intro w' hw'; obtain ⟨q0, q1, q2, q3, q4⟩ := HS.out w' hw'; go_simp; first | done | with_reducible rfl
      refine wpAnyH_take (i := 5) (v := ?_) rfl (by kernel_rfl) (by kernel_rfl) (by kernel_rfl) (fun _ _ _ h => h) (Or.inl ⟨by rfl, ?_⟩) hS0 ?_
      rotate_left 1
      · intro w' hw'; obtain ⟨q0, q1, q2, q3, q4⟩ := HS.out w' hw'; go_simp; first | done | with_reducible rfl
      refine wpAnyH_take (i := 6) (v := ?_) rfl (by kernel_rfl) (by kernel_rfl) (by kernel_rfl) (fun _ _ _ h => h) (Or.inl ⟨by rfl, ?_⟩) hS0 ?_
      rotate_left 1
      · intro w' hw'; obtain ⟨q0, q1, q2, q3, q4⟩ := HS.out w' hw'; go_simp; first | done | with_reducible rfl
      refine wpAnyH_take (i := 7) (v := ?_) rfl (by kernel_rfl) (by kernel_rfl) (by kernel_rfl) (fun _ _ _ h => h) (Or.inl ⟨by rfl, ?_⟩) hS0 ?_
      rotate_left 1
      · intro w' hw'; obtain ⟨q0, q1, q2, q3, q4⟩ := HS.out w' hw'; go_simp; first | done | with_reducible rfl
      refine wpAnyH_take (i := 8) (v := ?_) rfl (by kernel_rfl) (by kernel_rfl) (by kernel_rfl) (fun _ _ _ h => h) (Or.inl ⟨by rfl, ?_⟩) hS0 ?_
      rotate_left 1
      · intro w' hw'; obtain ⟨q0, q1, q2, q3, q4⟩ := HS.out w' hw'; go_simp; first | done | with_reducible rfl
      refine wpAnyH_take (i := 9) (v := ?_) rfl (by kernel_rfl) (by kernel_rfl) (by kernel_rfl) (fun _ _ _ h => h) (Or.inl ⟨by rfl, ?_⟩) hS0 ?_
      rotate_left 1
      · intro w' hw'; obtain ⟨q0, q1, q2, q3, q4⟩ := HS.out w' hw'; go_simp; first | done | with_reducible rfl
      refine wpAnyH_ready (rs := [10]) (by kernel_rfl) (by simp) (AllReadyH.cons rfl (fun K hK => ?_) AllReadyH.nil)
      go_simp
      refine hK.out _ _ (hS0.alloc hS0.size _) (fun hS1 => ?_)
      clear hK K
      refine wpAnyH_ready (rs := [11]) (by kernel_rfl) (by simp) (AllReadyH.cons rfl (fun K hK => ?_) AllReadyH.nil)
      go_simp
      go_wp2_with (first | (go_at_call 47; refine (HC.out _ hS0).mono ?_; rintro e w2 ⟨v2, rfl, hb2⟩; have hcv := run_convert_buf (P := Tryz.prog) hb2 22 9 Tryz.underlying22 Tryz.underlying5 Tryz.underlying9) | fail)
      have hS2 : Below w1.heap.size w1 w2 := hS1.trans (hb2.below.mono (Nat.le_succ _))
      refine hK.out _ _ hS2 (fun _ => ?_)
      clear hK K
      refine wpAnyH_ready (rs := [12]) (by kernel_rfl) (by simp) (AllReadyH.cons rfl (fun K hK => ?_) AllReadyH.nil)
      go_simp
      refine hK.out _ _ hS2 (fun _ => ?_)
      clear hK K
      refine wpAnyH_ready (rs := [13]) (by kernel_rfl) (by simp) (AllReadyH.cons rfl (fun K hK => ?_) AllReadyH.nil)
      go_simp
      refine hK.out _ _ hS2 (fun _ => ?_)
      clear hK K
      refine wpAnyH_done (by kernel_rfl) ?_ _
      go_wp2
      go_ret
      exact ⟨retS (by rw [nil_app, HE.out]), HB1.out.trans (hS2.mono HB1.out.size)⟩
    · have HE : Hid (opT ⟨2, p, t, x⟩ = lineT oW2 p [t, x]) := by show opT _ = _; unfold opT; rw [if_pos ho]; rfl
      clear ho
      go_enter Tryz.func16, Tryz.ntmps16
      go_wp2_with (first | (go_at_call 46; refine (HO.out _).mono ?_; rintro e w1 ⟨rfl, hB1⟩; rw [HF.out]) | fail)
      have HB1 := hidE (HB.out.trans (hB1.mono (by simp)))
      have HK := hidE hB1
      clear hB1
      have HC := hidE (fun (W' : World) (hB' : Below w1.heap.size w1 W') => appendLine_any (W'.heap.size + 1) (.slice none 0 0) ⟨#[]⟩ oW2 p (some ⟨W'.heap.size, 0, none⟩) 2 W'.heap.size #[.string t, .string x] (0, 0) [t, x] (W'.alloc (.cells #[.string t, .string x] 9)) (W'.alloc (.cells #[.string t, .string x] 9)) (BufB.nil 5 (by simp)) (fun _ => ⟨rfl, heap_alloc_new W' _, fun i hi => by
        have hi2 : i < 2 := hi
        match i, hi2 with
        | 0, _ => rfl
        | 1, _ => rfl⟩) (by decide) (by decide) (by omega) (fun m hm => by
          simp only [List.mem_cons, List.not_mem_nil, or_false] at hm
          rcases hm with rfl | rfl <;> omega) (by simp))
      have HS := hidE (fun (W' : World) (h : Below w1.heap.size w1 W') => show W'.cell? ⟨w.heap.size, 0, none⟩ = some (.int .i64 2) ∧ W'.cell? ⟨w.heap.size, 1, none⟩ = some (.string p) ∧ W'.cell? ⟨w.heap.size, 2, none⟩ = some (.string t) ∧ W'.cell? ⟨w.heap.size, 3, none⟩ = some (.string x) ∧ W'.cell? ⟨0, 2, none⟩ = some (.string oW2) by
        obtain ⟨q0, q1, q2, q3⟩ := box4t (HK.out.trans (h.mono HK.out.size))
        exact ⟨q0, q1, q2, q3, ((HW.out.below HB1.out).below h).c2⟩)
      refine wp_region_held_drew (S := fun W' => Below w1.heap.size w1 W') (by kernel_rfl) ((Below.refl _ w1).drew) (fun hS0 => ?_)
      refine wpAnyH_take (i := 0) (v := ?_) rfl (by kernel_rfl) (by kernel_rfl) (by kernel_rfl) (fun _ _ _ h => h) (Or.inl ⟨by rfl, ?_⟩) hS0 ?_
      rotate_left 1
      · intro w' hw'; obtain ⟨q0, q1, q2, q3, q4⟩ := HS.out w' hw'; go_simp; first | done | with_reducible rfl
      refine wpAnyH_take (i := 1) (v := ?_) rfl (by kernel_rfl) (by kernel_rfl) (by kernel_rfl) (fun _ _ _ h => h) (Or.inl ⟨by rfl, ?_⟩) hS0 ?_
      rotate_left 1
      · intro w' hw'; obtain ⟨q0, q1, q2, q3, q4⟩ := HS.out w' hw'; go_simp; first | done | with_reducible rfl
      refine wpAnyH_take (i := 2) (v := ?_) rfl (by kernel_rfl) (by kernel_rfl) (by kernel_rfl) (fun _ _ _ h => h) (Or.inl ⟨by rfl, ?_⟩) hS0 ?_
      rotate_left 1
      · intro w' hw'; obtain ⟨q0, q1, q2, q3, q4⟩ := HS.out w' hw'; go_simp; first | done | with_reducible rfl
      refine wpAnyH_take (i := 3) (v := ?_) rfl (by kernel_rfl) (by kernel_rfl) (by kernel_rfl) (fun _ _ _ h => h) (Or.inl ⟨by rfl, ?_⟩) hS0 ?_
      rotate_left 1
      · intro w' hw'; obtain ⟨q0, q1, q2, q3, q4⟩ := HS.out w' hw'; go_simp; first | done | with_reducible rfl
      refine wpAnyH_take (i := 4) (v := ?_) rfl (by kernel_rfl) (by kernel_rfl) (by kernel_rfl) (fun _ _ _ h => h) (Or.inl ⟨by rfl, ?_⟩) hS0 ?_
      rotate_left 1
      · intro w' hw'; obtain ⟨q0, q1, q2, q3, q4⟩ := HS.out w' hw'; go_simp; first | done | with_reducible rfl
      refine wpAnyH_take (i := 5) (v := ?_) rfl (by kernel_rfl) (by kernel_rfl) (by kernel_rfl) (fun _ _ _ h => h) (Or.inl ⟨by rfl, ?_⟩) hS0 ?_
      rotate_left 1
      · intro w' hw'; obtain ⟨q0, q1, q2, q3, q4⟩ := HS.out w' hw'; go_simp; first | done | with_reducible rfl
      refine wpAnyH_take (i := 6) (v := ?_) rfl (by kernel_rfl) (by kernel_rfl) (by kernel_rfl) (fun _ _ _ h => h) (Or.inl ⟨by rfl, ?_⟩) hS0 ?_
      rotate_left 1
      · intro w' hw'; obtain ⟨q0, q1, q2, q3, q4⟩ := HS.out w' hw'; go_simp; first | done | with_reducible rfl
      refine wpAnyH_take (i := 7) (v := ?_) rfl (by kernel_rfl) (by kernel_rfl) (by kernel_rfl) (fun _ _ _ h => h) (Or.inl ⟨by rfl, ?_⟩) hS0 ?_
      rotate_left 1
      · intro w' hw'; obtain ⟨q0, q1, q2, q3, q4⟩ := HS.out w' hw'; go_simp; first | done | with_reducible rfl
      refine wpAnyH_take (i := 8) (v := ?_) rfl (by kernel_rfl) (by kernel_rfl) (by kernel_rfl) (fun _ _ _ h => h) (Or.inl ⟨by rfl, ?_⟩) hS0 ?_
      rotate_left 1
      · intro w' hw'; obtain ⟨q0, q1, q2, q3, q4⟩ := HS.out w' hw'; go_simp; first | done | with_reducible rfl
      refine wpAnyH_take (i := 9) (v := ?_) rfl (by kernel_rfl) (by kernel_rfl) (by kernel_rfl) (fun _ _ _ h => h) (Or.inl ⟨by rfl, ?_⟩) hS0 ?_
      rotate_left 1
      · intro w' hw'; obtain ⟨q0, q1, q2, q3, q4⟩ := HS.out w' hw'; go_simp; first | done | with_reducible rfl
      refine wpAnyH_ready (rs := [10]) (by kernel_rfl) (by simp) (AllReadyH.cons rfl (fun K hK => ?_) AllReadyH.nil)
      go_simp
      refine hK.out _ _ (hS0.alloc hS0.size _) (fun hS1 => ?_)
      clear hK K
      refine wpAnyH_ready (rs := [11]) (by kernel_rfl) (by simp) (AllReadyH.cons rfl (fun K hK => ?_) AllReadyH.nil)
      go_simp
      go_wp2_with (first | (go_at_call 47; refine (HC.out _ hS0).mono ?_; rintro e w2 ⟨v2, rfl, hb2⟩; have hcv := run_convert_buf (P := Tryz.prog) hb2 22 9 Tryz.underlying22 Tryz.underlying5 Tryz.underlying9) | fail)
      have hS2 : Below w1.heap.size w1 w2 := hS1.trans (hb2.below.mono (Nat.le_succ _))
      refine hK.out _ _ hS2 (fun _ => ?_)
      clear hK K
      refine wpAnyH_ready (rs := [12]) (by kernel_rfl) (by simp) (AllReadyH.cons rfl (fun K hK => ?_) AllReadyH.nil)
      go_simp
      refine hK.out _ _ hS2 (fun _ => ?_)
      clear hK K
      refine wpAnyH_ready (rs := [13]) (by kernel_rfl) (by simp) (AllReadyH.cons rfl (fun K hK => ?_) AllReadyH.nil)
      go_simp
      refine hK.out _ _ hS2 (fun _ => ?_)
      clear hK K
      refine wpAnyH_done (by kernel_rfl) ?_ _
      go_wp2
      go_ret
      exact ⟨retS (by rw [nil_app, HE.out]), HB1.out.trans (hS2.mono HB1.out.size)⟩
    · have HE : Hid (opT ⟨3, p, t, x⟩ = lineT oW3 p [t, x]) := by show opT _ = _; unfold opT; rw [if_pos ho]; rfl
      clear ho
      go_enter Tryz.func16, Tryz.ntmps16
      go_wp2_with (first | (go_at_call 46; refine (HO.out _).mono ?_; rintro e w1 ⟨rfl, hB1⟩; rw [HF.out]) | fail)
      have HB1 := hidE (HB.out.trans (hB1.mono (by simp)))
      have HK := hidE hB1
      clear hB1
      have HC := hidE (fun (W' : World) (hB' : Below w1.heap.size w1 W') => appendLine_any (W'.heap.size + 1) (.slice none 0 0) ⟨#[]⟩ oW3 p (some ⟨W'.heap.size, 0, none⟩) 2 W'.heap.size #[.string t, .string x] (0, 0) [t, x] (W'.alloc (.cells #[.string t, .string x] 9)) (W'.alloc (.cells #[.string t, .string x] 9)) (BufB.nil 5 (by simp)) (fun _ => ⟨rfl, heap_alloc_new W' _, fun i hi => by
        have hi2 : i < 2 := hi
        match i, hi2 with
        | 0, _ => rfl
        | 1, _ => rfl⟩) (by decide) (by decide) (by omega) (fun m hm => by
          simp only [List.mem_cons, List.not_mem_nil, or_false] at hm
          rcases hm with rfl | rfl <;> omega) (by simp))
      have HS := hidE (fun (W' : World) (h : Below w1.heap.size w1 W') => show W'.cell? ⟨w.heap.size, 0, none⟩ = some (.int .i64 3) ∧ W'.cell? ⟨w.heap.size, 1, none⟩ = some (.string p) ∧ W'.cell? ⟨w.heap.size, 2, none⟩ = some (.string t) ∧ W'.cell? ⟨w.heap.size, 3, none⟩ = some (.string x) ∧ W'.cell? ⟨0, 3, none⟩ = some (.string oW3) by
        obtain ⟨q0, q1, q2, q3⟩ := box4t (HK.out.trans (h.mono HK.out.size))
        exact ⟨q0, q1, q2, q3, ((HW.out.below HB1.out).below h).c3⟩)
      refine wp_region_held_drew (S := fun W' => Below w1.heap.size w1 W') (by kernel_rfl) ((Below.refl _ w1).drew) (fun hS0 => ?_)
      refine wpAnyH_take (i := 0) (v := ?_) rfl (by kernel_rfl) (by kernel_rfl) (by kernel_rfl) (fun _ _ _ h => h) (Or.inl ⟨by rfl, ?_⟩) hS0 ?_
      rotate_left 1
      · intro w' hw'; obtain ⟨q0, q1, q2, q3, q4⟩ := HS.out w' hw'; go_simp; first | done | with_reducible rfl
      refine wpAnyH_take (i := 1) (v := ?_) rfl (by kernel_rfl) (by kernel_rfl) (by kernel_rfl) (fun _ _ _ h => h) (Or.inl ⟨by rfl, ?_⟩) hS0 ?_
      rotate_left 1
      · intro w' hw'; obtain ⟨q0, q1, q2, q3, q4⟩ := HS.out w' hw'; go_simp; first | done | with_reducible rfl
      refine wpAnyH_take (i := 2) (v := ?_) rfl (by kernel_rfl) (by kernel_rfl) (by kernel_rfl) (fun _ _ _ h => h) (Or.inl ⟨by rfl, ?_⟩) hS0 ?_
      rotate_left 1
      · intro w' hw'; obtain ⟨q0, q1, q2, q3, q4⟩ := HS.out w' hw'; go_simp; first | done | with_reducible rfl
      refine wpAnyH_take (i := 3) (v := ?_) rfl (by kernel_rfl) (by kernel_rfl) (by kernel_rfl) (fun _ _ _ h => h) (Or.inl ⟨by rfl, ?_⟩) hS0 ?_
      rotate_left 1
      · intro w' hw'; obtain ⟨q0, q1, q2, q3, q4⟩ := HS.out w' hw'; go_simp; first | done | with_reducible rfl
      refine wpAnyH_take (i := 4) (v := ?_) rfl (by kernel_rfl) (by kernel_rfl) (by kernel_rfl) (fun _ _ _ h => h) (Or.inl ⟨by rfl, ?_⟩) hS0 ?_
      rotate_left 1
      · intro w' hw'; obtain ⟨q0, q1, q2, q3, q4⟩ := HS.out w' hw'; go_simp; first | done | with_reducible rfl
      refine wpAnyH_take (i := 5) (v := ?_) rfl (by kernel_rfl) (by kernel_rfl) (by kernel_rfl) (fun _ _ _ h => h) (Or.inl ⟨by rfl, ?_⟩) hS0 ?_
      rotate_left 1
      · intro w' hw'; obtain ⟨q0, q1, q2, q3, q4⟩ := HS.out w' hw'; go_simp; first | done | with_reducible rfl
      refine wpAnyH_take (i := 6) (v := ?_) rfl (by kernel_rfl) (by kernel_rfl) (by kernel_rfl) (fun _ _ _ h => h) (Or.inl ⟨by rfl, ?_⟩) hS0 ?_
      rotate_left 1
      · intro w' hw'; obtain ⟨q0, q1, q2, q3, q4⟩ := HS.out w' hw'; go_simp; first | done | with_reducible rfl
      refine wpAnyH_take (i := 7) (v := ?_) rfl (by kernel_rfl) (by kernel_rfl) (by kernel_rfl) (fun _ _ _ h => h) (Or.inl ⟨by rfl, ?_⟩) hS0 ?_
      rotate_left 1
      · intro w' hw'; obtain ⟨q0, q1, q2, q3, q4⟩ := HS.out w' hw'; go_simp; first | done | with_reducible rfl
      refine wpAnyH_take (i := 8) (v := ?_) rfl (by kernel_rfl) (by kernel_rfl) (by kernel_rfl) (fun _ _ _ h => h) (Or.inl ⟨by rfl, ?_⟩) hS0 ?_
      rotate_left 1
      · intro w' hw'; obtain ⟨q0, q1, q2, q3, q4⟩ := HS.out w' hw'; go_simp; first | done | with_reducible rfl
      refine wpAnyH_take (i := 9) (v := ?_) rfl (by kernel_rfl) (by kernel_rfl) (by kernel_rfl) (fun _ _ _ h => h) (Or.inl ⟨by rfl, ?_⟩) hS0 ?_
      rotate_left 1
      · intro w' hw'; obtain ⟨q0, q1, q2, q3, q4⟩ := HS.out w' hw'; go_simp; first | done | with_reducible rfl
      refine wpAnyH_ready (rs := [10]) (by kernel_rfl) (by simp) (AllReadyH.cons rfl (fun K hK => ?_) AllReadyH.nil)
      go_simp
      refine hK.out _ _ (hS0.alloc hS0.size _) (fun hS1 => ?_)
      clear hK K
      refine wpAnyH_ready (rs := [11]) (by kernel_rfl) (by simp) (AllReadyH.cons rfl (fun K hK => ?_) AllReadyH.nil)
      go_simp
      go_wp2_with (first | (go_at_call 47; refine (HC.out _ hS0).mono ?_; rintro e w2 ⟨v2, rfl, hb2⟩; have hcv := run_convert_buf (P := Tryz.prog) hb2 22 9 Tryz.underlying22 Tryz.underlying5 Tryz.underlying9) | fail)
      have hS2 : Below w1.heap.size w1 w2 := hS1.trans (hb2.below.mono (Nat.le_succ _))
      refine hK.out _ _ hS2 (fun _ => ?_)
      clear hK K
      refine wpAnyH_ready (rs := [12]) (by kernel_rfl) (by simp) (AllReadyH.cons rfl (fun K hK => ?_) AllReadyH.nil)
      go_simp
      refine hK.out _ _ hS2 (fun _ => ?_)
      clear hK K
      refine wpAnyH_ready (rs := [13]) (by kernel_rfl) (by simp) (AllReadyH.cons rfl (fun K hK => ?_) AllReadyH.nil)
      go_simp
      refine hK.out _ _ hS2 (fun _ => ?_)
      clear hK K
      refine wpAnyH_done (by kernel_rfl) ?_ _
      go_wp2
      go_ret
      exact ⟨retS (by rw [nil_app, HE.out]), HB1.out.trans (hS2.mono HB1.out.size)⟩
    · have HE : Hid (opT ⟨4, p, t, x⟩ = lineT oW4 p [t, x]) := by show opT _ = _; unfold opT; rw [if_pos ho]; rfl
      clear ho
      go_enter Tryz.func16, Tryz.ntmps16
      go_wp2_with (first | (go_at_call 46; refine (HO.out _).mono ?_; rintro e w1 ⟨rfl, hB1⟩; rw [HF.out]) | fail)
      have HB1 := hidE (HB.out.trans (hB1.mono (by simp)))
      have HK := hidE hB1
      clear hB1
      have HC := hidE (fun (W' : World) (hB' : Below w1.heap.size w1 W') => appendLine_any (W'.heap.size + 1) (.slice none 0 0) ⟨#[]⟩ oW4 p (some ⟨W'.heap.size, 0, none⟩) 2 W'.heap.size #[.string t, .string x] (0, 0) [t, x] (W'.alloc (.cells #[.string t, .string x] 9)) (W'.alloc (.cells #[.string t, .string x] 9)) (BufB.nil 5 (by simp)) (fun _ => ⟨rfl, heap_alloc_new W' _, fun i hi => by
        have hi2 : i < 2 := hi
        match i, hi2 with
        | 0, _ => rfl
        | 1, _ => rfl⟩) (by decide) (by decide) (by omega) (fun m hm => by
          simp only [List.mem_cons, List.not_mem_nil, or_false] at hm
          rcases hm with rfl | rfl <;> omega) (by simp))
      have HS := hidE (fun (W' : World) (h : Below w1.heap.size w1 W') => show W'.cell? ⟨w.heap.size, 0, none⟩ = some (.int .i64 4) ∧ W'.cell? ⟨w.heap.size, 1, none⟩ = some (.string p) ∧ W'.cell? ⟨w.heap.size, 2, none⟩ = some (.string t) ∧ W'.cell? ⟨w.heap.size, 3, none⟩ = some (.string x) ∧ W'.cell? ⟨0, 4, none⟩ = some (.string oW4) by
        obtain ⟨q0, q1, q2, q3⟩ := box4t (HK.out.trans (h.mono HK.out.size))
        exact ⟨q0, q1, q2, q3, ((HW.out.below HB1.out).below h).c4⟩)
      refine wp_region_held_drew (S := fun W' => Below w1.heap.size w1 W') (by kernel_rfl) ((Below.refl _ w1).drew) (fun hS0 => ?_)
      refine wpAnyH_take (i := 0) (v := ?_) rfl (by kernel_rfl) (by kernel_rfl) (by kernel_rfl) (fun _ _ _ h => h) (Or.inl ⟨by rfl, ?_⟩) hS0 ?_
      rotate_left 1
      · intro w' hw'; obtain ⟨q0, q1, q2, q3, q4⟩ := HS.out w' hw'; go_simp; first | done | with_reducible rfl
      refine wpAnyH_take (i := 1) (v := ?_) rfl (by kernel_rfl) (by kernel_rfl) (by kernel_rfl) (fun _ _ _ h => h) (Or.inl ⟨by rfl, ?_⟩) hS0 ?_
      rotate_left 1
      · intro w' hw'; obtain ⟨q0, q1, q2, q3, q4⟩ := HS.out w' hw'; go_simp; first | done | with_reducible rfl
      refine wpAnyH_take (i := 2) (v := ?_) rfl (by kernel_rfl) (by kernel_rfl) (by kernel_rfl) (fun _ _ _ h => h) (Or.inl ⟨by rfl, ?_⟩) hS0 ?_
      rotate_left 1
      · intro w' hw'; obtain ⟨q0, q1, q2, q3, q4⟩ := HS.out w' hw'; go_simp; first | done | with_reducible rfl
      refine wpAnyH_take (i := 3) (v := ?_) rfl (by kernel_rfl) (by kernel_rfl) (by kernel_rfl) (fun _ _ _ h => h) (Or.inl ⟨by rfl, ?_⟩) hS0 ?_
      rotate_left 1
      · intro w' hw'; obtain ⟨q0, q1, q2, q3, q4⟩ := HS.out w' hw'; go_simp; first | done | with_reducible rfl
      refine wpAnyH_take (i := 4) (v := ?_) rfl (by kernel_rfl) (by kernel_rfl) (by kernel_rfl) (fun _ _ _ h => h) (Or.inl ⟨by rfl, ?_⟩) hS0 ?_
      rotate_left 1
      · intro w' hw'; obtain ⟨q0, q1, q2, q3, q4⟩ := HS.out w' hw'; go_simp; first | done | with_reducible rfl
      refine wpAnyH_take (i := 5) (v := ?_) rfl (by kernel_rfl) (by kernel_rfl) (by kernel_rfl) (fun _ _ _ h => h) (Or.inl ⟨by rfl, ?_⟩) hS0 ?_
      rotate_left 1
      · intro w' hw'; obtain ⟨q0, q1, q2, q3, q4⟩ := HS.out w' hw'; go_simp; first | done | with_reducible rfl
      refine wpAnyH_take (i := 6) (v := ?_) rfl (by kernel_rfl) (by kernel_rfl) (by kernel_rfl) (fun _ _ _ h => h) (Or.inl ⟨by rfl, ?_⟩) hS0 ?_
      rotate_left 1
      · intro w' hw'; obtain ⟨q0, q1, q2, q3, q4⟩ := HS.out w' hw'; go_simp; first | done | with_reducible rfl
      refine wpAnyH_take (i := 7) (v := ?_) rfl (by kernel_rfl) (by kernel_rfl) (by kernel_rfl) (fun _ _ _ h => h) (Or.inl ⟨by rfl, ?_⟩) hS0 ?_
      rotate_left 1
      · intro w' hw'; obtain ⟨q0, q1, q2, q3, q4⟩ := HS.out w' hw'; go_simp; first | done | with_reducible rfl
      refine wpAnyH_take (i := 8) (v := ?_) rfl (by kernel_rfl) (by kernel_rfl) (by kernel_rfl) (fun _ _ _ h => h) (Or.inl ⟨by rfl, ?_⟩) hS0 ?_
      rotate_left 1
      · intro w' hw'; obtain ⟨q0, q1, q2, q3, q4⟩ := HS.out w' hw'; go_simp; first | done | with_reducible rfl
      refine wpAnyH_take (i := 9) (v := ?_) rfl (by kernel_rfl) (by kernel_rfl) (by kernel_rfl) (fun _ _ _ h => h) (Or.inl ⟨by rfl, ?_⟩) hS0 ?_
      rotate_left 1
      · intro w' hw'; obtain ⟨q0, q1, q2, q3, q4⟩ := HS.out w' hw'; go_simp; first | done | with_reducible rfl
      refine wpAnyH_ready (rs := [10]) (by kernel_rfl) (by simp) (AllReadyH.cons rfl (fun K hK => ?_) AllReadyH.nil)
      go_simp
      refine hK.out _ _ (hS0.alloc hS0.size _) (fun hS1 => ?_)
      clear hK K
      refine wpAnyH_ready (rs := [11]) (by kernel_rfl) (by simp) (AllReadyH.cons rfl (fun K hK => ?_) AllReadyH.nil)
      go_simp
      go_wp2_with (first | (go_at_call 47; refine (HC.out _ hS0).mono ?_; rintro e w2 ⟨v2, rfl, hb2⟩; have hcv := run_convert_buf (P := Tryz.prog) hb2 22 9 Tryz.underlying22 Tryz.underlying5 Tryz.underlying9) | fail)
      have hS2 : Below w1.heap.size w1 w2 := hS1.trans (hb2.below.mono (Nat.le_succ _))
      refine hK.out _ _ hS2 (fun _ => ?_)
      clear hK K
      refine wpAnyH_ready (rs := [12]) (by kernel_rfl) (by simp) (AllReadyH.cons rfl (fun K hK => ?_) AllReadyH.nil)
      go_simp
      refine hK.out _ _ hS2 (fun _ => ?_)
      clear hK K
      refine wpAnyH_ready (rs := [13]) (by kernel_rfl) (by simp) (AllReadyH.cons rfl (fun K hK => ?_) AllReadyH.nil)
      go_simp
      refine hK.out _ _ hS2 (fun _ => ?_)
      clear hK K
      refine wpAnyH_done (by kernel_rfl) ?_ _
      go_wp2
      go_ret
      exact ⟨retS (by rw [nil_app, HE.out]), HB1.out.trans (hS2.mono HB1.out.size)⟩
    · have HE : Hid (opT ⟨5, p, t, x⟩ = lineT oW5 p [t, x]) := by show opT _ = _; unfold opT; rw [if_pos ho]; rfl
      clear ho
      go_enter Tryz.func16, Tryz.ntmps16
      go_wp2_with (first | (go_at_call 46; refine (HO.out _).mono ?_; rintro e w1 ⟨rfl, hB1⟩; rw [HF.out]) | fail)
      have HB1 := hidE (HB.out.trans (hB1.mono (by simp)))
      have HK := hidE hB1
      clear hB1
      have HC := hidE (fun (W' : World) (hB' : Below w1.heap.size w1 W') => appendLine_any (W'.heap.size + 1) (.slice none 0 0) ⟨#[]⟩ oW5 p (some ⟨W'.heap.size, 0, none⟩) 2 W'.heap.size #[.string t, .string x] (0, 0) [t, x] (W'.alloc (.cells #[.string t, .string x] 9)) (W'.alloc (.cells #[.string t, .string x] 9)) (BufB.nil 5 (by simp)) (fun _ => ⟨rfl, heap_alloc_new W' _, fun i hi => by
        have hi2 : i < 2 := hi
        match i, hi2 with
        | 0, _ => rfl
        | 1, _ => rfl⟩) (by decide) (by decide) (by omega) (fun m hm => by
          simp only [List.mem_cons, List.not_mem_nil, or_false] at hm
          rcases hm with rfl | rfl <;> omega) (by simp))
      have HS := hidE (fun (W' : World) (h : Below w1.heap.size w1 W') => show W'.cell? ⟨w.heap.size, 0, none⟩ = some (.int .i64 5) ∧ W'.cell? ⟨w.heap.size, 1, none⟩ = some (.string p) ∧ W'.cell? ⟨w.heap.size, 2, none⟩ = some (.string t) ∧ W'.cell? ⟨w.heap.size, 3, none⟩ = some (.string x) ∧ W'.cell? ⟨0, 5, none⟩ = some (.string oW5) by
        obtain ⟨q0, q1, q2, q3⟩ := box4t (HK.out.trans (h.mono HK.out.size))
        exact ⟨q0, q1, q2, q3, ((HW.out.below HB1.out).below h).c5⟩)
      refine wp_region_held_drew (S := fun W' => Below w1.heap.size w1 W') (by kernel_rfl) ((Below.refl _ w1).drew) (fun hS0 => ?_)
      refine wpAnyH_take (i := 0) (v := ?_) rfl (by kernel_rfl) (by kernel_rfl) (by kernel_rfl) (fun _ _ _ h => h) (Or.inl ⟨by rfl, ?_⟩) hS0 ?_
      rotate_left 1
      · intro w' hw'; obtain ⟨q0, q1, q2, q3, q4⟩ := HS.out w' hw'; go_simp; first | done | with_reducible rfl
      refine wpAnyH_take (i := 1) (v := ?_) rfl (by kernel_rfl) (by kernel_rfl) (by kernel_rfl) (fun _ _ _ h => h) (Or.inl ⟨by rfl, ?_⟩) hS0 ?_
      rotate_left 1
      · intro w' hw'; obtain ⟨q0, q1, q2, q3, q4⟩ := HS.out w' hw'; go_simp; first | done | with_reducible rfl
      refine wpAnyH_take (i := 2) (v := ?_) rfl (by kernel_rfl) (by kernel_rfl) (by kernel_rfl) (fun _ _ _ h => h) (Or.inl ⟨by rfl, ?_⟩) hS0 ?_
      rotate_left 1
      · intro w' hw'; obtain ⟨q0, q1, q2, q3, q4⟩ := HS.out w' hw'; go_simp; first | done | with_reducible rfl
      refine wpAnyH_take (i := 3) (v := ?_) rfl (by kernel_rfl) (by kernel_rfl) (by kernel_rfl) (fun _ _ _ h => h) (Or.inl ⟨by rfl, ?_⟩) hS0 ?_
      rotate_left 1
      · intro w' hw'; obtain ⟨q0, q1, q2, q3, q4⟩ := HS.out w' hw'; go_simp; first | done | with_reducible rfl
      refine wpAnyH_take (i := 4) (v := ?_) rfl (by kernel_rfl) (by kernel_rfl) (by kernel_rfl) (fun _ _ _ h => h) (Or.inl ⟨by rfl, ?_⟩) hS0 ?_
      rotate_left 1
      · intro w' hw'; obtain ⟨q0, q1, q2, q3, q4⟩ := HS.out w' hw'; go_simp; first | done | with_reducible rfl
      refine wpAnyH_take (i := 5) (v := ?_) rfl (by kernel_rfl) (by kernel_rfl) (by kernel_rfl) (fun _ _ _ h => h) (Or.inl ⟨by rfl, ?_⟩) hS0 ?_
      rotate_left 1
      · intro w' hw'; obtain ⟨q0, q1, q2, q3, q4⟩ := HS.out w' hw'; go_simp; first | done | with_reducible rfl
      refine wpAnyH_take (i := 6) (v := ?_) rfl (by kernel_rfl) (by kernel_rfl) (by kernel_rfl) (fun _ _ _ h => h) (Or.inl ⟨by rfl, ?_⟩) hS0 ?_
      rotate_left 1
      · intro w' hw'; obtain ⟨q0, q1, q2, q3, q4⟩ := HS.out w' hw'; go_simp; first | done | with_reducible rfl
      refine wpAnyH_take (i := 7) (v := ?_) rfl (by kernel_rfl) (by kernel_rfl) (by kernel_rfl) (fun _ _ _ h => h) (Or.inl ⟨by rfl, ?_⟩) hS0 ?_
      rotate_left 1
      · intro w' hw'; obtain ⟨q0, q1, q2, q3, q4⟩ := HS.out w' hw'; go_simp; first | done | with_reducible rfl
      refine wpAnyH_take (i := 8) (v := ?_) rfl (by kernel_rfl) (by kernel_rfl) (by kernel_rfl) (fun _ _ _ h => h) (Or.inl ⟨by rfl, ?_⟩) hS0 ?_
      rotate_left 1
      · intro w' hw'; obtain ⟨q0, q1, q2, q3, q4⟩ := HS.out w' hw'; go_simp; first | done | with_reducible rfl
      refine wpAnyH_take (i := 9) (v := ?_) rfl (by kernel_rfl) (by kernel_rfl) (by kernel_rfl) (fun _ _ _ h => h) (Or.inl ⟨by rfl, ?_⟩) hS0 ?_
      rotate_left 1
      · intro w' hw'; obtain ⟨q0, q1, q2, q3, q4⟩ := HS.out w' hw'; go_simp; first | done | with_reducible rfl
      refine wpAnyH_ready (rs := [10]) (by kernel_rfl) (by simp) (AllReadyH.cons rfl (fun K hK => ?_) AllReadyH.nil)
      go_simp
      refine hK.out _ _ (hS0.alloc hS0.size _) (fun hS1 => ?_)
      clear hK K
      refine wpAnyH_ready (rs := [11]) (by kernel_rfl) (by simp) (AllReadyH.cons rfl (fun K hK => ?_) AllReadyH.nil)
      go_simp
      go_wp2_with (first | (go_at_call 47; refine (HC.out _ hS0).mono ?_; rintro e w2 ⟨v2, rfl, hb2⟩; have hcv := run_convert_buf (P := Tryz.prog) hb2 22 9 Tryz.underlying22 Tryz.underlying5 Tryz.underlying9) | fail)
      have hS2 : Below w1.heap.size w1 w2 := hS1.trans (hb2.below.mono (Nat.le_succ _))
      refine hK.out _ _ hS2 (fun _ => ?_)
      clear hK K
      refine wpAnyH_ready (rs := [12]) (by kernel_rfl) (by simp) (AllReadyH.cons rfl (fun K hK => ?_) AllReadyH.nil)
      go_simp
      refine hK.out _ _ hS2 (fun _ => ?_)
      clear hK K
      refine wpAnyH_ready (rs := [13]) (by kernel_rfl) (by simp) (AllReadyH.cons rfl (fun K hK => ?_) AllReadyH.nil)
      go_simp
      refine hK.out _ _ hS2 (fun _ => ?_)
      clear hK K
      refine wpAnyH_done (by kernel_rfl) ?_ _
      go_wp2
      go_ret
      exact ⟨retS (by rw [nil_app, HE.out]), HB1.out.trans (hS2.mono HB1.out.size)⟩

end Go.Proofs.YtgkfhcpegdlejaaGreatDoor
