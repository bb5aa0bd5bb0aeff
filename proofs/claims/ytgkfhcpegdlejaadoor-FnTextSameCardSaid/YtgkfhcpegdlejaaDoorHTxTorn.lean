/-
  The walk of the model's torn texts.
-/
import Derived.Test.YtgkfhcpegdlejaaDoorHPk23
import Derived.Deep.RegionHeld3
namespace Go.Proofs.YtgkfhcpegdlejaaDoor
open Go.RowKit Go.Lib

set_option maxHeartbeats 1600000 in
set_option maxRecDepth 100000 in
theorem l6Torn_any (w : World) (r p : Nat) (s : ByteArray) (hs : s.size ≤ 100000) (hp : p ≤ 9990) (h : Rd w r p) :
    Calls Tryd.prog 47 #[.pointer (some ⟨r, 0, none⟩), .string s] w fun e w' => ∃ t : ByteArray, e = .returned (.string t) ∧ t.size ≤ s.size + 1 ∧ Kept r w w' := by
  have hr := h.lt
  have HR := hidR h
  clear h
  by_cases h0 : s.size = 0
  · have k5 : s.toList = [] := by rw [Lib.toList_data]; exact List.eq_nil_of_length_eq_zero (by rw [Array.length_toList]; exact h0)
    go_enter Tryd.func47, Tryd.ntmps47
    go_wp2
    go_ret
    exact ⟨s, rfl, Nat.le_succ _, Kept.refl _ _⟩
  · have k5 : (s.toList == []) = false := by
      rw [Lib.toList_data]; simp; intro q; apply h0; show s.data.size = 0; rw [q]; rfl
    have k6 : ¬ s.toList = [] := by simpa using k5
    go_enter Tryd.func47, Tryd.ntmps47
    go_wp2_with fail
    refine (pick_any _ r p 2 (by decide) (by decide) (by omega) HR.out).mono ?_
    rintro e w1 ⟨j, rfl, j0, j1, hR1, hK1⟩
    have HR1 := hidR hR1
    have HK1 := hidR hK1
    clear hR1 hK1 HR
    by_cases hj : j = 0
    · subst hj
      go_wp2
      go_ret
      exact ⟨s, rfl, Nat.le_succ _, HK1.out⟩
    · have hjb : (j == 0) = false := by rw [beq_eq_false_iff_ne]; exact hj
      go_wp2_with fail
      refine (pick_any _ r (p + 1) (s.size : Int) (by omega) (by omega) (by omega) HR1.out).mono ?_
      rintro e w2 ⟨k, rfl, kz0, kz1, hR2, hK2⟩
      have HR2 := hidR hR2
      have HK2 := hidR (HK1.out.trans hK2)
      clear hR2 hK2 HR1 HK1
      obtain ⟨kn, rfl⟩ := Int.eq_ofNat_of_zero_le kz0
      have kz2 : kn < s.size := by omega
      have hr2 := HR2.out.lt
      have hk2 := HK2.out.2.2.2.1
      go_wp2
      refine wp_region_held_drew (S := fun W' => Kept r w2 W') (by kernel_rfl) (Kept.of_below (Below.refl _ w2).drew) (fun hS0 => ?_)
      refine wpAnyH_take (i := 0) (v := ?_) rfl (by kernel_rfl) (by kernel_rfl) (by kernel_rfl) (fun _ _ _ h => h) (Or.inl ⟨by rfl, ?_⟩) hS0 ?_
      rotate_left 1
      · intro w' hw'; go_simp; first | done | with_reducible rfl | (rw [if_pos (by omega)]) | (rw [if_neg (by omega)])
      refine wpAnyH_take (i := 1) (v := ?_) rfl (by kernel_rfl) (by kernel_rfl) (by kernel_rfl) (fun _ _ _ h => h) (Or.inl ⟨by rfl, ?_⟩) hS0 ?_
      rotate_left 1
      · intro w' hw'; go_simp; first | done | with_reducible rfl | (rw [if_pos (by omega)]) | (rw [if_neg (by omega)])
      refine wpAnyH_take (i := 2) (v := ?_) rfl (by kernel_rfl) (by kernel_rfl) (by kernel_rfl) (fun _ _ _ h => h) (Or.inl ⟨by rfl, ?_⟩) hS0 ?_
      rotate_left 1
      · intro w' hw'; go_simp; first | done | with_reducible rfl | (rw [if_pos (by omega)]) | (rw [if_neg (by omega)])
      have hxz : (s.extract 0 kn).size = kn := by rw [ByteArray.size_extract]; omega
      obtain ⟨x1, hx1⟩ : ∃ x, s.extract 0 kn = x := ⟨_, rfl⟩
      rw [hx1] at hxz ⊢
      clear hx1
      refine wpAnyH_take (i := 3) (v := ?_) rfl (by kernel_rfl) (by kernel_rfl) (by kernel_rfl) (fun _ _ _ h => h) (Or.inl ⟨by rfl, ?_⟩) hS0 ?_
      rotate_left 1
      · intro w' hw'; go_simp; first | done | with_reducible rfl | (rw [if_pos (by omega)]) | (rw [if_neg (by omega)])
      refine wpAnyH_take (i := 7) (v := ?_) rfl (by kernel_rfl) (by kernel_rfl) (by kernel_rfl) (fun _ _ _ h => h) (Or.inl ⟨by rfl, ?_⟩) hS0 ?_
      rotate_left 1
      · intro w' hw'; go_simp; first | done | with_reducible rfl | (rw [if_pos (by omega)]) | (rw [if_neg (by omega)])
      refine wpAnyH_take (i := 8) (v := ?_) rfl (by kernel_rfl) (by kernel_rfl) (by kernel_rfl) (fun _ _ _ h => h) (Or.inl ⟨by rfl, ?_⟩) hS0 ?_
      rotate_left 1
      · intro w' hw'; go_simp; first | done | with_reducible rfl | (rw [if_pos (by omega)]) | (rw [if_neg (by omega)])
      refine wpAnyH_take (i := 9) (v := ?_) rfl (by kernel_rfl) (by kernel_rfl) (by kernel_rfl) (fun _ _ _ h => h) (Or.inl ⟨by rfl, ?_⟩) hS0 ?_
      rotate_left 1
      · intro w' hw'; go_simp; first | done | with_reducible rfl | (rw [if_pos (by omega)]) | (rw [if_neg (by omega)])
      refine wpAnyH_ready (rs := [4]) (by kernel_rfl) (by simp) (AllReadyH.cons rfl (fun K hK => ?_) AllReadyH.nil)
      go_simp
      have hgr : w2.heap.size ≠ r := by omega
      have hL : LstP (fun s => decide (s.size ≤ 1)) (w2.drew.alloc (.cells #[.string ⟨#[]⟩, .string ⟨#[100]⟩, .string ⟨#[32]⟩, .string ⟨#[47]⟩, .string ⟨#[97]⟩, .string ⟨#[10]⟩, .string ⟨#[120]⟩] 9)) w2.heap.size 7 := LstP.new (fun s => decide (s.size ≤ 1)) w2.drew [⟨#[]⟩, ⟨#[100]⟩, ⟨#[32]⟩, ⟨#[47]⟩, ⟨#[97]⟩, ⟨#[10]⟩, ⟨#[120]⟩] 9 (by decide)
      have HR3 := hidR ((HR2.out.below (Below.refl _ w2).drew).below ((Below.refl _ w2.drew).alloc (Nat.le_refl _) (.cells #[.string ⟨#[]⟩, .string ⟨#[100]⟩, .string ⟨#[32]⟩, .string ⟨#[47]⟩, .string ⟨#[97]⟩, .string ⟨#[10]⟩, .string ⟨#[120]⟩] 9)))
      have HS3 := hidR ((Kept.of_below (r := r) (Below.refl _ w2).drew).trans (Kept.alloc w2.drew (.cells #[.string ⟨#[]⟩, .string ⟨#[100]⟩, .string ⟨#[32]⟩, .string ⟨#[47]⟩, .string ⟨#[97]⟩, .string ⟨#[10]⟩, .string ⟨#[120]⟩] 9)))
      refine hK.out _ _ HS3.out (fun _ => ?_)
      clear hK K
      refine wpAnyH_ready (rs := [5]) (by kernel_rfl) (by simp) (AllReadyH.cons rfl (fun K hK => ?_) AllReadyH.nil)
      go_simp
      go_wp2_with (first | (go_at_call 83; refine (of_P (fun s => decide (s.size ≤ 1)) _ r (p + 2) _ 7 7 (by decide) (by decide) (by omega) hgr hL HR3.out).mono ?_; rintro e w3 ⟨sx, rfl, hPs, hR3, hK3⟩) | fail)
      have hsx : sx.size ≤ 1 := of_decide_eq_true hPs
      have HR4 := hidR hR3
      have HS4 := hidR (HS3.out.trans hK3)
      refine hK.out _ _ HS4.out (fun _ => ?_)
      clear hK K hR3 hK3 HR3 hL HS3
      refine wpAnyH_take (i := 6) (v := ?_) rfl (by kernel_rfl) (by kernel_rfl) (by kernel_rfl) (fun _ _ _ h => h) (Or.inl ⟨by rfl, ?_⟩) HS4.out ?_
      rotate_left 1
      · intro w' hw'; go_simp; first | done | with_reducible rfl | (rw [if_pos (by omega)]) | (rw [if_neg (by omega)])
      refine wpAnyH_ready (rs := [10]) (by kernel_rfl) (by simp) (AllReadyH.cons rfl (fun K hK => ?_) AllReadyH.nil)
      go_simp
      go_wp2_with (first | (go_at_call 82; refine (pick_any _ r (p + 3) 2 (by decide) (by decide) (by omega) HR4.out).mono ?_; rintro e w4 ⟨i, rfl, i0, i1, hR5, hK5⟩) | fail)
      have HS5 := hidR (HS4.out.trans hK5)
      refine hK.out _ _ HS5.out (fun _ => ?_)
      clear hK K
      have hz1 : (x1 ++ sx).size = kn + sx.size := by rw [ByteArray.size_append, hxz]
      obtain ⟨jn, rfl⟩ := Int.eq_ofNat_of_zero_le i0
      refine wpAnyH_take (i := 11) (v := .int .i64 ((kn + jn : Nat) : Int)) rfl (by kernel_rfl) (by kernel_rfl) (by kernel_rfl) (fun _ _ _ h => h) (Or.inl ⟨by rfl, ?_⟩) HS5.out ?_
      · intro w' hw'; go_simp; rw [Go.IntWalk.i64_in _ (by omega)]
      obtain ⟨m, hm⟩ : ∃ m, kn + jn = m := ⟨_, rfl⟩
      have hm1 : m ≤ s.size := by omega
      have hm2 : kn ≤ m := by omega
      rw [hm]
      clear hm
      refine wpAnyH_take (i := 12) (v := ?_) rfl (by kernel_rfl) (by kernel_rfl) (by kernel_rfl) (fun _ _ _ h => h) (Or.inl ⟨by rfl, ?_⟩) HS5.out ?_
      rotate_left 1
      · intro w' hw'; go_simp; first | done | with_reducible rfl | (rw [if_pos (by omega)]) | (rw [if_neg (by omega)])
      have hyz : (s.extract m s.size).size = s.size - m := by rw [ByteArray.size_extract]; omega
      obtain ⟨x2, hx2⟩ : ∃ x, s.extract m s.size = x := ⟨_, rfl⟩
      rw [hx2] at hyz ⊢
      clear hx2
      refine wpAnyH_take (i := 13) (v := ?_) rfl (by kernel_rfl) (by kernel_rfl) (by kernel_rfl) (fun _ _ _ h => h) (Or.inl ⟨by rfl, ?_⟩) HS5.out ?_
      rotate_left 1
      · intro w' hw'; go_simp; first | done | with_reducible rfl | (rw [if_pos (by omega)]) | (rw [if_neg (by omega)])
      have hz2 : (x1 ++ sx ++ x2).size ≤ s.size + 1 := by rw [ByteArray.size_append, hz1]; omega
      refine wpAnyH_ready (rs := [14]) (by kernel_rfl) (by simp) (AllReadyH.cons rfl (fun K hK => ?_) AllReadyH.nil)
      go_simp
      refine hK.out _ _ HS5.out (fun _ => ?_)
      clear hK K
      refine wpAnyH_done (by kernel_rfl) ?_ _
      go_wp2
      go_ret
      exact ⟨_, rfl, hz2, HK2.out.trans HS5.out⟩
end Go.Proofs.YtgkfhcpegdlejaaDoor
