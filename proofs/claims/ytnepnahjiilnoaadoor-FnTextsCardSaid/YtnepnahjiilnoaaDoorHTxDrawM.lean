/-
  The walk of the model's draw of a mark.
-/
import Derived.Test.YtnepnahjiilnoaaDoorHMkBent
import Derived.Test.YtnepnahjiilnoaaDoorHRdSet
namespace Go.Proofs.YtnepnahjiilnoaaDoor.Mk
open Go.RowKit Go.Lib

set_option maxHeartbeats 1600000 in
set_option maxRecDepth 100000 in
theorem DrawMarkText_any (w : World) (a : Option Addr) (len cap : Nat) (hl : len ≤ 1048576) (h : Cod w a len cap) :
    Calls Tryd.prog 6 #[.slice a len cap] w fun r w' => ∃ e : E, r = .returned (encE e) ∧ (e.p.size ≤ 16 ∧ e.x.size ≤ 16) ∧ Below w.heap.size w w' := by
  have hB0 : Below w.heap.size w (w.alloc (.cells #[.string ⟨#[]⟩, .int .i64 0, .string ⟨#[]⟩] 27)) := (Below.refl _ w).alloc (Nat.le_refl _) _
  have hz0 := heap_alloc_new w (.cells #[.string ⟨#[]⟩, .int .i64 0, .string ⟨#[]⟩] 27)
  have hs0 : (w.alloc (.cells #[.string ⟨#[]⟩, .int .i64 0, .string ⟨#[]⟩] 27)).heap.size = w.heap.size + 1 := by simp
  have HC := hidR (h.below hB0)
  clear h
  obtain ⟨W0, hW0⟩ : ∃ W0, w.alloc (.cells #[.string ⟨#[]⟩, .int .i64 0, .string ⟨#[]⟩] 27) = W0 := ⟨_, rfl⟩
  rw [hW0] at hB0 hz0 hs0 HC
  go_enter Tryd.func6, Tryd.ntmps6
  go_wp2_with fail
  clear hW0
  refine (l10Open_any _ a len cap hl HC.out).mono ?_
  rintro e w1 ⟨rfl, hR1, hB1⟩
  have HR1 := hidR hR1
  have hr := hR1.lt
  have hz1 := (hB1.block w.heap.size (by omega)).trans hz0
  have HB1 := hidR (hB0.trans (hB1.mono (by omega)))
  rw [hs0] at HR1 hr ⊢
  clear hR1 hB1 HC hz0 hB0 hs0
  go_wp2_with fail
  refine (l3Layer_any _ (w.heap.size + 1) 0 (by omega) HR1.out).mono ?_
  rintro e w2 ⟨v2, es2, q2, rfl, ht2, hd2, hl2, hq2, hR2, hK2⟩
  have HR2 := hidR hR2
  have HB2 := hidR (HB1.out.trans (hK2.below (show w.heap.size ≤ w.heap.size + 1 by omega) (by omega)))
  have hz2 := (hK2.2.2.2.2 w.heap.size (by omega) (by omega)).trans hz1
  have HL2 := hidR hl2
  have HS2 := hidR (hd2.drn (show es2.length ≤ 32 from by unfold layB at ht2; rw [Bool.and_eq_true] at ht2; exact of_decide_eq_true ht2.2))
  have hw2 : w1.heap.size ≤ w2.heap.size := hK2.2.2.2.1
  clear hR2 hK2 ht2 HR1 HB1 hz1
  go_wp2_with fail
  refine (l3Bent_any _ (w.heap.size + 1) q2 w1.heap.size 32 v2 es2 (by omega) hr hw2 HL2.out HS2.out (by decide) HR2.out).mono ?_
  rintro e w3 ⟨v3, es3, q3, rfl, hL3, hS3, hq3, hR3, hK3⟩
  have HR3 := hidR hR3
  have hw3 : w2.heap.size ≤ w3.heap.size := hK3.2.2.2.1
  have HB3 := hidR (HB2.out.trans (hK3.below (show w.heap.size ≤ w.heap.size + 1 by omega) (by omega)))
  have hz3 := (hK3.2.2.2.2 w.heap.size (by omega) (by omega)).trans hz2
  have HS := hidR hS3
  have hlen := hS3.1
  obtain ⟨a3, g3, o3, cap3, rfl, ha3, hE3, -, hg3⟩ := hL3
  have HE := hidR hE3
  clear hR3 hK3 hS3 HR2 HB2 HL2 HS2 hz2 hE3
  by_cases h0 : es3.length = 0
  · have hle : ((es3.length : Int) == 0) = true := by rw [h0]; rfl
    obtain ⟨⟨r0, r0'⟩, r1, r2⟩ := set3_rules hz3
    have r1a := fun u => (r1 u).1
    have r1b := fun u => (r1 u).2
    have r2a := fun u x => (r2 u x).1
    have r2b := fun u x => (r2 u x).2
    clear r1 r2
    have s3 := set3_is hz3 (.string ⟨#[47, 97]⟩) (.int .i64 1) (.string ⟨#[]⟩)
    have hBs := s3.1.below HB3.out (Nat.le_refl _)
    have z0 := cell_of_row _ w.heap.size 0 _ _ _ s3.2
    have z1 := cell_of_row _ w.heap.size 1 _ _ _ s3.2
    have z2 := cell_of_row _ w.heap.size 2 _ _ _ s3.2
    clear h0
    go_wp2
    exact bodyPost_ret (v := encE ⟨⟨#[47, 97]⟩, 1, ⟨#[]⟩⟩) (by simp [results, Tryd.results6, go_sem, z0, z1, z2]) rfl ⟨_, rfl, by decide, hBs⟩
  · have hle : ((es3.length : Int) == 0) = false := by rw [beq_eq_false_iff_ne]; omega
    obtain rfl := ha3 (by omega)
    have HP := hidR (fun W => pick_any W (w.heap.size + 1) q3 (es3.length : Int) (by omega) (by omega) (by omega))
    go_wp2_with fail
    refine (HP.out _ HR3.out).mono ?_
    rintro e w4 ⟨j, rfl, hj0, hj1, -, hK4⟩
    obtain ⟨n, rfl⟩ : ∃ n : Nat, (n : Int) = j := ⟨j.toNat, by omega⟩
    have hn : n < es3.length := by omega
    obtain ⟨k0, k1, k2⟩ := (HE.out.kept hK4 (fun q => by have := hg3 q; omega)) n hn
    have hz4 := (hK4.2.2.2.2 w.heap.size (by omega) (by omega)).trans hz3
    obtain ⟨⟨r0, r0'⟩, r1, r2⟩ := set3_rules hz4
    have r1a := fun u => (r1 u).1
    have r1b := fun u => (r1 u).2
    have r2a := fun u x => (r2 u x).1
    have r2b := fun u x => (r2 u x).2
    clear r1 r2
    have hB4 := HB3.out.trans (hK4.below (show w.heap.size ≤ w.heap.size + 1 by omega) (by omega))
    go_wp2
    have s3 := set3_is hz4 (.string es3[n].p) (.int .i64 es3[n].d) (.string es3[n].x)
    have hBs := s3.1.below hB4 (Nat.le_refl _)
    have z0 := cell_of_row _ w.heap.size 0 _ _ _ s3.2
    have z1 := cell_of_row _ w.heap.size 1 _ _ _ s3.2
    have z2 := cell_of_row _ w.heap.size 2 _ _ _ s3.2
    exact bodyPost_ret (v := encE es3[n]) (by simp [results, Tryd.results6, go_sem, z0, z1, z2]) rfl ⟨_, rfl, ⟨okP_size (HS.out.2 _ (List.getElem_mem hn)).1, (HS.out.2 _ (List.getElem_mem hn)).2⟩, hBs⟩
end Go.Proofs.YtnepnahjiilnoaaDoor.Mk
