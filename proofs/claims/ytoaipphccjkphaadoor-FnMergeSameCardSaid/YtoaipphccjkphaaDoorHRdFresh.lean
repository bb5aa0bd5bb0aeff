import Derived.Test.YtoaipphccjkphaaDoorHPk16
import Derived.Test.YtoaipphccjkphaaDoorHClone
import Derived.Deep.RegionHeld3
namespace Go.Proofs.YtoaipphccjkphaaDoor
open Go.RowKit Go.Lib
theorem box3f {w w' : World} {a b c : Value} {T : TypeId} (h : Below (w.alloc (.cells #[a, b, c] T)).heap.size (w.alloc (.cells #[a, b, c] T)) w') :
  w'.cell? ⟨w.heap.size, 0, none⟩ = some a ∧ w'.cell? ⟨w.heap.size, 1, none⟩ = some b ∧ w'.cell? ⟨w.heap.size, 2, none⟩ = some c := by
 have hl : w.heap.size < (w.alloc (.cells #[a, b, c] T)).heap.size := by simp
 exact ⟨(h.cell (p := ⟨w.heap.size, 0, none⟩) hl).trans (by simp), (h.cell (p := ⟨w.heap.size, 1, none⟩) hl).trans (by simp), (h.cell (p := ⟨w.heap.size, 2, none⟩) hl).trans (by simp)⟩
theorem clone_tx (s : ByteArray) (hs : s.size ≤ 16777217) (w : World) :
  Calls Tryd.prog 34 #[.string s] w fun e w' => e = .returned (.string s) ∧ Below w.heap.size w w' := by
 go_enter Tryd.func34, Tryd.ntmps34
 go_wp2_with (first | (go_at_call 58; refine (sClone_any _ _ (by omega)).mono ?_; rintro e w' ⟨rfl, hB⟩) | fail)
 go_ret
 exact ⟨rfl, hB⟩
set_option maxHeartbeats 3200000 in
set_option maxRecDepth 100000 in
theorem freshEnt_any (p x : ByteArray) (d : Bool) (w : World) (hp : p.size ≤ 16777217) (hx : x.size ≤ 16777217) :
  Calls Tryd.prog 37 #[.agg #[.string p, .bool d, .string x]] w fun r w' => r = .returned (.agg #[.string p, .bool d, .string x]) ∧ Below w.heap.size w w' := by
 have C1 := hidE (fun W => clone_tx p hp W); have C2 := hidE (fun W => clone_tx x hx W); clear hp hx; go_enter Tryd.func37, Tryd.ntmps37
 go_wp2
 have hB1 : Below w.heap.size w ((w.alloc (.cells #[.string p, .bool d, .string x] 27)).alloc (.cells #[.string ⟨#[]⟩, .bool false, .string ⟨#[]⟩] 27)) := ((Below.refl _ w).alloc (Nat.le_refl _) _).alloc (by simp) _
 have hB2 : Below (w.heap.size + 1) (w.alloc (.cells #[.string p, .bool d, .string x] 27)) ((w.alloc (.cells #[.string p, .bool d, .string x] 27)).alloc (.cells #[.string ⟨#[]⟩, .bool false, .string ⟨#[]⟩] 27)) := by
  have := (Below.refl _ (w.alloc (.cells #[.string p, .bool d, .string x] 27))).alloc (Nat.le_refl _) (.cells #[.string ⟨#[]⟩, .bool false, .string ⟨#[]⟩] 27)
  simpa using this
 have hR1 : ((w.alloc (.cells #[.string p, .bool d, .string x] 27)).alloc (.cells #[.string ⟨#[]⟩, .bool false, .string ⟨#[]⟩] 27)).heap[w.heap.size + 1]? = some (.cells #[.string ⟨#[]⟩, .bool false, .string ⟨#[]⟩] 27 (0, 0)) := by
  have := heap_alloc_new (w.alloc (.cells #[.string p, .bool d, .string x] 27)) (.cells #[.string ⟨#[]⟩, .bool false, .string ⟨#[]⟩] 27)
  simpa using this
 have hs1 : ((w.alloc (.cells #[.string p, .bool d, .string x] 27)).alloc (.cells #[.string ⟨#[]⟩, .bool false, .string ⟨#[]⟩] 27)).heap.size = w.heap.size + 2 := by simp
 obtain ⟨W1, hW1⟩ : ∃ W1, (w.alloc (.cells #[.string p, .bool d, .string x] 27)).alloc (.cells #[.string ⟨#[]⟩, .bool false, .string ⟨#[]⟩] 27) = W1 := ⟨_, rfl⟩
 rw [hW1] at hB1 hB2 hR1 hs1 ⊢; clear hW1; have HF := hidE (fun (W' : World) (h : Below W1.heap.size W1 W') => show W'.heap[w.heap.size + 1]? = some (.cells #[.string ⟨#[]⟩, .bool false, .string ⟨#[]⟩] 27 (0, 0)) from by rw [h.block _ (by omega)]; exact hR1); refine wp_region_held_drew (S := fun W' => Below (w.heap.size + 1) (w.alloc (.cells #[.string p, .bool d, .string x] 27)) W') (by kernel_rfl) (hB2.trans (((Below.refl W1.heap.size W1).drew).mono (by omega))) (fun hS0 => ?_); have HS' := hidE (fun (W' : World) (h : Below (w.heap.size + 1) (w.alloc (.cells #[.string p, .bool d, .string x] 27)) W') => box3f (w := w) (w' := W') (a := .string p) (b := .bool d) (c := .string x) (T := 27) (by simpa using h)); have hT0 : Below W1.heap.size W1 W1.drew := (Below.refl _ W1).drew; refine wpAnyH_take (i := 0) (v := ?_) rfl (by kernel_rfl) (by kernel_rfl) (by kernel_rfl) (fun _ _ _ h => h) (Or.inl ⟨by rfl, ?_⟩) hS0 ?_
 rotate_left 1
 ·
  intro w' hw'; obtain ⟨q0, q1, q2⟩ := HS'.out w' hw'; go_simp; first | done | with_reducible rfl
 refine wpAnyH_take (i := 1) (v := ?_) rfl (by kernel_rfl) (by kernel_rfl) (by kernel_rfl) (fun _ _ _ h => h) (Or.inl ⟨by rfl, ?_⟩) hS0 ?_
 rotate_left 1
 ·
  intro w' hw'; obtain ⟨q0, q1, q2⟩ := HS'.out w' hw'; go_simp; first | done | with_reducible rfl
 refine wpAnyH_take (i := 3) (v := ?_) rfl (by kernel_rfl) (by kernel_rfl) (by kernel_rfl) (fun _ _ _ h => h) (Or.inl ⟨by rfl, ?_⟩) hS0 ?_
 rotate_left 1
 ·
  intro w' hw'; obtain ⟨q0, q1, q2⟩ := HS'.out w' hw'; go_simp; first | done | with_reducible rfl
 refine wpAnyH_take (i := 4) (v := ?_) rfl (by kernel_rfl) (by kernel_rfl) (by kernel_rfl) (fun _ _ _ h => h) (Or.inl ⟨by rfl, ?_⟩) hS0 ?_
 rotate_left 1
 ·
  intro w' hw'; obtain ⟨q0, q1, q2⟩ := HS'.out w' hw'; go_simp; first | done | with_reducible rfl
 refine wpAnyH_take (i := 5) (v := ?_) rfl (by kernel_rfl) (by kernel_rfl) (by kernel_rfl) (fun _ _ _ h => h) (Or.inl ⟨by rfl, ?_⟩) hS0 ?_
 rotate_left 1
 ·
  intro w' hw'; obtain ⟨q0, q1, q2⟩ := HS'.out w' hw'; go_simp; first | done | with_reducible rfl
 refine wpAnyH_take (i := 6) (v := ?_) rfl (by kernel_rfl) (by kernel_rfl) (by kernel_rfl) (fun _ _ _ h => h) (Or.inl ⟨by rfl, ?_⟩) hS0 ?_
 rotate_left 1
 ·
  intro w' hw'; obtain ⟨q0, q1, q2⟩ := HS'.out w' hw'; go_simp; first | done | with_reducible rfl
 refine wpAnyH_ready (rs := [2]) (by kernel_rfl) (by simp) (AllReadyH.cons rfl (fun K hK => ?_) AllReadyH.nil); go_simp; go_wp2_with (first | (go_at_call 34; refine (C1.out _).mono ?_; rintro e w1 ⟨rfl, hB1'⟩) | fail)
 have hT1 : Below W1.heap.size W1 w1 := hT0.trans (hB1'.mono hT0.size); have hS1 : Below (w.heap.size + 1) (w.alloc (.cells #[.string p, .bool d, .string x] 27)) w1 := hB2.trans (hT1.mono (by omega)); refine hK.out _ _ hS1 (fun _ => ?_); clear hK K; refine wpAnyH_ready (rs := [7]) (by kernel_rfl) (by simp) (AllReadyH.cons rfl (fun K hK => ?_) AllReadyH.nil); go_simp; go_wp2_with (first | (go_at_call 34; refine (C2.out _).mono ?_; rintro e w2 ⟨rfl, hB2'⟩) | fail)
 have hT2 : Below W1.heap.size W1 w2 := hT1.trans (hB2'.mono hT1.size); have hS2 : Below (w.heap.size + 1) (w.alloc (.cells #[.string p, .bool d, .string x] 27)) w2 := hB2.trans (hT2.mono (by omega)); refine hK.out _ _ hS2 (fun _ => ?_); clear hK K; refine wpAnyH_take (i := 8) (v := ?_) rfl (by kernel_rfl) (by kernel_rfl) (by kernel_rfl) (fun _ _ _ h => h) (Or.inl ⟨by rfl, ?_⟩) hS2 ?_
 rotate_left 1
 ·
  intro w' hw'; go_simp; first | done | with_reducible rfl
 have hz := HF.out _ hT2; obtain ⟨⟨r0, r0'⟩, r1, r2⟩ := set3_rules hz; have r1a := fun u => (r1 u).1; have r1b := fun u => (r1 u).2; have r2a := fun u x => (r2 u x).1; have r2b := fun u x => (r2 u x).2; clear r1 r2; have s3 := set3_is hz (.string p) (.bool d) (.string x); have hSf := s3.1.below hS2 (Nat.le_refl _); have hBf := s3.1.below (hB1.trans (hT2.mono hB1.size)) (by omega); have z0 := cell_of_row _ (w.heap.size + 1) 0 _ _ _ s3.2; have z1 := cell_of_row _ (w.heap.size + 1) 1 _ _ _ s3.2; have z2 := cell_of_row _ (w.heap.size + 1) 2 _ _ _ s3.2; refine wpAnyH_ready (rs := [9]) (by kernel_rfl) (by simp) (AllReadyH.cons rfl (fun K hK => ?_) AllReadyH.nil); go_simp; refine hK.out _ _ hSf (fun _ => ?_); clear hK K; refine wpAnyH_done (by kernel_rfl) ?_ _; go_wp2
 exact bodyPost_ret (v := .agg #[.string p, .bool d, .string x]) (by simp [results, Tryd.results37, go_sem, z0, z1, z2]) rfl ⟨rfl, hBf⟩
end Go.Proofs.YtoaipphccjkphaaDoor
