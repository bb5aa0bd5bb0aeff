import Derived.Test.YtafeddiijemnbaaGreatDoorHPk29
import Derived.Test.YtafeddiijemnbaaGreatDoorHRdLines
import Derived.Test.YtafeddiijemnbaaGreatDoorHPk05
import Derived.Test.YtafeddiijemnbaaGreatDoorHClone
import Derived.Test.YtafeddiijemnbaaGreatDoorHPk02
import Derived.Deep.RegionHeld3
namespace Go.Proofs.YtafeddiijemnbaaGreatDoor
open Go.RowKit Go.Lib
theorem box4r {w w' : World} {a b c d : Value} {T : TypeId} (h : Below (w.alloc (.cells #[a, b, c, d] T)).heap.size (w.alloc (.cells #[a, b, c, d] T)) w') :
  w'.cell? ⟨w.heap.size, 0, none⟩ = some a ∧ w'.cell? ⟨w.heap.size, 1, none⟩ = some b ∧ w'.cell? ⟨w.heap.size, 2, none⟩ = some c ∧ w'.cell? ⟨w.heap.size, 3, none⟩ = some d := by
 have hl : w.heap.size < (w.alloc (.cells #[a, b, c, d] T)).heap.size := by simp
 exact ⟨(h.cell (p := ⟨w.heap.size, 0, none⟩) hl).trans (by simp), (h.cell (p := ⟨w.heap.size, 1, none⟩) hl).trans (by simp), (h.cell (p := ⟨w.heap.size, 2, none⟩) hl).trans (by simp), (h.cell (p := ⟨w.heap.size, 3, none⟩) hl).trans (by simp)⟩
theorem clone_op (s : ByteArray) (hs : s.size ≤ 16777217) (w : World) :
  Calls Tryz.prog 26 #[.string s] w fun e w' => e = .returned (.string s) ∧ Below w.heap.size w w' := by
 go_enter Tryz.func26, Tryz.ntmps26
 go_wp2_with (first | (go_at_call 54; refine (sClone_any _ _ (by omega)).mono ?_; rintro e w' ⟨rfl, hB⟩) | fail)
 go_ret
 exact ⟨rfl, hB⟩
set_option maxHeartbeats 3200000 in
set_option maxRecDepth 100000 in
theorem freshOp_any (k : Int) (p t x : ByteArray) (w : World) (hp : p.size ≤ 16777217) (ht : t.size ≤ 16777217) (hx : x.size ≤ 16777217) :
  Calls Tryz.prog 12 #[.agg #[.int .i64 k, .string p, .string t, .string x]] w fun r w' => r = .returned (.agg #[.int .i64 k, .string p, .string t, .string x]) ∧ Below w.heap.size w w' := by
 have C1 := hidE (fun W => clone_op p hp W); have C2 := hidE (fun W => clone_op t ht W); have C3 := hidE (fun W => clone_op x hx W); clear hp ht hx; go_enter Tryz.func12, Tryz.ntmps12
 go_wp2
 have hB1 : Below w.heap.size w ((w.alloc (.cells #[.int .i64 k, .string p, .string t, .string x] 25)).alloc (.cells #[.int .i64 0, .string ⟨#[]⟩, .string ⟨#[]⟩, .string ⟨#[]⟩] 25)) := ((Below.refl _ w).alloc (Nat.le_refl _) _).alloc (by simp) _
 have hB2 : Below (w.heap.size + 1) (w.alloc (.cells #[.int .i64 k, .string p, .string t, .string x] 25)) ((w.alloc (.cells #[.int .i64 k, .string p, .string t, .string x] 25)).alloc (.cells #[.int .i64 0, .string ⟨#[]⟩, .string ⟨#[]⟩, .string ⟨#[]⟩] 25)) := by
  have := (Below.refl _ (w.alloc (.cells #[.int .i64 k, .string p, .string t, .string x] 25))).alloc (Nat.le_refl _) (.cells #[.int .i64 0, .string ⟨#[]⟩, .string ⟨#[]⟩, .string ⟨#[]⟩] 25)
  simpa using this
 have hR1 : ((w.alloc (.cells #[.int .i64 k, .string p, .string t, .string x] 25)).alloc (.cells #[.int .i64 0, .string ⟨#[]⟩, .string ⟨#[]⟩, .string ⟨#[]⟩] 25)).heap[w.heap.size + 1]? = some (.cells #[.int .i64 0, .string ⟨#[]⟩, .string ⟨#[]⟩, .string ⟨#[]⟩] 25 (0, 0)) := by
  have := heap_alloc_new (w.alloc (.cells #[.int .i64 k, .string p, .string t, .string x] 25)) (.cells #[.int .i64 0, .string ⟨#[]⟩, .string ⟨#[]⟩, .string ⟨#[]⟩] 25)
  simpa using this
 have hs1 : ((w.alloc (.cells #[.int .i64 k, .string p, .string t, .string x] 25)).alloc (.cells #[.int .i64 0, .string ⟨#[]⟩, .string ⟨#[]⟩, .string ⟨#[]⟩] 25)).heap.size = w.heap.size + 2 := by simp
 obtain ⟨W1, hW1⟩ : ∃ W1, (w.alloc (.cells #[.int .i64 k, .string p, .string t, .string x] 25)).alloc (.cells #[.int .i64 0, .string ⟨#[]⟩, .string ⟨#[]⟩, .string ⟨#[]⟩] 25) = W1 := ⟨_, rfl⟩
 rw [hW1] at hB1 hB2 hR1 hs1 ⊢; clear hW1
 have HS := hidE (fun (W' : World) (h : Below W1.heap.size W1 W') => box4r (w := w) (w' := W') (a := .int .i64 k) (b := .string p) (c := .string t) (d := .string x) (T := 25) (by
  have := hB2.trans (h.mono (by omega))
  simpa using this))
 have HF := hidE (fun (W' : World) (h : Below W1.heap.size W1 W') => show W'.heap[w.heap.size + 1]? = some (.cells #[.int .i64 0, .string ⟨#[]⟩, .string ⟨#[]⟩, .string ⟨#[]⟩] 25 (0, 0)) from by rw [h.block _ (by omega)]; exact hR1); refine wp_region_held_drew (S := fun W' => Below (w.heap.size + 1) (w.alloc (.cells #[.int .i64 k, .string p, .string t, .string x] 25)) W') (by kernel_rfl) (hB2.trans (((Below.refl W1.heap.size W1).drew).mono (by omega))) (fun hS0 => ?_); have HS' := hidE (fun (W' : World) (h : Below (w.heap.size + 1) (w.alloc (.cells #[.int .i64 k, .string p, .string t, .string x] 25)) W') => box4r (w := w) (w' := W') (a := .int .i64 k) (b := .string p) (c := .string t) (d := .string x) (T := 25) (by simpa using h)); have hT0 : Below W1.heap.size W1 W1.drew := (Below.refl _ W1).drew; refine wpAnyH_take (i := 0) (v := ?_) rfl (by kernel_rfl) (by kernel_rfl) (by kernel_rfl) (fun _ _ _ h => h) (Or.inl ⟨by rfl, ?_⟩) hS0 ?_
 rotate_left 1
 ·
  intro w' hw'; obtain ⟨q0, q1, q2, q3⟩ := HS'.out w' hw'; go_simp; first | done | with_reducible rfl
 refine wpAnyH_take (i := 1) (v := ?_) rfl (by kernel_rfl) (by kernel_rfl) (by kernel_rfl) (fun _ _ _ h => h) (Or.inl ⟨by rfl, ?_⟩) hS0 ?_
 rotate_left 1
 ·
  intro w' hw'; obtain ⟨q0, q1, q2, q3⟩ := HS'.out w' hw'; go_simp; first | done | with_reducible rfl
 refine wpAnyH_take (i := 2) (v := ?_) rfl (by kernel_rfl) (by kernel_rfl) (by kernel_rfl) (fun _ _ _ h => h) (Or.inl ⟨by rfl, ?_⟩) hS0 ?_
 rotate_left 1
 ·
  intro w' hw'; obtain ⟨q0, q1, q2, q3⟩ := HS'.out w' hw'; go_simp; first | done | with_reducible rfl
 refine wpAnyH_take (i := 3) (v := ?_) rfl (by kernel_rfl) (by kernel_rfl) (by kernel_rfl) (fun _ _ _ h => h) (Or.inl ⟨by rfl, ?_⟩) hS0 ?_
 rotate_left 1
 ·
  intro w' hw'; obtain ⟨q0, q1, q2, q3⟩ := HS'.out w' hw'; go_simp; first | done | with_reducible rfl
 refine wpAnyH_take (i := 5) (v := ?_) rfl (by kernel_rfl) (by kernel_rfl) (by kernel_rfl) (fun _ _ _ h => h) (Or.inl ⟨by rfl, ?_⟩) hS0 ?_
 rotate_left 1
 ·
  intro w' hw'; obtain ⟨q0, q1, q2, q3⟩ := HS'.out w' hw'; go_simp; first | done | with_reducible rfl
 refine wpAnyH_take (i := 6) (v := ?_) rfl (by kernel_rfl) (by kernel_rfl) (by kernel_rfl) (fun _ _ _ h => h) (Or.inl ⟨by rfl, ?_⟩) hS0 ?_
 rotate_left 1
 ·
  intro w' hw'; obtain ⟨q0, q1, q2, q3⟩ := HS'.out w' hw'; go_simp; first | done | with_reducible rfl
 refine wpAnyH_take (i := 8) (v := ?_) rfl (by kernel_rfl) (by kernel_rfl) (by kernel_rfl) (fun _ _ _ h => h) (Or.inl ⟨by rfl, ?_⟩) hS0 ?_
 rotate_left 1
 ·
  intro w' hw'; obtain ⟨q0, q1, q2, q3⟩ := HS'.out w' hw'; go_simp; first | done | with_reducible rfl
 refine wpAnyH_take (i := 9) (v := ?_) rfl (by kernel_rfl) (by kernel_rfl) (by kernel_rfl) (fun _ _ _ h => h) (Or.inl ⟨by rfl, ?_⟩) hS0 ?_
 rotate_left 1
 ·
  intro w' hw'; obtain ⟨q0, q1, q2, q3⟩ := HS'.out w' hw'; go_simp; first | done | with_reducible rfl
 refine wpAnyH_ready (rs := [4]) (by kernel_rfl) (by simp) (AllReadyH.cons rfl (fun K hK => ?_) AllReadyH.nil); go_simp; go_wp2_with (first | (go_at_call 26; refine (C1.out _).mono ?_; rintro e w1 ⟨rfl, hB1'⟩) | fail)
 have hT1 : Below W1.heap.size W1 w1 := hT0.trans (hB1'.mono hT0.size); have hS1 : Below (w.heap.size + 1) (w.alloc (.cells #[.int .i64 k, .string p, .string t, .string x] 25)) w1 := hB2.trans (hT1.mono (by omega)); refine hK.out _ _ hS1 (fun _ => ?_); clear hK K; refine wpAnyH_ready (rs := [7]) (by kernel_rfl) (by simp) (AllReadyH.cons rfl (fun K hK => ?_) AllReadyH.nil); go_simp; go_wp2_with (first | (go_at_call 26; refine (C2.out _).mono ?_; rintro e w2 ⟨rfl, hB2'⟩) | fail)
 have hT2 : Below W1.heap.size W1 w2 := hT1.trans (hB2'.mono hT1.size); have hS2 : Below (w.heap.size + 1) (w.alloc (.cells #[.int .i64 k, .string p, .string t, .string x] 25)) w2 := hB2.trans (hT2.mono (by omega)); refine hK.out _ _ hS2 (fun _ => ?_); clear hK K; refine wpAnyH_ready (rs := [10]) (by kernel_rfl) (by simp) (AllReadyH.cons rfl (fun K hK => ?_) AllReadyH.nil); go_simp; go_wp2_with (first | (go_at_call 26; refine (C3.out _).mono ?_; rintro e w3 ⟨rfl, hB3'⟩) | fail)
 have hT3 : Below W1.heap.size W1 w3 := hT2.trans (hB3'.mono hT2.size); have hS3 : Below (w.heap.size + 1) (w.alloc (.cells #[.int .i64 k, .string p, .string t, .string x] 25)) w3 := hB2.trans (hT3.mono (by omega)); refine hK.out _ _ hS3 (fun _ => ?_); clear hK K; refine wpAnyH_take (i := 11) (v := ?_) rfl (by kernel_rfl) (by kernel_rfl) (by kernel_rfl) (fun _ _ _ h => h) (Or.inl ⟨by rfl, ?_⟩) hS3 ?_
 rotate_left 1
 ·
  intro w' hw'; go_simp; first | done | with_reducible rfl
 have hz := HF.out _ hT3; obtain ⟨⟨r0, r0'⟩, r1, r2, r3⟩ := set4_rules hz; have r1a := fun u => (r1 u).1; have r1b := fun u => (r1 u).2; have r2a := fun u x => (r2 u x).1; have r2b := fun u x => (r2 u x).2; have r3a := fun u x y => (r3 u x y).1; have r3b := fun u x y => (r3 u x y).2; clear r1 r2 r3; have s4 := set4_is hz (.int .i64 k) (.string p) (.string t) (.string x); have hSf := s4.1.below hS3 (Nat.le_refl _); have hBf := s4.1.below (hB1.trans (hT3.mono hB1.size)) (by omega); have z0 := cell_of_row _ (w.heap.size + 1) 0 _ _ _ s4.2; have z1 := cell_of_row _ (w.heap.size + 1) 1 _ _ _ s4.2; have z2 := cell_of_row _ (w.heap.size + 1) 2 _ _ _ s4.2; have z3 := cell_of_row _ (w.heap.size + 1) 3 _ _ _ s4.2; refine wpAnyH_ready (rs := [12]) (by kernel_rfl) (by simp) (AllReadyH.cons rfl (fun K hK => ?_) AllReadyH.nil); go_simp; refine hK.out _ _ hSf (fun _ => ?_); clear hK K; refine wpAnyH_done (by kernel_rfl) ?_ _; go_wp2
 exact bodyPost_ret (v := .agg #[.int .i64 k, .string p, .string t, .string x]) (by simp [results, Tryz.results12, go_sem, z0, z1, z2, z3]) rfl ⟨rfl, hBf⟩
end Go.Proofs.YtafeddiijemnbaaGreatDoor
