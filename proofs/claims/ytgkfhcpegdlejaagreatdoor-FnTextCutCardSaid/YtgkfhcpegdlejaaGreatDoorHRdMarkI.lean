/-
  The walk of the program's own: a mark, out of the words of a line.
-/
import Derived.Test.YtgkfhcpegdlejaaGreatDoorHPk04
import Derived.Test.YtgkfhcpegdlejaaGreatDoorHPk15
import Derived.Test.YtgkfhcpegdlejaaGreatDoorHPk02
import Derived.Deep.RegionHeld3
namespace Go.Proofs.YtgkfhcpegdlejaaGreatDoor
open Go.RowKit Go.Lib

set_option maxHeartbeats 3200000 in
set_option maxRecDepth 100000 in
theorem lineMark_any (ln : List (List UInt8)) (w : World) (hw : MarkTab w) :
    Calls Tryz.prog 39 #[.agg (lineC ln)] w fun r w' => r = .returned (.agg #[.string (Mk.markOf ln).p, .int .i64 (Mk.markOf ln).d, .string (Mk.markOf ln).x]) ∧ Below w.heap.size w w' := by
  have hE : Mk.markOf ln = ⟨nthL ln 1, kindW (nthL ln 0), nthL ln 2⟩ := rfl
  rw [hE]
  obtain ⟨x0, e0⟩ : ∃ x, nthL ln 0 = x := ⟨_, rfl⟩
  obtain ⟨x1, e1⟩ : ∃ x, nthL ln 1 = x := ⟨_, rfl⟩
  obtain ⟨x2, e2⟩ : ∃ x, nthL ln 2 = x := ⟨_, rfl⟩
  obtain ⟨nl, e3⟩ : ∃ x : Int, ((ln.length : Nat) : Int) = x := ⟨_, rfl⟩
  unfold lineC
  rw [e0, e1, e2, e3]
  clear e0 e1 e2 e3 hE
  have HW := hidE hw
  have HC := hidE (fun (W : World) (h : Below w.heap.size w W) => markKind_any x0 W (HW.out.below h))
  rw [show findK [⟨#[]⟩, wF, wD, wX, wB] 0 x0 = kindW x0 from rfl] at HC
  obtain ⟨k, hk⟩ : ∃ k, kindW x0 = k := ⟨_, rfl⟩
  rw [hk] at HC ⊢
  clear hw hk
  go_enter Tryz.func39, Tryz.ntmps39
  go_wp2
  have hB1 : Below w.heap.size w ((w.alloc (.cells #[.string x0, .string x1, .string x2, .int .i64 nl] 64)).alloc (.cells #[.string ⟨#[]⟩, .int .i64 0, .string ⟨#[]⟩] 55)) := ((Below.refl _ w).alloc (Nat.le_refl _) _).alloc (by simp) _
  have hB2 : Below (w.heap.size + 1) (w.alloc (.cells #[.string x0, .string x1, .string x2, .int .i64 nl] 64)) ((w.alloc (.cells #[.string x0, .string x1, .string x2, .int .i64 nl] 64)).alloc (.cells #[.string ⟨#[]⟩, .int .i64 0, .string ⟨#[]⟩] 55)) := by
    have := (Below.refl _ (w.alloc (.cells #[.string x0, .string x1, .string x2, .int .i64 nl] 64))).alloc (Nat.le_refl _) (.cells #[.string ⟨#[]⟩, .int .i64 0, .string ⟨#[]⟩] 55)
    simpa using this
  have hR1 : ((w.alloc (.cells #[.string x0, .string x1, .string x2, .int .i64 nl] 64)).alloc (.cells #[.string ⟨#[]⟩, .int .i64 0, .string ⟨#[]⟩] 55)).heap[w.heap.size + 1]? = some (.cells #[.string ⟨#[]⟩, .int .i64 0, .string ⟨#[]⟩] 55 (0, 0)) := by
    have := heap_alloc_new (w.alloc (.cells #[.string x0, .string x1, .string x2, .int .i64 nl] 64)) (.cells #[.string ⟨#[]⟩, .int .i64 0, .string ⟨#[]⟩] 55)
    simpa using this
  have hs1 : ((w.alloc (.cells #[.string x0, .string x1, .string x2, .int .i64 nl] 64)).alloc (.cells #[.string ⟨#[]⟩, .int .i64 0, .string ⟨#[]⟩] 55)).heap.size = w.heap.size + 2 := by simp
  obtain ⟨W1, hW1⟩ : ∃ W1, (w.alloc (.cells #[.string x0, .string x1, .string x2, .int .i64 nl] 64)).alloc (.cells #[.string ⟨#[]⟩, .int .i64 0, .string ⟨#[]⟩] 55) = W1 := ⟨_, rfl⟩
  rw [hW1] at hB1 hB2 hR1 hs1 ⊢
  clear hW1
  have HF := hidE (fun (W' : World) (h : Below W1.heap.size W1 W') => show W'.heap[w.heap.size + 1]? = some (.cells #[.string ⟨#[]⟩, .int .i64 0, .string ⟨#[]⟩] 55 (0, 0)) from by rw [h.block _ (by omega)]; exact hR1)
  refine wp_region_held_drew (S := fun W' => Below (w.heap.size + 1) (w.alloc (.cells #[.string x0, .string x1, .string x2, .int .i64 nl] 64)) W') (by kernel_rfl) (hB2.trans (((Below.refl W1.heap.size W1).drew).mono (by omega))) (fun hS0 => ?_)
  have HS' := hidE (fun (W' : World) (h : Below (w.heap.size + 1) (w.alloc (.cells #[.string x0, .string x1, .string x2, .int .i64 nl] 64)) W') => box4e (w := w) (w' := W') (a := .string x0) (b := .string x1) (c := .string x2) (d := .int .i64 nl) (T := 64) (by simpa using h))
  have hT0 : Below W1.heap.size W1 W1.drew := (Below.refl _ W1).drew
  refine wpAnyH_take (i := 0) (v := ?_) rfl (by kernel_rfl) (by kernel_rfl) (by kernel_rfl) (fun _ _ _ h => h) (Or.inl ⟨by rfl, ?_⟩) hS0 ?_
  rotate_left 1
  · intro w' hw'; obtain ⟨q0, q1, q2, q3⟩ := HS'.out w' hw'; go_simp; first | done | with_reducible rfl
  refine wpAnyH_take (i := 1) (v := ?_) rfl (by kernel_rfl) (by kernel_rfl) (by kernel_rfl) (fun _ _ _ h => h) (Or.inl ⟨by rfl, ?_⟩) hS0 ?_
  rotate_left 1
  · intro w' hw'; obtain ⟨q0, q1, q2, q3⟩ := HS'.out w' hw'; go_simp; first | done | with_reducible rfl
  refine wpAnyH_take (i := 2) (v := ?_) rfl (by kernel_rfl) (by kernel_rfl) (by kernel_rfl) (fun _ _ _ h => h) (Or.inl ⟨by rfl, ?_⟩) hS0 ?_
  rotate_left 1
  · intro w' hw'; obtain ⟨q0, q1, q2, q3⟩ := HS'.out w' hw'; go_simp; first | done | with_reducible rfl
  refine wpAnyH_take (i := 3) (v := ?_) rfl (by kernel_rfl) (by kernel_rfl) (by kernel_rfl) (fun _ _ _ h => h) (Or.inl ⟨by rfl, ?_⟩) hS0 ?_
  rotate_left 1
  · intro w' hw'; obtain ⟨q0, q1, q2, q3⟩ := HS'.out w' hw'; go_simp; first | done | with_reducible rfl
  refine wpAnyH_take (i := 4) (v := ?_) rfl (by kernel_rfl) (by kernel_rfl) (by kernel_rfl) (fun _ _ _ h => h) (Or.inl ⟨by rfl, ?_⟩) hS0 ?_
  rotate_left 1
  · intro w' hw'; obtain ⟨q0, q1, q2, q3⟩ := HS'.out w' hw'; go_simp; first | done | with_reducible rfl
  refine wpAnyH_take (i := 5) (v := ?_) rfl (by kernel_rfl) (by kernel_rfl) (by kernel_rfl) (fun _ _ _ h => h) (Or.inl ⟨by rfl, ?_⟩) hS0 ?_
  rotate_left 1
  · intro w' hw'; obtain ⟨q0, q1, q2, q3⟩ := HS'.out w' hw'; go_simp; first | done | with_reducible rfl
  refine wpAnyH_take (i := 7) (v := ?_) rfl (by kernel_rfl) (by kernel_rfl) (by kernel_rfl) (fun _ _ _ h => h) (Or.inl ⟨by rfl, ?_⟩) hS0 ?_
  rotate_left 1
  · intro w' hw'; obtain ⟨q0, q1, q2, q3⟩ := HS'.out w' hw'; go_simp; first | done | with_reducible rfl
  refine wpAnyH_take (i := 8) (v := ?_) rfl (by kernel_rfl) (by kernel_rfl) (by kernel_rfl) (fun _ _ _ h => h) (Or.inl ⟨by rfl, ?_⟩) hS0 ?_
  rotate_left 1
  · intro w' hw'; obtain ⟨q0, q1, q2, q3⟩ := HS'.out w' hw'; go_simp; first | done | with_reducible rfl
  refine wpAnyH_take (i := 9) (v := ?_) rfl (by kernel_rfl) (by kernel_rfl) (by kernel_rfl) (fun _ _ _ h => h) (Or.inl ⟨by rfl, ?_⟩) hS0 ?_
  rotate_left 1
  · intro w' hw'; obtain ⟨q0, q1, q2, q3⟩ := HS'.out w' hw'; go_simp; first | done | with_reducible rfl
  refine wpAnyH_ready (rs := [6]) (by kernel_rfl) (by simp) (AllReadyH.cons rfl (fun K hK => ?_) AllReadyH.nil)
  go_simp
  go_wp2_with (first | (go_at_call 67; refine (HC.out _ (hB1.trans (hT0.mono hB1.size))).mono ?_; rintro e w1 ⟨rfl, hB1'⟩) | fail)
  have hT1 : Below W1.heap.size W1 w1 := hT0.trans (hB1'.mono hT0.size)
  have hS1 : Below (w.heap.size + 1) (w.alloc (.cells #[.string x0, .string x1, .string x2, .int .i64 nl] 64)) w1 := hB2.trans (hT1.mono (by omega))
  refine hK.out _ _ hS1 (fun _ => ?_)
  clear hK K
  refine wpAnyH_take (i := 10) (v := ?_) rfl (by kernel_rfl) (by kernel_rfl) (by kernel_rfl) (fun _ _ _ h => h) (Or.inl ⟨by rfl, ?_⟩) hS1 ?_
  rotate_left 1
  · intro w' hw'; go_simp; first | done | with_reducible rfl
  have hz := HF.out _ hT1
  obtain ⟨⟨r0, r0'⟩, r1, r2⟩ := set3_rules hz
  have r1a := fun u => (r1 u).1
  have r1b := fun u => (r1 u).2
  have r2a := fun u x => (r2 u x).1
  have r2b := fun u x => (r2 u x).2
  clear r1 r2
  have s3 := set3_is hz (.string x1) (.int .i64 k) (.string x2)
  have hSf := s3.1.below hS1 (Nat.le_refl _)
  have hBf := s3.1.below (hB1.trans (hT1.mono hB1.size)) (by omega)
  have z0 := cell_of_row _ (w.heap.size + 1) 0 _ _ _ s3.2
  have z1 := cell_of_row _ (w.heap.size + 1) 1 _ _ _ s3.2
  have z2 := cell_of_row _ (w.heap.size + 1) 2 _ _ _ s3.2
  refine wpAnyH_ready (rs := [11]) (by kernel_rfl) (by simp) (AllReadyH.cons rfl (fun K hK => ?_) AllReadyH.nil)
  go_simp
  refine hK.out _ _ hSf (fun _ => ?_)
  clear hK K
  refine wpAnyH_done (by kernel_rfl) ?_ _
  go_wp2
  exact bodyPost_ret (v := .agg #[.string x1, .int .i64 k, .string x2]) (by simp [results, Tryz.results39, go_sem, z0, z1, z2]) rfl ⟨rfl, hBf⟩
end Go.Proofs.YtgkfhcpegdlejaaGreatDoor
