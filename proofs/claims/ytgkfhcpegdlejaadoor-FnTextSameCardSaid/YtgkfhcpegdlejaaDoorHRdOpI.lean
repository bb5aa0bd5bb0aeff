/-
  The walks of the program's own: what is done, out of the words of a line; and a copy of it.
-/
import Derived.Test.YtgkfhcpegdlejaaDoorHPk04
import Derived.Test.YtgkfhcpegdlejaaDoorHPk10
import Derived.Test.YtgkfhcpegdlejaaDoorHPk02
import Derived.Test.YtgkfhcpegdlejaaDoorHClone
import Derived.Test.YtgkfhcpegdlejaaDoorHFitOp
import Derived.Deep.RegionHeld3
namespace Go.Proofs.YtgkfhcpegdlejaaDoor
open Go.RowKit Go.Lib

theorem kind_is (s : ByteArray) : findK [⟨#[]⟩, oW1, oW2, oW3, oW4, oW5] 0 s = opKind s := by
  have hs : ∀ a b : ByteArray, (a = b) = (b = a) := fun a b => propext ⟨Eq.symm, Eq.symm⟩
  unfold opKind
  simp only [findK, hs _ s]
  by_cases h0 : s = ⟨#[]⟩
  · rw [if_pos h0]; subst h0; decide
  · rw [if_neg h0]; rfl
theorem box4r {w w' : World} {a b c d : Value} {T : TypeId} (h : Below (w.alloc (.cells #[a, b, c, d] T)).heap.size (w.alloc (.cells #[a, b, c, d] T)) w') :
    w'.cell? ⟨w.heap.size, 0, none⟩ = some a ∧ w'.cell? ⟨w.heap.size, 1, none⟩ = some b ∧ w'.cell? ⟨w.heap.size, 2, none⟩ = some c ∧ w'.cell? ⟨w.heap.size, 3, none⟩ = some d := by
  have hl : w.heap.size < (w.alloc (.cells #[a, b, c, d] T)).heap.size := by simp
  exact ⟨(h.cell (p := ⟨w.heap.size, 0, none⟩) hl).trans (by simp), (h.cell (p := ⟨w.heap.size, 1, none⟩) hl).trans (by simp), (h.cell (p := ⟨w.heap.size, 2, none⟩) hl).trans (by simp), (h.cell (p := ⟨w.heap.size, 3, none⟩) hl).trans (by simp)⟩

set_option maxHeartbeats 1600000 in
set_option maxRecDepth 100000 in
theorem lineOp_any (ln : List (List UInt8)) (w : World) (hw : OpTab w) :
    Calls Tryd.prog 65 #[.agg (lineC ln)] w fun r w' => r = .returned (.agg #[.int .i64 (mkOp (opKind (nthL ln 0)) (nthL ln 1) (nthL ln 2)).k, .string (mkOp (opKind (nthL ln 0)) (nthL ln 1) (nthL ln 2)).p, .string (mkOp (opKind (nthL ln 0)) (nthL ln 1) (nthL ln 2)).t, .string (mkOp (opKind (nthL ln 0)) (nthL ln 1) (nthL ln 2)).x]) ∧ Below w.heap.size w w' := by
  obtain ⟨x0, e0⟩ : ∃ x, nthL ln 0 = x := ⟨_, rfl⟩
  obtain ⟨x1, e1⟩ : ∃ x, nthL ln 1 = x := ⟨_, rfl⟩
  obtain ⟨x2, e2⟩ : ∃ x, nthL ln 2 = x := ⟨_, rfl⟩
  obtain ⟨nl, e3⟩ : ∃ x : Int, ((ln.length : Nat) : Int) = x := ⟨_, rfl⟩
  unfold lineC
  rw [e0, e1, e2, e3]
  clear e0 e1 e2 e3
  have HB0 : Hid (Below w.heap.size w (w.alloc (.cells #[.string x0, .string x1, .string x2, .int .i64 nl] 57))) := (Below.refl _ w).alloc (Nat.le_refl _) _
  have HW := hidE hw
  have HC := hidE (fun (W : World) (h : Below w.heap.size w W) => opKind_any x0 W (HW.out.below h))
  rw [kind_is] at HC
  clear hw
  obtain ⟨k, hk⟩ : ∃ k, opKind x0 = k := ⟨_, rfl⟩
  rw [hk] at HC ⊢
  clear hk
  go_enter Tryd.func65, Tryd.ntmps65
  go_wp2
  have hB1 : Below w.heap.size w ((w.alloc (.cells #[.string x0, .string x1, .string x2, .int .i64 nl] 57)).alloc (.cells #[.int .i64 0, .string ⟨#[]⟩, .string ⟨#[]⟩, .string ⟨#[]⟩] 40)) := ((Below.refl _ w).alloc (Nat.le_refl _) _).alloc (by simp) _
  have hB2 : Below (w.heap.size + 1) (w.alloc (.cells #[.string x0, .string x1, .string x2, .int .i64 nl] 57)) ((w.alloc (.cells #[.string x0, .string x1, .string x2, .int .i64 nl] 57)).alloc (.cells #[.int .i64 0, .string ⟨#[]⟩, .string ⟨#[]⟩, .string ⟨#[]⟩] 40)) := by
    have := (Below.refl _ (w.alloc (.cells #[.string x0, .string x1, .string x2, .int .i64 nl] 57))).alloc (Nat.le_refl _) (.cells #[.int .i64 0, .string ⟨#[]⟩, .string ⟨#[]⟩, .string ⟨#[]⟩] 40)
    simpa using this
  have hR1 : ((w.alloc (.cells #[.string x0, .string x1, .string x2, .int .i64 nl] 57)).alloc (.cells #[.int .i64 0, .string ⟨#[]⟩, .string ⟨#[]⟩, .string ⟨#[]⟩] 40)).heap[w.heap.size + 1]? = some (.cells #[.int .i64 0, .string ⟨#[]⟩, .string ⟨#[]⟩, .string ⟨#[]⟩] 40 (0, 0)) := by
    have := heap_alloc_new (w.alloc (.cells #[.string x0, .string x1, .string x2, .int .i64 nl] 57)) (.cells #[.int .i64 0, .string ⟨#[]⟩, .string ⟨#[]⟩, .string ⟨#[]⟩] 40)
    simpa using this
  have hs1 : ((w.alloc (.cells #[.string x0, .string x1, .string x2, .int .i64 nl] 57)).alloc (.cells #[.int .i64 0, .string ⟨#[]⟩, .string ⟨#[]⟩, .string ⟨#[]⟩] 40)).heap.size = w.heap.size + 2 := by simp
  obtain ⟨W1, hW1⟩ : ∃ W1, (w.alloc (.cells #[.string x0, .string x1, .string x2, .int .i64 nl] 57)).alloc (.cells #[.int .i64 0, .string ⟨#[]⟩, .string ⟨#[]⟩, .string ⟨#[]⟩] 40) = W1 := ⟨_, rfl⟩
  rw [hW1] at hB1 hB2 hR1 hs1 ⊢
  clear hW1
  have HS := hidE (fun (W' : World) (h : Below W1.heap.size W1 W') => box4r (w := w) (w' := W') (a := .string x0) (b := .string x1) (c := .string x2) (d := .int .i64 nl) (T := 57) (by
    have := hB2.trans (h.mono (by omega))
    simpa using this))
  rename_i Qx Kx hKx
  have HK : Hid (∀ (b3 : Nat) (W : World), Below W1.heap.size W1 W → W.heap[b3]? = some (.cells #[.int .i64 k, .string x1, .string ⟨#[]⟩, .string ⟨#[]⟩] 40 (0, 0)) → w.heap.size + 2 ≤ b3 →
      Kx { tmps := #[.agg #[.string x0, .string x1, .string x2, .int .i64 nl], .pointer (some ⟨w.heap.size, 0, none⟩), .pointer (some ⟨w.heap.size + 1, 0, none⟩), .pointer (some ⟨b3, 0, none⟩), .pointer (some ⟨w.heap.size, 0, none⟩), .pointer (some ⟨w.heap.size, 0, none⟩), .string x0, .int .i64 k, .pointer (some ⟨w.heap.size, 0, none⟩), .pointer (some ⟨w.heap.size, 1, none⟩), .string x1, .agg #[.int .i64 k, .string x1, .string ⟨#[]⟩, .string ⟨#[]⟩], undef, undef, undef, undef, undef, undef, undef, undef, undef, undef, undef, undef], defers := [] } W) := by
    intro b3 W hBW hb3 hge
    refine hKx _ _ ?_
    obtain ⟨q0, q1, q2, q3⟩ := HS.out W hBW
    have hrb : W.heap[w.heap.size + 1]? = some (.cells #[.int .i64 0, .string ⟨#[]⟩, .string ⟨#[]⟩, .string ⟨#[]⟩] 40 (0, 0)) := by rw [hBW.block _ (by omega)]; exact hR1
    have k0 := cell_of_row W b3 0 _ _ _ hb3
    have k1 := cell_of_row W b3 1 _ _ _ hb3
    have k2 := cell_of_row W b3 2 _ _ _ hb3
    have k3 := cell_of_row W b3 3 _ _ _ hb3
    have f2 : W.frozen? ⟨b3, 2, none⟩ = false := by simp [World.frozen?, hb3]
    have f3 : W.frozen? ⟨b3, 3, none⟩ = false := by simp [World.frozen?, hb3]
    by_cases h5 : k = 5
    · subst h5
      have hm : mkOp 5 x1 x2 = ⟨5, x1, x2, ⟨#[]⟩⟩ := rfl
      clear hm
      have hsr : ∀ v, (W.setCell ⟨b3, 2, none⟩ v).heap[w.heap.size + 1]? = some (.cells #[.int .i64 0, .string ⟨#[]⟩, .string ⟨#[]⟩, .string ⟨#[]⟩] 40 (0, 0)) := fun v => by
        rw [setCell_eq_setRow W b3 2 _ _ (0, 0) v hb3, setRow_other W b3 (w.heap.size + 1) _ (by omega)]; exact hrb
      have hsb : (W.setCell ⟨b3, 2, none⟩ (.string x2)).heap[b3]? = some (.cells #[.int .i64 5, .string x1, .string x2, .string ⟨#[]⟩] 40 (0, 0)) := by
        rw [setCell_eq_setRow W b3 2 _ _ (0, 0) (.string x2) hb3]; exact setRow_heap W b3 _ _ _ (0, 0) hb3
      have hos : OnlyB b3 W (W.setCell ⟨b3, 2, none⟩ (.string x2)) := by rw [setCell_eq_setRow W b3 2 _ _ (0, 0) (.string x2) hb3]; exact OnlyB.setRow b3 W _
      have hBf := hos.below (hB1.trans (hBW.mono hB1.size)) (by omega)
      have hrf := hsr (.string x2)
      obtain ⟨Wf, hWf⟩ : ∃ Wf, W.setCell ⟨b3, 2, none⟩ (.string x2) = Wf := ⟨_, rfl⟩
      rw [hWf] at hsb hBf hrf
      have j0 := cell_of_row Wf b3 0 _ _ _ hsb
      have j1 := cell_of_row Wf b3 1 _ _ _ hsb
      have j2 := cell_of_row Wf b3 2 _ _ _ hsb
      have j3 := cell_of_row Wf b3 3 _ _ _ hsb
      obtain ⟨⟨r0, r0'⟩, r1, r2, r3⟩ := set4_rules hrf
      have r1a := fun u => (r1 u).1
      have r1b := fun u => (r1 u).2
      have r2a := fun u x => (r2 u x).1
      have r2b := fun u x => (r2 u x).2
      have r3a := fun u x y => (r3 u x y).1
      have r3b := fun u x y => (r3 u x y).2
      clear r1 r2 r3 hos hsr hKx
      have s4 := set4_is hrf (.int .i64 5) (.string x1) (.string x2) (.string ⟨#[]⟩)
      have hBs := s4.1.below hBf (by omega)
      have z0 := cell_of_row _ (w.heap.size + 1) 0 _ _ _ s4.2
      have z1 := cell_of_row _ (w.heap.size + 1) 1 _ _ _ s4.2
      have z2 := cell_of_row _ (w.heap.size + 1) 2 _ _ _ s4.2
      have z3 := cell_of_row _ (w.heap.size + 1) 3 _ _ _ s4.2
      go_wp2
      exact bodyPost_ret (v := .agg #[.int .i64 5, .string x1, .string x2, .string ⟨#[]⟩]) (by simp [results, Tryd.results65, go_sem, z0, z1, z2, z3]) rfl ⟨rfl, hBs⟩
    · have hm : mkOp k x1 x2 = ⟨k, x1, ⟨#[]⟩, x2⟩ := by unfold mkOp; rw [if_neg h5]
      have hsr : ∀ v, (W.setCell ⟨b3, 3, none⟩ v).heap[w.heap.size + 1]? = some (.cells #[.int .i64 0, .string ⟨#[]⟩, .string ⟨#[]⟩, .string ⟨#[]⟩] 40 (0, 0)) := fun v => by
        rw [setCell_eq_setRow W b3 3 _ _ (0, 0) v hb3, setRow_other W b3 (w.heap.size + 1) _ (by omega)]; exact hrb
      have hsb : (W.setCell ⟨b3, 3, none⟩ (.string x2)).heap[b3]? = some (.cells #[.int .i64 k, .string x1, .string ⟨#[]⟩, .string x2] 40 (0, 0)) := by
        rw [setCell_eq_setRow W b3 3 _ _ (0, 0) (.string x2) hb3]; exact setRow_heap W b3 _ _ _ (0, 0) hb3
      have hos : OnlyB b3 W (W.setCell ⟨b3, 3, none⟩ (.string x2)) := by rw [setCell_eq_setRow W b3 3 _ _ (0, 0) (.string x2) hb3]; exact OnlyB.setRow b3 W _
      have hBf := hos.below (hB1.trans (hBW.mono hB1.size)) (by omega)
      have hrf := hsr (.string x2)
      obtain ⟨Wf, hWf⟩ : ∃ Wf, W.setCell ⟨b3, 3, none⟩ (.string x2) = Wf := ⟨_, rfl⟩
      rw [hWf] at hsb hBf hrf
      have j0 := cell_of_row Wf b3 0 _ _ _ hsb
      have j1 := cell_of_row Wf b3 1 _ _ _ hsb
      have j2 := cell_of_row Wf b3 2 _ _ _ hsb
      have j3 := cell_of_row Wf b3 3 _ _ _ hsb
      obtain ⟨⟨r0, r0'⟩, r1, r2, r3⟩ := set4_rules hrf
      have r1a := fun u => (r1 u).1
      have r1b := fun u => (r1 u).2
      have r2a := fun u x => (r2 u x).1
      have r2b := fun u x => (r2 u x).2
      have r3a := fun u x y => (r3 u x y).1
      have r3b := fun u x y => (r3 u x y).2
      clear r1 r2 r3 hos hsr hKx
      have s4 := set4_is hrf (.int .i64 k) (.string x1) (.string ⟨#[]⟩) (.string x2)
      have hBs := s4.1.below hBf (by omega)
      have z0 := cell_of_row _ (w.heap.size + 1) 0 _ _ _ s4.2
      have z1 := cell_of_row _ (w.heap.size + 1) 1 _ _ _ s4.2
      have z2 := cell_of_row _ (w.heap.size + 1) 2 _ _ _ s4.2
      have z3 := cell_of_row _ (w.heap.size + 1) 3 _ _ _ s4.2
      go_wp2
      exact bodyPost_ret (v := .agg #[.int .i64 k, .string x1, .string ⟨#[]⟩, .string x2]) (by simp [results, Tryd.results65, go_sem, z0, z1, z2, z3]) rfl ⟨by rw [hm], hBs⟩
  refine wp_region_held_drew (S := fun W' => Below W1.heap.size W1 W') (by kernel_rfl) ((Below.refl _ W1).drew) (fun hS0 => ?_)
  refine wpAnyH_take (i := 0) (v := ?_) rfl (by kernel_rfl) (by kernel_rfl) (by kernel_rfl) (fun _ _ _ h => h) (Or.inl ⟨by rfl, ?_⟩) hS0 ?_
  rotate_left 1
  · intro w' hw'; obtain ⟨q0, q1, q2, q3⟩ := HS.out w' hw'; go_simp; first | done | with_reducible rfl
  refine wpAnyH_take (i := 1) (v := ?_) rfl (by kernel_rfl) (by kernel_rfl) (by kernel_rfl) (fun _ _ _ h => h) (Or.inl ⟨by rfl, ?_⟩) hS0 ?_
  rotate_left 1
  · intro w' hw'; obtain ⟨q0, q1, q2, q3⟩ := HS.out w' hw'; go_simp; first | done | with_reducible rfl
  refine wpAnyH_take (i := 2) (v := ?_) rfl (by kernel_rfl) (by kernel_rfl) (by kernel_rfl) (fun _ _ _ h => h) (Or.inl ⟨by rfl, ?_⟩) hS0 ?_
  rotate_left 1
  · intro w' hw'; obtain ⟨q0, q1, q2, q3⟩ := HS.out w' hw'; go_simp; first | done | with_reducible rfl
  refine wpAnyH_take (i := 4) (v := ?_) rfl (by kernel_rfl) (by kernel_rfl) (by kernel_rfl) (fun _ _ _ h => h) (Or.inl ⟨by rfl, ?_⟩) hS0 ?_
  rotate_left 1
  · intro w' hw'; obtain ⟨q0, q1, q2, q3⟩ := HS.out w' hw'; go_simp; first | done | with_reducible rfl
  refine wpAnyH_take (i := 5) (v := ?_) rfl (by kernel_rfl) (by kernel_rfl) (by kernel_rfl) (fun _ _ _ h => h) (Or.inl ⟨by rfl, ?_⟩) hS0 ?_
  rotate_left 1
  · intro w' hw'; obtain ⟨q0, q1, q2, q3⟩ := HS.out w' hw'; go_simp; first | done | with_reducible rfl
  refine wpAnyH_take (i := 6) (v := ?_) rfl (by kernel_rfl) (by kernel_rfl) (by kernel_rfl) (fun _ _ _ h => h) (Or.inl ⟨by rfl, ?_⟩) hS0 ?_
  rotate_left 1
  · intro w' hw'; obtain ⟨q0, q1, q2, q3⟩ := HS.out w' hw'; go_simp; first | done | with_reducible rfl
  refine wpAnyH_ready (rs := [3, 8]) (by kernel_rfl) (by simp) (AllReadyH.cons rfl (fun K hK => ?_) (AllReadyH.cons rfl (fun K hK => ?_) AllReadyH.nil))
  · go_simp
    go_wp2_with (first | (go_at_call 99; refine (HC.out _ (hB1.trans (hS0.mono hB1.size))).mono ?_; rintro e w2 ⟨rfl, hB2'⟩) | fail)
    have hS2 : Below W1.heap.size W1 w2 := hS0.trans (hB2'.mono (Nat.le_refl _))
    refine hK.out _ _ hS2 (fun _ => ?_)
    clear hK K
    refine wpAnyH_take (i := 7) (v := ?_) rfl (by kernel_rfl) (by kernel_rfl) (by kernel_rfl) (fun _ _ _ h => h) (Or.inl ⟨by rfl, ?_⟩) hS2 ?_
    rotate_left 1
    · intro w' hw'; go_simp; first | done | with_reducible rfl
    refine wpAnyH_ready (rs := [8]) (by kernel_rfl) (by simp) (AllReadyH.cons rfl (fun K hK => ?_) AllReadyH.nil)
    go_simp
    have hS3 := hS2.alloc hS2.size (.cells #[.int .i64 0, .string ⟨#[]⟩, .string ⟨#[]⟩, .string ⟨#[]⟩] 40)
    refine hK.out _ _ hS3 (fun _ => ?_)
    clear hK K
    have hS4 := hS2.alloc hS2.size (.cells #[.int .i64 k, .string x1, .string ⟨#[]⟩, .string ⟨#[]⟩] 40)
    refine wpAnyH_ready (rs := [9]) (by kernel_rfl) (by simp) (AllReadyH.cons rfl (fun K hK => ?_) AllReadyH.nil)
    go_simp
    refine hK.out _ _ hS4 (fun _ => ?_)
    clear hK K
    refine wpAnyH_done (by kernel_rfl) ?_ _
    exact HK.out w2.heap.size _ hS4 (heap_alloc_new w2 (.cells #[.int .i64 k, .string x1, .string ⟨#[]⟩, .string ⟨#[]⟩] 40)) (by have := hS2.size; omega)
  · go_simp
    have hS3 : Below W1.heap.size W1 (W1.alloc (.cells #[.int .i64 0, .string ⟨#[]⟩, .string ⟨#[]⟩, .string ⟨#[]⟩] 40)).drew := ((Below.refl _ W1).alloc (Nat.le_refl _) _).drew
    refine hK.out _ _ hS3 (fun _ => ?_)
    clear hK K
    refine wpAnyH_ready (rs := [3]) (by kernel_rfl) (by simp) (AllReadyH.cons rfl (fun K hK => ?_) AllReadyH.nil)
    go_simp
    go_wp2_with (first | (go_at_call 99; refine (HC.out _ (hB1.trans (hS3.mono hB1.size))).mono ?_; rintro e w2 ⟨rfl, hB2'⟩) | fail)
    have hS2 : Below W1.heap.size W1 w2 := hS3.trans (hB2'.mono hS3.size)
    have hz : w2.heap[W1.heap.size]? = some (.cells #[.int .i64 0, .string ⟨#[]⟩, .string ⟨#[]⟩, .string ⟨#[]⟩] 40 (0, 0)) := by
      rw [hB2'.block W1.heap.size (show W1.heap.size < (W1.alloc (.cells #[.int .i64 0, .string ⟨#[]⟩, .string ⟨#[]⟩, .string ⟨#[]⟩] 40)).heap.size by simp)]
      exact heap_alloc_new W1 (.cells #[.int .i64 0, .string ⟨#[]⟩, .string ⟨#[]⟩, .string ⟨#[]⟩] 40)
    rw [hs1] at hz
    refine hK.out _ _ hS2 (fun _ => ?_)
    clear hK K
    refine wpAnyH_take (i := 7) (v := ?_) rfl (by kernel_rfl) (by kernel_rfl) (by kernel_rfl) (fun _ _ _ h => h) (Or.inl ⟨by rfl, ?_⟩) hS2 ?_
    rotate_left 1
    · intro w' hw'; go_simp; first | done | with_reducible rfl
    obtain ⟨⟨r0, r0'⟩, r1, r2, r3⟩ := set4_rules hz
    have r1a := fun u => (r1 u).1
    have r1b := fun u => (r1 u).2
    have r2a := fun u x => (r2 u x).1
    have r2b := fun u x => (r2 u x).2
    have r3a := fun u x y => (r3 u x y).1
    have r3b := fun u x y => (r3 u x y).2
    clear r1 r2 r3
    have s4 := set4_is hz (.int .i64 k) (.string x1) (.string ⟨#[]⟩) (.string ⟨#[]⟩)
    have hS4 := s4.1.below hS2 (by omega)
    refine wpAnyH_ready (rs := [9]) (by kernel_rfl) (by simp) (AllReadyH.cons rfl (fun K hK => ?_) AllReadyH.nil)
    go_simp
    refine hK.out _ _ hS4 (fun _ => ?_)
    clear hK K
    refine wpAnyH_done (by kernel_rfl) ?_ _
    exact HK.out (w.heap.size + 2) _ hS4 s4.2 (Nat.le_refl _)

theorem clone_op (s : ByteArray) (hs : s.size ≤ 16777217) (w : World) :
    Calls Tryd.prog 77 #[.string s] w fun e w' => e = .returned (.string s) ∧ Below w.heap.size w w' := by
  go_enter Tryd.func77, Tryd.ntmps77
  go_wp2_with (first | (go_at_call 103; refine (sClone_any _ _ (by omega)).mono ?_; rintro e w' ⟨rfl, hB⟩) | fail)
  go_ret
  exact ⟨rfl, hB⟩

set_option maxHeartbeats 3200000 in
set_option maxRecDepth 100000 in
theorem freshOp_any (k : Int) (p t x : ByteArray) (w : World) (hp : p.size ≤ 16777217) (ht : t.size ≤ 16777217) (hx : x.size ≤ 16777217) :
    Calls Tryd.prog 66 #[.agg #[.int .i64 k, .string p, .string t, .string x]] w fun r w' => r = .returned (.agg #[.int .i64 k, .string p, .string t, .string x]) ∧ Below w.heap.size w w' := by
  have C1 := hidE (fun W => clone_op p hp W)
  have C2 := hidE (fun W => clone_op t ht W)
  have C3 := hidE (fun W => clone_op x hx W)
  clear hp ht hx
  go_enter Tryd.func66, Tryd.ntmps66
  go_wp2
  have hB1 : Below w.heap.size w ((w.alloc (.cells #[.int .i64 k, .string p, .string t, .string x] 40)).alloc (.cells #[.int .i64 0, .string ⟨#[]⟩, .string ⟨#[]⟩, .string ⟨#[]⟩] 40)) := ((Below.refl _ w).alloc (Nat.le_refl _) _).alloc (by simp) _
  have hB2 : Below (w.heap.size + 1) (w.alloc (.cells #[.int .i64 k, .string p, .string t, .string x] 40)) ((w.alloc (.cells #[.int .i64 k, .string p, .string t, .string x] 40)).alloc (.cells #[.int .i64 0, .string ⟨#[]⟩, .string ⟨#[]⟩, .string ⟨#[]⟩] 40)) := by
    have := (Below.refl _ (w.alloc (.cells #[.int .i64 k, .string p, .string t, .string x] 40))).alloc (Nat.le_refl _) (.cells #[.int .i64 0, .string ⟨#[]⟩, .string ⟨#[]⟩, .string ⟨#[]⟩] 40)
    simpa using this
  have hR1 : ((w.alloc (.cells #[.int .i64 k, .string p, .string t, .string x] 40)).alloc (.cells #[.int .i64 0, .string ⟨#[]⟩, .string ⟨#[]⟩, .string ⟨#[]⟩] 40)).heap[w.heap.size + 1]? = some (.cells #[.int .i64 0, .string ⟨#[]⟩, .string ⟨#[]⟩, .string ⟨#[]⟩] 40 (0, 0)) := by
    have := heap_alloc_new (w.alloc (.cells #[.int .i64 k, .string p, .string t, .string x] 40)) (.cells #[.int .i64 0, .string ⟨#[]⟩, .string ⟨#[]⟩, .string ⟨#[]⟩] 40)
    simpa using this
  have hs1 : ((w.alloc (.cells #[.int .i64 k, .string p, .string t, .string x] 40)).alloc (.cells #[.int .i64 0, .string ⟨#[]⟩, .string ⟨#[]⟩, .string ⟨#[]⟩] 40)).heap.size = w.heap.size + 2 := by simp
  obtain ⟨W1, hW1⟩ : ∃ W1, (w.alloc (.cells #[.int .i64 k, .string p, .string t, .string x] 40)).alloc (.cells #[.int .i64 0, .string ⟨#[]⟩, .string ⟨#[]⟩, .string ⟨#[]⟩] 40) = W1 := ⟨_, rfl⟩
  rw [hW1] at hB1 hB2 hR1 hs1 ⊢
  clear hW1
  have HS := hidE (fun (W' : World) (h : Below W1.heap.size W1 W') => box4r (w := w) (w' := W') (a := .int .i64 k) (b := .string p) (c := .string t) (d := .string x) (T := 40) (by
    have := hB2.trans (h.mono (by omega))
    simpa using this))
  have HF := hidE (fun (W' : World) (h : Below W1.heap.size W1 W') => show W'.heap[w.heap.size + 1]? = some (.cells #[.int .i64 0, .string ⟨#[]⟩, .string ⟨#[]⟩, .string ⟨#[]⟩] 40 (0, 0)) from by rw [h.block _ (by omega)]; exact hR1)
  refine wp_region_held_drew (S := fun W' => Below (w.heap.size + 1) (w.alloc (.cells #[.int .i64 k, .string p, .string t, .string x] 40)) W') (by kernel_rfl) (hB2.trans (((Below.refl W1.heap.size W1).drew).mono (by omega))) (fun hS0 => ?_)
  have HS' := hidE (fun (W' : World) (h : Below (w.heap.size + 1) (w.alloc (.cells #[.int .i64 k, .string p, .string t, .string x] 40)) W') => box4r (w := w) (w' := W') (a := .int .i64 k) (b := .string p) (c := .string t) (d := .string x) (T := 40) (by simpa using h))
  have hT0 : Below W1.heap.size W1 W1.drew := (Below.refl _ W1).drew
  refine wpAnyH_take (i := 0) (v := ?_) rfl (by kernel_rfl) (by kernel_rfl) (by kernel_rfl) (fun _ _ _ h => h) (Or.inl ⟨by rfl, ?_⟩) hS0 ?_
  rotate_left 1
  · intro w' hw'; obtain ⟨q0, q1, q2, q3⟩ := HS'.out w' hw'; go_simp; first | done | with_reducible rfl
  refine wpAnyH_take (i := 1) (v := ?_) rfl (by kernel_rfl) (by kernel_rfl) (by kernel_rfl) (fun _ _ _ h => h) (Or.inl ⟨by rfl, ?_⟩) hS0 ?_
  rotate_left 1
  · intro w' hw'; obtain ⟨q0, q1, q2, q3⟩ := HS'.out w' hw'; go_simp; first | done | with_reducible rfl
  refine wpAnyH_take (i := 2) (v := ?_) rfl (by kernel_rfl) (by kernel_rfl) (by kernel_rfl) (fun _ _ _ h => h) (Or.inl ⟨by rfl, ?_⟩) hS0 ?_
  rotate_left 1
  · intro w' hw'; obtain ⟨q0, q1, q2, q3⟩ := HS'.out w' hw'; go_simp; first | done | with_reducible rfl
  refine wpAnyH_take (i := 3) (v := ?_) rfl (by kernel_rfl) (by kernel_rfl) (by kernel_rfl) (fun _ _ _ h => h) (Or.inl ⟨by rfl, ?_⟩) hS0 ?_
  rotate_left 1
  · intro w' hw'; obtain ⟨q0, q1, q2, q3⟩ := HS'.out w' hw'; go_simp; first | done | with_reducible rfl
  refine wpAnyH_take (i := 5) (v := ?_) rfl (by kernel_rfl) (by kernel_rfl) (by kernel_rfl) (fun _ _ _ h => h) (Or.inl ⟨by rfl, ?_⟩) hS0 ?_
  rotate_left 1
  · intro w' hw'; obtain ⟨q0, q1, q2, q3⟩ := HS'.out w' hw'; go_simp; first | done | with_reducible rfl
  refine wpAnyH_take (i := 6) (v := ?_) rfl (by kernel_rfl) (by kernel_rfl) (by kernel_rfl) (fun _ _ _ h => h) (Or.inl ⟨by rfl, ?_⟩) hS0 ?_
  rotate_left 1
  · intro w' hw'; obtain ⟨q0, q1, q2, q3⟩ := HS'.out w' hw'; go_simp; first | done | with_reducible rfl
  refine wpAnyH_take (i := 8) (v := ?_) rfl (by kernel_rfl) (by kernel_rfl) (by kernel_rfl) (fun _ _ _ h => h) (Or.inl ⟨by rfl, ?_⟩) hS0 ?_
  rotate_left 1
  · intro w' hw'; obtain ⟨q0, q1, q2, q3⟩ := HS'.out w' hw'; go_simp; first | done | with_reducible rfl
  refine wpAnyH_take (i := 9) (v := ?_) rfl (by kernel_rfl) (by kernel_rfl) (by kernel_rfl) (fun _ _ _ h => h) (Or.inl ⟨by rfl, ?_⟩) hS0 ?_
  rotate_left 1
  · intro w' hw'; obtain ⟨q0, q1, q2, q3⟩ := HS'.out w' hw'; go_simp; first | done | with_reducible rfl
  refine wpAnyH_ready (rs := [4]) (by kernel_rfl) (by simp) (AllReadyH.cons rfl (fun K hK => ?_) AllReadyH.nil)
  go_simp
  go_wp2_with (first | (go_at_call 77; refine (C1.out _).mono ?_; rintro e w1 ⟨rfl, hB1'⟩) | fail)
  have hT1 : Below W1.heap.size W1 w1 := hT0.trans (hB1'.mono hT0.size)
  have hS1 : Below (w.heap.size + 1) (w.alloc (.cells #[.int .i64 k, .string p, .string t, .string x] 40)) w1 := hB2.trans (hT1.mono (by omega))
  refine hK.out _ _ hS1 (fun _ => ?_)
  clear hK K
  refine wpAnyH_ready (rs := [7]) (by kernel_rfl) (by simp) (AllReadyH.cons rfl (fun K hK => ?_) AllReadyH.nil)
  go_simp
  go_wp2_with (first | (go_at_call 77; refine (C2.out _).mono ?_; rintro e w2 ⟨rfl, hB2'⟩) | fail)
  have hT2 : Below W1.heap.size W1 w2 := hT1.trans (hB2'.mono hT1.size)
  have hS2 : Below (w.heap.size + 1) (w.alloc (.cells #[.int .i64 k, .string p, .string t, .string x] 40)) w2 := hB2.trans (hT2.mono (by omega))
  refine hK.out _ _ hS2 (fun _ => ?_)
  clear hK K
  refine wpAnyH_ready (rs := [10]) (by kernel_rfl) (by simp) (AllReadyH.cons rfl (fun K hK => ?_) AllReadyH.nil)
  go_simp
  go_wp2_with (first | (go_at_call 77; refine (C3.out _).mono ?_; rintro e w3 ⟨rfl, hB3'⟩) | fail)
  have hT3 : Below W1.heap.size W1 w3 := hT2.trans (hB3'.mono hT2.size)
  have hS3 : Below (w.heap.size + 1) (w.alloc (.cells #[.int .i64 k, .string p, .string t, .string x] 40)) w3 := hB2.trans (hT3.mono (by omega))
  refine hK.out _ _ hS3 (fun _ => ?_)
  clear hK K
  refine wpAnyH_take (i := 11) (v := ?_) rfl (by kernel_rfl) (by kernel_rfl) (by kernel_rfl) (fun _ _ _ h => h) (Or.inl ⟨by rfl, ?_⟩) hS3 ?_
  rotate_left 1
  · intro w' hw'; go_simp; first | done | with_reducible rfl
  have hz := HF.out _ hT3
  obtain ⟨⟨r0, r0'⟩, r1, r2, r3⟩ := set4_rules hz
  have r1a := fun u => (r1 u).1
  have r1b := fun u => (r1 u).2
  have r2a := fun u x => (r2 u x).1
  have r2b := fun u x => (r2 u x).2
  have r3a := fun u x y => (r3 u x y).1
  have r3b := fun u x y => (r3 u x y).2
  clear r1 r2 r3
  have s4 := set4_is hz (.int .i64 k) (.string p) (.string t) (.string x)
  have hSf := s4.1.below hS3 (Nat.le_refl _)
  have hBf := s4.1.below (hB1.trans (hT3.mono hB1.size)) (by omega)
  have z0 := cell_of_row _ (w.heap.size + 1) 0 _ _ _ s4.2
  have z1 := cell_of_row _ (w.heap.size + 1) 1 _ _ _ s4.2
  have z2 := cell_of_row _ (w.heap.size + 1) 2 _ _ _ s4.2
  have z3 := cell_of_row _ (w.heap.size + 1) 3 _ _ _ s4.2
  refine wpAnyH_ready (rs := [12]) (by kernel_rfl) (by simp) (AllReadyH.cons rfl (fun K hK => ?_) AllReadyH.nil)
  go_simp
  refine hK.out _ _ hSf (fun _ => ?_)
  clear hK K
  refine wpAnyH_done (by kernel_rfl) ?_ _
  go_wp2
  exact bodyPost_ret (v := .agg #[.int .i64 k, .string p, .string t, .string x]) (by simp [results, Tryd.results66, go_sem, z0, z1, z2, z3]) rfl ⟨rfl, hBf⟩
end Go.Proofs.YtgkfhcpegdlejaaDoor
