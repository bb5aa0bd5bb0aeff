/-
  The walk of the program's own OpRead.
-/
import Derived.Test.YtgkfhcpegdlejaaDoorHRdOpI
import Derived.Test.YtgkfhcpegdlejaaDoorHPk02
namespace Go.Proofs.YtgkfhcpegdlejaaDoor
open Go.RowKit Go.Lib

abbrev opAgg (o : O) : Value := .agg #[.int .i64 o.k, .string o.p, .string o.t, .string o.x]
def zeroO : O := ⟨0, ⟨#[]⟩, ⟨#[]⟩, ⟨#[]⟩⟩
/-- What the scan of a line tells. -/
theorem scan_one (s : ByteArray) (R : List (List (List UInt8))) (h : scanL 1 (LB s ++ [10]) [] [] [] = some R) : ∃ ws, R = [ws] ∧ LB s = joinL ws := by
  obtain ⟨e1, e2, e3⟩ := scan_sound 1 _ [] [] [] R (fun _ h => by simp at h) (fun _ h => by simp at h) (by simp) (fun _ h => by simp at h) (by simp) h
  match R, e1, e3 with
  | [], e1, _ => simp [aheadL, linesL] at e1
  | [ws], e1, _ =>
    refine ⟨ws, rfl, ?_⟩
    have e4 : LB s ++ [10] = joinL ws ++ [10] := by simpa [aheadL, linesL] using e1
    exact List.append_cancel_right e4

theorem own_one {w : World} {base : Nat} {v : Value} {ws : List (List UInt8)} (h : w.ownsRow base 57 4 v [ws].length (rowL [ws])) :
    ∃ g cap, v = .slice (some ⟨g, 0, none⟩) 1 cap ∧ w.cell? ⟨g, 0, none⟩ = some (.string (nthL ws 0)) ∧ w.cell? ⟨g, 1, none⟩ = some (.string (nthL ws 1)) ∧ w.cell? ⟨g, 2, none⟩ = some (.string (nthL ws 2)) ∧ w.cell? ⟨g, 3, none⟩ = some (.int .i64 (ws.length : Nat)) := by
  have hc := fun (g : Nat) (hg : v.ownBlock = some g) => World.ownsRow.cells h hg
  rcases h.2 with ⟨rfl, e⟩ | ⟨g, cap, cur, rfl, _⟩
  · simp at e
  · have ha : ∀ j, (⟨g, 0, none⟩ : Addr).add j = ⟨g, j, none⟩ := fun j => by unfold Addr.add; split <;> simp_all
    have h0 := hc g rfl 0 _ rfl
    have h1 := hc g rfl 1 _ rfl
    have h2 := hc g rfl 2 _ rfl
    have h3 := hc g rfl 3 _ rfl
    rw [ha] at h0 h1 h2 h3
    exact ⟨g, cap, rfl, h0, h1, h2, h3⟩
/-- A block that lies below, behind two calls and a box between. -/
theorem box_keep {b : Nat} {o n : Obj} {w1 w2 w3 : World} (h : w1.heap[b]? = some o) (h2 : Below w1.heap.size w1 w2) (h3 : Below (w2.alloc n).heap.size (w2.alloc n) w3) : w3.heap[b]? = some o := by
  have hl : b < w1.heap.size := (Array.getElem?_eq_some_iff.1 h).1
  have h2s := h2.size
  rw [h3.block b (by simp; omega), (World.grownBy_alloc w2 n none).block b (by omega) (by simp), h2.block b hl]
  exact h
set_option maxHeartbeats 3200000 in
set_option maxRecDepth 100000 in
theorem iOpRead_any (s : ByteArray) (hs : s.size ≤ 16777216) (w : World) (hw : OpTab w) :
    Calls Tryd.prog 26 #[.string s] w fun r w' => r = .returned (.tuple #[opAgg ((progOp s).getD zeroO), .bool (progOp s).isSome]) ∧ Below w.heap.size w w' := by
  have hz10 : (s ++ (⟨#[10]⟩ : ByteArray)).size = s.size + 1 := by rw [ByteArray.size_append]; rfl
  have hB0 : Below w.heap.size w (w.alloc (.cells #[.int .i64 0, .string ⟨#[]⟩, .string ⟨#[]⟩, .string ⟨#[]⟩] 40)) := (Below.refl _ w).alloc (Nat.le_refl _) _
  have hR0 := heap_alloc_new w (.cells #[.int .i64 0, .string ⟨#[]⟩, .string ⟨#[]⟩, .string ⟨#[]⟩] 40)
  have hL := linesOf_any (s ++ ⟨#[10]⟩) 1 (by omega) (by omega) (w.alloc (.cells #[.int .i64 0, .string ⟨#[]⟩, .string ⟨#[]⟩, .string ⟨#[]⟩] 40))
  have hlb : LB (s ++ (⟨#[10]⟩ : ByteArray)) = LB s ++ [10] := lb_app _ _
  rw [hlb] at hL
  have HL := hidE hL
  have HW := hidE hw
  have HB0 := hidE hB0
  have HR0 := hidE hR0
  clear hL hw hB0 hR0 hlb
  have q0 : s.size + 1 ≤ 16777217 := by omega
  cases hsc : scanL 1 (LB s ++ [10]) [] [] [] with
  | none =>
    have hp : progOp s = none := by unfold progOp; rw [hsc]
    rw [hp]
    rw [hsc] at HL
    clear hsc hp
    go_enter Tryd.func26, Tryd.ntmps26
    go_wp2_with (first | (go_at_call 36; refine HL.out.mono ?_; rintro e w1 ⟨v1, rfl, hB1, -⟩; have hz1 := (hB1.block w.heap.size (by simp)).trans HR0.out; obtain ⟨⟨r0, r0'⟩, r1, r2, r3⟩ := set4_rules hz1; have r1a := fun u => (r1 u).1; have r1b := fun u => (r1 u).2; have r2a := fun u x => (r2 u x).1; have r2b := fun u x => (r2 u x).2; have r3a := fun u x y => (r3 u x y).1; have r3b := fun u x y => (r3 u x y).2; clear r1 r2 r3) | fail)
    have hB1' := HB0.out.trans (hB1.mono (by simp))
    have s4 := set4_is hz1 (.int .i64 0) (.string ⟨#[]⟩) (.string ⟨#[]⟩) (.string ⟨#[]⟩)
    have hBs := s4.1.below hB1' (Nat.le_refl _)
    have z0 := cell_of_row _ w.heap.size 0 _ _ _ s4.2
    have z1 := cell_of_row _ w.heap.size 1 _ _ _ s4.2
    have z2 := cell_of_row _ w.heap.size 2 _ _ _ s4.2
    have z3 := cell_of_row _ w.heap.size 3 _ _ _ s4.2
    exact bodyPost_ret (v := .tuple #[opAgg zeroO, .bool false]) (by simp [results, Tryd.results26, go_sem, z0, z1, z2, z3, zeroO]) rfl ⟨rfl, hBs⟩
  | some R =>
    obtain ⟨ws, rfl, hj⟩ := scan_one s R hsc
    have hn : ∀ i, (nthL ws i).size ≤ 16777216 := fun i => by have h1 := nth_le (ws := ws) i; rw [← hj, lb_len] at h1; omega
    obtain ⟨o, ho⟩ : ∃ o, mkOp (opKind (nthL ws 0)) (nthL ws 1) (nthL ws 2) = o := ⟨_, rfl⟩
    have hp : progOp s = if opB o = true then some o else none := by unfold progOp; rw [hsc]; dsimp only; rw [ho]
    have hzo : o.p.size ≤ 16777216 ∧ o.t.size ≤ 16777216 ∧ o.x.size ≤ 16777216 := by
      rw [← ho]; unfold mkOp
      split
      · exact ⟨hn 1, hn 2, Nat.zero_le _⟩
      · exact ⟨hn 1, Nat.zero_le _, hn 2⟩
    have HO := hidE (fun (W : World) (h : OpTab W) => lineOp_any ws W h)
    rw [ho] at HO
    rw [hsc] at HL
    clear hsc hj hn ho
    obtain ⟨k, p, t, x⟩ := o
    obtain ⟨hp1, hp2, hp3⟩ := hzo
    have HK := hidE (fun W => iOpOk_any W k p t x hp1 hp2)
    have HF := hidE (fun W => freshOp_any k p t x W (Nat.le_succ_of_le hp1) (Nat.le_succ_of_le hp2) (Nat.le_succ_of_le hp3))
    rw [fit_op] at HK
    clear hp1 hp2 hp3
    cases hb : opB ⟨k, p, t, x⟩ with
    | false =>
      rw [hb] at HK
      rw [if_neg (by simp [hb])] at hp
      rw [hp]
      clear hp hb
      go_enter Tryd.func26, Tryd.ntmps26
      go_wp2_with (first
        | (go_at_call 36; refine HL.out.mono ?_; rintro e w1 ⟨v1, rfl, hB1, hown⟩; have hz1 := (hB1.block w.heap.size (by simp)).trans HR0.out; have hB1' := HB0.out.trans (hB1.mono (by simp)); obtain ⟨g1, cap1, rfl, c0, c1, c2, c3⟩ := own_one (hown _ rfl); clear hown)
        | (go_at_call 65; refine (HO.out _ (HW.out.below hB1')).mono ?_; rintro e w2 ⟨rfl, hB2⟩; clear c0 c1 c2 c3)
        | (go_at_call 28; refine (HK.out _).mono ?_; rintro e w3 ⟨rfl, hB3⟩; have hz3 := box_keep hz1 hB2 hB3; obtain ⟨⟨r0, r0'⟩, r1, r2, r3⟩ := set4_rules hz3; have r1a := fun u => (r1 u).1; have r1b := fun u => (r1 u).2; have r2a := fun u x => (r2 u x).1; have r2b := fun u x => (r2 u x).2; have r3a := fun u x y => (r3 u x y).1; have r3b := fun u x y => (r3 u x y).2; clear r1 r2 r3)
        | fail)
      have hB3' := (hB1'.trans (hB2.mono hB1'.size))
      have hB3'' := (hB3'.alloc hB3'.size (.cells #[.int .i64 k, .string p, .string t, .string x] 40)).trans (hB3.mono (by have := hB3'.size; simp; omega))
      have s4 := set4_is hz3 (.int .i64 0) (.string ⟨#[]⟩) (.string ⟨#[]⟩) (.string ⟨#[]⟩)
      have hBs := s4.1.below hB3'' (Nat.le_refl _)
      have z0 := cell_of_row _ w.heap.size 0 _ _ _ s4.2
      have z1 := cell_of_row _ w.heap.size 1 _ _ _ s4.2
      have z2 := cell_of_row _ w.heap.size 2 _ _ _ s4.2
      have z3 := cell_of_row _ w.heap.size 3 _ _ _ s4.2
      exact bodyPost_ret (v := .tuple #[opAgg zeroO, .bool false]) (by simp [results, Tryd.results26, go_sem, z0, z1, z2, z3, zeroO]) rfl ⟨rfl, hBs⟩
    | true =>
      rw [hb] at HK
      rw [if_pos hb] at hp
      rw [hp]
      clear hp hb
      go_enter Tryd.func26, Tryd.ntmps26
      go_wp2_with (first
        | (go_at_call 36; refine HL.out.mono ?_; rintro e w1 ⟨v1, rfl, hB1, hown⟩; have hz1 := (hB1.block w.heap.size (by simp)).trans HR0.out; have hB1' := HB0.out.trans (hB1.mono (by simp)); obtain ⟨g1, cap1, rfl, c0, c1, c2, c3⟩ := own_one (hown _ rfl); clear hown)
        | (go_at_call 65; refine (HO.out _ (HW.out.below hB1')).mono ?_; rintro e w2 ⟨rfl, hB2⟩; clear c0 c1 c2 c3)
        | (go_at_call 28; refine (HK.out _).mono ?_; rintro e w3 ⟨rfl, hB3⟩; have hz3 := box_keep hz1 hB2 hB3; have hbx := box4r (w := w2) (w' := w3) (T := 40) hB3; obtain ⟨d0, d1, d2, d3⟩ := hbx)
        | (go_at_call 66; refine (HF.out _).mono ?_; rintro e w4 ⟨rfl, hB4⟩; have hz4 := (hB4.block w.heap.size (Array.getElem?_eq_some_iff.1 hz3).1).trans hz3; obtain ⟨⟨r0, r0'⟩, r1, r2, r3⟩ := set4_rules hz4; have r1a := fun u => (r1 u).1; have r1b := fun u => (r1 u).2; have r2a := fun u x => (r2 u x).1; have r2b := fun u x => (r2 u x).2; have r3a := fun u x y => (r3 u x y).1; have r3b := fun u x y => (r3 u x y).2; clear r1 r2 r3)
        | fail)
      have hB3' := (hB1'.trans (hB2.mono hB1'.size))
      have hB3'' := (hB3'.alloc hB3'.size (.cells #[.int .i64 k, .string p, .string t, .string x] 40)).trans (hB3.mono (by have := hB3'.size; simp; omega))
      have hB4' := hB3''.trans (hB4.mono hB3''.size)
      have s4 := set4_is hz4 (.int .i64 k) (.string p) (.string t) (.string x)
      have hBs := s4.1.below hB4' (Nat.le_refl _)
      have z0 := cell_of_row _ w.heap.size 0 _ _ _ s4.2
      have z1 := cell_of_row _ w.heap.size 1 _ _ _ s4.2
      have z2 := cell_of_row _ w.heap.size 2 _ _ _ s4.2
      have z3 := cell_of_row _ w.heap.size 3 _ _ _ s4.2
      exact bodyPost_ret (v := .tuple #[.agg #[.int .i64 k, .string p, .string t, .string x], .bool true]) (by simp [results, Tryd.results26, go_sem, z0, z1, z2, z3]) rfl ⟨rfl, hBs⟩
end Go.Proofs.YtgkfhcpegdlejaaDoor
