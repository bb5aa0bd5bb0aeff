/-
  The walks of the program's own functions: levels, the last stroke, the stem, up and name.
-/
import Derived.Test.YtenlibefdefjmaaDoorHFresh
namespace Go.Proofs.YtenlibefdefjmaaDoor
open Go.RowKit Go.Shelf Go.Lib

attribute [local go_sem] Oper.semAt_some

set_option maxHeartbeats 1000000 in
set_option maxRecDepth 100000 in
theorem lastStroke_any (s : ByteArray) (hs : s.size ≤ 16777216) (w : World) :
    Calls Tryd.prog 47 #[.string s] w fun e w' => e = .returned (.int .i64 (lastS s)) ∧ Below w.heap.size w w' := by
  refine (callsIn_wide (n := 3)).1 ?_
  refine callsIn_of_wp_marks Tryd.func47 rfl trivial ?_ rfl
  simp only [Tryd.ntmps47, List.size_toArray, List.length_cons, List.length_nil, Nat.reduceAdd, Nat.reduceSub, Array.replicate_succ, Array.replicate_zero, List.push_toArray, List.append_toArray, List.nil_append, List.cons_append]
  gi_wp2_with (refine ⟨trivial, ?_⟩; gi_at_call 36; refine (names_in Fence.wide _ trivial rfl _ _).mono ?_; rintro e w' ⟨rfl, rfl⟩)
  have c0 := cellNew w (.int .i64 (-1)) 3
  have f0 := frozenNew w (.int .i64 (-1)) 3
  have c2 := cellNew (w.alloc (.cells #[.int .i64 (-1)] 3)) (.string s) 72
  simp only [World.size_alloc] at c2
  have hB0 : Below w.heap.size w ((w.alloc (.cells #[.int .i64 (-1)] 3)).alloc (.cells #[.string s] 72)) := ((Below.refl _ w).alloc (Nat.le_refl _) _).alloc (by simp) _
  refine wpIn_rangeFunc_ownF rfl (by omega) (gf := 46) (lb := #[.pointer (some ⟨w.heap.size + 1, 0, none⟩)]) rfl trivial (enters_of Tryd.func46 (by kernel_rfl) rfl)
    (names_stops Fence.wide _ trivial rfl (by omega) (w.heap.size + 1) s (by omega) _ (by simp) c2) Kpt.t Kpt.b (Below.refl _ _) (fun _ => rfl)
    (fun pre W => (W.cell? ⟨w.heap.size, 0, none⟩ = some (.int .i64 (lastOf pre)) ∧ W.frozen? ⟨w.heap.size, 0, none⟩ = false) ∧ Below w.heap.size w W)
    (fun _ _ _ => False)
    (OwnFrom.and (Own.from (fun s A B row hs hg hr => ⟨cell_kept hs.1 hg hr, (frozen_kept hs.1 hg hr).trans hs.2⟩) _) (ownFrom_below (Nat.le_refl _) (by simp; omega)))
    (fun _ _ _ _ _ hs _ _ => hs)
    ⟨⟨cellOn _ c0, frozenOn _ c0 f0⟩, hB0⟩
    (fun x => { tmps := #[.string s, undef, .int .i64 0, .pointer (some ⟨w.heap.size, 0, none⟩), .int .i64 x.1, .string s, .func (.func 46) #[] #[.pointer (some ⟨w.heap.size + 1, 0, none⟩)], .int .i64 x.1, .string x.2, undef, undef], defers := [] }) ?assign ?body ?done ?stop
  case assign =>
    intro l x W K hK
    gi_wp2
    exact hK
  case body =>
    rintro l pre ⟨k, nm⟩ W ⟨⟨hl, hfl⟩, hB⟩ hlen
    gi_wp2
    exact ⟨KeepsOthers.setCell _ _ _, kpt_setCell _ _ _ _ (by simp), ⟨(World.cell?_setCell_same' _ _ _ (by rw [hl]; rfl)).trans (by rw [lastOf_snoc]), by rw [World.frozen?_setCell]; exact hfl⟩, hB.setCell (p := ⟨w.heap.size, 0, none⟩) (Nat.le_refl _) _⟩
  case done =>
    rintro D ys W hD rfl ⟨⟨hc, _⟩, hB⟩ hK
    gi_wp2
    refine ⟨by simp, .inl ⟨_, _, rfl, run_takeDeferred hK, ?_⟩⟩
    exact ⟨_, results_tmp rfl _ _ _, rfl, hB.trans (belowK_b (w := w) (Nat.le_refl _) W D _ _ (by simp at hD; omega) hK rfl rfl)⟩
  case stop =>
    rintro D c pre W _ _ h _
    exact h.elim

theorem iPathUp_any (s : ByteArray) (hs : s.size ≤ 16777216) (w : World) :
    Calls Tryd.prog 42 #[.string s] w fun e w' => e = .returned (.string (upS s)) ∧ Below w.heap.size w w' := by
  cases hb : pathB s with
  | true =>
    have hl := lastS_range s hb
    by_cases h0 : lastS s = 0
    · go_enter Tryd.func42, Tryd.ntmps42
      go_wp2_with (first | (go_at_call 35; refine (ok_any _ (by omega) _).mono ?_; rintro e w1 ⟨rfl, hB1⟩) | (go_at_call 47; refine (lastStroke_any _ (by omega) _).mono ?_; rintro e w2 ⟨rfl, hB2⟩))
      go_ret
      exact ⟨ret_str (by unfold upS; rw [hb, if_pos rfl, if_pos h0]), hB1.trans (hB2.mono hB1.size)⟩
    · have h0' : (lastS s == 0) = false := by rw [beq_eq_false_iff_ne]; exact h0
      have hz : (s.extract 0 (lastS s).toNat).size ≤ 281474976710656 := by rw [ByteArray.size_extract]; omega
      go_enter Tryd.func42, Tryd.ntmps42
      go_wp2_with (first | (go_at_call 35; refine (ok_any _ (by omega) _).mono ?_; rintro e w1 ⟨rfl, hB1⟩) | (go_at_call 47; refine (lastStroke_any _ (by omega) _).mono ?_; rintro e w2 ⟨rfl, hB2⟩) | (go_at_call 48; refine (fresh_any _ hz _).mono ?_; rintro e w3 ⟨rfl, hB3⟩))
      go_ret
      exact ⟨ret_str (by unfold upS; rw [hb, if_pos rfl, if_neg h0]), (hB1.trans (hB2.mono hB1.size)).trans (hB3.mono (Nat.le_trans hB1.size hB2.size))⟩
  | false =>
    go_enter Tryd.func42, Tryd.ntmps42
    go_wp2_with (first | (go_at_call 35; refine (ok_any _ (by omega) _).mono ?_; rintro e w1 ⟨rfl, hB1⟩))
    go_ret
    exact ⟨ret_str (by unfold upS; rw [hb]; rfl), hB1⟩

theorem iPathName_any (s : ByteArray) (hs : s.size ≤ 16777216) (w : World) :
    Calls Tryd.prog 43 #[.string s] w fun e w' => e = .returned (.string (nmS s)) ∧ Below w.heap.size w w' := by
  cases hb : pathB s with
  | true =>
    have hl := lastS_range s hb
    have hz : (s.extract (lastS s + 1).toNat s.size).size ≤ 281474976710656 := by rw [ByteArray.size_extract]; omega
    go_enter Tryd.func43, Tryd.ntmps43
    go_wp2_with (first | (go_at_call 35; refine (ok_any _ (by omega) _).mono ?_; rintro e w1 ⟨rfl, hB1⟩) | (go_at_call 47; refine (lastStroke_any _ (by omega) _).mono ?_; rintro e w2 ⟨rfl, hB2⟩) | (go_at_call 48; refine (fresh_any _ hz _).mono ?_; rintro e w3 ⟨rfl, hB3⟩))
    go_ret
    exact ⟨ret_str (by unfold nmS; rw [hb, if_pos rfl]), (hB1.trans (hB2.mono hB1.size)).trans (hB3.mono (Nat.le_trans hB1.size hB2.size))⟩
  | false =>
    go_enter Tryd.func43, Tryd.ntmps43
    go_wp2_with (first | (go_at_call 35; refine (ok_any _ (by omega) _).mono ?_; rintro e w1 ⟨rfl, hB1⟩))
    go_ret
    exact ⟨ret_str (by unfold nmS; rw [hb]; rfl), hB1⟩
end Go.Proofs.YtenlibefdefjmaaDoor
