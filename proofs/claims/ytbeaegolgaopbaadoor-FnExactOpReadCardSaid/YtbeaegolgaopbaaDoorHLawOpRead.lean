/-
  The walk of the law FnExactOpRead, out of the contracts.
-/
import Derived.Test.YtbeaegolgaopbaaDoorHRdOpS
import Derived.Test.YtbeaegolgaopbaaDoorHRdOpR
namespace Go.Proofs.YtbeaegolgaopbaaDoor
open Go.RowKit Go.Lib

set_option maxHeartbeats 800000 in
set_option maxRecDepth 100000 in
theorem eqOp_same (k : Int) (p t x : ByteArray) (w : World) :
    Calls Tryd.prog 18 #[.agg #[.int .i64 k, .string p, .string t, .string x], .agg #[.int .i64 k, .string p, .string t, .string x]] w fun r w' => r = .returned (.bool true) ∧ Below w.heap.size w w' := by
  have HB : Hid (Below w.heap.size w ((w.alloc (.cells #[.int .i64 k, .string p, .string t, .string x] 34)).alloc (.cells #[.int .i64 k, .string p, .string t, .string x] 34))) := ((Below.refl _ w).alloc (Nat.le_refl _) _).alloc (by simp) _
  have hk : (k != k) = false := by simp
  go_enter Tryd.func18, Tryd.ntmps18
  go_wp2
  go_ret
  exact ⟨rfl, HB.out⟩

set_option maxHeartbeats 800000 in
set_option maxRecDepth 100000 in
theorem walk_fnExactOpRead (s : ByteArray) (w : World) (hw : OpTab w) (hs : s.size ≤ maxLen) :
    Calls Tryd.prog 5 #[.string s] w fun r w' => r = .returned (.bool true) ∧ Below w.heap.size w w' := by
  unfold maxLen at hs
  by_cases hz : s.size ≤ 1048576
  · have HS := hidE (fun W => sOpRead_any s (by omega) W)
    have HI := hidE (fun W h => iOpRead_any s (by omega) W h)
    rw [read_op] at HI
    obtain ⟨o, ho⟩ : ∃ o, (specOp s).getD zeroO = o := ⟨_, rfl⟩
    have ho' : (specOp s).getD zeroOS = o := ho
    obtain ⟨b, hb⟩ : ∃ b, (specOp s).isSome = b := ⟨_, rfl⟩
    rw [ho', hb] at HS
    rw [ho, hb] at HI
    clear ho ho' hb
    obtain ⟨k, p, t, x⟩ := o
    have HQ := hidE (fun W => eqOp_same k p t x W)
    have HW := hidE hw
    clear hw
    have hbb : (b != b) = false := by simp
    go_enter Tryd.func5, Tryd.ntmps5
    go_wp2_with (first
      | (go_at_call 16; refine (HS.out _).mono ?_; rintro e w1 ⟨rfl, hB1⟩)
      | (go_at_call 17; refine (HI.out _ (HW.out.below (hB1.alloc hB1.size _))).mono ?_; rintro e w2 ⟨rfl, hB2⟩; have hB2' := (hB1.alloc hB1.size (.cells #[.int .i64 k, .string p, .string t, .string x] 34)).trans (hB2.mono (by have := hB1.size; simp; omega)); have hB2a := hB2.alloc hB2.size (.cells #[.int .i64 k, .string p, .string t, .string x] 34); obtain ⟨d0, d1, d2, d3⟩ := box4r hB2a)
      | (go_at_call 18; refine (HQ.out _).mono ?_; rintro e w3 ⟨rfl, hB3⟩)
      | fail)
    go_ret
    exact ⟨rfl, (hB2'.alloc hB2'.size _).trans (hB3.mono (by have := hB2'.size; simp; omega))⟩
  · go_enter Tryd.func5, Tryd.ntmps5
    go_wp2
    go_ret
    exact ⟨rfl, Below.refl _ _⟩
end Go.Proofs.YtbeaegolgaopbaaDoor
