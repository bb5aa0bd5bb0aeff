/-
  The walks of what the exact laws do with what is done: its size, a copy of the other type.
-/
import Derived.Laws.ResultCell
import Derived.Test.YtmfjdafkgkjidaaDoorHOpOk
namespace Go.Proofs.YtmfjdafkgkjidaaDoor
open Go.RowKit Go.Lib Go.Sort

set_option maxHeartbeats 800000 in
theorem szOp_any (w : World) (k : Int) (p t x : ByteArray) (left : Int) (hl : 0 ≤ left) (hl' : left ≤ 1048576) (hp : p.size ≤ maxLen) (ht : t.size ≤ maxLen) (hx : x.size ≤ maxLen) :
    Calls Tryd.prog 26 #[.agg #[.int .i64 k, .string p, .string t, .string x], .int .i64 left] w fun e w' => ∃ r : Int, e = .returned (.int .i64 r) ∧ r ≤ left ∧ -1 ≤ r ∧ (0 ≤ r → (p.size : Int) ≤ left ∧ (t.size : Int) ≤ left ∧ (x.size : Int) ≤ left) ∧ RowKit.Below w.heap.size w w' := by
  unfold maxLen at hp ht hx
  have hB : ∀ T, RowKit.Below w.heap.size w (w.alloc (.cells #[.int .i64 k, .string p, .string t, .string x] T)) := fun T => (RowKit.Below.refl _ w).alloc (Nat.le_refl _) _
  have HB := hidE hB
  clear hB
  by_cases h1 : (p.size : Int) ≤ left
  · by_cases h2 : (p.size : Int) + (t.size : Int) ≤ left
    · by_cases h3 : (p.size : Int) + (t.size : Int) + (x.size : Int) ≤ left
      · go_enter Tryd.func26, Tryd.ntmps26
        go_wp2
        go_ret
        exact ⟨_, rfl, by omega, by omega, fun _ => ⟨by omega, by omega, by omega⟩, HB.out _⟩
      · go_enter Tryd.func26, Tryd.ntmps26
        go_wp2
        go_ret
        exact ⟨_, rfl, by omega, by omega, fun h => by omega, HB.out _⟩
    · go_enter Tryd.func26, Tryd.ntmps26
      go_wp2
      go_ret
      exact ⟨_, rfl, by omega, by omega, fun h => by omega, HB.out _⟩
  · go_enter Tryd.func26, Tryd.ntmps26
    go_wp2
    go_ret
    exact ⟨_, rfl, by omega, by omega, fun h => by omega, HB.out _⟩

set_option maxHeartbeats 800000 in
theorem toOp_any (w : World) (k : Int) (p t x : ByteArray) :
    Calls Tryd.prog 28 #[.agg #[.int .i64 k, .string p, .string t, .string x]] w fun e w' => e = .returned (.agg #[.int .i64 k, .string p, .string t, .string x]) ∧ RowKit.Below w.heap.size w w' := by
  have hB : ∀ T T' T'', RowKit.Below w.heap.size w (((w.alloc (.cells #[.int .i64 k, .string p, .string t, .string x] T)).alloc (.cells #[.int .i64 k, .string p, .string t, .string x] T')).alloc (.cells #[.int .i64 k, .string p, .string t, .string x] T'')) := fun _ _ _ => (((RowKit.Below.refl _ w).alloc (Nat.le_refl _) _).alloc (by simp) _).alloc (by simp; omega) _
  have HB := hidE hB
  clear hB
  go_enter Tryd.func28, Tryd.ntmps28
  go_wp2
  exact bodyPost_ret (v := .agg #[.int .i64 k, .string p, .string t, .string x]) (by simp [results, Tryd.results28, go_sem]) rfl ⟨rfl, HB.out _ _ _⟩
end Go.Proofs.YtmfjdafkgkjidaaDoor
