/-
  What the walks of the laws share.
-/
import Derived.Test.YtgbchekmojjckaaImpl3
import Derived.Test.YtgbchekmojjckaaSpec2
import Derived.Test.YtgbchekmojjckaaDraw
import Derived.Test.YtgbchekmojjckaaFacts2
namespace Go.Proofs.Ytgbchekmojjckaa
open Go.RowKit Go.Lib

theorem iPathOk_any (s : ByteArray) (hs : s.size ≤ 4611686018427387904) (w : World) :
    Calls Try.prog 14 #[.string s] w fun e w' => e = .returned (.bool (pathB s)) ∧ Below w.heap.size w w' := by
  go_enter Try.func14, Try.ntmps14
  go_wp2_with (go_at_call 30; refine (ok_any _ hs _).mono ?_; rintro e w' ⟨rfl, hB⟩)
  go_ret
  exact ⟨rfl, hB⟩

theorem upS_no {s : ByteArray} (h : pathB s = false) : upS s = ⟨#[]⟩ := by unfold upS; rw [h]; rfl
theorem nmS_no {s : ByteArray} (h : pathB s = false) : nmS s = ⟨#[]⟩ := by unfold nmS; rw [h]; rfl
theorem levS_no {s : ByteArray} (h : pathB s = false) : levS s = 0 := by unfold levS; rw [h]; rfl
theorem levS_range (s : ByteArray) : 0 ≤ levS s ∧ levS s ≤ 3 := by
  unfold levS
  split
  · rename_i h
    unfold pathB okItems at h
    rw [Bool.and_eq_true, decide_eq_true_eq] at h
    omega
  · omega
theorem nmS_size (s : ByteArray) : (nmS s).size ≤ s.size := by
  unfold nmS
  split
  · rw [ByteArray.size_extract]; omega
  · exact Nat.zero_le _
theorem joinS_size (d n : ByteArray) : (joinS d n).size ≤ d.size + 1 + n.size := by
  unfold joinS
  split
  · unfold joinI stemS
    split
    · rw [ByteArray.size_append, ByteArray.size_append]; show 0 + 1 + n.size ≤ _; omega
    · rw [ByteArray.size_append, ByteArray.size_append]; show d.size + 1 + n.size ≤ _; omega
  · exact Nat.zero_le _

theorem B3 {a b c : World} (h : Below a.heap.size a b) (k : Below b.heap.size b c) : Below a.heap.size a c := h.trans (k.mono h.size)
end Go.Proofs.Ytgbchekmojjckaa
