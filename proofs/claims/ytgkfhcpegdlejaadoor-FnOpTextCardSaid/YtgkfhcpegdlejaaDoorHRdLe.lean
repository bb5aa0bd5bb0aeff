/-
  Sizes of the words of lines.
-/
import Derived.Test.YtgkfhcpegdlejaaDoorHPk01
import Derived.Test.YtgkfhcpegdlejaaDoorHPk02
namespace Go.Proofs.YtgkfhcpegdlejaaDoor

theorem word_le : ∀ (ws : List (List UInt8)) (w : List UInt8), w ∈ ws → w.length ≤ (joinL ws).length
  | [], _, h => by simp at h
  | [v], w, h => by simp at h; subst h; exact Nat.le_refl _
  | v :: u :: r, w, h => by
    have e : (joinL (v :: u :: r)).length = v.length + (1 + (joinL (u :: r)).length) := by
      show (v ++ 32 :: joinL (u :: r)).length = _
      rw [List.length_append, List.length_cons]; omega
    rw [e]
    rcases List.mem_cons.1 h with rfl | h
    · omega
    · have := word_le (u :: r) w h; omega
theorem nth_le {ws : List (List UInt8)} (i : Nat) : (nthL ws i).size ≤ (joinL ws).length := by
  unfold nthL
  rw [← lb_len]
  show (ws.getD i []).length ≤ _
  by_cases h : i < ws.length
  · rw [List.getD_eq_getElem?_getD, List.getElem?_eq_getElem h]; exact word_le ws _ (List.getElem_mem h)
  · rw [List.getD_eq_getElem?_getD, List.getElem?_eq_none (by omega)]; exact Nat.zero_le _
theorem join_le : ∀ (R : List (List (List UInt8))) (ws : List (List UInt8)), ws ∈ R → (joinL ws).length ≤ (linesL R).length
  | [], _, h => by simp at h
  | r :: R, ws, h => by
    have e : linesL (r :: R) = joinL r ++ [10] ++ linesL R := by simp [linesL]
    rw [e, List.length_append, List.length_append]
    rcases List.mem_cons.1 h with rfl | h
    · omega
    · have := join_le R ws h; omega
/-- What the scan of lines tells: no word is longer than the text, and there are no more lines than may be. -/
theorem scan_le {most : Nat} {s : ByteArray} {R : List (List (List UInt8))} (h : scanL most (LB s) [] [] [] = some R) : (∀ ws ∈ R, ∀ i, (nthL ws i).size ≤ s.size) ∧ R.length ≤ most := by
  obtain ⟨e1, _, e3⟩ := scan_sound most _ [] [] [] R (fun _ h => by simp at h) (fun _ h => by simp at h) (by simp) (fun _ h => by simp at h) (by simp) h
  refine ⟨fun ws hw i => ?_, e3⟩
  have h1 := nth_le (ws := ws) i
  have h2 := join_le R ws hw
  have h3 : LB s = linesL R := by rw [← e1]; simp [aheadL, linesL]
  rw [← h3, lb_len] at h2
  omega
end Go.Proofs.YtgkfhcpegdlejaaDoor
