/-
  Texts that are cut at a byte.
-/
import Derived.Test.YtbeaegolgaopbaaDoorHRdP
import Derived.Test.YtbeaegolgaopbaaDoorHFacts2
namespace Go.Proofs.YtbeaegolgaopbaaDoor

abbrev BA (l : List UInt8) : ByteArray := ⟨l.toArray⟩
abbrev LB (s : ByteArray) : List UInt8 := s.data.toList
def nthL (ws : List (List UInt8)) (i : Nat) : ByteArray := BA (ws.getD i [])
theorem ba_lb (s : ByteArray) : BA (LB s) = s := by cases s; rfl
theorem lb_inj {s t : ByteArray} (h : LB s = LB t) : s = t := by rw [← ba_lb s, ← ba_lb t, h]
theorem lb_app (s t : ByteArray) : LB (s ++ t) = LB s ++ LB t := by show (s ++ t).data.toList = _; rw [ByteArray.data_append]; simp
theorem lb_len (s : ByteArray) : (LB s).length = s.size := by rw [Array.length_toList]; rfl
theorem lb_nil {s : ByteArray} : LB s = [] ↔ s.size = 0 := by rw [← lb_len, List.length_eq_zero_iff]
theorem lb_extract (s : ByteArray) (f pos : Nat) (_h : pos ≤ s.size) : LB (s.extract f pos) = ((LB s).take pos).drop f := by
  show (s.extract f pos).data.toList = _
  rw [ByteArray.data_extract, Array.toList_extract, List.extract_eq_take_drop, List.drop_take]

def splitL (c0 : UInt8) : List UInt8 → List UInt8 → List (List UInt8)
  | [], cur => [cur]
  | c :: r, cur => if c = c0 then cur :: splitL c0 r [] else splitL c0 r (cur ++ [c])
theorem take_step {s : ByteArray} {c : UInt8} {r : List UInt8} {pos : Nat} (h : c :: r = (LB s).drop pos) : pos < s.size ∧ (LB s).take (pos + 1) = (LB s).take pos ++ [c] ∧ r = (LB s).drop (pos + 1) := by
  have hl : pos < (LB s).length := by
    rcases Nat.lt_or_ge pos (LB s).length with h1 | h1
    · exact h1
    · rw [List.drop_of_length_le h1] at h; cases h
  have h2 := List.drop_eq_getElem_cons hl
  rw [← h] at h2
  injection h2 with e1 e2
  exact ⟨by rw [lb_len] at hl; exact hl, by rw [List.take_succ_eq_append_getElem hl, ← e1], e2⟩
theorem cut_split (c0 : UInt8) (s : ByteArray) : ∀ (l : List UInt8) (pos f : Nat), l = (LB s).drop pos → f ≤ pos → pos ≤ s.size → (cutL c0 s l pos f).map LB = splitL c0 l (((LB s).take pos).drop f)
  | [], pos, f, hl, hf, hp => by
    have hge : s.size ≤ pos := by
      have := congrArg List.length hl
      rw [List.length_drop, lb_len] at this
      simp at this; omega
    obtain rfl : pos = s.size := by omega
    show [LB (s.extract f s.size)] = [_]
    rw [lb_extract s f s.size (Nat.le_refl _)]
  | c :: r, pos, f, hl, hf, hp => by
    obtain ⟨h1, h2, h3⟩ := take_step hl
    unfold cutL splitL
    by_cases hc : c = c0
    · rw [if_pos hc, if_pos hc, List.map_cons, lb_extract s f pos (by omega), cut_split c0 s r (pos + 1) (pos + 1) h3 (Nat.le_refl _) (by omega)]
      congr 2
      exact List.drop_of_length_le (by rw [List.length_take]; omega)
    · rw [if_neg hc, if_neg hc, cut_split c0 s r (pos + 1) f h3 (by omega) (by omega), h2, List.drop_append_of_le_length (by rw [List.length_take, lb_len]; omega)]
theorem cut_is (c0 : UInt8) (s : ByteArray) : (cut c0 s).map LB = splitL c0 (LB s) [] := by
  unfold cut cutAt
  rw [cut_split c0 s _ 0 0 rfl (Nat.le_refl _) (Nat.zero_le _)]
  simp
theorem cutL_le (c0 : UInt8) (s : ByteArray) : ∀ (l : List UInt8) (pos f : Nat) (x : ByteArray), x ∈ cutL c0 s l pos f → x.size ≤ s.size
  | [], pos, f, x, h => by
    simp only [cutL, List.mem_singleton] at h
    subst h; rw [ByteArray.size_extract]; omega
  | c :: r, pos, f, x, h => by
    unfold cutL at h
    split at h
    · rcases List.mem_cons.1 h with rfl | h
      · rw [ByteArray.size_extract]; omega
      · exact cutL_le c0 s r _ _ x h
    · exact cutL_le c0 s r _ _ x h
theorem cut_le (c0 : UInt8) (s x : ByteArray) (h : x ∈ cut c0 s) : x.size ≤ s.size := cutL_le c0 s _ _ _ x h
theorem split_none (c0 : UInt8) : ∀ (w cur : List UInt8), (∀ c ∈ w, c ≠ c0) → splitL c0 w cur = [cur ++ w]
  | [], cur, _ => by simp [splitL]
  | c :: r, cur, h => by
    rw [splitL, if_neg (h c List.mem_cons_self), split_none c0 r (cur ++ [c]) (fun x hx => h x (List.mem_cons_of_mem _ hx))]; simp
theorem split_hit (c0 : UInt8) : ∀ (w t cur : List UInt8), (∀ c ∈ w, c ≠ c0) → splitL c0 (w ++ c0 :: t) cur = (cur ++ w) :: splitL c0 t []
  | [], t, cur, _ => by show splitL c0 (c0 :: t) cur = _; rw [splitL, if_pos rfl]; simp
  | c :: r, t, cur, h => by
    show splitL c0 (c :: (r ++ c0 :: t)) cur = _
    rw [splitL, if_neg (h c List.mem_cons_self), split_hit c0 r t (cur ++ [c]) (fun x hx => h x (List.mem_cons_of_mem _ hx))]; simp
theorem split_join : ∀ (ws : List (List UInt8)), ws ≠ [] → (∀ w ∈ ws, wordL w) → splitL 32 (joinL ws) [] = ws
  | [], h, _ => absurd rfl h
  | [w], _, h => by rw [show joinL [w] = w from rfl, split_none 32 w [] (fun c hc => ((h w (by simp)).2 c hc).1), List.nil_append]
  | w :: v :: r, _, h => by
    show splitL 32 (w ++ 32 :: joinL (v :: r)) [] = _
    rw [split_hit 32 w _ [] (fun c hc => ((h w (by simp)).2 c hc).1), split_join (v :: r) (by simp) (fun x hx => h x (List.mem_cons_of_mem _ hx)), List.nil_append]
theorem join_no10 : ∀ (ws : List (List UInt8)), (∀ w ∈ ws, wordL w) → ∀ c ∈ joinL ws, c ≠ 10
  | [], _, c, hc => by simp [joinL] at hc
  | [w], h, c, hc => ((h w (by simp)).2 c hc).2
  | w :: v :: r, h, c, hc => by
    have hc' : c ∈ w ++ 32 :: joinL (v :: r) := hc
    rcases List.mem_append.1 hc' with hc | hc
    · exact ((h w (by simp)).2 c hc).2
    · rcases List.mem_cons.1 hc with rfl | hc
      · decide
      · exact join_no10 (v :: r) (fun x hx => h x (List.mem_cons_of_mem _ hx)) c hc
theorem split_lines : ∀ (R : List (List (List UInt8))), (∀ x ∈ R, lineOk x) → splitL 10 (linesL R) [] = R.map joinL ++ [[]]
  | [], _ => rfl
  | x :: R, h => by
    show splitL 10 (joinL x ++ [10] ++ linesL R) [] = _
    rw [List.append_assoc]
    show splitL 10 (joinL x ++ 10 :: linesL R) [] = _
    rw [split_hit 10 _ _ [] (join_no10 x (h x List.mem_cons_self).2.2), split_lines R (fun y hy => h y (List.mem_cons_of_mem _ hy)), List.nil_append]
    rfl
theorem split_len (c0 : UInt8) : ∀ (l cur : List UInt8), splitL c0 l cur ≠ []
  | [], _ => by simp [splitL]
  | c :: r, cur => by
    unfold splitL; split
    · simp
    · exact split_len c0 r _

/-- Words of paths and of Data. -/
theorem low_word {c : UInt8} (h : low c = true) : c ≠ 32 ∧ c ≠ 10 := by
  unfold low at h
  simp only [decide_eq_true_eq] at h
  exact ⟨fun e => by subst e; revert h; decide, fun e => by subst e; revert h; decide⟩
theorem path_word {s : ByteArray} (h : pathB s = true) : wordL (LB s) := by
  refine ⟨fun e => ?_, fun c hc => ?_⟩
  · have := (pathB_head s h).1
    have h0 := lb_nil.1 e
    omega
  · obtain ⟨j, hj, rfl⟩ := List.mem_iff_getElem.1 hc
    have hj' : j < s.size := by rw [lb_len] at hj; exact hj
    have hg : s.get! j = (LB s)[j] := by
      rw [get_plus s j hj']; rfl
    rcases path_byte h j hj' with h1 | h1
    · rw [← hg, h1]; decide
    · rw [← hg]; exact low_word h1
theorem data_word {s : ByteArray} (h : dataB s = true) (h0 : s.size ≠ 0) : wordL (LB s) := by
  refine ⟨fun e => h0 (lb_nil.1 e), fun c hc => ?_⟩
  unfold dataB at h
  rw [Bool.and_eq_true] at h
  have h1 := List.all_eq_true.1 h.1 c hc
  unfold dataC at h1
  rw [Bool.or_eq_true] at h1
  rcases h1 with h1 | h1
  · exact low_word h1
  · simp only [decide_eq_true_eq] at h1
    exact ⟨fun e => by subst e; revert h1; decide, fun e => by subst e; revert h1; decide⟩
end Go.Proofs.YtbeaegolgaopbaaDoor
