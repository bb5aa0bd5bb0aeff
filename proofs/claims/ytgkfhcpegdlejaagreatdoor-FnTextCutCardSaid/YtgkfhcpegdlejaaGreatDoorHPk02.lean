/-
  Plain facts on paths: joined, moved, and in the order of their bytes.
-/
import Derived.Test.YtgkfhcpegdlejaaGreatDoorHPk01
import Derived.Laws.Cover1
namespace Go.Proofs.YtgkfhcpegdlejaaGreatDoor

/-! ### Joined -/
theorem name_bytes {n : ByteArray} (h : nameB n = true) : ∀ i, i < n.size → low (n.get! i) = true := by
  intro i hi
  unfold nameB at h
  rw [Bool.and_eq_true] at h
  rw [get_plus n i hi]
  exact List.all_eq_true.1 h.2 _ (by rw [show n[i] = (L n)[i]'(by rw [L_len]; exact hi) from rfl]; exact List.getElem_mem _)
theorem low_not {c : UInt8} (h : low c = true) : c ≠ 47 := by
  rintro rfl; revert h; decide
theorem join_parts {d n : ByteArray} (h : joinOk d n = true) : stemOk d = true ∧ nameB n = true ∧ pathB (joinI d n) = true ∧ joinS d n = joinI d n := by
  have h' := h
  unfold joinOk at h
  rw [Bool.and_eq_true, Bool.and_eq_true] at h
  exact ⟨h.1.1, h.1.2, h.2, by unfold joinS; rw [h', if_pos rfl]⟩
theorem join_last {d n : ByteArray} (h : joinOk d n = true) : lastS (joinI d n) = ((stemS d).size : Nat) := by
  obtain ⟨h1, h2, h3, _⟩ := join_parts h
  have hz : (stemS d ++ ⟨#[47]⟩ : ByteArray).size = (stemS d).size + 1 := by rw [ByteArray.size_append]; rfl
  have hzz : (joinI d n).size = (stemS d).size + 1 + n.size := by unfold joinI; rw [ByteArray.size_append, hz]
  refine last_eq h3 _ (by omega) ?_ ?_
  · unfold joinI
    rw [get_app_l _ _ _ (by omega), get_app_r _ _ _ (Nat.le_refl _), Nat.sub_self]; rfl
  · intro j hj hj'
    unfold joinI
    rw [get_app_r _ _ _ (by omega), hz]
    exact low_not (name_bytes h2 _ (by omega))
theorem join_up {d n : ByteArray} (h : joinOk d n = true) : upS (joinI d n) = d ∧ nmS (joinI d n) = n := by
  obtain ⟨h1, h2, h3, _⟩ := join_parts h
  have hl := join_last h
  constructor
  · refine stem_inj (up_facts h3).1 h1 ?_
    rw [(up_facts h3).2.1, hl]
    unfold joinI
    have e : (stemS d ++ ⟨#[47]⟩ ++ n : ByteArray) = stemS d ++ (⟨#[47]⟩ ++ n) := by
      apply L_inj; rw [L_app, L_app, L_app, L_app, List.append_assoc]
    rw [e]
    exact app_ext_l _ _
  · unfold nmS
    rw [h3, if_pos rfl, hl]
    have hz : (stemS d ++ ⟨#[47]⟩ : ByteArray).size = (stemS d).size + 1 := by rw [ByteArray.size_append]; rfl
    have := app_ext_r (stemS d ++ ⟨#[47]⟩) n 0
    rw [hz, ext_all] at this
    exact this
theorem join_inj {d n e o : ByteArray} (h : joinOk d n = true) (k : joinOk e o = true) : joinS e o = joinS d n ↔ (e = d ∧ o = n) := by
  constructor
  · intro q
    rw [(join_parts h).2.2.2, (join_parts k).2.2.2] at q
    have a := join_up h
    have b := join_up k
    rw [q] at b
    exact ⟨b.1.symm.trans a.1, b.2.symm.trans a.2⟩
  · rintro ⟨rfl, rfl⟩; rfl

/-! ### Moved -/
theorem hit_iff (s f : ByteArray) : movHit s f = true ↔ (s = f ∨ Pre s f) := by
  unfold movHit
  rw [Bool.or_eq_true, beq_iff_eq, preB_iff]
  exact ⟨fun h => h.elim (fun h => .inl (toList_inj h)) .inr, fun h => h.elim (fun h => .inl (by rw [h])) .inr⟩
theorem hit_le {s f : ByteArray} (h : movHit s f = true) : f.size ≤ s.size ∧ f ++ s.extract f.size s.size = s := by
  rcases (hit_iff s f).1 h with rfl | h
  · refine ⟨Nat.le_refl _, app_empty _ _ (by rw [size_ext]; omega)⟩
  · refine ⟨Nat.le_of_lt h.1, ?_⟩
    have := glue s f.size
    rw [h.2.1] at this; exact this
theorem rest_size (s f : ByteArray) : (s.extract f.size s.size).size = s.size - f.size := by rw [size_ext]; omega
/-- What is moved lies below where it is moved to, as it lay below where it was. -/
theorem moved_hit {s f t : ByteArray} (h : movHit s f = true) : movHit (movX s f t) t = true := by
  rw [hit_iff]
  unfold movX
  rcases (hit_iff s f).1 h with rfl | h
  · left; exact app_empty _ _ (by rw [rest_size]; omega)
  · right
    have hz := rest_size s f
    refine ⟨by rw [ByteArray.size_append, hz]; have := h.1; omega, app_ext_l _ _, ?_⟩
    rw [get_app_r _ _ _ (Nat.le_refl _), Nat.sub_self, get_ext s f.size s.size 0 (by have := h.1; omega)]
    exact h.2.2
theorem moved_rest (s f t : ByteArray) : (movX s f t).extract t.size (movX s f t).size = s.extract f.size s.size := by
  unfold movX
  have := app_ext_r t (s.extract f.size s.size) 0
  rw [Nat.add_zero, ext_all] at this; exact this
theorem moved_back {s f t : ByteArray} (h : movHit s f = true) : movX (movX s f t) t f = s := by
  unfold movX
  have := moved_rest s f t
  unfold movX at this
  rw [this]
  exact (hit_le h).2
theorem moved_via (s f v t : ByteArray) : movX (movX s f v) v t = movX s f t := by
  have := moved_rest s f v
  show t ++ (movX s f v).extract v.size (movX s f v).size = t ++ s.extract f.size s.size
  rw [this]
theorem moved_same {s f : ByteArray} (t : ByteArray) (h : movHit s f = true) : movX s f t = t ↔ s = f := by
  constructor
  · intro e
    have hz : (movX s f t).size = t.size + (s.size - f.size) := by unfold movX; rw [ByteArray.size_append, rest_size]
    rw [e] at hz
    rcases (hit_iff s f).1 h with r | r
    · exact r
    · have := r.1; omega
  · rintro rfl; unfold movX; exact app_empty _ _ (by rw [rest_size]; omega)
theorem moved_name {s f t : ByteArray} (hs : pathB s = true) (hx : pathB (movX s f t) = true) (h : Pre s f) : nmS (movX s f t) = nmS s := by
  obtain ⟨m, hm, m1, m2, m3⟩ := last_is hs
  have le : f.size ≤ m := by
    rcases Nat.lt_or_ge m f.size with c | c
    · exact absurd h.2.2 (m3 _ c h.1)
    · exact c
  have hz : (movX s f t).size = t.size + (s.size - f.size) := by unfold movX; rw [ByteArray.size_append, rest_size]
  have hg : ∀ j, f.size ≤ j → j < s.size → (movX s f t).get! (t.size + (j - f.size)) = s.get! j := by
    intro j hj hj'
    unfold movX
    rw [get_app_r _ _ _ (by omega), get_ext s f.size s.size _ (by omega)]
    congr 1; omega
  have hl : lastS (movX s f t) = ((t.size + (m - f.size) : Nat) : Int) := by
    refine last_eq hx _ (by omega) ?_ ?_
    · rw [hg m le m1]; exact m2
    · intro j hj hj'
      have := hg (f.size + (j - t.size)) (by omega) (by omega)
      rw [show t.size + (f.size + (j - t.size) - f.size) = j from by omega] at this
      rw [this]
      exact m3 _ (by omega) (by omega)
  unfold nmS
  rw [hs, hx, if_pos rfl, if_pos rfl, hl, hm]
  show (movX s f t).extract (t.size + (m - f.size) + 1) (movX s f t).size = s.extract (m + 1) s.size
  have := app_ext_r t (s.extract f.size s.size) (m - f.size + 1)
  unfold movX
  rw [show t.size + (m - f.size) + 1 = t.size + (m - f.size + 1) from by omega, this, rest_size]
  apply L_inj
  rw [L_ext, L_ext, L_ext, List.drop_take, List.drop_drop, List.take_take]
  congr 1
  · omega
  · congr 1; omega

theorem hit_under {s f : ByteArray} (hs : pathB s = true) (hf : pathB f = true) : movHit s f = ((s.toList == f.toList) || underI s f) := by
  unfold movHit underI; rw [stemOk_path hf, hs, stem_path hf]; rfl
theorem movAll_parts {s f t : ByteArray} (h : movAll s f t = true) : pathB s = true ∧ pathB f = true ∧ pathB t = true := by
  unfold movAll at h; rw [Bool.and_eq_true, Bool.and_eq_true] at h; exact ⟨h.1.1, h.1.2, h.2⟩
theorem movOk_parts {s f t : ByteArray} (h : movOk s f t = true) : movAll s f t = true ∧ (movHit s f = false ∨ pathB (movX s f t) = true) := by
  unfold movOk at h
  rw [Bool.and_eq_true, Bool.or_eq_true, Bool.not_eq_true'] at h; exact h
theorem movS_no {s f t : ByteArray} (h : movOk s f t = false) : movS s f t = ⟨#[]⟩ := by
  cases ha : movAll s f t with
  | false => exact movS_bad ha
  | true =>
    cases hh : movHit s f with
    | false => rw [movOk_stay ha hh] at h; cases h
    | true =>
      rw [movOk_go ha hh] at h
      rw [movS_go ha hh]; unfold ifS; rw [h]; rfl
theorem movS_yes {s f t : ByteArray} (h : movOk s f t = true) (hh : movHit s f = true) : movS s f t = movX s f t ∧ pathB (movX s f t) = true := by
  obtain ⟨ha, hx⟩ := movOk_parts h
  rcases hx with hx | hx
  · rw [hh] at hx; cases hx
  · exact ⟨by rw [movS_go ha hh]; unfold ifS; rw [hx, if_pos rfl], hx⟩
/-- What was moved, moved back, is where it was. -/
theorem mov_back {s f t : ByteArray} (h : movOk s f t = true) (hh : movHit s f = true) : movOk (movX s f t) t f = true ∧ movS (movX s f t) t f = s := by
  obtain ⟨ha, _⟩ := movOk_parts h
  obtain ⟨a1, a2, a3⟩ := movAll_parts ha
  obtain ⟨_, hx⟩ := movS_yes h hh
  have hb : movAll (movX s f t) t f = true := by unfold movAll; rw [hx, a3, a2]; rfl
  have hk := moved_hit (t := t) hh
  rw [movOk_go hb hk, movS_go hb hk, moved_back hh]
  exact ⟨a1, by unfold ifS; rw [a1, if_pos rfl]⟩
/-- Moved by way of another path it is where it is when it is moved at once. -/
theorem mov_via {s f v : ByteArray} (t : ByteArray) (h : movOk s f v = true) (hh : movHit s f = true) : movOk (movX s f v) v t = movOk s f t ∧ movS (movX s f v) v t = movS s f t := by
  obtain ⟨ha, _⟩ := movOk_parts h
  obtain ⟨a1, a2, a3⟩ := movAll_parts ha
  obtain ⟨_, hx⟩ := movS_yes h hh
  have hk := moved_hit (t := v) hh
  cases ht : pathB t with
  | false =>
    have b1 : movAll (movX s f v) v t = false := by unfold movAll; rw [ht, Bool.and_false]
    have b2 : movAll s f t = false := by unfold movAll; rw [ht, Bool.and_false]
    exact ⟨by rw [movOk_bad b1, movOk_bad b2], by rw [movS_bad b1, movS_bad b2]⟩
  | true =>
    have b1 : movAll (movX s f v) v t = true := by unfold movAll; rw [hx, a3, ht]; rfl
    have b2 : movAll s f t = true := by unfold movAll; rw [a1, a2, ht]; rfl
    exact ⟨by rw [movOk_go b1 hk, movOk_go b2 hh, moved_via], by rw [movS_go b1 hk, movS_go b2 hh, moved_via]⟩
theorem movS_size (s f t : ByteArray) : (movS s f t).size ≤ s.size + t.size := by
  unfold movS
  split
  · split
    · unfold ifS
      split
      · unfold movX; rw [ByteArray.size_append, rest_size]; omega
      · exact Nat.zero_le _
    · omega
  · exact Nat.zero_le _

/-! ### The order of bytes -/
theorem path_bytes (s : ByteArray) : ∀ (l : List UInt8) (pos : Nat) (k : Int), l = s.data.toList.drop pos → -1 ≤ k → k < pos → (itemsL s l pos k).all okItem = true →
    ∀ j : Nat, k < j → j < s.size → s.get! j = 47 ∨ low (s.get! j) = true
  | [], pos, k, hl, hk, hk', ha, j, hj, hj' => by
    right
    rw [itemsL, List.all_cons, Bool.and_eq_true] at ha
    have hn := ha.1
    unfold okItem at hn
    rw [Bool.and_eq_true] at hn
    have := name_bytes hn.2 (j - (k + 1).toNat) (by rw [size_ext]; omega)
    rw [get_ext s _ _ _ (by omega)] at this
    rw [show (k + 1).toNat + (j - (k + 1).toNat) = j from by omega] at this
    exact this
  | c :: r, pos, k, hl, hk, hk', ha, j, hj, hj' => by
    have hlt : pos < s.size := by
      rcases Nat.lt_or_ge pos s.size with h | h
      · exact h
      · rw [drop_end s pos (by omega)] at hl; cases hl
    rw [drop_at s pos hlt] at hl
    injection hl with hc hr
    have hg : s.get! pos = c := by rw [get_plus s pos hlt, hc]
    rw [itemsL_cons] at ha
    by_cases h47 : c = 47
    · rw [if_pos h47] at ha
      by_cases hp : 0 < pos
      · rw [if_pos hp, List.all_cons, Bool.and_eq_true] at ha
        rcases Nat.lt_trichotomy j pos with q | q | q
        · right
          have hn := ha.1
          unfold okItem at hn
          rw [Bool.and_eq_true] at hn
          have := name_bytes hn.2 (j - (k + 1).toNat) (by rw [size_ext]; omega)
          rw [get_ext s _ _ _ (by omega)] at this
          rw [show (k + 1).toNat + (j - (k + 1).toNat) = j from by omega] at this
          exact this
        · left; rw [q, hg, h47]
        · exact path_bytes s r (pos + 1) pos hr (by omega) (by omega) ha.2 j (by omega) hj'
      · rw [if_neg hp] at ha
        rcases Nat.lt_or_ge pos j with q | q
        · exact path_bytes s r (pos + 1) pos hr (by omega) (by omega) ha j (by omega) hj'
        · left; rw [show j = pos from by omega, hg, h47]
    · rw [if_neg h47] at ha
      exact path_bytes s r (pos + 1) k hr hk (by omega) ha j hj hj'
theorem path_byte {s : ByteArray} (h : pathB s = true) (j : Nat) (hj : j < s.size) : s.get! j = 47 ∨ low (s.get! j) = true := by
  unfold pathB okItems at h
  rw [Bool.and_eq_true] at h
  exact path_bytes s _ 0 (-1) rfl (by omega) (by omega) h.1 j (by omega) hj
end Go.Proofs.YtgkfhcpegdlejaaGreatDoor

/-
  Texts that are cut at a byte.
-/
namespace Go.Proofs.YtgkfhcpegdlejaaGreatDoor

abbrev BA (l : List UInt8) : ByteArray := ⟨l.toArray⟩
abbrev LB (s : ByteArray) : List UInt8 := s.data.toList
def nthL (ws : List (List UInt8)) (i : Nat) : ByteArray := BA (ws.getD i [])
theorem ba_lb (s : ByteArray) : BA (LB s) = s := by cases s; rfl
theorem lb_inj {s t : ByteArray} (h : LB s = LB t) : s = t := by rw [← ba_lb s, ← ba_lb t, h]
theorem lb_app (s t : ByteArray) : LB (s ++ t) = LB s ++ LB t := by show (s ++ t).data.toList = _; rw [ByteArray.data_append]; simp
theorem lb_len (s : ByteArray) : (LB s).length = s.size := by rw [Array.length_toList]; rfl
theorem lb_nil {s : ByteArray} : LB s = [] ↔ s.size = 0 := by rw [← lb_len, List.length_eq_zero_iff]
theorem lb_extract (s : ByteArray) (f pos : Nat) (_h : pos ≤ s.size) : LB (s.extract f pos) = ((LB s).take pos).drop f := by
  show (s.extract f pos).data.toList = _
  rw [ByteArray.data_extract, Array.toList_extract, List.extract_eq_take_drop, List.drop_take]

def splitL (c0 : UInt8) : List UInt8 → List UInt8 → List (List UInt8)
  | [], cur => [cur]
  | c :: r, cur => if c = c0 then cur :: splitL c0 r [] else splitL c0 r (cur ++ [c])
theorem take_step {s : ByteArray} {c : UInt8} {r : List UInt8} {pos : Nat} (h : c :: r = (LB s).drop pos) : pos < s.size ∧ (LB s).take (pos + 1) = (LB s).take pos ++ [c] ∧ r = (LB s).drop (pos + 1) := by
  have hl : pos < (LB s).length := by
    rcases Nat.lt_or_ge pos (LB s).length with h1 | h1
    · exact h1
    · rw [List.drop_of_length_le h1] at h; cases h
  have h2 := List.drop_eq_getElem_cons hl
  rw [← h] at h2
  injection h2 with e1 e2
  exact ⟨by rw [lb_len] at hl; exact hl, by rw [List.take_succ_eq_append_getElem hl, ← e1], e2⟩
theorem cut_split (c0 : UInt8) (s : ByteArray) : ∀ (l : List UInt8) (pos f : Nat), l = (LB s).drop pos → f ≤ pos → pos ≤ s.size → (cutL c0 s l pos f).map LB = splitL c0 l (((LB s).take pos).drop f)
  | [], pos, f, hl, hf, hp => by
    have hge : s.size ≤ pos := by
      have := congrArg List.length hl
      rw [List.length_drop, lb_len] at this
      simp at this; omega
    obtain rfl : pos = s.size := by omega
    show [LB (s.extract f s.size)] = [_]
    rw [lb_extract s f s.size (Nat.le_refl _)]
  | c :: r, pos, f, hl, hf, hp => by
    obtain ⟨h1, h2, h3⟩ := take_step hl
    unfold cutL splitL
    by_cases hc : c = c0
    · rw [if_pos hc, if_pos hc, List.map_cons, lb_extract s f pos (by omega), cut_split c0 s r (pos + 1) (pos + 1) h3 (Nat.le_refl _) (by omega)]
      congr 2
      exact List.drop_of_length_le (by rw [List.length_take]; omega)
    · rw [if_neg hc, if_neg hc, cut_split c0 s r (pos + 1) f h3 (by omega) (by omega), h2, List.drop_append_of_le_length (by rw [List.length_take, lb_len]; omega)]
theorem cut_is (c0 : UInt8) (s : ByteArray) : (cut c0 s).map LB = splitL c0 (LB s) [] := by
  unfold cut cutAt
  rw [cut_split c0 s _ 0 0 rfl (Nat.le_refl _) (Nat.zero_le _)]
  simp
theorem cutL_le (c0 : UInt8) (s : ByteArray) : ∀ (l : List UInt8) (pos f : Nat) (x : ByteArray), x ∈ cutL c0 s l pos f → x.size ≤ s.size
  | [], pos, f, x, h => by
    simp only [cutL, List.mem_singleton] at h
    subst h; rw [ByteArray.size_extract]; omega
  | c :: r, pos, f, x, h => by
    unfold cutL at h
    split at h
    · rcases List.mem_cons.1 h with rfl | h
      · rw [ByteArray.size_extract]; omega
      · exact cutL_le c0 s r _ _ x h
    · exact cutL_le c0 s r _ _ x h
theorem cut_le (c0 : UInt8) (s x : ByteArray) (h : x ∈ cut c0 s) : x.size ≤ s.size := cutL_le c0 s _ _ _ x h
theorem split_none (c0 : UInt8) : ∀ (w cur : List UInt8), (∀ c ∈ w, c ≠ c0) → splitL c0 w cur = [cur ++ w]
  | [], cur, _ => by simp [splitL]
  | c :: r, cur, h => by
    rw [splitL, if_neg (h c List.mem_cons_self), split_none c0 r (cur ++ [c]) (fun x hx => h x (List.mem_cons_of_mem _ hx))]; simp
theorem split_hit (c0 : UInt8) : ∀ (w t cur : List UInt8), (∀ c ∈ w, c ≠ c0) → splitL c0 (w ++ c0 :: t) cur = (cur ++ w) :: splitL c0 t []
  | [], t, cur, _ => by show splitL c0 (c0 :: t) cur = _; rw [splitL, if_pos rfl]; simp
  | c :: r, t, cur, h => by
    show splitL c0 (c :: (r ++ c0 :: t)) cur = _
    rw [splitL, if_neg (h c List.mem_cons_self), split_hit c0 r t (cur ++ [c]) (fun x hx => h x (List.mem_cons_of_mem _ hx))]; simp
theorem split_join : ∀ (ws : List (List UInt8)), ws ≠ [] → (∀ w ∈ ws, wordL w) → splitL 32 (joinL ws) [] = ws
  | [], h, _ => absurd rfl h
  | [w], _, h => by rw [show joinL [w] = w from rfl, split_none 32 w [] (fun c hc => ((h w (by simp)).2 c hc).1), List.nil_append]
  | w :: v :: r, _, h => by
    show splitL 32 (w ++ 32 :: joinL (v :: r)) [] = _
    rw [split_hit 32 w _ [] (fun c hc => ((h w (by simp)).2 c hc).1), split_join (v :: r) (by simp) (fun x hx => h x (List.mem_cons_of_mem _ hx)), List.nil_append]
theorem join_no10 : ∀ (ws : List (List UInt8)), (∀ w ∈ ws, wordL w) → ∀ c ∈ joinL ws, c ≠ 10
  | [], _, c, hc => by simp [joinL] at hc
  | [w], h, c, hc => ((h w (by simp)).2 c hc).2
  | w :: v :: r, h, c, hc => by
    have hc' : c ∈ w ++ 32 :: joinL (v :: r) := hc
    rcases List.mem_append.1 hc' with hc | hc
    · exact ((h w (by simp)).2 c hc).2
    · rcases List.mem_cons.1 hc with rfl | hc
      · decide
      · exact join_no10 (v :: r) (fun x hx => h x (List.mem_cons_of_mem _ hx)) c hc
theorem split_lines : ∀ (R : List (List (List UInt8))), (∀ x ∈ R, lineOk x) → splitL 10 (linesL R) [] = R.map joinL ++ [[]]
  | [], _ => rfl
  | x :: R, h => by
    show splitL 10 (joinL x ++ [10] ++ linesL R) [] = _
    rw [List.append_assoc]
    show splitL 10 (joinL x ++ 10 :: linesL R) [] = _
    rw [split_hit 10 _ _ [] (join_no10 x (h x List.mem_cons_self).2.2), split_lines R (fun y hy => h y (List.mem_cons_of_mem _ hy)), List.nil_append]
    rfl
theorem split_len (c0 : UInt8) : ∀ (l cur : List UInt8), splitL c0 l cur ≠ []
  | [], _ => by simp [splitL]
  | c :: r, cur => by
    unfold splitL; split
    · simp
    · exact split_len c0 r _

/-- Words of paths and of Data. -/
theorem low_word {c : UInt8} (h : low c = true) : c ≠ 32 ∧ c ≠ 10 := by
  unfold low at h
  simp only [decide_eq_true_eq] at h
  exact ⟨fun e => by subst e; revert h; decide, fun e => by subst e; revert h; decide⟩
theorem path_word {s : ByteArray} (h : pathB s = true) : wordL (LB s) := by
  refine ⟨fun e => ?_, fun c hc => ?_⟩
  · have := (pathB_head s h).1
    have h0 := lb_nil.1 e
    omega
  · obtain ⟨j, hj, rfl⟩ := List.mem_iff_getElem.1 hc
    have hj' : j < s.size := by rw [lb_len] at hj; exact hj
    have hg : s.get! j = (LB s)[j] := by
      rw [get_plus s j hj']; rfl
    rcases path_byte h j hj' with h1 | h1
    · rw [← hg, h1]; decide
    · rw [← hg]; exact low_word h1
theorem data_word {s : ByteArray} (h : dataB s = true) (h0 : s.size ≠ 0) : wordL (LB s) := by
  refine ⟨fun e => h0 (lb_nil.1 e), fun c hc => ?_⟩
  unfold dataB at h
  rw [Bool.and_eq_true] at h
  have h1 := List.all_eq_true.1 h.1 c hc
  unfold dataC at h1
  rw [Bool.or_eq_true] at h1
  rcases h1 with h1 | h1
  · exact low_word h1
  · simp only [decide_eq_true_eq] at h1
    exact ⟨fun e => by subst e; revert h1; decide, fun e => by subst e; revert h1; decide⟩
end Go.Proofs.YtgkfhcpegdlejaaGreatDoor

/-
  Plain facts on the order of bytes of paths.
-/
namespace Go.Proofs.YtgkfhcpegdlejaaGreatDoor

theorem less_app : ∀ (b : List UInt8) (y : UInt8) (r : List UInt8), Op.bytesLess b (b ++ y :: r) = true
  | [], _, _ => rfl
  | h :: b, y, r => by
    show (decide (h < h) || (h == h && Op.bytesLess b (b ++ y :: r))) = true
    rw [less_app b y r, beq_self_eq_true]; simp
theorem less_total : ∀ (a b : List UInt8), Op.bytesLess a b = false → a ≠ b → Op.bytesLess b a = true
  | [], [], _, h => absurd rfl h
  | [], _ :: _, h, _ => by cases h
  | _ :: _, [], _, _ => rfl
  | x :: a, y :: b, h, hne => by
    have h' : (decide (x < y) || (x == y && Op.bytesLess a b)) = false := h
    show (decide (y < x) || (y == x && Op.bytesLess b a)) = true
    rw [Bool.or_eq_false_iff, decide_eq_false_iff_not] at h'
    obtain ⟨h1, h2⟩ := h'
    by_cases e : x = y
    · subst e
      rw [beq_self_eq_true, Bool.true_and] at h2
      rw [less_total a b h2 (fun q => hne (by rw [q])), beq_self_eq_true]; simp
    · have : y < x := by
        rw [UInt8.lt_iff_toNat_lt] at *
        have : x.toNat ≠ y.toNat := fun q => e (UInt8.toNat_inj.1 q)
        omega
      rw [decide_eq_true this]; rfl
theorem less_between : ∀ (b c r : List UInt8), (∀ y ∈ c, 47 ≤ y.toNat) → Op.bytesLess b c = true → Op.bytesLess c (b ++ 47 :: r) = true → ∃ q, c = b ++ 47 :: q
  | [], [], _, _, h, _ => by cases h
  | [], y :: c, r, hc, _, h2 => by
    have h' : (decide (y < 47) || (y == 47 && Op.bytesLess c r)) = true := h2
    rw [Bool.or_eq_true, decide_eq_true_eq, Bool.and_eq_true, beq_iff_eq] at h'
    have h47 := hc y List.mem_cons_self
    rcases h' with h | h
    · rw [UInt8.lt_iff_toNat_lt] at h
      have : (47 : UInt8).toNat = 47 := rfl
      omega
    · exact ⟨c, by rw [h.1]; rfl⟩
  | x :: b, [], _, _, h, _ => by cases h
  | x :: b, y :: c, r, hc, h1, h2 => by
    have h1' : (decide (x < y) || (x == y && Op.bytesLess b c)) = true := h1
    have h2' : (decide (y < x) || (y == x && Op.bytesLess c (b ++ 47 :: r))) = true := h2
    rw [Bool.or_eq_true, decide_eq_true_eq, Bool.and_eq_true, beq_iff_eq] at h1' h2'
    rw [UInt8.lt_iff_toNat_lt] at h1' h2'
    rcases h1' with p | p
    · rcases h2' with q | q
      · omega
      · rw [q.1] at p; omega
    · rcases h2' with q | q
      · rw [p.1] at q; omega
      · obtain ⟨t, ht⟩ := less_between b c r (fun z hz => hc z (List.mem_cons_of_mem _ hz)) p.2 q.2
        exact ⟨t, by rw [p.1, ht]; rfl⟩

theorem pre_list {a b : ByteArray} (h : Pre a b) : ∃ r, L a = L b ++ 47 :: r := by
  obtain ⟨h1, h2, h3⟩ := h
  refine ⟨(L a).drop (b.size + 1), ?_⟩
  rw [get_plus a b.size h1] at h3
  have e : (L a).drop b.size = 47 :: (L a).drop (b.size + 1) := by rw [drop_at a b.size h1, h3]
  rw [← e]
  have e2 : L b = (L a).take b.size := by
    have := congrArg L h2
    rw [L_ext, List.drop_zero, Nat.sub_zero] at this
    exact this.symm
  rw [e2, List.take_append_drop]
theorem list_pre {a b : ByteArray} {r : List UInt8} (h : L a = L b ++ 47 :: r) : Pre a b := by
  have hz : a.size = b.size + (r.length + 1) := by
    rw [← L_len, h, List.length_append, L_len, List.length_cons]
  refine ⟨by omega, ?_, ?_⟩
  · apply L_inj
    rw [L_ext, List.drop_zero, Nat.sub_zero, h, ← L_len b, List.take_left']; rfl
  · rw [gE, h, List.getElem?_append_right (by rw [L_len]; exact Nat.le_refl _), L_len, Nat.sub_self]; rfl
/-- A path stands ahead of all that is below it. -/
theorem order_up {a b : ByteArray} (hb : pathB b = true) (h : underI a b = true) : Op.bytesLess b.toList a.toList = true := by
  obtain ⟨_, _, k⟩ := (underI_iff _ _).1 h
  rw [stem_path hb] at k
  obtain ⟨r, hr⟩ := pre_list k
  rw [Lib.toList_data, Lib.toList_data]
  show Op.bytesLess (L b) (L a) = true
  rw [hr]; exact less_app _ _ _
/-- Nothing else stands between these. -/
theorem order_between {a b c : ByteArray} (hb : pathB b = true) (hc : pathB c = true) (h : underI a b = true) (h1 : Op.bytesLess c.toList b.toList = false) (h2 : ¬ c.toList = b.toList) (h3 : Op.bytesLess c.toList a.toList = true) : underI c b = true := by
  obtain ⟨k1, _, k⟩ := (underI_iff _ _).1 h
  rw [stem_path hb] at k
  obtain ⟨r, hr⟩ := pre_list k
  have h1' := less_total _ _ h1 h2
  rw [Lib.toList_data, Lib.toList_data] at h1' h3
  have h3' : Op.bytesLess (L c) (L b ++ 47 :: r) = true := by rw [← hr]; exact h3
  have hbytes : ∀ y ∈ L c, 47 ≤ y.toNat := by
    intro y hy
    obtain ⟨i, hi, e⟩ := List.getElem_of_mem hy
    rw [L_len] at hi
    have := path_byte hc i hi
    rw [get_plus c i hi] at this
    have e' : c[i] = y := e
    rw [e'] at this
    rcases this with q | q
    · rw [q]; decide
    · unfold low at q; have := (of_decide_eq_true q).1; omega
  obtain ⟨q, hq⟩ := less_between (L b) (L c) r hbytes h1' h3'
  refine (underI_iff _ _).2 ⟨k1, hc, ?_⟩
  rw [stem_path hb]
  exact list_pre hq
end Go.Proofs.YtgkfhcpegdlejaaGreatDoor

/-
  Plain facts on trees as lists of entries: what is at a path, and what a right tree is.
-/
namespace Go.Proofs.YtgkfhcpegdlejaaGreatDoor

/-- What is at a path. -/
def lookE (es : List E) (s : ByteArray) : Option E := es.find? (fun e => decide (e.p = s))
theorem look_mem {es : List E} {s : ByteArray} {e : E} (h : lookE es s = some e) : e ∈ es ∧ e.p = s :=
  ⟨List.mem_of_find?_eq_some h, by have := List.find?_some h; exact of_decide_eq_true this⟩
theorem look_none {es : List E} {s : ByteArray} : lookE es s = none ↔ ∀ e ∈ es, e.p ≠ s := by
  unfold lookE; rw [List.find?_eq_none]; simp
theorem beqL (a b : ByteArray) : (a.toList == b.toList) = decide (a = b) := by
  rw [Bool.eq_iff_iff, beq_iff_eq, decide_eq_true_iff]; exact ⟨toList_inj, fun h => by rw [h]⟩

theorem findL_look (s : ByteArray) : ∀ (es : List E) (k : Nat), (findL s es k = -1 ∧ lookE es s = none) ∨ ∃ (j : Nat) (h : j < es.length), findL s es k = ((k + j : Nat) : Int) ∧ lookE es s = some es[j]
  | [], _ => .inl ⟨rfl, rfl⟩
  | e :: r, k => by
    unfold findL lookE
    rw [beqL, List.find?_cons]
    by_cases h : e.p = s
    · right; refine ⟨0, by simp, ?_, ?_⟩ <;> simp [h]
    · rcases findL_look s r (k + 1) with ⟨h1, h2⟩ | ⟨j, hj, h1, h2⟩
      · left; unfold lookE at h2; simp [h, h1, h2]
      · right; unfold lookE at h2
        refine ⟨j + 1, by simp; omega, ?_, ?_⟩
        · simp [h, h1]; omega
        · simp [h, h2]
theorem getE_look {es : List E} {s : ByteArray} (h : isRoot s = false) : getE es s = ((lookE es s).getD noneE, (lookE es s).isSome) := by
  rcases findL_look s es 0 with ⟨h1, h2⟩ | ⟨j, hj, h1, h2⟩
  · rw [getE_no h h1, h2]; rfl
  · rw [getE_at h hj (by unfold findE; rw [h1]; simp), h2]; rfl
theorem dirE_look (es : List E) (s : ByteArray) : dirE es s = (isRoot s || ((lookE es s).map (·.d)).getD false) := by
  unfold dirE
  rcases findL_look s es 0 with ⟨h1, h2⟩ | ⟨j, hj, h1, h2⟩
  · rw [h2, show findE es s = -1 from h1]
    cases es[((-1 : Int)).toNat]? <;> simp
  · rw [h2, show findE es s = (j : Int) from by unfold findE; rw [h1]; simp]
    have : es[((j : Nat) : Int).toNat]? = some es[j] := by rw [show ((j : Nat) : Int).toNat = j from rfl, List.getElem?_eq_getElem hj]
    rw [this]; simp

/-! ### The order of the bytes -/
def less (a b : ByteArray) : Prop := Op.bytesLess a.toList b.toList = true
theorem less_L {a b : ByteArray} : less a b ↔ Op.bytesLess (L a) (L b) = true := by unfold less; rw [Lib.toList_data, Lib.toList_data]
theorem bless_irrefl : ∀ a : List UInt8, Op.bytesLess a a = false
  | [] => rfl
  | x :: a => by
    show (decide (x < x) || (x == x && Op.bytesLess a a)) = false
    rw [bless_irrefl a]; simp
theorem bless_trans : ∀ a b c : List UInt8, Op.bytesLess a b = true → Op.bytesLess b c = true → Op.bytesLess a c = true
  | [], [], _, h, _ => by cases h
  | [], _ :: _, [], _, h => by cases h
  | [], _ :: _, _ :: _, _, _ => rfl
  | _ :: _, [], _, h, _ => by cases h
  | _ :: _, _ :: _, [], _, h => by cases h
  | x :: a, y :: b, z :: c, h1, h2 => by
    have h1' : (decide (x < y) || (x == y && Op.bytesLess a b)) = true := h1
    have h2' : (decide (y < z) || (y == z && Op.bytesLess b c)) = true := h2
    show (decide (x < z) || (x == z && Op.bytesLess a c)) = true
    rw [Bool.or_eq_true, decide_eq_true_eq, Bool.and_eq_true, beq_iff_eq] at h1' h2' ⊢
    rw [UInt8.lt_iff_toNat_lt] at *
    rcases h1' with p | p
    · rcases h2' with q | q
      · left; omega
      · left; rw [← q.1]; exact p
    · rcases h2' with q | q
      · left; rw [p.1]; exact q
      · right; exact ⟨p.1.trans q.1, bless_trans a b c p.2 q.2⟩
theorem less_irrefl (a : ByteArray) : ¬ less a a := by unfold less; rw [bless_irrefl]; simp
theorem less_trans {a b c : ByteArray} (h : less a b) (k : less b c) : less a c := bless_trans _ _ _ h k
theorem less_or {a b : ByteArray} (h : a ≠ b) : less a b ∨ less b a := by
  by_cases k : less a b
  · exact .inl k
  · exact .inr (less_total _ _ (by unfold less at k; simpa using k) (fun e => h (toList_inj e)))

/-- Two rising lists with the same in them are one. -/
theorem rising_ext {α : Type} {r : α → α → Prop} (irr : ∀ a, ¬ r a a) (tr : ∀ {a b c}, r a b → r b c → r a c) : ∀ (xs ys : List α), xs.Pairwise r → ys.Pairwise r → (∀ a, a ∈ xs ↔ a ∈ ys) → xs = ys
  | [], [], _, _, _ => rfl
  | [], y :: ys, _, _, h => by have := (h y).2 List.mem_cons_self; cases this
  | x :: xs, [], _, _, h => by have := (h x).1 List.mem_cons_self; cases this
  | x :: xs, y :: ys, hx, hy, h => by
    obtain ⟨hx1, hx2⟩ := List.pairwise_cons.1 hx
    obtain ⟨hy1, hy2⟩ := List.pairwise_cons.1 hy
    have e : x = y := by
      rcases List.mem_cons.1 ((h x).1 List.mem_cons_self) with e | h1
      · exact e
      · rcases List.mem_cons.1 ((h y).2 List.mem_cons_self) with e | h2
        · exact e.symm
        · exact absurd (tr (hx1 y h2) (hy1 x h1)) (irr x)
    subst e
    refine congrArg (x :: ·) (rising_ext irr tr xs ys hx2 hy2 fun a => ?_)
    constructor
    · intro ha
      rcases List.mem_cons.1 ((h a).1 (List.mem_cons_of_mem _ ha)) with e | h1
      · subst e; exact absurd (hx1 a ha) (irr a)
      · exact h1
    · intro ha
      rcases List.mem_cons.1 ((h a).2 (List.mem_cons_of_mem _ ha)) with e | h1
      · subst e; exact absurd (hy1 a ha) (irr a)
      · exact h1

/-! ### A right tree -/
structure TrE (es : List E) : Prop where
  path : ∀ e ∈ es, pathB e.p = true
  sort : es.Pairwise (fun a b => less a.p b.p)
  up : ∀ e ∈ es, dirE es (upS e.p) = true
  data : ∀ e ∈ es, dataB e.x = true ∧ (e.d = true → e.x = ⟨#[]⟩)

theorem TrE.nil : TrE [] := ⟨by simp, by simp, by simp, by simp⟩
theorem look_self {es : List E} (h : es.Pairwise (fun a b => less a.p b.p)) {e : E} (he : e ∈ es) : lookE es e.p = some e := by
  cases hl : lookE es e.p with
  | none => exact absurd rfl (look_none.1 hl e he)
  | some f =>
    obtain ⟨hf, hp⟩ := look_mem hl
    by_cases hne : e = f
    · rw [hne]
    · exfalso
      have key : ∀ (l : List E), l.Pairwise (fun a b => less a.p b.p) → e ∈ l → f ∈ l → False := by
        intro l
        induction l with
        | nil => intro _ h; cases h
        | cons x r ih =>
          intro hl he hf
          obtain ⟨h1, h2⟩ := List.pairwise_cons.1 hl
          rcases List.mem_cons.1 he with e1 | e1
          · rcases List.mem_cons.1 hf with e2 | e2
            · exact hne (e1.trans e2.symm)
            · have := h1 f e2; rw [← e1, hp] at this; exact less_irrefl _ this
          · rcases List.mem_cons.1 hf with e2 | e2
            · have := h1 e e1; rw [← e2, hp] at this; exact less_irrefl _ this
            · exact ih h2 e1 e2
      exact key es h he hf
theorem look_iff {es : List E} (h : es.Pairwise (fun a b => less a.p b.p)) (s : ByteArray) (e : E) : lookE es s = some e ↔ e ∈ es ∧ e.p = s :=
  ⟨look_mem, fun ⟨h1, h2⟩ => by rw [← h2]; exact look_self h h1⟩

/-- Two right lists that tell the same of each path are one. -/
theorem look_ext {es fs : List E} (h : es.Pairwise (fun a b => less a.p b.p)) (k : fs.Pairwise (fun a b => less a.p b.p)) (hl : ∀ s, lookE es s = lookE fs s) : es = fs :=
  rising_ext (r := fun a b => less a.p b.p) (fun a => less_irrefl a.p) (fun {_ _ _} => less_trans) es fs h k fun a =>
    ⟨fun ha => (look_mem ((hl a.p).symm.trans (look_self h ha))).1, fun ha => (look_mem ((hl a.p).trans (look_self k ha))).1⟩

theorem dir_look {es : List E} {s : ByteArray} (h : dirE es s = true) : s = ⟨#[47]⟩ ∨ ∃ e, lookE es s = some e ∧ e.d = true := by
  rw [dirE_look, Bool.or_eq_true] at h
  rcases h with h | h
  · exact .inl ((isRoot_iff s).1 h)
  · cases hl : lookE es s with
    | none => rw [hl] at h; cases h
    | some e => rw [hl] at h; exact .inr ⟨e, rfl, h⟩
theorem look_dir {es : List E} {s : ByteArray} (h : s = ⟨#[47]⟩ ∨ ∃ e, lookE es s = some e ∧ e.d = true) : dirE es s = true := by
  rw [dirE_look, Bool.or_eq_true]
  rcases h with h | ⟨e, h, hd⟩
  · exact .inl ((isRoot_iff s).2 h)
  · exact .inr (by rw [h]; exact hd)
theorem TrE.dirOk {es : List E} (T : TrE es) {s : ByteArray} (h : dirE es s = true) : stemOk s = true := by
  rcases dir_look h with rfl | ⟨e, h, _⟩
  · unfold stemOk; rw [root_root]; rfl
  · obtain ⟨h1, h2⟩ := look_mem h
    exact stemOk_path (by rw [← h2]; exact T.path e h1)

theorem look_append (es fs : List E) (s : ByteArray) : lookE (es ++ fs) s = (lookE es s).or (lookE fs s) := by
  unfold lookE; rw [List.find?_append]
theorem dir_append {es fs : List E} {s : ByteArray} (h : dirE es s = true) : dirE (es ++ fs) s = true := by
  rcases dir_look h with e | ⟨e, h, hd⟩
  · exact look_dir (.inl e)
  · exact look_dir (.inr ⟨e, by rw [look_append, h]; rfl, hd⟩)

theorem notEmpty {x : ByteArray} : x.toList.isEmpty = true ↔ x = ⟨#[]⟩ := by
  rw [List.isEmpty_iff]
  exact ⟨fun h => toList_inj (h.trans (by rw [Lib.toList_data])), fun h => by rw [h, Lib.toList_data]⟩
/-- One entry more. -/
theorem tr_snoc {es : List E} {e : E} (T : TrE es) (h1 : pathB e.p = true) (h2 : dataB e.x = true) (h3 : e.d = true → e.x = ⟨#[]⟩) (h4 : ∀ f ∈ es, less f.p e.p) (h5 : dirE es (upS e.p) = true) : TrE (es ++ [e]) where
  path f hf := by
    rcases List.mem_append.1 hf with hf | hf
    · exact T.path f hf
    · rw [List.mem_singleton.1 hf]; exact h1
  sort := by
    rw [List.pairwise_append]
    exact ⟨T.sort, by simp, fun a ha b hb => by rw [List.mem_singleton.1 hb]; exact h4 a ha⟩
  up f hf := by
    rcases List.mem_append.1 hf with hf | hf
    · exact dir_append (T.up f hf)
    · rw [List.mem_singleton.1 hf]; exact dir_append h5
  data f hf := by
    rcases List.mem_append.1 hf with hf | hf
    · exact T.data f hf
    · rw [List.mem_singleton.1 hf]; exact ⟨h2, h3⟩

theorem last_less {es : List E} (h : es.Pairwise (fun a b => less a.p b.p)) {k : Nat} (hk : k < es.length) {s : ByteArray} (hl : es.length = k + 1) (hs : less es[k].p s) : ∀ f ∈ es, less f.p s := by
  intro f hf
  obtain ⟨i, hi, rfl⟩ := List.getElem_of_mem hf
  by_cases e : i = k
  · subst e; exact hs
  · exact less_trans (List.pairwise_iff_getElem.1 h i k hi hk (by omega)) hs

theorem okAt_parts {es : List E} {i : Nat} (hi : i < es.length) : okAt es i = true ↔ pathB es[i].p = true ∧ dataB es[i].x = true ∧ (es[i].d = true → es[i].x = ⟨#[]⟩) ∧ (i = 0 ∨ ∃ h : i - 1 < es.length, less es[i - 1].p es[i].p) ∧ dirE (es.take i) (upS es[i].p) = true := by
  rw [okAt_is hi]
  simp only [Bool.and_eq_true, Bool.or_eq_true, Bool.not_eq_true', Bool.and_eq_false_iff, beq_iff_eq]
  have hi1 : i - 1 < es.length := by omega
  rw [List.getElem?_eq_getElem hi1]
  refine ⟨fun ⟨a, b, c, d, e⟩ => ⟨a, b, fun hd => ?_, ?_, e⟩, fun ⟨a, b, c, d, e⟩ => ⟨a, b, ?_, ?_, e⟩⟩
  · rcases c with c | c
    · rw [hd] at c; cases c
    · exact notEmpty.1 (by simpa using c)
  · rcases d with d | d
    · exact .inl d
    · exact .inr ⟨hi1, d⟩
  · cases hd : es[i].d with
    | false => exact .inl rfl
    | true => exact .inr (by rw [notEmpty.2 (c hd)]; rfl)
  · rcases d with d | ⟨_, d⟩
    · exact .inl d
    · exact .inr d

theorem tr_take {es : List E} : ∀ k, k ≤ es.length → (List.range k).all (okAt es) = true → TrE (es.take k)
  | 0, _, _ => by rw [List.take_zero]; exact TrE.nil
  | k + 1, hk, h => by
    rw [List.range_succ, List.all_append, Bool.and_eq_true] at h
    have T := tr_take k (by omega) h.1
    have hk' : k < es.length := by omega
    obtain ⟨a, b, c, d, e⟩ := (okAt_parts hk').1 (by simpa using h.2)
    rw [List.take_succ_eq_append_getElem hk']
    refine tr_snoc T a b c ?_ e
    rcases d with d | ⟨d1, d⟩
    · subst d; intro f hf; rw [List.take_zero] at hf; cases hf
    · by_cases k0 : k = 0
      · subst k0; intro f hf; rw [List.take_zero] at hf; cases hf
      · exact last_less T.sort (k := k - 1) (by rw [List.length_take]; omega) (by rw [List.length_take]; omega) (by rw [List.getElem_take]; exact d)
theorem treeE_tr {es : List E} (h : treeE es = true) : TrE es ∧ es.length ≤ 16 := by
  unfold treeE at h
  rw [Bool.and_eq_true] at h
  refine ⟨?_, of_decide_eq_true h.1⟩
  have := tr_take es.length (Nat.le_refl _) h.2
  rwa [List.take_length] at this
theorem TrE.treeE {es : List E} (T : TrE es) (hl : es.length ≤ 16) : treeE es = true := by
  unfold Proofs.YtgkfhcpegdlejaaGreatDoor.treeE
  rw [Bool.and_eq_true]
  refine ⟨decide_eq_true hl, ?_⟩
  rw [List.all_eq_true]
  intro i hi
  rw [List.mem_range] at hi
  have hm : es[i] ∈ es := List.getElem_mem hi
  refine (okAt_parts hi).2 ⟨T.path _ hm, (T.data _ hm).1, (T.data _ hm).2, ?_, ?_⟩
  · by_cases i0 : i = 0
    · exact .inl i0
    · exact .inr ⟨by omega, List.pairwise_iff_getElem.1 T.sort (i - 1) i (by omega) hi (by omega)⟩
  · rcases dir_look (T.up _ hm) with e | ⟨e, hl, hd⟩
    · exact look_dir (.inl e)
    · refine look_dir (.inr ⟨e, ?_, hd⟩)
      obtain ⟨he, hp⟩ := look_mem hl
      have hs := T.sort
      obtain ⟨j, hj, rfl⟩ := List.getElem_of_mem he
      have hji : j < i := by
        have hup : pathB (upS es[i].p) = true := by rw [← hp]; exact T.path _ he
        have h1 : less es[j].p es[i].p := by rw [hp]; exact order_up hup (up_under (T.path _ hm))
        rcases Nat.lt_trichotomy j i with h | h | h
        · exact h
        · subst h; exact absurd h1 (less_irrefl _)
        · exact absurd (less_trans h1 (List.pairwise_iff_getElem.1 hs i j hi hj h)) (less_irrefl _)
      rw [← hp]
      refine look_self (hs.sublist (List.take_sublist i es)) ?_
      rw [List.mem_take_iff_getElem]
      exact ⟨j, by omega, rfl⟩
end Go.Proofs.YtgkfhcpegdlejaaGreatDoor

/-
  Plain facts on trees: what is in a directory, and what is below it, in order.
-/
namespace Go.Proofs.YtgkfhcpegdlejaaGreatDoor

theorem bless_pre : ∀ (x a b : List UInt8), Op.bytesLess (x ++ a) (x ++ b) = Op.bytesLess a b
  | [], _, _ => rfl
  | y :: x, a, b => by
    show (decide (y < y) || (y == y && Op.bytesLess (x ++ a) (x ++ b))) = _
    rw [bless_pre x a b]; simp
theorem bless_ext : ∀ (a b r1 r2 : List UInt8), (∀ y ∈ b, 47 < y.toNat) → Op.bytesLess a b = true → (r1 = [] ∨ ∃ r, r1 = 47 :: r) → Op.bytesLess (a ++ r1) (b ++ r2) = true
  | [], [], _, _, _, h, _ => by cases h
  | [], y :: b, r1, r2, hb, _, hr => by
    rcases hr with rfl | ⟨r, rfl⟩
    · rfl
    · show (decide ((47 : UInt8) < y) || _) = true
      have := hb y List.mem_cons_self
      rw [decide_eq_true (by rw [UInt8.lt_iff_toNat_lt]; exact this)]; rfl
  | _ :: _, [], _, _, _, h, _ => by cases h
  | x :: a, y :: b, r1, r2, hb, h, hr => by
    have h' : (decide (x < y) || (x == y && Op.bytesLess a b)) = true := h
    show (decide (x < y) || (x == y && Op.bytesLess (a ++ r1) (b ++ r2))) = true
    rw [Bool.or_eq_true, decide_eq_true_eq, Bool.and_eq_true] at h' ⊢
    rcases h' with p | p
    · exact .inl p
    · exact .inr ⟨p.1, bless_ext a b r1 r2 (fun z hz => hb z (List.mem_cons_of_mem _ hz)) p.2 hr⟩
theorem L_join (p n : ByteArray) : L (joinI p n) = L (stemS p) ++ 47 :: L n := by
  unfold joinI
  rw [L_app, L_app, List.append_assoc]; rfl
theorem name_high {n : ByteArray} (h : nameB n = true) : ∀ y ∈ L n, 47 < y.toNat := by
  intro y hy
  unfold nameB at h
  rw [Bool.and_eq_true, List.all_eq_true] at h
  have := h.2 y hy
  unfold low at this
  have := (of_decide_eq_true this).1; omega
theorem less_join {p n m : ByteArray} : less (joinI p n) (joinI p m) ↔ less n m := by
  rw [less_L, less_L, L_join, L_join, bless_pre, show (47 :: L n) = [47] ++ L n from rfl, show (47 :: L m) = [47] ++ L m from rfl, bless_pre]
theorem join_ok {p n : ByteArray} (hp : stemOk p = true) (hn : nameB n = true) (h : pathB (joinI p n) = true) : joinOk p n = true := by
  unfold joinOk; rw [hp, hn, h]; rfl

/-! ### What is in a directory -/
theorem kid_iff (s : ByteArray) (e : E) : kidB s e = true ↔ upS e.p = s := by
  unfold kidB; rw [beq_iff_eq]; exact ⟨toList_inj, fun h => by rw [h]⟩
theorem kids_mem {es : List E} (T : TrE es) {p : ByteArray} (hp : stemOk p = true) (n : ByteArray) : n ∈ kidsE es p ↔ nameB n = true ∧ ∃ e, lookE es (joinI p n) = some e := by
  unfold kidsE
  rw [List.mem_map]
  constructor
  · rintro ⟨e, he, rfl⟩
    obtain ⟨h1, h2⟩ := List.mem_filter.1 he
    have hu := (kid_iff p e).1 h2
    have hpe := T.path e h1
    refine ⟨(up_facts hpe).2.2.1, e, ?_⟩
    rw [← hu, up_join hpe]; exact look_self T.sort h1
  · rintro ⟨hn, e, h⟩
    obtain ⟨h1, h2⟩ := look_mem h
    have hpe := T.path e h1
    have hj := join_up (join_ok hp hn (by rw [← h2]; exact hpe))
    exact ⟨e, List.mem_filter.2 ⟨h1, (kid_iff p e).2 (by rw [h2]; exact hj.1)⟩, by rw [h2]; exact hj.2⟩
theorem kids_rise {es : List E} (T : TrE es) {p : ByteArray} : (kidsE es p).Pairwise less := by
  unfold kidsE
  rw [List.pairwise_map]
  have h1 := T.sort.filter (kidB p)
  refine h1.imp_of_mem ?_
  intro a b ha hb h
  obtain ⟨a1, a2⟩ := List.mem_filter.1 ha
  obtain ⟨b1, b2⟩ := List.mem_filter.1 hb
  have ea := up_join (T.path a a1)
  have eb := up_join (T.path b b1)
  rw [(kid_iff p a).1 a2] at ea
  rw [(kid_iff p b).1 b2] at eb
  rw [← ea, ← eb] at h
  exact less_join.1 h

/-! ### What is below a directory -/
def bel (es : List E) (p : ByteArray) : List E := es.filter (fun e => underI e.p p)
theorem bel_iff {es : List E} {p : ByteArray} {e : E} : e ∈ bel es p ↔ e ∈ es ∧ underI e.p p = true := List.mem_filter
theorem join_under {p n : ByteArray} (h : joinOk p n = true) : underI (joinI p n) p = true := by
  obtain ⟨h1, h2, h3, _⟩ := join_parts h
  refine (underI_iff _ _).2 ⟨h1, h3, ?_⟩
  exact list_pre (L_join p n)
theorem up_size {s : ByteArray} (h : pathB s = true) : (stemS (upS s)).size < s.size := (up_pre h).1
/-- Whatever is below a directory is in it, or below what is in it. -/
theorem below_kid {es : List E} (T : TrE es) {p : ByteArray} (hp : stemOk p = true) : ∀ (N : Nat) (e : E), e ∈ es → e.p.size ≤ N → underI e.p p = true → ∃ n ∈ kidsE es p, e.p = joinI p n ∨ underI e.p (joinI p n) = true
  | 0, e, he, hN, h => by have := pathB_head _ (T.path e he); omega
  | N + 1, e, he, hN, h => by
    have hpe := T.path e he
    rcases (under_up hpe).1 h with e1 | e1
    · refine ⟨nmS e.p, (kids_mem T hp _).2 ⟨(up_facts hpe).2.2.1, e, ?_⟩, .inl ?_⟩
      · rw [e1, up_join hpe]; exact look_self T.sort he
      · rw [e1, up_join hpe]
    · rcases dir_look (T.up e he) with q | ⟨f, hf, _⟩
      · obtain ⟨_, h2, _⟩ := (underI_iff _ _).1 e1
        rw [q] at h2
        have := path_not_root h2
        rw [root_root] at this; cases this
      · obtain ⟨f1, f2⟩ := look_mem hf
        have hsz := up_size hpe
        rw [stem_path (by rw [← f2]; exact T.path f f1)] at hsz
        obtain ⟨n, hn, k⟩ := below_kid T hp N f f1 (by rw [f2]; omega) (by rw [f2]; exact e1)
        refine ⟨n, hn, .inr ?_⟩
        rcases k with k | k
        · rw [← k, f2]; exact up_under hpe
        · exact under_trans (up_under hpe) (by rw [f2] at k; exact k)

theorem under_list {a b : ByteArray} (hb : pathB b = true) (h : a = b ∨ underI a b = true) : ∃ r, L a = L b ++ r ∧ (r = [] ∨ ∃ q, r = 47 :: q) := by
  rcases h with rfl | h
  · exact ⟨[], by simp, .inl rfl⟩
  · obtain ⟨_, _, k⟩ := (underI_iff _ _).1 h
    rw [stem_path hb] at k
    obtain ⟨r, hr⟩ := pre_list k
    exact ⟨_, hr, .inr ⟨r, rfl⟩⟩
/-- What is below a directory: each thing that is in it, and what is below that. -/
theorem bel_split {es : List E} (T : TrE es) {p : ByteArray} (hp : stemOk p = true) : bel es p = (kidsE es p).flatMap (fun n => (lookE es (joinI p n)).toList ++ bel es (joinI p n)) := by
  have hjoin : ∀ n ∈ kidsE es p, joinOk p n = true ∧ ∃ e, lookE es (joinI p n) = some e := fun n hn => by
    obtain ⟨h1, e, h2⟩ := (kids_mem T hp n).1 hn
    obtain ⟨m1, m2⟩ := look_mem h2
    exact ⟨join_ok hp h1 (by rw [← m2]; exact T.path e m1), e, h2⟩
  have hin : ∀ n ∈ kidsE es p, ∀ x ∈ (lookE es (joinI p n)).toList ++ bel es (joinI p n), x ∈ es ∧ (x.p = joinI p n ∨ underI x.p (joinI p n) = true) := fun n hn x hx => by
    rcases List.mem_append.1 hx with h | h
    · have := look_mem (Option.mem_toList.1 h)
      exact ⟨this.1, .inl this.2⟩
    · obtain ⟨h1, h2⟩ := bel_iff.1 h
      exact ⟨h1, .inr h2⟩
  refine rising_ext (r := fun a b => less a.p b.p) (fun a => less_irrefl a.p) (fun {_ _ _} => less_trans) _ _ (T.sort.filter _) ?_ ?_
  · rw [List.pairwise_flatMap]
    constructor
    · intro n hn
      obtain ⟨hj, e, he⟩ := hjoin n hn
      obtain ⟨_, _, hjp, _⟩ := join_parts hj
      rw [List.pairwise_append]
      refine ⟨by rw [he]; simp, T.sort.filter _, fun a ha b hb => ?_⟩
      have := look_mem (Option.mem_toList.1 ha)
      rw [this.2]
      exact order_up hjp (bel_iff.1 hb).2
    · refine (kids_rise T).imp_of_mem ?_
      intro n m hn hm hless x hx y hy
      obtain ⟨hj, _⟩ := hjoin n hn
      obtain ⟨hj', _⟩ := hjoin m hm
      obtain ⟨_, hn1, hp1, _⟩ := join_parts hj
      obtain ⟨_, hm1, hp2, _⟩ := join_parts hj'
      obtain ⟨r1, e1, k1⟩ := under_list hp1 (hin n hn x hx).2
      obtain ⟨r2, e2, k2⟩ := under_list hp2 (hin m hm y hy).2
      refine less_L.2 ?_
      rw [e1, e2, L_join, L_join, List.append_assoc, List.append_assoc, bless_pre, show (47 :: L n) = [47] ++ L n from rfl, show (47 :: L m) = [47] ++ L m from rfl, List.append_assoc, List.append_assoc, bless_pre]
      exact bless_ext _ _ _ _ (name_high hm1) (less_L.1 hless) k1
  · intro x
    rw [List.mem_flatMap]
    constructor
    · intro hx
      obtain ⟨h1, h2⟩ := bel_iff.1 hx
      obtain ⟨n, hn, k⟩ := below_kid T hp x.p.size x h1 (Nat.le_refl _) h2
      refine ⟨n, hn, List.mem_append.2 ?_⟩
      rcases k with k | k
      · left; rw [← k, look_self T.sort h1]; simp
      · right; exact bel_iff.2 ⟨h1, k⟩
    · rintro ⟨n, hn, hx⟩
      obtain ⟨h1, h2⟩ := hin n hn x hx
      obtain ⟨hj, _⟩ := hjoin n hn
      refine bel_iff.2 ⟨h1, ?_⟩
      rcases h2 with h2 | h2
      · rw [h2]; exact join_under hj
      · exact under_trans h2 (join_under hj)

theorem fmap_congr {α β : Type} {f g : α → List β} : ∀ (l : List α), (∀ a ∈ l, f a = g a) → l.flatMap f = l.flatMap g
  | [], _ => rfl
  | a :: l, h => by
    rw [List.flatMap_cons, List.flatMap_cons, h a List.mem_cons_self, fmap_congr l (fun b hb => h b (List.mem_cons_of_mem _ hb))]
/-- What is told of what is below a directory, as if that were at q. -/
def toldAt (p q : ByteArray) (e : E) : ByteArray × E := (q ++ e.p.extract (stemS p).size e.p.size, e)
def told (es : List E) (p q : ByteArray) : List (ByteArray × E) := (bel es p).map (toldAt p q)
def under1 (q n : ByteArray) : ByteArray := q ++ ⟨#[47]⟩ ++ n
theorem app_assoc' (a b c : ByteArray) : a ++ b ++ c = a ++ (b ++ c) := by
  apply L_inj; rw [L_app, L_app, L_app, L_app, List.append_assoc]
theorem join_rest (p n : ByteArray) : (joinI p n).extract (stemS p).size (joinI p n).size = ⟨#[47]⟩ ++ n := by
  unfold joinI
  rw [app_assoc']
  have := app_ext_r (stemS p) (⟨#[47]⟩ ++ n) 0
  rw [Nat.add_zero] at this
  rw [this, ext_all]
theorem told_split {es : List E} (T : TrE es) {p : ByteArray} (hp : stemOk p = true) (q : ByteArray) :
    told es p q = (kidsE es p).flatMap (fun n => ((lookE es (joinI p n)).toList.map (fun e => (under1 q n, e))) ++ told es (joinI p n) (under1 q n)) := by
  unfold told
  rw [bel_split T hp, List.map_flatMap]
  refine fmap_congr _ fun n hn => ?_
  rw [List.map_append]
  obtain ⟨hn1, e, he⟩ := (kids_mem T hp n).1 hn
  obtain ⟨m1, m2⟩ := look_mem he
  have hjp : pathB (joinI p n) = true := by rw [← m2]; exact T.path e m1
  congr 1
  · rw [he]
    simp only [Option.toList_some, List.map_cons, List.map_nil, toldAt]
    rw [m2, join_rest]
    unfold under1; rw [app_assoc']
  · refine List.map_congr_left fun x hx => ?_
    obtain ⟨x1, x2⟩ := bel_iff.1 hx
    obtain ⟨_, _, k⟩ := (underI_iff _ _).1 x2
    unfold toldAt
    refine Prod.ext ?_ rfl
    dsimp only
    rw [stem_path hjp] at k ⊢
    apply L_inj
    unfold under1
    obtain ⟨r, hr⟩ := pre_list k
    have hs : (stemS p).size = (L (stemS p)).length := (L_len _).symm
    have hj : (joinI p n).size = (L (joinI p n)).length := (L_len _).symm
    have e1 : L (x.p.extract (stemS p).size x.p.size) = (L x.p).drop (stemS p).size := by
      rw [L_ext, List.take_of_length_le]; rw [List.length_drop, L_len]; exact Nat.le_refl _
    have e2 : L (x.p.extract (joinI p n).size x.p.size) = (L x.p).drop (joinI p n).size := by
      rw [L_ext, List.take_of_length_le]; rw [List.length_drop, L_len]; exact Nat.le_refl _
    rw [L_app, L_app, L_app, L_app, e1, e2, hr, hj, List.drop_left, L_join, hs]
    rw [List.append_assoc, List.drop_left]
    simp [List.append_assoc]
    rfl
/-- All that a tree has. -/
theorem told_all {es : List E} (T : TrE es) : told es ⟨#[47]⟩ ⟨#[]⟩ = es.map (fun e => (e.p, e)) := by
  unfold told
  have : bel es ⟨#[47]⟩ = es := by
    unfold bel; rw [List.filter_eq_self]; intro e he; exact under_root (T.path e he)
  rw [this]
  refine List.map_congr_left fun e _ => ?_
  unfold toldAt
  rw [stem_root, empty_app]
  rw [show (ByteArray.mk #[]).size = 0 from rfl, ext_all]
/-- Nothing is below what is as deep as may be. -/
theorem lev_le (s : ByteArray) : levS s ≤ 3 := by
  unfold levS
  split
  · rename_i h
    unfold pathB okItems at h
    rw [Bool.and_eq_true] at h
    have := of_decide_eq_true h.2; omega
  · decide
theorem under_lev : ∀ (N : Nat) (a b : ByteArray), a.size ≤ N → underI a b = true → levS b < levS a
  | 0, a, b, hN, h => by
    obtain ⟨_, h2, _⟩ := (underI_iff _ _).1 h
    have := pathB_head _ h2; omega
  | N + 1, a, b, hN, h => by
    obtain ⟨_, h2, _⟩ := (underI_iff _ _).1 h
    have hl := (up_facts h2).2.2.2
    rcases (under_up h2).1 h with e | e
    · rw [e, hl]; omega
    · have hsz := up_size h2
      obtain ⟨_, h3, _⟩ := (underI_iff _ _).1 e
      rw [stem_path h3] at hsz
      have := under_lev N (upS a) b (by omega) e
      omega
theorem told_deep {es : List E} {p : ByteArray} (h : 3 ≤ levS p) (q : ByteArray) : told es p q = [] := by
  unfold told
  rw [List.map_eq_nil_iff]
  unfold bel
  rw [List.filter_eq_nil_iff]
  intro e _ hu
  have := under_lev _ _ _ (Nat.le_refl _) hu
  have := lev_le e.p
  omega
end Go.Proofs.YtgkfhcpegdlejaaGreatDoor

/-
  Plain facts on trees: a path is its names, one below the other; what is above what is there is there.
-/
namespace Go.Proofs.YtgkfhcpegdlejaaGreatDoor

/-- The path of a row of names. -/
def chain (xs : List (Int × ByteArray)) : ByteArray := xs.foldl (fun p x => joinI p x.2) ⟨#[47]⟩
theorem chain_snoc (xs : List (Int × ByteArray)) (x : Int × ByteArray) : chain (xs ++ [x]) = joinI (chain xs) x.2 := by
  unfold chain; rw [List.foldl_append]; rfl
theorem root_no_path : pathB ⟨#[47]⟩ = false := by
  cases hq : pathB ⟨#[47]⟩ with
  | false => rfl
  | true => have := path_not_root hq; rw [root_root] at this; cases this
theorem items_step {s : ByteArray} (h : pathB s = true) : (upS s = ⟨#[47]⟩ ∧ ∃ k, items s = [(k, nmS s)]) ∨ (pathB (upS s) = true ∧ ∃ k, items s = items (upS s) ++ [(k, nmS s)]) := by
  obtain ⟨m, hm, m1, m2, m3⟩ := last_is h
  have en : nmS s = s.extract (m + 1) s.size := by unfold nmS; rw [h, if_pos rfl, hm]; rfl
  by_cases h0 : m = 0
  · subst h0
    left
    refine ⟨by unfold upS; rw [h, if_pos rfl, hm]; rfl, 0, ?_⟩
    rw [en, items_slash s m1 (by rw [← get0 s m1]; exact m2)]
    exact itemsL_plain s _ 1 0 (no_stroke_list s 1 (fun j hj hj' => m3 j (by omega) hj'))
  · right
    have eu : upS s = s.extract 0 m := by unfold upS; rw [h, if_pos rfl, hm, if_neg (by omega)]; rfl
    have ei := items_up m m1 (by omega) m2 m3
    have hp := h
    unfold pathB at hp
    rw [ei] at hp
    refine ⟨by rw [eu]; exact (ok_app hp).1, m, ?_⟩
    rw [eu, en]; exact ei
theorem chain_pre : ∀ (N : Nat) (s : ByteArray), s.size ≤ N → pathB s = true → ∀ pre, pre <+: items s → pre ≠ [] → pathB (chain pre) = true ∧ (s = chain pre ∨ underI s (chain pre) = true) ∧ (pre = items s → chain pre = s)
  | 0, s, hN, h => by have := pathB_head _ h; omega
  | N + 1, s, hN, h => by
    intro pre hpre hne
    rcases items_step h with ⟨hu, k, hi⟩ | ⟨hu, k, hi⟩
    · have e : pre = [(k, nmS s)] := by
        rw [hi] at hpre
        rcases List.prefix_concat_iff.1 (show pre <+: [] ++ [(k, nmS s)] from hpre) with e | e
        · exact e
        · exact absurd (List.prefix_nil.1 e) hne
      have : chain pre = s := by
        rw [e, show [(k, nmS s)] = [] ++ [(k, nmS s)] from rfl, chain_snoc]
        show joinI ⟨#[47]⟩ (nmS s) = s
        rw [← hu]; exact up_join h
      exact ⟨by rw [this]; exact h, .inl this.symm, fun _ => this⟩
    · have hsz := up_size h
      rw [stem_path hu] at hsz
      have ih := chain_pre N (upS s) (by omega) hu
      rw [hi] at hpre
      rcases List.prefix_concat_iff.1 hpre with e | e
      · have hnn : items (upS s) ≠ [] := by
          intro e0
          have := itemsL_pos (upS s) ((upS s).data.toList.drop 0) 0 (-1)
          unfold items itemsAt at e0
          rw [e0] at this; simp at this
        have hc := (ih _ (List.prefix_refl _) hnn).2.2 rfl
        have : chain pre = s := by
          rw [e, chain_snoc, hc]; exact up_join h
        exact ⟨by rw [this]; exact h, .inl this.symm, fun _ => this⟩
      · obtain ⟨h1, h2, h3⟩ := ih pre e hne
        refine ⟨h1, .inr ?_, fun e' => ?_⟩
        · rcases h2 with h2 | h2
          · rw [← h2]; exact up_under h
          · exact under_trans (up_under h) h2
        · exfalso
          have l1 := e.length_le
          rw [e', hi, List.length_append, List.length_singleton] at l1; omega
theorem items_ne (s : ByteArray) : items s ≠ [] := by
  intro e0
  have := itemsL_pos s (s.data.toList.drop 0) 0 (-1)
  unfold items itemsAt at e0
  rw [e0] at this; simp at this
theorem chain_items {s : ByteArray} (h : pathB s = true) : chain (items s) = s :=
  (chain_pre _ s (Nat.le_refl _) h _ (List.prefix_refl _) (items_ne s)).2.2 rfl
theorem chain_path {s : ByteArray} (h : pathB s = true) {pre : List (Int × ByteArray)} (hp : pre <+: items s) (hne : pre ≠ []) : pathB (chain pre) = true := (chain_pre _ s (Nat.le_refl _) h pre hp hne).1
theorem chain_over {s : ByteArray} (h : pathB s = true) {pre : List (Int × ByteArray)} (hp : pre <+: items s) (hne : pre ≠ []) : s = chain pre ∨ underI s (chain pre) = true := (chain_pre _ s (Nat.le_refl _) h pre hp hne).2.1
theorem chain_stem {s : ByteArray} (h : pathB s = true) {pre : List (Int × ByteArray)} (hp : pre <+: items s) : stemOk (chain pre) = true := by
  by_cases hne : pre = []
  · subst hne; unfold stemOk; rw [show chain [] = ⟨#[47]⟩ from rfl, root_root]; rfl
  · exact stemOk_path (chain_path h hp hne)
theorem item_name {s : ByteArray} (h : pathB s = true) {x : Int × ByteArray} (hx : x ∈ items s) : nameB x.2 = true := by
  unfold pathB okItems at h
  rw [Bool.and_eq_true, List.all_eq_true] at h
  have := h.1 x hx
  unfold okItem at this
  rw [Bool.and_eq_true] at this
  exact this.2

/-- What is above what is there is there, and a directory. -/
theorem up_there {es : List E} (T : TrE es) {b : ByteArray} (hb : pathB b = true) : ∀ (N : Nat) (e : E), e.p.size ≤ N → e ∈ es → underI e.p b = true → ∃ f, lookE es b = some f ∧ f.d = true
  | 0, e, hN, he, h => by have := pathB_head _ (T.path e he); omega
  | N + 1, e, hN, he, h => by
    have hpe := T.path e he
    rcases dir_look (T.up e he) with q | ⟨f, hf, hd⟩
    · rcases (under_up hpe).1 h with e1 | e1
      · rw [q] at e1; rw [e1, root_no_path] at hb; cases hb
      · obtain ⟨_, h2, _⟩ := (underI_iff _ _).1 e1
        rw [q, root_no_path] at h2; cases h2
    · rcases (under_up hpe).1 h with e1 | e1
      · rw [e1]; exact ⟨f, hf, hd⟩
      · obtain ⟨f1, f2⟩ := look_mem hf
        have hsz := up_size hpe
        rw [stem_path (by rw [← f2]; exact T.path f f1)] at hsz
        exact up_there T hb N f (by rw [f2]; omega) f1 (by rw [f2]; exact e1)
theorem gone_below {es : List E} (T : TrE es) {s b : ByteArray} (hb : pathB b = true) (h : s = b ∨ underI s b = true) (hl : lookE es b = none) : lookE es s = none := by
  rcases h with rfl | h
  · exact hl
  · cases hs : lookE es s with
    | none => rfl
    | some e =>
      obtain ⟨e1, e2⟩ := look_mem hs
      obtain ⟨f, hf, _⟩ := up_there T hb _ e (Nat.le_refl _) e1 (by rw [e2]; exact h)
      rw [hl] at hf; cases hf
/-- Nothing is in what is no directory. -/
theorem look_kid {es : List E} (T : TrE es) {p n : ByteArray} (hp : stemOk p = true) (hn : nameB n = true) {e : E} (h : lookE es (joinI p n) = some e) : dirE es p = true := by
  obtain ⟨e1, e2⟩ := look_mem h
  have hj := join_up (join_ok hp hn (by rw [← e2]; exact T.path e e1))
  have := T.up e e1
  rwa [e2, hj.1] at this
theorem look_path {es : List E} (T : TrE es) {s : ByteArray} {e : E} (h : lookE es s = some e) : pathB s = true := by
  obtain ⟨e1, e2⟩ := look_mem h
  rw [← e2]; exact T.path e e1
theorem look_bad {es : List E} (T : TrE es) {s : ByteArray} (h : pathB s = false) : lookE es s = none := by
  cases hl : lookE es s with
  | none => rfl
  | some e => rw [look_path T hl] at h; cases h
end Go.Proofs.YtgkfhcpegdlejaaGreatDoor

/-
  Trees, read from their texts: as the program reads them, and as the model does.
-/
namespace Go.Proofs.YtgkfhcpegdlejaaGreatDoor

/-- A line for each. -/
def linesE : List E → ByteArray
  | [] => ⟨#[]⟩
  | e :: r => entT e ++ ⟨#[10]⟩ ++ linesE r
def kindW (w : ByteArray) : Int := findK [⟨#[]⟩, wF, wD, wX, wB] 0 w
theorem kindW_is (w : ByteArray) : kindW w = if w = ⟨#[]⟩ then 0 else if w = wF then 1 else if w = wD then 2 else if w = wX then 3 else if w = wB then 4 else 0 := by
  have hs : ∀ a b : ByteArray, (a = b) = (b = a) := fun a b => propext ⟨Eq.symm, Eq.symm⟩
  unfold kindW
  simp only [findK, hs _ w]
  rfl
theorem kindW_dir {w : ByteArray} (h : kindW w = 2) : w = wD := by
  rw [kindW_is] at h
  split at h
  · cases h
  · split at h
    · cases h
    · split at h
      · assumption
      · split at h
        · cases h
        · split at h <;> cases h
theorem kindW_file {w : ByteArray} (h : kindW w = 1) : w = wF := by
  rw [kindW_is] at h
  split at h
  · cases h
  · split at h
    · assumption
    · split at h
      · cases h
      · split at h
        · cases h
        · split at h <;> cases h
/-- An entry, out of the words of a line. -/
def entOf (ws : List (List UInt8)) : E := ⟨nthL ws 1, decide (kindW (nthL ws 0) = 2), nthL ws 2⟩
def wsE (e : E) : List (List UInt8) := if e.d = true then [LB wD, LB e.p] else if e.x.size = 0 then [LB wF, LB e.p] else [LB wF, LB e.p, LB e.x]
/-- What a line's entry must be to be told. -/
def fitT (e : E) : Prop := pathB e.p = true ∧ dataB e.x = true ∧ (e.d = true → e.x = ⟨#[]⟩)
theorem fit_tree {es : List E} (h : treeE es = true) : ∀ e ∈ es, fitT e := fun e he => by
  obtain ⟨T, _⟩ := treeE_tr h
  exact ⟨T.path e he, (T.data e he).1, (T.data e he).2⟩
theorem wsE_text {e : E} (h : fitT e) : LB (entT e) = joinL (wsE e) ∧ lineOk (wsE e) := by
  obtain ⟨hp, hx, hd⟩ := h
  have hpw := path_word hp
  have hwD : wordL (LB wD) := by unfold wordL; decide
  have hwF : wordL (LB wF) := by unfold wordL; decide
  unfold wsE
  cases h : e.d with
  | true =>
    rw [if_pos rfl, entT_dir h]
    refine ⟨by rw [lb_app]; simp [joinL, LB, wD], by simp, by simp, fun w hw => ?_⟩
    simp only [List.mem_cons, List.not_mem_nil, or_false] at hw
    rcases hw with rfl | rfl
    · exact hwD
    · exact hpw
  | false =>
    rw [if_neg (by decide)]
    by_cases h0 : e.x.size = 0
    · rw [if_pos h0, entT_bare h h0]
      refine ⟨by rw [lb_app]; simp [joinL, LB, wF], by simp, by simp, fun w hw => ?_⟩
      simp only [List.mem_cons, List.not_mem_nil, or_false] at hw
      rcases hw with rfl | rfl
      · exact hwF
      · exact hpw
    · rw [if_neg h0, entT_file h h0]
      refine ⟨by simp only [lb_app]; simp [joinL, LB, wF], by simp, by simp, fun w hw => ?_⟩
      simp only [List.mem_cons, List.not_mem_nil, or_false] at hw
      rcases hw with rfl | rfl | rfl
      · exact hwF
      · exact hpw
      · exact data_word hx h0
theorem wsE_back {e : E} (h : fitT e) : entOf (wsE e) = e ∧ (kindW (nthL (wsE e) 0) = 2 ∨ kindW (nthL (wsE e) 0) = 1) := by
  obtain ⟨p, d, x⟩ := e
  obtain ⟨hp, hx, hd⟩ := h
  dsimp only at hp hx hd
  have k2 : kindW (BA (LB wD)) = 2 := by rw [ba_lb]; decide
  have k1 : kindW (BA (LB wF)) = 1 := by rw [ba_lb]; decide
  cases d with
  | true =>
    have := hd rfl
    subst this
    refine ⟨?_, .inl k2⟩
    show (⟨BA (LB p), decide (kindW (BA (LB wD)) = 2), ⟨#[]⟩⟩ : E) = _
    rw [k2, ba_lb]; rfl
  | false =>
    by_cases h0 : x.size = 0
    · have hw : wsE ⟨p, false, x⟩ = [LB wF, LB p] := by unfold wsE; rw [if_neg Bool.false_ne_true, if_pos h0]
      rw [hw]
      refine ⟨?_, .inr k1⟩
      show (⟨BA (LB p), decide (kindW (BA (LB wF)) = 2), ⟨#[]⟩⟩ : E) = _
      rw [k1, ba_lb, show x = ⟨#[]⟩ from lb_inj (t := ⟨#[]⟩) (lb_nil.2 h0)]; rfl
    · have hw : wsE ⟨p, false, x⟩ = [LB wF, LB p, LB x] := by unfold wsE; rw [if_neg Bool.false_ne_true, if_neg h0]
      rw [hw]
      refine ⟨?_, .inr k1⟩
      show (⟨BA (LB p), decide (kindW (BA (LB wF)) = 2), BA (LB x)⟩ : E) = _
      rw [k1, ba_lb, ba_lb]; rfl
theorem ws_of {ws : List (List UInt8)} (hl : lineOk ws) (hf : fitT (entOf ws)) (hk : kindW (nthL ws 0) = 2 ∨ kindW (nthL ws 0) = 1) : wsE (entOf ws) = ws := by
  obtain ⟨l1, l2, l3⟩ := hl
  obtain ⟨hp, hx, hd⟩ := hf
  have hp2 := (pathB_head _ hp).1
  have hpe : (entOf ws).p = nthL ws 1 := rfl
  have hxe : (entOf ws).x = nthL ws 2 := rfl
  match ws, l1, l2, l3 with
  | [a], _, _, _ => exact absurd hp2 (by rw [hpe]; show ¬ 1 < 0; omega)
  | [a, b], _, _, l3 =>
    rcases hk with hk | hk
    · have ha := kindW_dir hk
      have hdd : (entOf [a, b]).d = true := decide_eq_true hk
      unfold wsE
      rw [if_pos hdd, ← ha]
      rfl
    · have ha := kindW_file hk
      have hdd : ¬ (entOf [a, b]).d = true := by show ¬ decide (kindW (nthL [a, b] 0) = 2) = true; rw [hk]; decide
      unfold wsE
      rw [if_neg hdd, if_pos (show (entOf [a, b]).x.size = 0 from rfl), ← ha]
      rfl
  | [a, b, c], _, _, l3 =>
    have hc : ¬ (nthL [a, b, c] 2).size = 0 := fun q => (l3 c (by simp)).1 (lb_nil.2 q)
    rcases hk with hk | hk
    · have hdd : (entOf [a, b, c]).d = true := decide_eq_true hk
      have := hd hdd
      rw [hxe] at this
      exact absurd (by rw [this]; rfl) hc
    · have ha := kindW_file hk
      have hdd : ¬ (entOf [a, b, c]).d = true := by show ¬ decide (kindW (nthL [a, b, c] 0) = 2) = true; rw [hk]; decide
      unfold wsE
      rw [if_neg hdd, if_neg (show ¬ (entOf [a, b, c]).x.size = 0 from hc), ← ha]
      rfl
theorem lines_ws : ∀ (es : List E), (∀ e ∈ es, fitT e) → LB (linesE es) = linesL (es.map wsE) ∧ ∀ x ∈ es.map wsE, lineOk x
  | [], _ => ⟨rfl, fun _ h => by simp at h⟩
  | e :: r, h => by
    obtain ⟨h1, h2⟩ := lines_ws r (fun x hx => h x (List.mem_cons_of_mem _ hx))
    obtain ⟨h3, h4⟩ := wsE_text (h e List.mem_cons_self)
    refine ⟨?_, fun x hx => ?_⟩
    · show LB (entT e ++ ⟨#[10]⟩ ++ linesE r) = (joinL (wsE e) ++ [10]) ++ linesL (r.map wsE)
      rw [lb_app, lb_app, h1, h3]
    · rcases List.mem_cons.1 hx with rfl | hx
      · exact h4
      · exact h2 x hx
/-- What the program reads. -/
def progTree (s : ByteArray) : Option (List E) :=
  match scanL 16 (LB s) [] [] [] with
  | some R => if (∀ ws ∈ R, kindW (nthL ws 0) = 2 ∨ kindW (nthL ws 0) = 1) ∧ treeE (R.map entOf) = true then some (R.map entOf) else none
  | none => none
theorem prog_tree (s : ByteArray) (es : List E) : progTree s = some es ↔ treeE es = true ∧ linesE es = s := by
  constructor
  · intro h
    unfold progTree at h
    cases hs : scanL 16 (LB s) [] [] [] with
    | none => rw [hs] at h; cases h
    | some R =>
      rw [hs] at h
      dsimp only at h
      split at h
      · rename_i hh
        obtain ⟨hk, ht⟩ := hh
        have he := Option.some.inj h
        subst he
        obtain ⟨e1, e2, _⟩ := scan_sound 16 _ [] [] [] R (fun _ h => by simp at h) (fun _ h => by simp at h) (by simp) (fun _ h => by simp at h) (by simp) hs
        have hf := fit_tree ht
        refine ⟨ht, lb_inj ?_⟩
        rw [(lines_ws _ hf).1, List.map_map]
        have hid : R.map (wsE ∘ entOf) = R := by
          rw [List.map_congr_left (f := wsE ∘ entOf) (g := id) (fun ws hw => ws_of (e2 ws hw) (hf _ (List.mem_map_of_mem hw)) (hk ws hw)), List.map_id]
        rw [hid, ← e1]
        simp [aheadL, linesL]
      · cases h
  · rintro ⟨ht, rfl⟩
    have hf := fit_tree ht
    obtain ⟨h1, h2⟩ := lines_ws es hf
    obtain ⟨_, hl⟩ := treeE_tr ht
    unfold progTree
    rw [h1, scan_done 16 (es.map wsE) [] h2 (by simpa using hl)]
    have hid : (es.map wsE).map entOf = es := by
      rw [List.map_map, List.map_congr_left (f := entOf ∘ wsE) (g := id) (fun e he => (wsE_back (hf e he)).1), List.map_id]
    rw [List.nil_append]
    dsimp only
    rw [hid, if_pos ⟨fun ws hw => by
      obtain ⟨e, he, rfl⟩ := List.mem_map.1 hw
      exact (wsE_back (hf e he)).2, ht⟩]
end Go.Proofs.YtgkfhcpegdlejaaGreatDoor

/-
  What is done, read from its text: as the program reads it, and as the model does.
-/
namespace Go.Proofs.YtgkfhcpegdlejaaGreatDoor

def mkOp (k : Int) (p m : ByteArray) : O := if k = 5 then ⟨k, p, m, ⟨#[]⟩⟩ else ⟨k, p, ⟨#[]⟩, m⟩
def opKind (w : ByteArray) : Int := if w = oW1 then 1 else if w = oW2 then 2 else if w = oW3 then 3 else if w = oW4 then 4 else if w = oW5 then 5 else 0
/-- What the program reads. -/
def progOp (s : ByteArray) : Option O :=
  match scanL 1 (LB s ++ [10]) [] [] [] with
  | some (ws :: _) => if opB (mkOp (opKind (nthL ws 0)) (nthL ws 1) (nthL ws 2)) = true then some (mkOp (opKind (nthL ws 0)) (nthL ws 1) (nthL ws 2)) else none
  | _ => none
/-- The words of what is done. -/
def wsOf (o : O) : List (List UInt8) := LB (opW o.k) :: LB o.p :: (if (if o.k = 5 then o.t else o.x).size = 0 then [] else [LB (if o.k = 5 then o.t else o.x)])

theorem kind_word {k : Int} (h : k = 1 ∨ k = 2 ∨ k = 3 ∨ k = 4 ∨ k = 5) : opKind (opW k) = k ∧ wordL (LB (opW k)) := by
  rcases h with rfl | rfl | rfl | rfl | rfl
  · exact ⟨rfl, by unfold wordL; decide⟩
  · exact ⟨by decide, by unfold wordL; decide⟩
  · exact ⟨by decide, by unfold wordL; decide⟩
  · exact ⟨by decide, by unfold wordL; decide⟩
  · exact ⟨by decide, by unfold wordL; decide⟩
theorem word_kind {w : ByteArray} {k : Int} (h : opKind w = k) (h0 : k ≠ 0) : w = opW k := by
  unfold opKind at h
  split at h
  · subst h; assumption
  · split at h
    · subst h; assumption
    · split at h
      · subst h; assumption
      · split at h
        · subst h; assumption
        · split at h
          · subst h; assumption
          · exact absurd h.symm h0
theorem op_rest {o : O} (h : opB o = true) : mkOp o.k o.p (if o.k = 5 then o.t else o.x) = o := by
  obtain ⟨k, p, t, x⟩ := o
  unfold mkOp
  by_cases hk : k = 5
  · subst hk
    have := (op_move h).2
    show (⟨5, p, t, ⟨#[]⟩⟩ : O) = ⟨5, p, t, x⟩
    rw [show x = ⟨#[]⟩ from by cases x with | mk d => simp [ByteArray.size] at this; rw [this]]
  · have := op_other h hk
    show (if k = 5 then _ else _) = _
    rw [if_neg hk]
    show (⟨k, p, ⟨#[]⟩, if k = 5 then t else x⟩ : O) = _
    rw [if_neg hk, show t = ⟨#[]⟩ from by cases t with | mk d => simp [ByteArray.size] at this; rw [this]]
theorem op_words {o : O} (h : opB o = true) : LB (opT o) = joinL (wsOf o) ∧ lineOk (wsOf o) := by
  obtain ⟨k, p, t, x⟩ := o
  have hk := op_kind h
  have hp : pathB p = true := by
    unfold opB at h
    simp only [Bool.and_eq_true] at h
    exact h.1.2
  have hw := (kind_word hk).2
  have hpw := path_word hp
  by_cases h5 : k = 5
  · subst h5
    obtain ⟨h1, h2⟩ := op_move h
    have ht : pathB t = true := by
      unfold opB at h
      rw [if_pos rfl] at h
      simp only [Bool.and_eq_true] at h
      exact h.2.1
    have e : wsOf ⟨5, p, t, x⟩ = [LB oW5, LB p, LB t] := by unfold wsOf; show _ :: _ :: (if t.size = 0 then _ else _) = _; rw [if_neg h1]; rfl
    rw [e, opT_move h]
    refine ⟨by simp only [lb_app]; simp [joinL, LB], by simp, by simp, fun w hw' => ?_⟩
    simp only [List.mem_cons, List.not_mem_nil, or_false] at hw'
    rcases hw' with rfl | rfl | rfl
    · exact hw
    · exact hpw
    · exact path_word ht
  · by_cases h0 : x.size = 0
    · have e : wsOf ⟨k, p, t, x⟩ = [LB (opW k), LB p] := by unfold wsOf; show _ :: _ :: (if (if k = 5 then t else x).size = 0 then _ else _) = _; rw [if_neg h5, if_pos h0]
      rw [e, opT_bare h h5 h0]
      refine ⟨by simp only [lb_app]; simp [joinL, LB], by simp, by simp, fun w hw' => ?_⟩
      simp only [List.mem_cons, List.not_mem_nil, or_false] at hw'
      rcases hw' with rfl | rfl
      · exact hw
      · exact hpw
    · have hd : dataB x = true := by
        unfold opB at h
        simp only [Bool.and_eq_true] at h
        rw [if_neg h5] at h
        simp only [Bool.and_eq_true] at h
        exact h.2.1.2
      have e : wsOf ⟨k, p, t, x⟩ = [LB (opW k), LB p, LB x] := by unfold wsOf; show _ :: _ :: (if (if k = 5 then t else x).size = 0 then _ else [LB (if k = 5 then t else x)]) = _; rw [if_neg h5, if_neg h0]
      rw [e, opT_data h h5 h0]
      refine ⟨by simp only [lb_app]; simp [joinL, LB], by simp, by simp, fun w hw' => ?_⟩
      simp only [List.mem_cons, List.not_mem_nil, or_false] at hw'
      rcases hw' with rfl | rfl | rfl
      · exact hw
      · exact hpw
      · exact data_word hd h0
theorem ws_back {o : O} (h : opB o = true) : mkOp (opKind (nthL (wsOf o) 0)) (nthL (wsOf o) 1) (nthL (wsOf o) 2) = o := by
  have e0 : nthL (wsOf o) 0 = opW o.k := ba_lb _
  have e1 : nthL (wsOf o) 1 = o.p := ba_lb _
  have e2 : nthL (wsOf o) 2 = if o.k = 5 then o.t else o.x := by
    unfold wsOf
    by_cases h0 : (if o.k = 5 then o.t else o.x).size = 0
    · rw [if_pos h0, lb_inj (t := ⟨#[]⟩) (lb_nil.2 h0)]; rfl
    · rw [if_neg h0]; exact ba_lb _
  rw [e0, e1, e2, (kind_word (op_kind (k := o.k) (p := o.p) (t := o.t) (x := o.x) h)).1, op_rest h]

theorem prog_op (s : ByteArray) (o : O) : progOp s = some o ↔ opB o = true ∧ opT o = s := by
  constructor
  · intro h
    unfold progOp at h
    cases hs : scanL 1 (LB s ++ [10]) [] [] [] with
    | none => rw [hs] at h; cases h
    | some R =>
      rw [hs] at h
      obtain ⟨e1, e2, e3⟩ := scan_sound 1 _ [] [] [] R (fun _ h => by simp at h) (fun _ h => by simp at h) (by simp) (fun _ h => by simp at h) (by simp) hs
      match R, h, e1, e2, e3 with
      | ws :: Q, h, e1, e2, e3 =>
        obtain rfl : Q = [] := by simpa using e3
        dsimp only at h
        split at h
        · rename_i hb
          have ho := Option.some.inj h
          refine ⟨by rw [← ho]; exact hb, ?_⟩
          have hjs : LB s = joinL ws := by
            have e4 : LB s ++ [10] = joinL ws ++ [10] := by simpa [aheadL, linesL] using e1
            exact List.append_cancel_right e4
          have hbo : opB o = true := by rw [← ho]; exact hb
          have hw : wsOf o = ws := by
            obtain ⟨l1, l2, l3⟩ := e2 ws (by simp)
            have hk : o.k = opKind (nthL ws 0) := by rw [← ho]; unfold mkOp; split <;> rfl
            have hp : o.p = nthL ws 1 := by rw [← ho]; unfold mkOp; split <;> rfl
            have hr : (if o.k = 5 then o.t else o.x) = nthL ws 2 := by
              rw [hk, ← ho]; unfold mkOp
              split
              · rfl
              · rfl
            have hk0 : o.k ≠ 0 := by have := op_kind (k := o.k) (p := o.p) (t := o.t) (x := o.x) hbo; omega
            have h0 := word_kind hk.symm hk0
            have hpp : o.p.size ≠ 0 := by
              have : pathB o.p = true := by
                unfold opB at hbo
                simp only [Bool.and_eq_true] at hbo
                exact hbo.1.2
              have := (pathB_head _ this).1
              omega
            unfold wsOf
            rw [hr, ← h0, hp]
            match ws, l1, l2, l3, hp with
            | [a], _, _, _, hp => exact absurd (show o.p.size = 0 by rw [hp]; rfl) hpp
            | [a, b], _, _, _, _ => rw [if_pos (show (nthL [a, b] 2).size = 0 from rfl)]; rfl
            | [a, b, c], _, _, l3, _ => rw [if_neg (show ¬ (nthL [a, b, c] 2).size = 0 from fun e => (l3 c (by simp)).1 (lb_nil.2 e))]; rfl
          apply lb_inj
          rw [(op_words hbo).1, hw, hjs]
        · cases h
  · rintro ⟨hb, rfl⟩
    obtain ⟨h1, h2⟩ := op_words hb
    unfold progOp
    have hs : scanL 1 (LB (opT o) ++ [10]) [] [] [] = some [wsOf o] := by
      have := scan_done 1 [wsOf o] [] (fun x hx => by simp at hx; subst hx; exact h2) (by simp)
      rw [show linesL [wsOf o] = LB (opT o) ++ [10] from by simp [linesL, h1]] at this
      simpa using this
    rw [hs]
    dsimp only
    rw [ws_back hb, if_pos hb]

/-- What the model reads. -/
def partL (s : ByteArray) : ByteArray × ByteArray × ByteArray :=
  if (cut 32 s).length < 2 ∨ 3 < (cut 32 s).length then (⟨#[]⟩, ⟨#[]⟩, ⟨#[]⟩) else ((cut 32 s).getD 0 ⟨#[]⟩, (cut 32 s).getD 1 ⟨#[]⟩, (cut 32 s).getD 2 ⟨#[]⟩)
def hitOp (s : ByteArray) (k : Int) : Bool := decide (opW k = (partL s).1) && (decide (opT (mkOp k (partL s).2.1 (partL s).2.2) = s) && decide (s.size ≠ 0))
def specAt (s : ByteArray) (k : Int) (r : Option O) : Option O := if hitOp s k = true then some (mkOp k (partL s).2.1 (partL s).2.2) else r
def specOp (s : ByteArray) : Option O := specAt s 1 (specAt s 2 (specAt s 3 (specAt s 4 (specAt s 5 none))))

theorem part_op {o : O} (h : opB o = true) : partL (opT o) = (opW o.k, o.p, if o.k = 5 then o.t else o.x) := by
  obtain ⟨h1, h2, h3, h4⟩ := op_words h
  have hc := cut_is 32 (opT o)
  rw [h1, split_join _ h2 h4] at hc
  have e : cut 32 (opT o) = (wsOf o).map BA := by
    rw [← hc, List.map_map]
    rw [show (BA ∘ LB) = id from funext ba_lb, List.map_id]
  unfold partL
  rw [e]
  unfold wsOf
  by_cases h0 : (if o.k = 5 then o.t else o.x).size = 0
  · rw [if_pos h0]
    rw [if_neg (by simp)]
    refine Prod.ext (ba_lb _) (Prod.ext (ba_lb _) ?_)
    exact lb_inj (show [] = _ from (lb_nil.2 h0).symm)
  · rw [if_neg h0]
    rw [if_neg (by simp)]
    exact Prod.ext (ba_lb _) (Prod.ext (ba_lb _) (ba_lb _))
theorem hit_op {s : ByteArray} {k : Int} (h : hitOp s k = true) : opB (mkOp k (partL s).2.1 (partL s).2.2) = true ∧ opT (mkOp k (partL s).2.1 (partL s).2.2) = s := by
  unfold hitOp at h
  simp only [Bool.and_eq_true, decide_eq_true_eq] at h
  refine ⟨?_, h.2.1⟩
  cases hb : opB (mkOp k (partL s).2.1 (partL s).2.2) with
  | true => rfl
  | false =>
    exfalso
    apply h.2.2
    rw [← h.2.1]
    unfold opT
    rw [if_neg (by simp [hb])]
    rfl
theorem hit_is {o : O} (h : opB o = true) (k : Int) (hk : k = 1 ∨ k = 2 ∨ k = 3 ∨ k = 4 ∨ k = 5) : hitOp (opT o) k = decide (k = o.k) := by
  have hko := op_kind (k := o.k) (p := o.p) (t := o.t) (x := o.x) h
  unfold hitOp
  rw [part_op h]
  dsimp only
  by_cases e : k = o.k
  · subst e
    rw [op_rest h]
    have : (opT o).size ≠ 0 := by
      intro h0
      have h1 := (op_words h).1
      rw [lb_nil.2 h0] at h1
      unfold wsOf at h1
      have hw := (kind_word hko).2.1
      split at h1
      · simp [joinL] at h1
      · simp [joinL] at h1
    simp [this]
  · have : opW k ≠ opW o.k := fun q => e (by rw [← (kind_word hk).1, q, (kind_word hko).1])
    simp [this, e]
theorem spec_op (s : ByteArray) (o : O) : specOp s = some o ↔ opB o = true ∧ opT o = s := by
  constructor
  · intro h
    unfold specOp specAt at h
    split at h
    · rename_i hh; rw [← Option.some.inj h]; exact hit_op hh
    · split at h
      · rename_i hh; rw [← Option.some.inj h]; exact hit_op hh
      · split at h
        · rename_i hh; rw [← Option.some.inj h]; exact hit_op hh
        · split at h
          · rename_i hh; rw [← Option.some.inj h]; exact hit_op hh
          · split at h
            · rename_i hh; rw [← Option.some.inj h]; exact hit_op hh
            · cases h
  · rintro ⟨hb, rfl⟩
    have hko := op_kind (k := o.k) (p := o.p) (t := o.t) (x := o.x) hb
    have hm : mkOp o.k (partL (opT o)).2.1 (partL (opT o)).2.2 = o := by rw [part_op hb]; exact op_rest hb
    unfold specOp specAt
    rw [hit_is hb 1 (by simp), hit_is hb 2 (by simp), hit_is hb 3 (by simp), hit_is hb 4 (by simp), hit_is hb 5 (by simp)]
    rcases hko with e | e | e | e | e <;> rw [e] at hm ⊢ <;> simp [hm]
theorem read_op (s : ByteArray) : progOp s = specOp s := by
  cases h : progOp s with
  | some o => exact ((spec_op s o).2 ((prog_op s o).1 h)).symm
  | none =>
    cases h2 : specOp s with
    | none => rfl
    | some o => rw [(prog_op s o).2 ((spec_op s o).1 h2)] at h; cases h
end Go.Proofs.YtgkfhcpegdlejaaGreatDoor

/-
  Trees, read from their texts as the model reads them.
-/
namespace Go.Proofs.YtgkfhcpegdlejaaGreatDoor

def lineE (l : ByteArray) : E := ⟨(partL l).2.1, decide ((partL l).1 = wD), (partL l).2.2⟩
/-- The lines that the model looks at. -/
def outE (s : ByteArray) : List E := (((cut 10 s).take ((cut 10 s).length - 1)).take 17).map lineE
def specTree (s : ByteArray) : Option (List E) := if (cut 10 s).getD ((cut 10 s).length - 1) ⟨#[]⟩ = ⟨#[]⟩ ∧ treeE (outE s) = true ∧ linesE (outE s) = s then some (outE s) else none
theorem map_ba_lb (xs : List ByteArray) : (xs.map LB).map BA = xs := by rw [List.map_map, show (BA ∘ LB) = id from funext ba_lb, List.map_id]
theorem part_ent {e : E} (h : fitT e) : lineE (entT e) = e := by
  obtain ⟨h1, h2, h3, h4⟩ := wsE_text h
  have hc := cut_is 32 (entT e)
  rw [h1, split_join _ h2 h4] at hc
  have ec : cut 32 (entT e) = (wsE e).map BA := by rw [← hc, map_ba_lb]
  obtain ⟨p, d, x⟩ := e
  obtain ⟨hp, hx, hd⟩ := h
  dsimp only at hp hx hd
  have hne : ¬ wF = wD := by decide
  cases d with
  | true =>
    have := hd rfl
    subst this
    have hw : wsE ⟨p, true, ⟨#[]⟩⟩ = [LB wD, LB p] := rfl
    rw [hw] at ec
    unfold lineE partL
    rw [ec]
    simp only [List.map_cons, List.map_nil, ba_lb]
    simp
  | false =>
    by_cases h0 : x.size = 0
    · have hw : wsE ⟨p, false, x⟩ = [LB wF, LB p] := by unfold wsE; rw [if_neg Bool.false_ne_true, if_pos h0]
      rw [hw] at ec
      have hxe : x = ⟨#[]⟩ := lb_inj (t := ⟨#[]⟩) (lb_nil.2 h0)
      unfold lineE partL
      rw [ec]
      simp only [List.map_cons, List.map_nil, ba_lb]
      simp [hne, hxe]
    · have hw : wsE ⟨p, false, x⟩ = [LB wF, LB p, LB x] := by unfold wsE; rw [if_neg Bool.false_ne_true, if_neg h0]
      rw [hw] at ec
      unfold lineE partL
      rw [ec]
      simp only [List.map_cons, List.map_nil, ba_lb]
      simp [hne]
theorem cut_lines {es : List E} (hf : ∀ e ∈ es, fitT e) : cut 10 (linesE es) = es.map entT ++ [⟨#[]⟩] := by
  obtain ⟨h1, h2⟩ := lines_ws es hf
  have hc := cut_is 10 (linesE es)
  rw [h1, split_lines _ h2] at hc
  have e1 : cut 10 (linesE es) = ((es.map wsE).map joinL ++ [[]]).map BA := by rw [← hc, map_ba_lb]
  rw [e1, List.map_append, List.map_map, List.map_map]
  congr 1
  refine List.map_congr_left (fun e he => ?_)
  show BA (joinL (wsE e)) = entT e
  rw [← (wsE_text (hf e he)).1, ba_lb]
theorem out_lines {es : List E} (h : treeE es = true) : outE (linesE es) = es ∧ (cut 10 (linesE es)).getD ((cut 10 (linesE es)).length - 1) ⟨#[]⟩ = ⟨#[]⟩ := by
  have hf := fit_tree h
  obtain ⟨_, hl⟩ := treeE_tr h
  have hc := cut_lines hf
  unfold outE
  rw [hc]
  have hlen : (es.map entT ++ [(⟨#[]⟩ : ByteArray)]).length - 1 = (es.map entT).length := by simp
  rw [hlen, List.take_left]
  refine ⟨?_, ?_⟩
  · rw [List.take_of_length_le (by rw [List.length_map]; omega), List.map_map, List.map_congr_left (f := lineE ∘ entT) (g := id) (fun e he => part_ent (hf e he)), List.map_id]
  · rw [List.getD_eq_getElem?_getD]; simp
theorem spec_tree (s : ByteArray) (es : List E) : specTree s = some es ↔ treeE es = true ∧ linesE es = s := by
  constructor
  · intro h
    unfold specTree at h
    split at h
    · rename_i hh
      rw [← Option.some.inj h]
      exact hh.2
    · cases h
  · rintro ⟨ht, rfl⟩
    obtain ⟨h1, h2⟩ := out_lines ht
    unfold specTree
    rw [h1, if_pos ⟨h2, ht, rfl⟩]
theorem read_tree (s : ByteArray) : progTree s = specTree s := by
  cases h : progTree s with
  | some es => exact ((spec_tree s es).2 ((prog_tree s es).1 h)).symm
  | none =>
    cases h2 : specTree s with
    | none => rfl
    | some es => rw [(prog_tree s es).2 ((spec_tree s es).1 h2)] at h; cases h
end Go.Proofs.YtgkfhcpegdlejaaGreatDoor

/-
  The scan of a text by its runes is the scan by its bytes.
-/
namespace Go.Proofs.YtgkfhcpegdlejaaGreatDoor
open Go.Lib

abbrev curL (s : ByteArray) (st pos : Nat) : List UInt8 := ((LB s).take pos).drop st
theorem cur_extract (s : ByteArray) {st pos : Nat} (h : pos ≤ s.size) : LB (s.extract st pos) = curL s st pos := lb_extract s st pos h
theorem cur_here (s : ByteArray) (pos : Nat) : curL s pos pos = [] := List.drop_of_length_le (by rw [List.length_take]; omega)
theorem drop_here {s : ByteArray} {pos : Nat} (h : pos < s.size) : (LB s).drop pos = s[pos] :: (LB s).drop (pos + 1) := by
  rw [List.drop_eq_getElem_cons (show pos < (LB s).length by rw [lb_len]; exact h)]
  rfl
theorem drop_all {s : ByteArray} {pos : Nat} (h : ¬ pos < s.size) : (LB s).drop pos = [] := List.drop_of_length_le (by rw [lb_len]; omega)
theorem take_more (s : ByteArray) (pos k : Nat) (st : Nat) (h : st ≤ pos) (hp : pos ≤ s.size) : curL s st pos ++ ((LB s).drop pos).take k = curL s st (pos + k) := by
  unfold curL
  rw [List.take_add, List.drop_append_of_le_length (by rw [List.length_take, lb_len]; omega)]

theorem rune_sep (s : ByteArray) (pos : Nat) (c : UInt8) (hc : c.toNat < 128) (h : pos < s.size) (hr : (Utf8.decode s pos).1 = c.toNat) : (Utf8.decode s pos).2 = 1 ∧ s[pos] = c := by
  by_cases ha : (s[pos]'h).toNat < 128
  · rw [decode_ascii s pos h ha] at hr ⊢
    exact ⟨rfl, UInt8.toNat_inj.1 hr⟩
  · have := (decode_high s pos h (by omega)).1
    omega
theorem rune_span (s : ByteArray) (pos : Nat) (h : pos < s.size) (h1 : (Utf8.decode s pos).1 ≠ 32) (h2 : (Utf8.decode s pos).1 ≠ 10) :
    ∀ c ∈ ((LB s).drop pos).take (Utf8.decode s pos).2, c ≠ 32 ∧ c ≠ 10 := by
  intro c hc
  by_cases ha : (s[pos]'h).toNat < 128
  · rw [decode_ascii s pos h ha] at h1 h2 hc
    rw [drop_here h] at hc
    simp at hc
    subst hc
    exact ⟨fun e => h1 (by show (s[pos]'h).toNat = 32; rw [e]; rfl), fun e => h2 (by show (s[pos]'h).toNat = 10; rw [e]; rfl)⟩
  · obtain ⟨j, hj, rfl⟩ := List.mem_iff_getElem.1 hc
    have hj' := hj
    rw [List.length_take] at hj'
    obtain ⟨k1, k2⟩ := decode_span s pos h (by omega) j (by omega)
    rw [get_plus s (pos + j) k1] at k2
    have e : (((LB s).drop pos).take (Utf8.decode s pos).2)[j] = s[pos + j] := by rw [List.getElem_take, List.getElem_drop]; rfl
    rw [e]
    exact ⟨fun q => by rw [q] at k2; revert k2; decide, fun q => by rw [q] at k2; revert k2; decide⟩
theorem scan_other (most : Nat) (s : ByteArray) (pos st : Nat) (ln : List (List UInt8)) (ls : List (List (List UInt8))) (h : pos < s.size) (hst : st ≤ pos) (h1 : (Utf8.decode s pos).1 ≠ 32) (h2 : (Utf8.decode s pos).1 ≠ 10) :
    scanL most ((LB s).drop pos) (curL s st pos) ln ls = scanL most ((LB s).drop (pos + (Utf8.decode s pos).2)) (curL s st (pos + (Utf8.decode s pos).2)) ln ls := by
  have e : (LB s).drop pos = ((LB s).drop pos).take (Utf8.decode s pos).2 ++ (LB s).drop (pos + (Utf8.decode s pos).2) := by
    rw [← List.drop_drop, List.take_append_drop]
  rw [e, scan_word most _ _ _ ln ls (rune_span s pos h h1 h2), take_more s pos _ st hst (by omega)]
theorem scan_space (most : Nat) (s : ByteArray) (pos st : Nat) (ln : List (List UInt8)) (ls : List (List (List UInt8))) (h : pos < s.size) (hc : s[pos] = 32) :
    scanL most ((LB s).drop pos) (curL s st pos) ln ls = if curL s st pos = [] ∨ ln.length = 3 then none else scanL most ((LB s).drop (pos + 1)) (curL s (pos + 1) (pos + 1)) (ln ++ [curL s st pos]) ls := by
  rw [drop_here h, hc, scanL, if_pos rfl, cur_here]
theorem scan_end (most : Nat) (s : ByteArray) (pos st : Nat) (ln : List (List UInt8)) (ls : List (List (List UInt8))) (h : pos < s.size) (hc : s[pos] = 10) :
    scanL most ((LB s).drop pos) (curL s st pos) ln ls = if curL s st pos = [] ∨ ln.length = 3 ∨ ls.length = most then none else scanL most ((LB s).drop (pos + 1)) (curL s (pos + 1) (pos + 1)) [] (ls ++ [ln ++ [curL s st pos]]) := by
  rw [drop_here h, hc, scanL, if_neg (by decide), if_pos rfl, cur_here]
theorem scan_fin (most : Nat) (s : ByteArray) (pos st : Nat) (ln : List (List UInt8)) (ls : List (List (List UInt8))) (h : ¬ pos < s.size) (hp : pos ≤ s.size) (hst : st ≤ pos) :
    scanL most ((LB s).drop pos) (curL s st pos) ln ls = if st = s.size ∧ ln.length = 0 then some ls else none := by
  obtain rfl : pos = s.size := by omega
  rw [drop_all h, scanL]
  have e : (curL s st s.size = [] ∧ ln = []) ↔ (st = s.size ∧ ln.length = 0) := by
    unfold curL
    rw [List.take_of_length_le (by rw [lb_len]; omega), List.drop_eq_nil_iff, lb_len, List.length_eq_zero_iff]
    exact ⟨fun h => ⟨by omega, h.2⟩, fun h => ⟨by omega, h.2⟩⟩
  by_cases q : curL s st s.size = [] ∧ ln = []
  · rw [if_pos q, if_pos (e.1 q)]
  · rw [if_neg q, if_neg (fun x => q (e.2 x))]
end Go.Proofs.YtgkfhcpegdlejaaGreatDoor

/-
  Sizes of the words of lines.
-/
namespace Go.Proofs.YtgkfhcpegdlejaaGreatDoor

theorem word_le : ∀ (ws : List (List UInt8)) (w : List UInt8), w ∈ ws → w.length ≤ (joinL ws).length
  | [], _, h => by simp at h
  | [v], w, h => by simp at h; subst h; exact Nat.le_refl _
  | v :: u :: r, w, h => by
    have e : (joinL (v :: u :: r)).length = v.length + (1 + (joinL (u :: r)).length) := by
      show (v ++ 32 :: joinL (u :: r)).length = _
      rw [List.length_append, List.length_cons]; omega
    rw [e]
    rcases List.mem_cons.1 h with rfl | h
    · omega
    · have := word_le (u :: r) w h; omega
theorem nth_le {ws : List (List UInt8)} (i : Nat) : (nthL ws i).size ≤ (joinL ws).length := by
  unfold nthL
  rw [← lb_len]
  show (ws.getD i []).length ≤ _
  by_cases h : i < ws.length
  · rw [List.getD_eq_getElem?_getD, List.getElem?_eq_getElem h]; exact word_le ws _ (List.getElem_mem h)
  · rw [List.getD_eq_getElem?_getD, List.getElem?_eq_none (by omega)]; exact Nat.zero_le _
theorem join_le : ∀ (R : List (List (List UInt8))) (ws : List (List UInt8)), ws ∈ R → (joinL ws).length ≤ (linesL R).length
  | [], _, h => by simp at h
  | r :: R, ws, h => by
    have e : linesL (r :: R) = joinL r ++ [10] ++ linesL R := by simp [linesL]
    rw [e, List.length_append, List.length_append]
    rcases List.mem_cons.1 h with rfl | h
    · omega
    · have := join_le R ws h; omega
/-- What the scan of lines tells: no word is longer than the text, and there are no more lines than may be. -/
theorem scan_le {most : Nat} {s : ByteArray} {R : List (List (List UInt8))} (h : scanL most (LB s) [] [] [] = some R) : (∀ ws ∈ R, ∀ i, (nthL ws i).size ≤ s.size) ∧ R.length ≤ most := by
  obtain ⟨e1, _, e3⟩ := scan_sound most _ [] [] [] R (fun _ h => by simp at h) (fun _ h => by simp at h) (by simp) (fun _ h => by simp at h) (by simp) h
  refine ⟨fun ws hw i => ?_, e3⟩
  have h1 := nth_le (ws := ws) i
  have h2 := join_le R ws hw
  have h3 : LB s = linesL R := by rw [← e1]; simp [aheadL, linesL]
  rw [← h3, lb_len] at h2
  omega
end Go.Proofs.YtgkfhcpegdlejaaGreatDoor

/-
  Plain facts on what is made of a list of entries: what is put in, taken out, moved; where two differ.
-/
namespace Go.Proofs.YtgkfhcpegdlejaaGreatDoor

abbrev Rise (es : List E) : Prop := es.Pairwise (fun a b => less a.p b.p)
theorem ltP_iff {e x : E} : ltP e x = true ↔ less x.p e.p := Iff.rfl
theorem put_cons_lt {e x : E} {r : List E} (h : less x.p e.p) : putE (x :: r) e = x :: putE r e := by
  have h' : ltP e x = true := h
  unfold putE; simp [h']
theorem put_cons_eq {e x : E} {r : List E} (h : x.p = e.p) : putE (x :: r) e = e :: r := by
  have h' : ltP e x = false := by
    cases hl : ltP e x with
    | false => rfl
    | true => have := ltP_iff.1 hl; rw [h] at this; exact absurd this (less_irrefl _)
  unfold putE; simp [h', restE, h]
theorem put_cons_gt {e x : E} {r : List E} (h : less e.p x.p) : putE (x :: r) e = e :: x :: r := by
  have h' : ltP e x = false := by
    cases hl : ltP e x with
    | false => rfl
    | true => exact absurd (less_trans (ltP_iff.1 hl) h) (less_irrefl _)
  have h2 : ¬ x.p.toList = e.p.toList := fun k => by rw [toList_inj k] at h; exact less_irrefl _ h
  unfold putE; simp [h', restE, h2]
theorem put_facts (e : E) : ∀ es : List E, Rise es → Rise (putE es e) ∧ ∀ f, f ∈ putE es e ↔ f = e ∨ (f ∈ es ∧ f.p ≠ e.p)
  | [], _ => ⟨by simp [putE, restE, Rise], fun f => by simp [putE, restE]⟩
  | x :: r, h => by
    obtain ⟨h1, h2⟩ := List.pairwise_cons.1 h
    by_cases hx : x.p = e.p
    · rw [put_cons_eq hx]
      refine ⟨List.pairwise_cons.2 ⟨fun f hf => by rw [← hx]; exact h1 f hf, h2⟩, fun f => ?_⟩
      rw [List.mem_cons, List.mem_cons]
      constructor
      · rintro (k | k)
        · exact .inl k
        · exact .inr ⟨.inr k, fun q => by have := h1 f k; rw [hx, q] at this; exact less_irrefl _ this⟩
      · rintro (k | ⟨k | k, q⟩)
        · exact .inl k
        · rw [k] at q; exact absurd hx q
        · exact .inr k
    · rcases less_or hx with hl | hl
      · rw [put_cons_lt hl]
        obtain ⟨i1, i2⟩ := put_facts e r h2
        refine ⟨List.pairwise_cons.2 ⟨fun f hf => ?_, i1⟩, fun f => ?_⟩
        · rcases (i2 f).1 hf with k | ⟨k, _⟩
          · rw [k]; exact hl
          · exact h1 f k
        · rw [List.mem_cons, List.mem_cons, i2 f]
          constructor
          · rintro (k | k | ⟨k, q⟩)
            · exact .inr ⟨.inl k, by rw [k]; exact hx⟩
            · exact .inl k
            · exact .inr ⟨.inr k, q⟩
          · rintro (k | ⟨k | k, q⟩)
            · exact .inr (.inl k)
            · exact .inl k
            · exact .inr (.inr ⟨k, q⟩)
      · rw [put_cons_gt hl]
        refine ⟨List.pairwise_cons.2 ⟨fun f hf => ?_, h⟩, fun f => ?_⟩
        · rcases List.mem_cons.1 hf with k | k
          · rw [k]; exact hl
          · exact less_trans hl (h1 f k)
        · rw [List.mem_cons]
          constructor
          · rintro (k | k)
            · exact .inl k
            · refine .inr ⟨k, fun q => ?_⟩
              rcases List.mem_cons.1 k with m | m
              · rw [m] at q; exact hx q
              · have := less_trans hl (h1 f m); rw [q] at this; exact less_irrefl _ this
          · rintro (k | ⟨k, _⟩)
            · exact .inl k
            · exact .inr k
theorem put_rise {es : List E} (h : Rise es) (e : E) : Rise (putE es e) := (put_facts e es h).1
theorem put_mem {es : List E} (h : Rise es) (e f : E) : f ∈ putE es e ↔ f = e ∨ (f ∈ es ∧ f.p ≠ e.p) := (put_facts e es h).2 f
theorem put_look {es : List E} (h : Rise es) (e : E) (s : ByteArray) : lookE (putE es e) s = if s = e.p then some e else lookE es s := by
  by_cases hs : s = e.p
  · rw [if_pos hs, look_iff (put_rise h e), put_mem h]; exact ⟨.inl rfl, hs.symm⟩
  · rw [if_neg hs]
    cases hl : lookE es s with
    | none =>
      rw [look_none] at hl ⊢
      intro f hf q
      rcases (put_mem h e f).1 hf with k | ⟨k, _⟩
      · rw [k] at q; exact hs q.symm
      · exact hl f k q
    | some f =>
      rw [look_iff (put_rise h e), put_mem h]
      obtain ⟨h1, h2⟩ := look_mem hl
      exact ⟨.inr ⟨h1, by rw [h2]; exact hs⟩, h2⟩
theorem off_rise {es : List E} (h : Rise es) (s : ByteArray) : Rise (offE es s) := h.filter _
theorem off_mem (es : List E) (s : ByteArray) (f : E) : f ∈ offE es s ↔ f ∈ es ∧ f.p ≠ s := by
  unfold offE
  rw [List.mem_filter, beqL]
  simp
theorem off_look {es : List E} (h : Rise es) (s q : ByteArray) : lookE (offE es s) q = if q = s then none else lookE es q := by
  by_cases hq : q = s
  · rw [if_pos hq, look_none]
    intro f hf k
    exact ((off_mem es s f).1 hf).2 (k.trans hq)
  · rw [if_neg hq]
    cases hl : lookE es q with
    | none =>
      rw [look_none] at hl ⊢
      intro f hf k
      exact hl f ((off_mem es s f).1 hf).1 k
    | some f =>
      obtain ⟨h1, h2⟩ := look_mem hl
      rw [look_iff (off_rise h s), off_mem]
      exact ⟨⟨h1, by rw [h2]; exact hq⟩, h2⟩
theorem both_rise : ∀ (fs es : List E), Rise es → Rise (bothE es fs)
  | [], _, h => h
  | f :: r, es, h => both_rise r (putE es f) (put_rise h f)
theorem both_look : ∀ (fs es : List E), Rise es → Rise fs → ∀ s, lookE (bothE es fs) s = (lookE fs s).or (lookE es s)
  | [], _, _, _, _ => rfl
  | f :: r, es, h, k, s => by
    obtain ⟨k1, k2⟩ := List.pairwise_cons.1 k
    show lookE (bothE (putE es f) r) s = _
    rw [both_look r (putE es f) (put_rise h f) k2 s, put_look h f s]
    show _ = (lookE (f :: r) s).or _
    have hc : lookE (f :: r) s = if f.p = s then some f else lookE r s := by
      unfold lookE; rw [List.find?_cons]
      by_cases hf : f.p = s <;> simp [hf]
    rw [hc]
    by_cases hf : f.p = s
    · have hr : lookE r s = none := look_none.2 fun g hg q => by
        have := k1 g hg; rw [hf, q] at this; exact less_irrefl _ this
      rw [if_pos hf, if_pos hf.symm, hr]; rfl
    · rw [if_neg hf, if_neg (fun q => hf q.symm)]
/-- A path at which something is in one of the two, and not the same in both. -/
def differ (es fs : List E) (s : ByteArray) : Prop := lookE es s ≠ lookE fs s
theorem sameT1_iff (e f : E) : sameT1 e f = true ↔ e = f := by
  unfold sameT1
  rw [Bool.and_eq_true, Bool.and_eq_true, beqL, beqL, decide_eq_true_iff, decide_eq_true_iff, beq_iff_eq]
  constructor
  · rintro ⟨⟨h1, h2⟩, h3⟩
    cases e; cases f; simp_all
  · rintro rfl; exact ⟨⟨rfl, rfl⟩, rfl⟩
theorem turnB_iff {es fs : List E} {e : E} (hp : isRoot e.p = false) (hs : (lookE es e.p).isSome = true ∨ (lookE fs e.p).isSome = true) : turnB es fs e = true ↔ differ es fs e.p := by
  unfold turnB differ
  rw [getE_look hp, getE_look hp, Bool.or_eq_true, Bool.not_eq_true']
  have hst := fun a b : E => sameT1_iff a b
  cases h1 : lookE es e.p with
  | none =>
    cases h2 : lookE fs e.p with
    | none => rw [h1, h2] at hs; simp at hs
    | some f => simp
  | some g =>
    cases h2 : lookE fs e.p with
    | none => simp
    | some f =>
      simp only [Option.isSome_some, bne_self_eq_false, Bool.false_eq_true, false_or, Option.getD_some, ne_eq, Option.some.injEq]
      rw [← hst g f]; simp
theorem root_not_path {s : ByteArray} (h : pathB s = true) : isRoot s = false := by
  cases hr : isRoot s with
  | false => rfl
  | true =>
    have := (isRoot_iff s).1 hr
    rw [this, root_no_path] at h; cases h
theorem turnE_rise {es fs : List E} (T : TrE es) : (turnE es fs).Pairwise less := by
  unfold turnE
  rw [List.pairwise_map]
  exact (both_rise fs es T.sort).filter _
theorem turnE_mem {es fs : List E} (T : TrE es) (U : TrE fs) (s : ByteArray) : s ∈ turnE es fs ↔ differ es fs s := by
  have hb := both_rise fs es T.sort
  have hl := both_look fs es T.sort U.sort s
  unfold turnE
  rw [List.mem_map]
  have hpath : ∀ e : E, e ∈ bothE es fs → pathB e.p = true ∧ ((lookE es e.p).isSome = true ∨ (lookE fs e.p).isSome = true) := fun e he => by
    have h1 := look_self hb he
    rw [both_look fs es T.sort U.sort] at h1
    cases h2 : lookE fs e.p with
    | some f =>
      obtain ⟨h3, h4⟩ := look_mem h2
      exact ⟨by rw [← h4]; exact U.path f h3, .inr rfl⟩
    | none =>
      rw [h2] at h1
      obtain ⟨h3, _⟩ := look_mem (show lookE es e.p = some e from h1)
      exact ⟨T.path e h3, .inl (by rw [show lookE es e.p = some e from h1]; rfl)⟩
  constructor
  · rintro ⟨e, he, rfl⟩
    obtain ⟨h1, h2⟩ := List.mem_filter.1 he
    obtain ⟨h3, h4⟩ := hpath e h1
    exact (turnB_iff (root_not_path h3) h4).1 h2
  · intro hd
    have : ∃ e, lookE (bothE es fs) s = some e := by
      rw [hl]
      unfold differ at hd
      cases h2 : lookE fs s with
      | some f => exact ⟨f, rfl⟩
      | none =>
        rw [h2] at hd
        cases h3 : lookE es s with
        | some f => exact ⟨f, rfl⟩
        | none => exact absurd h3 hd
    obtain ⟨e, he⟩ := this
    obtain ⟨h1, h2⟩ := look_mem he
    obtain ⟨h3, h4⟩ := hpath e h1
    exact ⟨e, List.mem_filter.2 ⟨h1, (turnB_iff (root_not_path h3) h4).2 (by rw [h2]; exact hd)⟩, h2⟩
end Go.Proofs.YtgkfhcpegdlejaaGreatDoor

/-
  Plain facts on what is done to a right tree: it is one again, and what is then at each path.
-/
namespace Go.Proofs.YtgkfhcpegdlejaaGreatDoor

theorem up_ne {s : ByteArray} (h : pathB s = true) : upS s ≠ s := fun q => by
  have h1 := up_under h
  rw [q, under_self] at h1; cases h1
theorem dir_of_look {es fs : List E} {s : ByteArray} (h : lookE es s = lookE fs s) : dirE es s = dirE fs s := by
  rw [dirE_look, dirE_look, h]
theorem dir_isRoot {es : List E} {s : ByteArray} (hp : pathB s = true) (hl : lookE es s = none) : dirE es s = false := by
  rw [dirE_look, hl, root_not_path hp]; rfl
/-- An entry is put into a right tree. -/
theorem tr_put {es : List E} {e : E} (T : TrE es) (h1 : pathB e.p = true) (h2 : dataB e.x = true) (h3 : e.d = true → e.x = ⟨#[]⟩) (h4 : dirE es e.p = false) (h5 : dirE es (upS e.p) = true) : TrE (putE es e) where
  path f hf := by
    rcases (put_mem T.sort e f).1 hf with k | ⟨k, _⟩
    · rw [k]; exact h1
    · exact T.path f k
  sort := put_rise T.sort e
  up f hf := by
    rcases (put_mem T.sort e f).1 hf with k | ⟨k, _⟩
    · rw [k, dir_of_look (fs := es) (by rw [put_look T.sort, if_neg (up_ne h1)])]; exact h5
    · have hu := T.up f k
      have hne : upS f.p ≠ e.p := fun q => by rw [q, h4] at hu; cases hu
      rw [dir_of_look (fs := es) (by rw [put_look T.sort, if_neg hne])]; exact hu
  data f hf := by
    rcases (put_mem T.sort e f).1 hf with k | ⟨k, _⟩
    · rw [k]; exact ⟨h2, h3⟩
    · exact T.data f k
/-- Something in which nothing is is taken out of a right tree. -/
theorem tr_off {es : List E} {s : ByteArray} (T : TrE es) (h : ∀ e ∈ es, upS e.p ≠ s) : TrE (offE es s) where
  path f hf := T.path f ((off_mem es s f).1 hf).1
  sort := off_rise T.sort s
  up f hf := by
    obtain ⟨k, _⟩ := (off_mem es s f).1 hf
    rw [dir_of_look (fs := es) (by rw [off_look T.sort, if_neg (h f k)])]; exact T.up f k
  data f hf := T.data f ((off_mem es s f).1 hf).1
theorem kids_nil {es : List E} {s : ByteArray} (h : kidsE es s = []) : ∀ e ∈ es, upS e.p ≠ s := fun e he q => by
  unfold kidsE at h
  have h1 : es.filter (kidB s) = [] := List.map_eq_nil_iff.1 h
  have := List.mem_filter.2 ⟨he, (kid_iff s e).2 q⟩
  rw [h1] at this; cases this
theorem kids_file {es : List E} (T : TrE es) {s : ByteArray} (h : dirE es s = false) : kidsE es s = [] := by
  unfold kidsE
  rw [List.map_eq_nil_iff, List.filter_eq_nil_iff]
  intro e he hk
  have := T.up e he
  rw [(kid_iff s e).1 hk, h] at this; cases this

/-! ### What is moved -/
theorem both_mem : ∀ (gs es : List E), Rise es → gs.Pairwise (fun a b => a.p ≠ b.p) → ∀ x, x ∈ bothE es gs ↔ x ∈ gs ∨ (x ∈ es ∧ ∀ g ∈ gs, x.p ≠ g.p)
  | [], es, _, _, x => by simp [bothE]
  | g :: r, es, h, k, x => by
    obtain ⟨k1, k2⟩ := List.pairwise_cons.1 k
    show x ∈ bothE (putE es g) r ↔ _
    rw [both_mem r (putE es g) (put_rise h g) k2 x, put_mem h, List.mem_cons]
    constructor
    · rintro (m | ⟨m | ⟨m, q⟩, n⟩)
      · exact .inl (.inr m)
      · exact .inl (.inl m)
      · refine .inr ⟨m, fun y hy => ?_⟩
        rcases List.mem_cons.1 hy with e | e
        · rw [e]; exact q
        · exact n y e
    · rintro ((m | m) | ⟨m, n⟩)
      · exact .inr ⟨.inl m, fun y hy => by rw [m]; exact k1 y hy⟩
      · exact .inl m
      · exact .inr ⟨.inr ⟨m, n g (List.mem_cons_self ..)⟩, fun y hy => n y (List.mem_cons_of_mem _ hy)⟩
theorem mov_both (es : List E) (f t : ByteArray) : movE es f t = bothE [] (es.map (movE1 f t)) := by
  unfold movE bothE; rw [List.foldl_map]

theorem hitP {s f : ByteArray} (hs : pathB s = true) (hf : pathB f = true) : movHit s f = true ↔ (s = f ∨ underI s f = true) := by
  rw [hit_under hs hf, Bool.or_eq_true, beqL, decide_eq_true_iff]

/-- What a move asks for. -/
structure Mv (es : List E) (f t : ByteArray) : Prop where
  T : TrE es
  pf : pathB f = true
  pt : pathB t = true
  there : ∃ e, lookE es f = some e
  dir : dirE es (upS t) = true
  free : lookE es t = none
  out : underI t f = false
  fit : fitE es f t = true
theorem Mv.ok {es : List E} {f t : ByteArray} (m : Mv es f t) {e : E} (he : e ∈ es) : movOk e.p f t = true := by
  have := m.fit
  unfold fitE at this
  rw [List.all_eq_true] at this
  exact this e he
theorem Mv.free' {es : List E} {f t : ByteArray} (m : Mv es f t) {e : E} (he : e ∈ es) : movHit e.p t = false := by
  cases h : movHit e.p t with
  | false => rfl
  | true =>
    have h1 := gone_below m.T m.pt ((hitP (m.T.path e he) m.pt).1 h) m.free
    rw [look_self m.T.sort he] at h1; cases h1
theorem Mv.ne {es : List E} {f t : ByteArray} (m : Mv es f t) : t ≠ f := fun q => by
  obtain ⟨e, he⟩ := m.there
  rw [← q, m.free] at he; cases he
theorem Mv.hit {es : List E} {f t : ByteArray} (m : Mv es f t) {e : E} (he : e ∈ es) (h : movHit e.p f = true) : (movE1 f t e).p = movX e.p f t ∧ pathB (movX e.p f t) = true := movS_yes (m.ok he) h
theorem Mv.miss {es : List E} {f t : ByteArray} (m : Mv es f t) {e : E} (he : e ∈ es) (h : movHit e.p f = false) : (movE1 f t e).p = e.p := by
  obtain ⟨h1, _⟩ := movOk_parts (m.ok he)
  show movS e.p f t = _
  unfold movS; rw [h1, h]; rfl
theorem Mv.inj {es : List E} {f t : ByteArray} (m : Mv es f t) {a b : E} (ha : a ∈ es) (hb : b ∈ es) (h : (movE1 f t a).p = (movE1 f t b).p) : a.p = b.p := by
  cases h1 : movHit a.p f with
  | true =>
    cases h2 : movHit b.p f with
    | true =>
      rw [(m.hit ha h1).1, (m.hit hb h2).1] at h
      have : movX (movX a.p f t) t f = movX (movX b.p f t) t f := by rw [h]
      rwa [moved_back h1, moved_back h2] at this
    | false =>
      rw [(m.hit ha h1).1, m.miss hb h2] at h
      have := moved_hit (t := t) h1
      rw [h, m.free' hb] at this; cases this
  | false =>
    cases h2 : movHit b.p f with
    | true =>
      rw [m.miss ha h1, (m.hit hb h2).1] at h
      have := moved_hit (t := t) h2
      rw [← h, m.free' ha] at this; cases this
    | false => rwa [m.miss ha h1, m.miss hb h2] at h
theorem Mv.apart {es : List E} {f t : ByteArray} (m : Mv es f t) : (es.map (movE1 f t)).Pairwise (fun a b => a.p ≠ b.p) := by
  rw [List.pairwise_map]
  refine List.Pairwise.imp_of_mem ?_ m.T.sort
  intro a b ha hb hl q
  have := m.inj ha hb q
  rw [this] at hl
  exact less_irrefl _ hl
theorem Mv.mem {es : List E} {f t : ByteArray} (m : Mv es f t) (x : E) : x ∈ movE es f t ↔ ∃ e ∈ es, movE1 f t e = x := by
  rw [mov_both, both_mem _ _ (by simp [Rise]) m.apart]
  simp
theorem Mv.rise {es : List E} {f t : ByteArray} (_m : Mv es f t) : Rise (movE es f t) := by
  rw [mov_both]; exact both_rise _ _ (by simp [Rise])
theorem look_of {es : List E} {s : ByteArray} {o : Option E} (h : Rise es) (hs : ∀ e, o = some e → e ∈ es ∧ e.p = s) (hn : o = none → ∀ e ∈ es, e.p ≠ s) : lookE es s = o := by
  cases o with
  | none => exact look_none.2 (hn rfl)
  | some e => exact (look_iff h s e).2 (hs e rfl)
theorem Mv.look_to {es : List E} {f t : ByteArray} (m : Mv es f t) {s : ByteArray} (h : movHit s t = true) : lookE (movE es f t) s = (lookE es (movX s t f)).map (fun e => ⟨s, e.d, e.x⟩) := by
  refine look_of m.rise (fun e he => ?_) (fun hn e he q => ?_)
  · obtain ⟨g, hg, rfl⟩ := Option.map_eq_some_iff.1 he
    obtain ⟨g1, g2⟩ := look_mem hg
    have hh : movHit g.p f = true := by rw [g2]; exact moved_hit h
    have hp : (movE1 f t g).p = s := by rw [(m.hit g1 hh).1, g2]; exact moved_back h
    exact ⟨(m.mem _).2 ⟨g, g1, by rw [← hp]; rfl⟩, rfl⟩
  · obtain ⟨g, g1, rfl⟩ := (m.mem e).1 he
    cases h2 : movHit g.p f with
    | true =>
      rw [(m.hit g1 h2).1] at q
      have hb : g.p = movX s t f := by rw [← q]; exact (moved_back h2).symm
      have hl := look_self m.T.sort g1
      rw [hb] at hl
      rw [hl] at hn; cases hn
    | false =>
      rw [m.miss g1 h2] at q
      rw [← q, m.free' g1] at h; cases h
theorem Mv.look_from {es : List E} {f t : ByteArray} (m : Mv es f t) {s : ByteArray} (h : movHit s t = false) (k : movHit s f = true) : lookE (movE es f t) s = none := by
  refine look_none.2 fun e he q => ?_
  obtain ⟨g, g1, rfl⟩ := (m.mem e).1 he
  cases h2 : movHit g.p f with
  | true =>
    rw [(m.hit g1 h2).1] at q
    have := moved_hit (t := t) h2
    rw [q, h] at this; cases this
  | false =>
    rw [m.miss g1 h2] at q
    rw [q, k] at h2; cases h2
theorem Mv.look_else {es : List E} {f t : ByteArray} (m : Mv es f t) {s : ByteArray} (h : movHit s t = false) (k : movHit s f = false) : lookE (movE es f t) s = lookE es s := by
  refine look_of m.rise (fun e he => ?_) (fun hn e he q => ?_)
  · obtain ⟨e1, e2⟩ := look_mem he
    have hp := m.miss e1 (by rw [e2]; exact k)
    refine ⟨(m.mem e).2 ⟨e, e1, ?_⟩, e2⟩
    cases e; simp only [movE1, E.mk.injEq, and_true]; exact hp
  · obtain ⟨g, g1, rfl⟩ := (m.mem e).1 he
    cases h2 : movHit g.p f with
    | true =>
      rw [(m.hit g1 h2).1] at q
      have := moved_hit (t := t) h2
      rw [q, h] at this; cases this
    | false =>
      rw [m.miss g1 h2] at q
      exact look_none.1 hn g g1 q
theorem movX_join {s f t n : ByteArray} (hs : pathB s = true) (hx : pathB (movX s f t) = true) (h : movHit s f = true) : movX (joinI s n) f t = joinI (movX s f t) n := by
  obtain ⟨h1, _⟩ := hit_le h
  unfold joinI
  rw [stem_path hs, stem_path hx]
  apply L_inj
  unfold movX
  rw [L_app, L_app, L_app, L_app, L_ext, L_ext, L_app, L_app]
  have e1 : (s ++ ⟨#[47]⟩ ++ n).size - f.size = (s.size - f.size) + (1 + n.size) := by
    rw [ByteArray.size_append, ByteArray.size_append]
    have : (⟨#[47]⟩ : ByteArray).size = 1 := rfl
    omega
  have hl := L_len s
  rw [List.append_assoc, List.drop_append_of_le_length (by omega), List.take_of_length_le (by
    rw [e1, List.length_append, List.length_append, List.length_drop, L_len, L_len n]
    have : (L ⟨#[47]⟩).length = 1 := rfl
    omega), List.take_of_length_le (by rw [List.length_drop]; omega)]
  simp
theorem movX_self (f t : ByteArray) : movX f f t = t := by
  unfold movX
  exact app_empty _ _ (by rw [size_ext]; omega)
/-- A path that is moved, but what is moved itself, is in what its own is in, moved. -/
theorem movX_up {s f t : ByteArray} (hs : pathB s = true) (hf : pathB f = true) (hu : underI s f = true) (hx : pathB (movX (upS s) f t) = true) (hx' : pathB (movX s f t) = true) : upS (movX s f t) = movX (upS s) f t := by
  have hup : pathB (upS s) = true ∧ movHit (upS s) f = true := by
    rcases (under_up hs).1 hu with e | e
    · rw [← e]; exact ⟨hf, (hit_iff _ _).2 (.inl rfl)⟩
    · have h2 := ((underI_iff _ _).1 e).2.1
      exact ⟨h2, (hitP h2 hf).2 (.inr e)⟩
  have hj := movX_join (n := nmS s) hup.1 hx hup.2
  rw [up_join hs] at hj
  have := join_up (join_ok (stemOk_path hx) (up_facts hs).2.2.1 (by rw [← hj]; exact hx'))
  rw [hj]; exact this.1
theorem Mv.tr {es : List E} {f t : ByteArray} (m : Mv es f t) : TrE (movE es f t) where
  path x hx := by
    obtain ⟨e, he, rfl⟩ := (m.mem x).1 hx
    cases h : movHit e.p f with
    | true => rw [(m.hit he h).1]; exact (m.hit he h).2
    | false => rw [m.miss he h]; exact m.T.path e he
  sort := m.rise
  up x hx := by
    obtain ⟨e, he, rfl⟩ := (m.mem x).1 hx
    have hpe := m.T.path e he
    have hup := m.T.up e he
    cases h : movHit e.p f with
    | true =>
      rw [(m.hit he h).1]
      rcases (hitP hpe m.pf).1 h with q | q
      · rw [q, movX_self]
        have hnt : movHit (upS t) t = false := by
          cases hh : movHit (upS t) t with
          | false => rfl
          | true =>
            have := (hit_le hh).1
            rcases stemOk_is (m.T.dirOk m.dir) with k | k
            · rcases (hit_iff _ _).1 hh with k2 | k2
              · exact absurd k2 (up_ne m.pt)
              · have h3 := k2.1; rw [k] at h3
                have h4 := pathB_head _ m.pt
                have : (⟨#[47]⟩ : ByteArray).size = 1 := rfl
                omega
            · have := up_size m.pt
              rw [stem_path k] at this; omega
        have hnf : movHit (upS t) f = false := by
          cases hh : movHit (upS t) f with
          | false => rfl
          | true =>
            rcases stemOk_is (m.T.dirOk m.dir) with k | k
            · rcases (hit_iff _ _).1 hh with k2 | k2
              · have hpf := m.pf
                rw [← k2, k, root_no_path] at hpf; cases hpf
              · have h3 := k2.1; rw [k] at h3
                have h4 := pathB_head _ m.pf
                have : (⟨#[47]⟩ : ByteArray).size = 1 := rfl
                omega
            · have h1 : underI t f = true := (under_up m.pt).2 (by
                rcases (hitP k m.pf).1 hh with e1 | e1
                · exact .inl e1.symm
                · exact .inr e1)
              rw [m.out] at h1; cases h1
        rw [dir_of_look (m.look_else hnt hnf)]; exact m.dir
      · have hu2 : pathB (upS e.p) = true ∧ movHit (upS e.p) f = true := by
          rcases (under_up hpe).1 q with e1 | e1
          · rw [← e1]; exact ⟨m.pf, (hit_iff _ _).2 (.inl rfl)⟩
          · have h2 := ((underI_iff _ _).1 e1).2.1
            exact ⟨h2, (hitP h2 m.pf).2 (.inr e1)⟩
        rcases dir_look hup with k | ⟨g, hg, hd⟩
        · rw [k, root_no_path] at hu2; cases hu2.1
        · obtain ⟨g1, g2⟩ := look_mem hg
          have hgh : movHit g.p f = true := by rw [g2]; exact hu2.2
          have hgx := (m.hit g1 hgh).2
          rw [g2] at hgx
          rw [movX_up hpe m.pf q hgx (m.hit he h).2]
          refine look_dir (.inr ⟨⟨movX (upS e.p) f t, g.d, g.x⟩, ?_, hd⟩)
          rw [m.look_to (moved_hit hu2.2), moved_back hu2.2, hg]; rfl
    | false =>
      rw [m.miss he h]
      rcases dir_look hup with k | ⟨g, hg, hd⟩
      · exact look_dir (.inl k)
      · obtain ⟨g1, g2⟩ := look_mem hg
        have hpu : pathB (upS e.p) = true := by rw [← g2]; exact m.T.path g g1
        have hnt : movHit (upS e.p) t = false := by rw [← g2]; exact m.free' g1
        have hnf : movHit (upS e.p) f = false := by
          cases hh : movHit (upS e.p) f with
          | false => rfl
          | true =>
            have h1 : underI e.p f = true := (under_up hpe).2 (by
              rcases (hitP hpu m.pf).1 hh with e1 | e1
              · exact .inl e1.symm
              · exact .inr e1)
            rw [(hitP hpe m.pf).2 (.inr h1)] at h; cases h
        exact look_dir (.inr ⟨g, by rw [m.look_else hnt hnf]; exact hg, hd⟩)
  data x hx := by
    obtain ⟨e, he, rfl⟩ := (m.mem x).1 hx
    exact m.T.data e he
/-- What is told of what is moved are paths just if all fits. -/
theorem told_fit {es : List E} {f t : ByteArray} (T : TrE es) (pf : pathB f = true) (pt : pathB t = true) : (told es f t).all (fun y => pathB y.1) = fitE es f t := by
  unfold told fitE bel
  rw [Bool.eq_iff_iff, List.all_eq_true, List.all_eq_true]
  constructor
  · intro h e he
    have hpe := T.path e he
    have hall : movAll e.p f t = true := by unfold movAll; rw [hpe, pf, pt]; rfl
    unfold movOk
    rw [hall, Bool.true_and, Bool.or_eq_true, Bool.not_eq_true']
    cases hh : movHit e.p f with
    | false => exact .inl rfl
    | true =>
      right
      rcases (hitP hpe pf).1 hh with q | q
      · rw [q, movX_self]; exact pt
      · have := h _ (List.mem_map.2 ⟨e, List.mem_filter.2 ⟨he, q⟩, rfl⟩)
        unfold toldAt at this
        rw [stem_path pf] at this
        exact this
  · intro h y hy
    obtain ⟨e, he, rfl⟩ := List.mem_map.1 hy
    obtain ⟨he1, he2⟩ := List.mem_filter.1 he
    have hk := h e he1
    have hpe := T.path e he1
    have := (movS_yes hk ((hitP hpe pf).2 (.inr he2))).2
    unfold toldAt
    rw [stem_path pf]
    exact this
end Go.Proofs.YtgkfhcpegdlejaaGreatDoor

/-
  Plain facts on what is done to a tree: when it can be done, and what is made.
-/
namespace Go.Proofs.YtgkfhcpegdlejaaGreatDoor
open Go.Lib

theorem get_no {es : List E} {s : ByteArray} (hp : pathB s = true) (h : lookE es s = none) : getE es s = (noneE, false) := by
  rw [getE_look (root_not_path hp), h]; rfl
theorem get_yes {es : List E} {s : ByteArray} (hp : pathB s = true) {f : E} (h : lookE es s = some f) : getE es s = (f, true) := by
  rw [getE_look (root_not_path hp), h]; rfl
theorem upC_cases (es : List E) (s : ByteArray) : (upC es s = 0 ∧ dirE es (upS s) = true) ∨ ((upC es s = 2 ∨ upC es s = 3) ∧ dirE es (upS s) = false) := by
  unfold upC
  rw [dirE_look]
  cases hr : isRoot (upS s) with
  | true => left; rw [getE_root hr]; exact ⟨rfl, rfl⟩
  | false =>
    rw [getE_look hr]
    cases hl : lookE es (upS s) with
    | none => right; exact ⟨.inl rfl, rfl⟩
    | some f =>
      cases hd : f.d with
      | true => left; simp [hd]
      | false => right; simp [hd]
theorem upC_zero {es : List E} {s : ByteArray} : upC es s = 0 ↔ dirE es (upS s) = true := by
  rcases upC_cases es s with ⟨h1, h2⟩ | ⟨h1, h2⟩
  · simp [h1, h2]
  · rcases h1 with h1 | h1 <;> simp [h1, h2]
theorem newC_cases (es : List E) {s : ByteArray} (hp : pathB s = true) :
    (newC es s = 0 ∧ dirE es (upS s) = true ∧ lookE es s = none ∧ es.length < 16) ∨
    (newC es s = 8 ∧ dirE es (upS s) = true ∧ lookE es s = none ∧ 16 ≤ es.length) ∨
    (newC es s = 4 ∧ dirE es (upS s) = true ∧ ∃ f, lookE es s = some f) ∨
    ((newC es s = 2 ∨ newC es s = 3) ∧ dirE es (upS s) = false ∧ newC es s = upC es s) := by
  rcases upC_cases es s with ⟨h1, h2⟩ | ⟨h1, h2⟩
  · cases hl : lookE es s with
    | none =>
      have : newC es s = if 16 ≤ es.length then 8 else 0 := by unfold newC; rw [h1, if_neg (by simp), get_no hp hl]; rfl
      by_cases h16 : 16 ≤ es.length
      · rw [if_pos h16] at this; exact .inr (.inl ⟨this, h2, rfl, h16⟩)
      · rw [if_neg h16] at this; exact .inl ⟨this, h2, rfl, by omega⟩
    | some f =>
      have : newC es s = 4 := by unfold newC; rw [h1, if_neg (by simp), get_yes hp hl]; rfl
      exact .inr (.inr (.inl ⟨this, h2, f, rfl⟩))
  · have : newC es s = upC es s := by unfold newC; rw [if_pos (by rcases h1 with h1 | h1 <;> rw [h1] <;> decide)]
    rw [this]; exact .inr (.inr (.inr ⟨h1, h2, rfl⟩))
theorem putC_cases (es : List E) {s : ByteArray} (hp : pathB s = true) :
    (putC es s = 0 ∧ dirE es (upS s) = true ∧ ((lookE es s = none ∧ es.length < 16) ∨ ∃ f, lookE es s = some f ∧ f.d = false)) ∨
    (putC es s = 8 ∧ dirE es (upS s) = true ∧ lookE es s = none ∧ 16 ≤ es.length) ∨
    (putC es s = 5 ∧ dirE es (upS s) = true ∧ ∃ f, lookE es s = some f ∧ f.d = true) ∨
    ((putC es s = 2 ∨ putC es s = 3) ∧ dirE es (upS s) = false ∧ putC es s = upC es s) := by
  rcases newC_cases es hp with ⟨h1, h2, h3, h4⟩ | ⟨h1, h2, h3, h4⟩ | ⟨h1, h2, f, h3⟩ | ⟨h1, h2, h3⟩
  · exact .inl ⟨by unfold putC; rw [h1]; rfl, h2, .inl ⟨h3, h4⟩⟩
  · exact .inr (.inl ⟨by unfold putC; rw [h1]; rfl, h2, h3, h4⟩)
  · have : putC es s = if f.d = true then 5 else 0 := by unfold putC; rw [h1, if_pos rfl, get_yes hp h3]
    cases hd : f.d with
    | true => rw [hd] at this; exact .inr (.inr (.inl ⟨this, h2, f, h3, hd⟩))
    | false => rw [hd] at this; exact .inl ⟨this, h2, .inr ⟨f, h3, hd⟩⟩
  · have : putC es s = newC es s := by unfold putC; rw [if_neg (by rcases h1 with h1 | h1 <;> rw [h1] <;> decide)]
    rw [this]; exact .inr (.inr (.inr ⟨h1, h2, h3⟩))
theorem offC_cases (es : List E) (k : Int) {s : ByteArray} (hp : pathB s = true) :
    (offC es k s = 2 ∧ lookE es s = none) ∨ ∃ f, lookE es s = some f ∧ ((offC es k s = 5 ∧ k = 3 ∧ f.d = true) ∨ (offC es k s = 3 ∧ k = 4 ∧ f.d = false) ∨ (¬ (k = 3 ∧ f.d = true) ∧ ¬ (k = 4 ∧ f.d = false) ∧ ((offC es k s = 6 ∧ kidsE es s ≠ []) ∨ (offC es k s = 0 ∧ kidsE es s = [])))) := by
  cases hl : lookE es s with
  | none => left; exact ⟨by unfold offC; rw [get_no hp hl]; rfl, rfl⟩
  | some f =>
    right
    refine ⟨f, rfl, ?_⟩
    unfold offC
    rw [get_yes hp hl, if_neg (by simp)]
    by_cases h1 : k = 3 ∧ f.d = true
    · rw [if_pos h1]; exact .inl ⟨rfl, h1⟩
    · rw [if_neg h1]
      by_cases h2 : k = 4 ∧ f.d = false
      · rw [if_pos h2]; exact .inr (.inl ⟨rfl, h2⟩)
      · rw [if_neg h2]
        refine .inr (.inr ⟨h1, h2, ?_⟩)
        by_cases h3 : 0 < (kidsE es s).length
        · rw [if_pos h3]; exact .inl ⟨rfl, fun q => by rw [q] at h3; exact absurd h3 (by simp)⟩
        · rw [if_neg h3]; exact .inr ⟨rfl, List.length_eq_zero_iff.1 (by omega)⟩
theorem underL_I {s d : ByteArray} (hs : pathB s = true) (hd : pathB d = true) : underL s d = underI s d := by
  rw [underI_eq, hs, stemOk_path hd]; rfl
theorem moveC_cases {es : List E} (T : TrE es) {f t : ByteArray} (hf : pathB f = true) (ht : pathB t = true) :
    (moveC es f t = 0 ∧ Mv es f t) ∨ (moveC es f t = 2 ∧ lookE es f = none) ∨
    ((moveC es f t = 2 ∨ moveC es f t = 3) ∧ dirE es (upS t) = false) ∨
    (moveC es f t = 4 ∧ ∃ e, lookE es t = some e) ∨ (moveC es f t = 7 ∧ underI t f = true) ∨ (moveC es f t = 8 ∧ fitE es f t = false) := by
  cases hl : lookE es f with
  | none => exact .inr (.inl ⟨by unfold moveC; rw [get_no hf hl]; rfl, rfl⟩)
  | some e =>
    unfold moveC
    rw [get_yes hf hl, if_neg (by simp)]
    rcases upC_cases es t with ⟨h1, h2⟩ | ⟨h1, h2⟩
    · rw [h1, if_neg (by simp)]
      cases hlt : lookE es t with
      | some g => rw [get_yes ht hlt, if_pos rfl]; exact .inr (.inr (.inr (.inl ⟨rfl, g, rfl⟩)))
      | none =>
        rw [get_no ht hlt, if_neg (by simp), underL_I ht hf]
        cases hu : underI t f with
        | true => rw [if_pos rfl]; exact .inr (.inr (.inr (.inr (.inl ⟨rfl, rfl⟩))))
        | false =>
          rw [if_neg (by simp)]
          cases hfi : fitE es f t with
          | true => rw [if_pos rfl]; exact .inl ⟨rfl, ⟨T, hf, ht, ⟨e, hl⟩, h2, hlt, hu, hfi⟩⟩
          | false => rw [if_neg (by simp)]; exact .inr (.inr (.inr (.inr (.inr ⟨rfl, rfl⟩))))
    · have hz : upC es t ≠ 0 := by rcases h1 with h1 | h1 <;> rw [h1] <;> decide
      rw [if_pos hz]; exact .inr (.inr (.inl ⟨h1, h2⟩))
theorem Mv.code {es : List E} {f t : ByteArray} (m : Mv es f t) : moveC es f t = 0 := by
  obtain ⟨e, hl⟩ := m.there
  unfold moveC
  rw [get_yes m.pf hl, if_neg (by simp), upC_zero.2 m.dir, if_neg (by simp), get_no m.pt m.free, if_neg (by simp), underL_I m.pt m.pf, m.out, if_neg (by simp), m.fit, if_pos rfl]

/-- WHAT IS ASKED FOR TO BE DONE. -/
def Asks (es : List E) (q : O) : Prop :=
  (q.k = 1 ∧ q.t = ⟨#[]⟩ ∧ q.x = ⟨#[]⟩ ∧ dirE es (upS q.p) = true ∧ lookE es q.p = none ∧ es.length < 16) ∨
  (q.k = 2 ∧ q.t = ⟨#[]⟩ ∧ dataB q.x = true ∧ dirE es (upS q.p) = true ∧ ((lookE es q.p = none ∧ es.length < 16) ∨ ∃ f, lookE es q.p = some f ∧ f.d = false)) ∨
  (q.k = 3 ∧ q.t = ⟨#[]⟩ ∧ q.x = ⟨#[]⟩ ∧ ∃ f, lookE es q.p = some f ∧ f.d = false) ∨
  (q.k = 4 ∧ q.t = ⟨#[]⟩ ∧ q.x = ⟨#[]⟩ ∧ kidsE es q.p = [] ∧ ∃ f, lookE es q.p = some f ∧ f.d = true) ∨
  (q.k = 5 ∧ q.x = ⟨#[]⟩ ∧ Mv es q.p q.t)
theorem emptyB_iff (s : ByteArray) : emptyB s = true ↔ s = ⟨#[]⟩ := notEmpty
theorem empty_emptyB : emptyB ⟨#[]⟩ = true := (emptyB_iff _).2 rfl
theorem opB_parts {q : O} (h : opB q = true) : pathB q.p = true ∧ ((q.k = 1 ∧ q.t = ⟨#[]⟩ ∧ q.x = ⟨#[]⟩) ∨ (q.k = 2 ∧ q.t = ⟨#[]⟩ ∧ dataB q.x = true) ∨ (q.k = 3 ∧ q.t = ⟨#[]⟩ ∧ q.x = ⟨#[]⟩) ∨ (q.k = 4 ∧ q.t = ⟨#[]⟩ ∧ q.x = ⟨#[]⟩) ∨ (q.k = 5 ∧ pathB q.t = true ∧ q.x = ⟨#[]⟩)) := by
  unfold opB at h
  rw [Bool.and_eq_true, Bool.and_eq_true, decide_eq_true_eq] at h
  obtain ⟨⟨⟨h1, h2⟩, h3⟩, h4⟩ := h
  refine ⟨h3, ?_⟩
  by_cases h5 : q.k = 5
  · rw [if_pos h5, Bool.and_eq_true, emptyB_iff] at h4
    exact .inr (.inr (.inr (.inr ⟨h5, h4⟩)))
  · rw [if_neg h5, Bool.and_eq_true, Bool.and_eq_true, Bool.or_eq_true, emptyB_iff, emptyB_iff, decide_eq_true_eq] at h4
    obtain ⟨⟨h6, h7⟩, h8⟩ := h4
    have hk : q.k = 1 ∨ q.k = 2 ∨ q.k = 3 ∨ q.k = 4 := by omega
    rcases hk with hk | hk | hk | hk
    · exact .inl ⟨hk, h6, by rcases h8 with h8 | h8; omega; exact h8⟩
    · exact .inr (.inl ⟨hk, h6, h7⟩)
    · exact .inr (.inr (.inl ⟨hk, h6, by rcases h8 with h8 | h8; omega; exact h8⟩))
    · exact .inr (.inr (.inr (.inl ⟨hk, h6, by rcases h8 with h8 | h8; omega; exact h8⟩)))
theorem dataB_none : dataB ⟨#[]⟩ = true := by decide
theorem opB_of {q : O} (hp : pathB q.p = true) (h : (q.k = 1 ∧ q.t = ⟨#[]⟩ ∧ q.x = ⟨#[]⟩) ∨ (q.k = 2 ∧ q.t = ⟨#[]⟩ ∧ dataB q.x = true) ∨ (q.k = 3 ∧ q.t = ⟨#[]⟩ ∧ q.x = ⟨#[]⟩) ∨ (q.k = 4 ∧ q.t = ⟨#[]⟩ ∧ q.x = ⟨#[]⟩) ∨ (q.k = 5 ∧ pathB q.t = true ∧ q.x = ⟨#[]⟩)) : opB q = true := by
  unfold opB
  rw [hp]
  rcases h with ⟨h1, h2, h3⟩ | ⟨h1, h2, h3⟩ | ⟨h1, h2, h3⟩ | ⟨h1, h2, h3⟩ | ⟨h1, h2, h3⟩
  · rw [h1, h2, h3, empty_emptyB, dataB_none]; decide
  · rw [h1, h2, h3, empty_emptyB]; simp
  · rw [h1, h2, h3, empty_emptyB, dataB_none]; decide
  · rw [h1, h2, h3, empty_emptyB, dataB_none]; decide
  · rw [h1, h2, h3, empty_emptyB]; simp

theorem code_asks {es : List E} (T : TrE es) {q : O} (ho : opB q = true) : codeC es q.k q.p q.t = 0 ↔ Asks es q := by
  obtain ⟨hp, h⟩ := opB_parts ho
  unfold codeC Asks
  rcases h with ⟨h1, h2, h3⟩ | ⟨h1, h2, h3⟩ | ⟨h1, h2, h3⟩ | ⟨h1, h2, h3⟩ | ⟨h1, h2, h3⟩
  · rw [h1, if_pos rfl]
    rcases newC_cases es hp with ⟨c, r⟩ | ⟨c, r1, r2, r3⟩ | ⟨c, r1, f, r2⟩ | ⟨c, r1, r2⟩
    · simp [c, r, h2, h3]
    · simp [c]; omega
    · simp [c, r2]
    · rcases c with c | c <;> simp [c, r1]
  · rw [h1, if_neg (by decide), if_pos rfl]
    rcases putC_cases es hp with ⟨c, r⟩ | ⟨c, r1, r2, r3⟩ | ⟨c, r1, f, r2, r3⟩ | ⟨c, r1, r2⟩
    · simp [c, r, h2, h3]
    · simp [c, r2]; omega
    · simp [c, r2, r3]
    · rcases c with c | c <;> simp [c, r1]
  · rw [h1, if_neg (by decide), if_neg (by decide), if_neg (by decide)]
    rcases offC_cases es 3 hp with ⟨c, r⟩ | ⟨f, r, ⟨c, _, d⟩ | ⟨_, d, _⟩ | ⟨d1, d2, ⟨c, d⟩ | ⟨c, d⟩⟩⟩
    · simp [c, r]
    · simp [c, r, d]
    · cases d
    · simp [c, r, h2, h3]
      cases hd : f.d with
      | true => rfl
      | false => exact absurd (kids_file T (by rw [dirE_look, r, root_not_path hp]; simp [hd])) d
    · simp [c, r, h2, h3]
      simpa using d1
  · rw [h1, if_neg (by decide), if_neg (by decide), if_neg (by decide)]
    rcases offC_cases es 4 hp with ⟨c, r⟩ | ⟨f, r, ⟨c, d, _⟩ | ⟨c, _, d⟩ | ⟨d1, d2, ⟨c, d⟩ | ⟨c, d⟩⟩⟩
    · simp [c, r]
    · cases d
    · simp [c, r, d]
    · simp [c, r, d]
    · simp [c, r, h2, h3, d]
      simpa using d2
  · rw [h1, if_neg (by decide), if_neg (by decide), if_pos rfl]
    rcases moveC_cases T hp h2 with ⟨c, m⟩ | ⟨c, r⟩ | ⟨c, r⟩ | ⟨c, e, r⟩ | ⟨c, r⟩ | ⟨c, r⟩
    · simp [c, m, h3]
    · simp [c]; intro _ m; obtain ⟨e, he⟩ := m.there; rw [r] at he; cases he
    · have hc : moveC es q.p q.t ≠ 0 := by rcases c with c | c <;> rw [c] <;> decide
      simp [hc]; intro _ m; have := m.dir; rw [r] at this; cases this
    · simp [c]; intro _ m; have := m.free; rw [r] at this; cases this
    · simp [c]; intro _ m; have := m.out; rw [r] at this; cases this
    · simp [c]; intro _ m; have := m.fit; rw [r] at this; cases this
theorem asks_op {es : List E} {q : O} (hp : pathB q.p = true) (h : Asks es q) : opB q = true := by
  refine opB_of hp ?_
  rcases h with ⟨h1, h2, h3, _⟩ | ⟨h1, h2, h3, _⟩ | ⟨h1, h2, h3, _⟩ | ⟨h1, h2, h3, _⟩ | ⟨h1, h2, h3⟩
  · exact .inl ⟨h1, h2, h3⟩
  · exact .inr (.inl ⟨h1, h2, h3⟩)
  · exact .inr (.inr (.inl ⟨h1, h2, h3⟩))
  · exact .inr (.inr (.inr (.inl ⟨h1, h2, h3⟩)))
  · exact .inr (.inr (.inr (.inr ⟨h1, h3.pt, h2⟩)))
structure Done (es : List E) (q : O) : Prop where
  T : TrE es
  len : es.length ≤ 16
  path : pathB q.p = true
  asks : Asks es q
theorem done_iff (es : List E) (q : O) : doC es q = 0 ↔ Done es q := by
  unfold doC
  cases ht : treeE es with
  | false =>
    rw [Bool.false_and, if_neg (by decide)]
    exact ⟨fun h => (by cases h), fun d => (by rw [d.T.treeE d.len] at ht; cases ht)⟩
  | true =>
    obtain ⟨T, hl⟩ := treeE_tr ht
    cases ho : opB q with
    | false =>
      rw [Bool.true_and, if_neg (by decide)]
      exact ⟨fun h => (by cases h), fun d => (by rw [asks_op d.path d.asks] at ho; cases ho)⟩
    | true =>
      rw [Bool.true_and, if_pos rfl, code_asks T ho]
      exact ⟨fun h => ⟨T, hl, (opB_parts ho).1, h⟩, fun d => d.asks⟩
theorem Done.code {es : List E} {q : O} (d : Done es q) : doC es q = 0 := (done_iff es q).2 d
theorem Done.tree {es : List E} {q : O} (d : Done es q) : treeE es = true := d.T.treeE d.len
theorem Done.made {es : List E} {q : O} (d : Done es q) : doE es q = madeE es q.k q.p q.t q.x := by
  unfold doE; rw [if_pos d.tree, if_pos d.code]
theorem not_done {es : List E} {q : O} (h : doC es q ≠ 0) : doE es q = if treeE es = true then es else [] := by
  unfold doE; rw [if_neg h]
theorem doC_no_tree {es : List E} {q : O} (h : treeE es = false) : doC es q = 1 := by unfold doC; rw [h]; rfl
theorem doC_no_op {es : List E} {q : O} (h : opB q = false) : doC es q = 1 := by unfold doC; rw [h, Bool.and_false]; rfl
theorem code_not_one {es : List E} (T : TrE es) {q : O} (ho : opB q = true) : codeC es q.k q.p q.t ≠ 1 := by
  obtain ⟨hp, h⟩ := opB_parts ho
  unfold codeC
  rcases h with ⟨h1, h2, h3⟩ | ⟨h1, h2, h3⟩ | ⟨h1, h2, h3⟩ | ⟨h1, h2, h3⟩ | ⟨h1, h2, h3⟩
  · rw [h1, if_pos rfl]
    rcases newC_cases es hp with ⟨c, _⟩ | ⟨c, _⟩ | ⟨c, _⟩ | ⟨c | c, _⟩ <;> rw [c] <;> decide
  · rw [h1, if_neg (by decide), if_pos rfl]
    rcases putC_cases es hp with ⟨c, _⟩ | ⟨c, _⟩ | ⟨c, _⟩ | ⟨c | c, _⟩ <;> rw [c] <;> decide
  · rw [h1, if_neg (by decide), if_neg (by decide), if_neg (by decide)]
    rcases offC_cases es 3 hp with ⟨c, _⟩ | ⟨f, _, ⟨c, _⟩ | ⟨c, _⟩ | ⟨_, _, ⟨c, _⟩ | ⟨c, _⟩⟩⟩ <;> rw [c] <;> decide
  · rw [h1, if_neg (by decide), if_neg (by decide), if_neg (by decide)]
    rcases offC_cases es 4 hp with ⟨c, _⟩ | ⟨f, _, ⟨c, _⟩ | ⟨c, _⟩ | ⟨_, _, ⟨c, _⟩ | ⟨c, _⟩⟩⟩ <;> rw [c] <;> decide
  · rw [h1, if_neg (by decide), if_neg (by decide), if_pos rfl]
    rcases moveC_cases T hp h2 with ⟨c, _⟩ | ⟨c, _⟩ | ⟨c | c, _⟩ | ⟨c, _⟩ | ⟨c, _⟩ | ⟨c, _⟩ <;> rw [c] <;> decide
theorem doC_one {es : List E} {q : O} (ht : treeE es = true) : doC es q = 1 ↔ opB q = false := by
  cases ho : opB q with
  | false => simp [doC_no_op ho]
  | true =>
    simp
    unfold doC
    rw [ht, ho]
    exact code_not_one (treeE_tr ht).1 ho

/-! ### What is made -/
theorem put_new_len {e : E} : ∀ (es : List E), Rise es → lookE es e.p = none → (putE es e).length = es.length + 1
  | [], _, _ => rfl
  | x :: r, h, hl => by
    have hn := look_none.1 hl
    rcases less_or (hn x (List.mem_cons_self ..)) with k | k
    · rw [put_cons_lt k, List.length_cons, put_new_len r (List.pairwise_cons.1 h).2 (look_none.2 fun y hy => hn y (List.mem_cons_of_mem _ hy))]; rfl
    · rw [put_cons_gt k]; rfl
theorem put_old_len {e : E} : ∀ (es : List E), Rise es → (∃ f, lookE es e.p = some f) → (putE es e).length = es.length
  | [], _, h => by obtain ⟨f, hf⟩ := h; cases hf
  | x :: r, h, hl => by
    obtain ⟨f, hf⟩ := hl
    obtain ⟨hm, hp⟩ := look_mem hf
    have hx := List.pairwise_cons.1 h
    by_cases hxe : x.p = e.p
    · rw [put_cons_eq hxe]; rfl
    · have hfr : f ∈ r := by
        rcases List.mem_cons.1 hm with q | q
        · rw [q] at hp; exact absurd hp hxe
        · exact q
      have k : less x.p e.p := hp ▸ hx.1 f hfr
      rw [put_cons_lt k, List.length_cons, List.length_cons, put_old_len r hx.2 ⟨f, (look_iff hx.2 _ _).2 ⟨hfr, hp⟩⟩]
theorem off_len_there {s : ByteArray} : ∀ (es : List E), Rise es → (∃ f, lookE es s = some f) → (offE es s).length + 1 = es.length
  | [], _, h => by obtain ⟨f, hf⟩ := h; cases hf
  | x :: r, h, hl => by
    obtain ⟨f, hf⟩ := hl
    obtain ⟨hm, hp⟩ := look_mem hf
    have hx := List.pairwise_cons.1 h
    unfold offE
    by_cases hxe : x.p = s
    · have hr : r.filter (fun e => !(e.p.toList == s.toList)) = r := by
        rw [List.filter_eq_self]
        intro y hy
        rw [beqL]
        have : y.p ≠ s := fun q => by
          have := hx.1 y hy
          rw [q, ← hxe] at this
          exact less_irrefl _ this
        simp [this]
      rw [List.filter_cons_of_neg (by rw [beqL]; simp [hxe]), hr]; rfl
    · have hfr : f ∈ r := by
        rcases List.mem_cons.1 hm with q | q
        · rw [q] at hp; exact absurd hp hxe
        · exact q
      have ih := off_len_there r hx.2 ⟨f, (look_iff hx.2 _ _).2 ⟨hfr, hp⟩⟩
      unfold offE at ih
      rw [List.filter_cons_of_pos (by rw [beqL]; simp [hxe]), List.length_cons, ih]; rfl
theorem nodup_len {es fs : List E} (h1 : es.Nodup) (h2 : fs.Nodup) (h : ∀ x, x ∈ es ↔ x ∈ fs) : es.length = fs.length :=
  ((List.perm_ext_iff_of_nodup h1 h2).2 h).length_eq
theorem rise_nodup {es : List E} (h : Rise es) : es.Nodup := h.imp (fun {a b} k q => by rw [q] at k; exact less_irrefl _ k)
theorem Mv.len {es : List E} {f t : ByteArray} (m : Mv es f t) : (movE es f t).length = es.length := by
  have : (es.map (movE1 f t)).Nodup := m.apart.imp (fun {a b} k q => k (by rw [q]))
  rw [nodup_len (rise_nodup m.rise) this (fun x => by rw [m.mem, List.mem_map]), List.length_map]
theorem Done.tr {es : List E} {q : O} (d : Done es q) : TrE (doE es q) ∧ (doE es q).length ≤ 16 := by
  rw [d.made]
  have T := d.T
  have hl := d.len
  unfold madeE
  rcases d.asks with ⟨h1, _, _, h4, h5, h6⟩ | ⟨h1, _, h3, h4, h5⟩ | ⟨h1, _, _, f, h4, h5⟩ | ⟨h1, _, _, h4, f, h5, h6⟩ | ⟨h1, h2, m⟩
  · rw [h1, if_pos rfl]
    refine ⟨tr_put (e := ⟨q.p, true, ⟨#[]⟩⟩) T d.path rfl (fun _ => rfl) (dir_isRoot d.path h5) h4, ?_⟩
    rw [put_new_len es T.sort h5]; omega
  · rw [h1, if_neg (by decide), if_pos rfl]
    have hd : dirE es q.p = false := by
      rcases h5 with ⟨h5, _⟩ | ⟨f, h5, h6⟩
      · exact dir_isRoot d.path h5
      · rw [dirE_look, h5, root_not_path d.path]; simp [h6]
    refine ⟨tr_put (e := ⟨q.p, false, q.x⟩) T d.path h3 (fun h => by cases h) hd h4, ?_⟩
    rcases h5 with ⟨h5, _⟩ | ⟨f, h5, _⟩
    · rw [put_new_len es T.sort h5]; omega
    · rw [put_old_len es T.sort ⟨f, h5⟩]; omega
  · rw [h1, if_neg (by decide), if_neg (by decide), if_neg (by decide)]
    have hk : kidsE es q.p = [] := kids_file T (by rw [dirE_look, h4, root_not_path d.path]; simp [h5])
    refine ⟨tr_off T (kids_nil hk), ?_⟩
    have := off_len_there es T.sort ⟨f, h4⟩; omega
  · rw [h1, if_neg (by decide), if_neg (by decide), if_neg (by decide)]
    refine ⟨tr_off T (kids_nil h4), ?_⟩
    have := off_len_there es T.sort ⟨f, h5⟩; omega
  · rw [h1, if_neg (by decide), if_neg (by decide), if_pos rfl]
    exact ⟨m.tr, by rw [m.len]; exact hl⟩
/-- What is done to a right tree leaves one. -/
theorem do_tree {es : List E} {q : O} (h : treeE es = true) : treeE (doE es q) = true := by
  by_cases h0 : doC es q = 0
  · obtain ⟨T, hl⟩ := ((done_iff es q).1 h0).tr
    exact T.treeE hl
  · rw [not_done h0, if_pos h]; exact h
end Go.Proofs.YtgkfhcpegdlejaaGreatDoor

/-
  Plain facts: how long the texts of a right tree are.
-/
namespace Go.Proofs.YtgkfhcpegdlejaaGreatDoor
open Go.Lib

theorem path_smallD : ∀ (n : Nat) (s : ByteArray), pathB s = true → levS s ≤ n → s.size ≤ 4 * n
  | 0, s, h, hl => by
    have h1 := (up_facts h).2.2.2
    rcases stemOk_is (up_facts h).1 with k | k
    · have : levS (⟨#[47]⟩ : ByteArray) = 0 := by decide
      rw [k, this] at h1; omega
    · have := under_lev _ _ _ (Nat.le_refl _) (under_root k)
      have h0 : levS (⟨#[47]⟩ : ByteArray) = 0 := by decide
      omega
  | n + 1, s, h, hl => by
    have h1 := (up_facts h).2.2.2
    have hn := (up_facts h).2.2.1
    have hns : (nmS s).size ≤ 3 := by
      unfold nameB at hn
      rw [Bool.and_eq_true] at hn
      exact (of_decide_eq_true hn.1).2
    have hj := congrArg ByteArray.size (up_join h)
    unfold joinI at hj
    rw [ByteArray.size_append, ByteArray.size_append] at hj
    have h47 : (⟨#[47]⟩ : ByteArray).size = 1 := rfl
    rcases stemOk_is (up_facts h).1 with k | k
    · rw [k, stem_root] at hj
      have : (⟨#[]⟩ : ByteArray).size = 0 := rfl
      omega
    · rw [stem_path k] at hj
      have := path_smallD n (upS s) k (by omega)
      omega
theorem path_sizeD {s : ByteArray} (h : pathB s = true) : s.size ≤ 12 := path_smallD 3 s h (lev_le s)
theorem data_sizeD {s : ByteArray} (h : dataB s = true) : s.size ≤ 6 := by
  unfold dataB at h; rw [Bool.and_eq_true] at h; exact of_decide_eq_true h.2
theorem tree_sizes {es : List E} (h : treeE es = true) : es.length ≤ 16 ∧ ∀ e ∈ es, e.p.size ≤ 16 ∧ e.x.size ≤ 16 := by
  obtain ⟨T, hl⟩ := treeE_tr h
  exact ⟨hl, fun e he => ⟨Nat.le_trans (path_sizeD (T.path e he)) (by decide), Nat.le_trans (data_sizeD (T.data e he).1) (by decide)⟩⟩
end Go.Proofs.YtgkfhcpegdlejaaGreatDoor

/-
  Layers, read from their texts: as the program reads them, and as the model does.
-/
namespace Go.Proofs.YtgkfhcpegdlejaaGreatDoor.Mk

/-- The text of a mark. -/
def markL (e : E) : ByteArray := if e.d = 2 then lineT wD e.p [] else if e.d = 3 then lineT wX e.p [] else if e.d = 4 then lineT wB e.p [] else entT ⟨e.p, false, e.x⟩
def linesM : List E → ByteArray
  | [] => ⟨#[]⟩
  | e :: r => markL e ++ ⟨#[10]⟩ ++ linesM r
theorem kind3 {w : ByteArray} (h : kindW w = 3) : w = wX := by
  rw [kindW_is] at h
  split at h
  · cases h
  · split at h
    · cases h
    · split at h
      · cases h
      · split at h
        · assumption
        · split at h <;> cases h
theorem kind4 {w : ByteArray} (h : kindW w = 4) : w = wB := by
  rw [kindW_is] at h
  split at h
  · cases h
  · split at h
    · cases h
    · split at h
      · cases h
      · split at h
        · cases h
        · split at h
          · assumption
          · cases h
def markOf (ws : List (List UInt8)) : E := ⟨nthL ws 1, kindW (nthL ws 0), nthL ws 2⟩
def wordM (d : Int) : ByteArray := if d = 2 then wD else if d = 3 then wX else if d = 4 then wB else wF
def wsM (e : E) : List (List UInt8) := LB (wordM e.d) :: LB e.p :: (if e.x.size = 0 then [] else [LB e.x])
def fitM (e : E) : Prop := (1 ≤ e.d ∧ e.d ≤ 4) ∧ pathB e.p = true ∧ dataB e.x = true ∧ (e.d ≠ 1 → e.x.size = 0)
theorem fit_lay {es : List E} (h : layB es = true) : ∀ e ∈ es, fitM e := fun e he => by
  obtain ⟨i, hi, rfl⟩ := List.mem_iff_getElem.1 he
  unfold layB at h
  rw [Bool.and_eq_true] at h
  have hk := List.all_eq_true.1 h.1 i (List.mem_range.2 hi)
  rw [okM_is hi] at hk
  simp only [Bool.and_eq_true, decide_eq_true_eq] at hk
  refine ⟨hk.1, hk.2.1, hk.2.2.1, fun hd => ?_⟩
  have h3 := hk.2.2.2.1
  simp only [Bool.not_eq_true', Bool.and_eq_false_iff, bne_eq_false_iff_eq] at h3
  rcases h3 with h3 | h3
  · exact absurd h3 hd
  · have h4 : es[i].x.toList = [] := by simpa using h3
    rw [Lib.toList_data] at h4
    exact lb_nil.1 h4
theorem wordM_ok (d : Int) : wordL (LB (wordM d)) := by
  unfold wordM
  split
  · unfold wordL; decide
  · split
    · unfold wordL; decide
    · split
      · unfold wordL; decide
      · unfold wordL; decide
theorem kind_wordM {d : Int} (h : 1 ≤ d ∧ d ≤ 4) : kindW (wordM d) = d := by
  have : d = 1 ∨ d = 2 ∨ d = 3 ∨ d = 4 := by omega
  rcases this with rfl | rfl | rfl | rfl <;> decide
theorem wsM_text {e : E} (h : fitM e) : LB (markL e) = joinL (wsM e) ∧ lineOk (wsM e) := by
  obtain ⟨p, d, x⟩ := e
  obtain ⟨hd, hp, hx, hn⟩ := h
  dsimp only at hd hp hx hn
  have hpw := path_word hp
  have hlo : lineOk (wsM ⟨p, d, x⟩) := by
    unfold wsM
    dsimp only
    by_cases h0 : x.size = 0
    · rw [if_pos h0]
      refine ⟨by simp, by simp, fun w hw => ?_⟩
      simp only [List.mem_cons, List.not_mem_nil, or_false] at hw
      rcases hw with rfl | rfl
      · exact wordM_ok d
      · exact hpw
    · rw [if_neg h0]
      refine ⟨by simp, by simp, fun w hw => ?_⟩
      simp only [List.mem_cons, List.not_mem_nil, or_false] at hw
      rcases hw with rfl | rfl | rfl
      · exact wordM_ok d
      · exact hpw
      · exact data_word hx h0
  refine ⟨?_, hlo⟩
  have hbare : ∀ c : UInt8, LB (lineT ⟨#[c]⟩ p []) = joinL [[c], LB p] := fun c => by
    rw [lineT_nil]; simp only [lb_app]; simp [joinL, LB]
  have hcase : d = 1 ∨ d = 2 ∨ d = 3 ∨ d = 4 := by omega
  unfold wsM
  dsimp only
  rcases hcase with rfl | rfl | rfl | rfl
  · show LB (entT ⟨p, false, x⟩) = _
    by_cases h0 : x.size = 0
    · rw [if_pos h0, entT_bare rfl h0, lb_app]; simp [joinL, LB, wordM, wF]
    · rw [if_neg h0, entT_file rfl h0]; simp only [lb_app]; simp [joinL, LB, wordM, wF]
  · rw [if_pos (hn (by decide))]; exact hbare 100
  · rw [if_pos (hn (by decide))]; exact hbare 120
  · rw [if_pos (hn (by decide))]; exact hbare 98
theorem wsM_back {e : E} (h : fitM e) : markOf (wsM e) = e := by
  obtain ⟨p, d, x⟩ := e
  have hk := kind_wordM h.1
  dsimp only at hk
  have e0 : nthL (wsM ⟨p, d, x⟩) 0 = wordM d := ba_lb _
  have e1 : nthL (wsM ⟨p, d, x⟩) 1 = p := ba_lb _
  have e2 : nthL (wsM ⟨p, d, x⟩) 2 = x := by
    unfold wsM
    dsimp only
    by_cases h0 : x.size = 0
    · rw [if_pos h0, lb_inj (s := x) (t := ⟨#[]⟩) (lb_nil.2 h0)]; rfl
    · rw [if_neg h0]; exact ba_lb _
  unfold markOf
  rw [e0, e1, e2, hk]
theorem word_of {w : ByteArray} {d : Int} (h : kindW w = d) (hd : 1 ≤ d ∧ d ≤ 4) : w = wordM d := by
  have hc : d = 1 ∨ d = 2 ∨ d = 3 ∨ d = 4 := by omega
  rcases hc with rfl | rfl | rfl | rfl
  · exact kindW_file h
  · exact kindW_dir h
  · exact kind3 h
  · exact kind4 h
theorem ws_ofM {ws : List (List UInt8)} (hl : lineOk ws) (hf : fitM (markOf ws)) : wsM (markOf ws) = ws := by
  obtain ⟨l1, l2, l3⟩ := hl
  obtain ⟨hd, hp, hx, hn⟩ := hf
  have hp2 := (pathB_head _ hp).1
  have hw := word_of (w := nthL ws 0) rfl hd
  have hpe : (markOf ws).p = nthL ws 1 := rfl
  unfold wsM
  rw [show (markOf ws).d = kindW (nthL ws 0) from rfl, show wordM (kindW (nthL ws 0)) = nthL ws 0 from hw.symm]
  match ws, l1, l2, l3 with
  | [a], _, _, _ => exact absurd hp2 (by rw [hpe]; show ¬ 1 < 0; omega)
  | [a, b], _, _, _ => rw [if_pos (show (markOf [a, b]).x.size = 0 from rfl)]; rfl
  | [a, b, c], _, _, l3 => rw [if_neg (show ¬ (markOf [a, b, c]).x.size = 0 from fun q => (l3 c (by simp)).1 (lb_nil.2 q))]; rfl
theorem lines_wsM : ∀ (es : List E), (∀ e ∈ es, fitM e) → LB (linesM es) = linesL (es.map wsM) ∧ ∀ x ∈ es.map wsM, lineOk x
  | [], _ => ⟨rfl, fun _ h => by simp at h⟩
  | e :: r, h => by
    obtain ⟨h1, h2⟩ := lines_wsM r (fun x hx => h x (List.mem_cons_of_mem _ hx))
    obtain ⟨h3, h4⟩ := wsM_text (h e List.mem_cons_self)
    refine ⟨?_, fun x hx => ?_⟩
    · show LB (markL e ++ ⟨#[10]⟩ ++ linesM r) = (joinL (wsM e) ++ [10]) ++ linesL (r.map wsM)
      rw [lb_app, lb_app, h1, h3]
    · rcases List.mem_cons.1 hx with rfl | hx
      · exact h4
      · exact h2 x hx
theorem lay_len {es : List E} (h : layB es = true) : es.length ≤ 32 := by
  unfold layB at h
  rw [Bool.and_eq_true] at h
  exact of_decide_eq_true h.2
/-- What the program reads. -/
def progLay (s : ByteArray) : Option (List E) :=
  match scanL 32 (LB s) [] [] [] with
  | some R => if layB (R.map markOf) = true then some (R.map markOf) else none
  | none => none
theorem prog_lay (s : ByteArray) (es : List E) : progLay s = some es ↔ layB es = true ∧ linesM es = s := by
  constructor
  · intro h
    unfold progLay at h
    cases hs : scanL 32 (LB s) [] [] [] with
    | none => rw [hs] at h; cases h
    | some R =>
      rw [hs] at h
      dsimp only at h
      split at h
      · rename_i ht
        have he := Option.some.inj h
        subst he
        obtain ⟨e1, e2, _⟩ := scan_sound 32 _ [] [] [] R (fun _ h => by simp at h) (fun _ h => by simp at h) (by simp) (fun _ h => by simp at h) (by simp) hs
        have hf := fit_lay ht
        refine ⟨ht, lb_inj ?_⟩
        rw [(lines_wsM _ hf).1, List.map_map]
        have hid : R.map (wsM ∘ markOf) = R := by
          rw [List.map_congr_left (f := wsM ∘ markOf) (g := id) (fun ws hw => ws_ofM (e2 ws hw) (hf _ (List.mem_map_of_mem hw))), List.map_id]
        rw [hid, ← e1]
        simp [aheadL, linesL]
      · cases h
  · rintro ⟨ht, rfl⟩
    have hf := fit_lay ht
    obtain ⟨h1, h2⟩ := lines_wsM es hf
    unfold progLay
    rw [h1, scan_done 32 (es.map wsM) [] h2 (by simpa using lay_len ht)]
    have hid : (es.map wsM).map markOf = es := by
      rw [List.map_map, List.map_congr_left (f := markOf ∘ wsM) (g := id) (fun e he => wsM_back (hf e he)), List.map_id]
    rw [List.nil_append]
    dsimp only
    rw [hid, if_pos ht]
/-- What the model reads. -/
def kindS (w : ByteArray) : Int := if w = wD then 2 else if w = wX then 3 else if w = wB then 4 else 1
def lineM (l : ByteArray) : E := ⟨(partL l).2.1, kindS (partL l).1, (partL l).2.2⟩
def outM (s : ByteArray) : List E := (((cut 10 s).take ((cut 10 s).length - 1)).take 33).map lineM
def specLay (s : ByteArray) : Option (List E) := if (cut 10 s).getD ((cut 10 s).length - 1) ⟨#[]⟩ = ⟨#[]⟩ ∧ layB (outM s) = true ∧ linesM (outM s) = s then some (outM s) else none
theorem kindS_word {d : Int} (h : 1 ≤ d ∧ d ≤ 4) : kindS (wordM d) = d := by
  have : d = 1 ∨ d = 2 ∨ d = 3 ∨ d = 4 := by omega
  rcases this with rfl | rfl | rfl | rfl <;> decide
theorem part_mark {e : E} (h : fitM e) : lineM (markL e) = e := by
  obtain ⟨h1, h2, h3, h4⟩ := wsM_text h
  have hc := cut_is 32 (markL e)
  rw [h1, split_join _ h2 h4] at hc
  have ec : cut 32 (markL e) = (wsM e).map BA := by rw [← hc, map_ba_lb]
  obtain ⟨p, d, x⟩ := e
  have hk := kindS_word h.1
  dsimp only at hk
  unfold lineM partL
  rw [ec]
  unfold wsM
  dsimp only
  by_cases h0 : x.size = 0
  · rw [if_pos h0]
    have hxe : x = ⟨#[]⟩ := lb_inj (t := ⟨#[]⟩) (lb_nil.2 h0)
    simp only [List.map_cons, List.map_nil, ba_lb]
    simp [hk, hxe]
  · rw [if_neg h0]
    simp only [List.map_cons, List.map_nil, ba_lb]
    simp [hk]
theorem cut_linesM {es : List E} (hf : ∀ e ∈ es, fitM e) : cut 10 (linesM es) = es.map markL ++ [⟨#[]⟩] := by
  obtain ⟨h1, h2⟩ := lines_wsM es hf
  have hc := cut_is 10 (linesM es)
  rw [h1, split_lines _ h2] at hc
  have e1 : cut 10 (linesM es) = ((es.map wsM).map joinL ++ [[]]).map BA := by rw [← hc, map_ba_lb]
  rw [e1, List.map_append, List.map_map, List.map_map]
  congr 1
  refine List.map_congr_left (fun e he => ?_)
  show BA (joinL (wsM e)) = markL e
  rw [← (wsM_text (hf e he)).1, ba_lb]
theorem out_linesM {es : List E} (h : layB es = true) : outM (linesM es) = es ∧ (cut 10 (linesM es)).getD ((cut 10 (linesM es)).length - 1) ⟨#[]⟩ = ⟨#[]⟩ := by
  have hf := fit_lay h
  have hl := lay_len h
  have hc := cut_linesM hf
  unfold outM
  rw [hc]
  have hlen : (es.map markL ++ [(⟨#[]⟩ : ByteArray)]).length - 1 = (es.map markL).length := by simp
  rw [hlen, List.take_left]
  refine ⟨?_, ?_⟩
  · rw [List.take_of_length_le (by rw [List.length_map]; omega), List.map_map, List.map_congr_left (f := lineM ∘ markL) (g := id) (fun e he => part_mark (hf e he)), List.map_id]
  · rw [List.getD_eq_getElem?_getD]; simp
theorem spec_lay (s : ByteArray) (es : List E) : specLay s = some es ↔ layB es = true ∧ linesM es = s := by
  constructor
  · intro h
    unfold specLay at h
    split at h
    · rename_i hh
      rw [← Option.some.inj h]
      exact hh.2
    · cases h
  · rintro ⟨ht, rfl⟩
    obtain ⟨h1, h2⟩ := out_linesM ht
    unfold specLay
    rw [h1, if_pos ⟨h2, ht, rfl⟩]
theorem read_lay (s : ByteArray) : progLay s = specLay s := by
  cases h : progLay s with
  | some es => exact ((spec_lay s es).2 ((prog_lay s es).1 h)).symm
  | none =>
    cases h2 : specLay s with
    | none => rfl
    | some es => rw [(prog_lay s es).2 ((spec_lay s es).1 h2)] at h; cases h
end Go.Proofs.YtgkfhcpegdlejaaGreatDoor.Mk

/-
  Plain facts on right layers: what is at a path, and what is above it.
-/
namespace Go.Proofs.YtgkfhcpegdlejaaGreatDoor.Mk
open Go.Lib

def lookE (es : List E) (s : ByteArray) : Option E := es.find? (fun e => decide (e.p = s))
theorem look_mem {es : List E} {s : ByteArray} {e : E} (h : lookE es s = some e) : e ∈ es ∧ e.p = s :=
  ⟨List.mem_of_find?_eq_some h, by have := List.find?_some h; simpa using this⟩
theorem look_none {es : List E} {s : ByteArray} : lookE es s = none ↔ ∀ e ∈ es, e.p ≠ s := by
  unfold lookE; rw [List.find?_eq_none]; simp
theorem look_append (es fs : List E) (s : ByteArray) : lookE (es ++ fs) s = (lookE es s).or (lookE fs s) := by
  unfold lookE; rw [List.find?_append]
theorem findL_look (s : ByteArray) : ∀ (es : List E) (k : Nat), (findL s es k = -1 ∧ lookE es s = none) ∨ ∃ (j : Nat) (h : j < es.length), findL s es k = ((k + j : Nat) : Int) ∧ lookE es s = some es[j]
  | [], _ => .inl ⟨rfl, rfl⟩
  | e :: r, k => by
    unfold findL
    by_cases h : e.p = s
    · have : (e.p.toList == s.toList) = true := by rw [beqL]; exact decide_eq_true h
      rw [if_pos this]
      exact .inr ⟨0, Nat.succ_pos _, rfl, by unfold lookE; rw [List.find?_cons_of_pos (by simpa using h)]; rfl⟩
    · have : ¬ (e.p.toList == s.toList) = true := by rw [beqL]; simpa using h
      rw [if_neg this]
      have hl : lookE (e :: r) s = lookE r s := by unfold lookE; rw [List.find?_cons_of_neg (by simpa using h)]
      rw [hl]
      rcases findL_look s r (k + 1) with ⟨h1, h2⟩ | ⟨j, hj, h1, h2⟩
      · exact .inl ⟨h1, h2⟩
      · exact .inr ⟨j + 1, Nat.succ_lt_succ hj, by rw [h1]; omega, h2⟩
theorem kind_look (es : List E) (s : ByteArray) : kindM es s = ((lookE es s).map (·.d)).getD 0 := by
  rcases findL_look s es 0 with ⟨h1, h2⟩ | ⟨j, hj, h1, h2⟩
  · rw [kind_no h1, h2]; rfl
  · rw [kind_at hj (by unfold findE; rw [h1]; omega), h2]; rfl

/-- A mark that others may be in. -/
def dirK (d : Int) : Bool := (d == 2) || (d == 4)
structure TrM (es : List E) : Prop where
  path : ∀ e ∈ es, pathB e.p = true
  sort : es.Pairwise (fun a b => less a.p b.p)
  up : ∀ e ∈ es, upS e.p = ⟨#[47]⟩ ∨ ∃ f, lookE es (upS e.p) = some f ∧ dirK f.d = true
  kind : ∀ e ∈ es, 1 ≤ e.d ∧ e.d ≤ 4
theorem TrM.nil : TrM [] := ⟨by simp, by simp, by simp, by simp⟩
theorem look_self {es : List E} (h : es.Pairwise (fun a b => less a.p b.p)) {e : E} (he : e ∈ es) : lookE es e.p = some e := by
  cases hl : lookE es e.p with
  | none => exact absurd rfl (look_none.1 hl e he)
  | some f =>
    obtain ⟨hf, hp⟩ := look_mem hl
    by_cases hne : e = f
    · rw [hne]
    · exfalso
      have key : ∀ (l : List E), l.Pairwise (fun a b => less a.p b.p) → e ∈ l → f ∈ l → False := by
        intro l
        induction l with
        | nil => intro _ h; cases h
        | cons x r ih =>
          intro hl he hf
          obtain ⟨h1, h2⟩ := List.pairwise_cons.1 hl
          rcases List.mem_cons.1 he with e1 | e1
          · rcases List.mem_cons.1 hf with e2 | e2
            · exact hne (e1.trans e2.symm)
            · have := h1 f e2; rw [← e1, hp] at this; exact less_irrefl _ this
          · rcases List.mem_cons.1 hf with e2 | e2
            · have := h1 e e1; rw [← e2, hp] at this; exact less_irrefl _ this
            · exact ih h2 e1 e2
      exact key es h he hf
theorem look_path {es : List E} (T : TrM es) {s : ByteArray} {e : E} (h : lookE es s = some e) : pathB s = true := by
  obtain ⟨e1, e2⟩ := look_mem h
  rw [← e2]; exact T.path e e1
theorem look_bad {es : List E} (T : TrM es) {s : ByteArray} (h : pathB s = false) : lookE es s = none := by
  cases hl : lookE es s with
  | none => rfl
  | some e => rw [look_path T hl] at h; cases h
/-- Nothing is where its upper one isn't. -/
theorem look_up {es : List E} (T : TrM es) {s : ByteArray} (h : lookE es (upS s) = none) (hr : upS s ≠ ⟨#[47]⟩) : lookE es s = none := by
  cases hl : lookE es s with
  | none => rfl
  | some e =>
    obtain ⟨e1, e2⟩ := look_mem hl
    rcases T.up e e1 with q | ⟨f, q, _⟩
    · rw [e2] at q; exact absurd q hr
    · rw [e2, h] at q; cases q

theorem inM_look {es : List E} {s : ByteArray} : inM es s = true ↔ upS s = ⟨#[47]⟩ ∨ ∃ f, lookE es (upS s) = some f ∧ dirK f.d = true := by
  unfold inM
  rw [Bool.or_eq_true, isRoot_iff, kind_look]
  cases lookE es (upS s) with
  | none => simp
  | some f => simp [dirK]
theorem up_bad {s : ByteArray} (h : pathB s = false) : upS s = ⟨#[]⟩ := by unfold upS; rw [h]; rfl
theorem nil_bad : pathB ⟨#[]⟩ = false := by
  cases h : pathB ⟨#[]⟩ with
  | false => rfl
  | true =>
    have h1 := (pathB_head _ h).1
    have h2 : (⟨#[]⟩ : ByteArray).size = 0 := rfl
    omega
theorem inM_path {es : List E} (T : TrM es) {s : ByteArray} (h : inM es s = true) : pathB s = true := by
  cases hp : pathB s with
  | true => rfl
  | false =>
    exfalso
    have hu := up_bad hp
    rcases inM_look.1 h with q | ⟨f, q, _⟩
    · rw [hu] at q
      have := congrArg ByteArray.size q
      have h1 : (⟨#[]⟩ : ByteArray).size = 0 := rfl
      have h2 : (⟨#[47]⟩ : ByteArray).size = 1 := rfl
      omega
    · rw [hu, look_bad T nil_bad] at q; cases q

theorem tr_snoc {es : List E} {e : E} (T : TrM es) (h4 : ∀ f ∈ es, less f.p e.p) (h5 : inM es e.p = true) (h6 : 1 ≤ e.d ∧ e.d ≤ 4) : TrM (es ++ [e]) where
  path f hf := by
    rcases List.mem_append.1 hf with hf | hf
    · exact T.path f hf
    · rw [List.mem_singleton.1 hf]; exact inM_path T h5
  sort := by
    rw [List.pairwise_append]
    exact ⟨T.sort, by simp, fun a ha b hb => by rw [List.mem_singleton.1 hb]; exact h4 a ha⟩
  up f hf := by
    have key : ∀ s, (upS s = ⟨#[47]⟩ ∨ ∃ f, lookE es (upS s) = some f ∧ dirK f.d = true) → (upS s = ⟨#[47]⟩ ∨ ∃ f, lookE (es ++ [e]) (upS s) = some f ∧ dirK f.d = true) := fun s h =>
      h.imp id fun ⟨f, h1, h2⟩ => ⟨f, by rw [look_append, h1]; rfl, h2⟩
    rcases List.mem_append.1 hf with hf | hf
    · exact key _ (T.up f hf)
    · rw [List.mem_singleton.1 hf]; exact key _ (inM_look.1 h5)
  kind f hf := by
    rcases List.mem_append.1 hf with hf | hf
    · exact T.kind f hf
    · rw [List.mem_singleton.1 hf]; exact h6
theorem last_less {es : List E} (h : es.Pairwise (fun a b => less a.p b.p)) {k : Nat} (hk : k < es.length) {s : ByteArray} (hl : es.length = k + 1) (hs : less es[k].p s) : ∀ f ∈ es, less f.p s := by
  intro f hf
  obtain ⟨i, hi, rfl⟩ := List.getElem_of_mem hf
  by_cases e : i = k
  · subst e; exact hs
  · exact less_trans (List.pairwise_iff_getElem.1 h i k hi hk (by omega)) hs

/-- The path ahead of the place k. -/
def lastP (es : List E) (k : Nat) : ByteArray := match k with
  | 0 => ⟨#[]⟩
  | j + 1 => ((es[j]?).map (·.p)).getD ⟨#[]⟩
theorem lastP_succ {es : List E} {k : Nat} (h : k < es.length) : lastP es (k + 1) = es[k].p := by
  show ((es[k]?).map (·.p)).getD ⟨#[]⟩ = _
  rw [List.getElem?_eq_getElem h]; rfl
theorem take_less {es : List E} {k : Nat} (h : k < es.length) (T : TrM (es.take k)) (hl : less (lastP es k) es[k].p) : ∀ f ∈ es.take k, less f.p es[k].p := by
  cases k with
  | zero => intro f hf; rw [List.take_zero] at hf; cases hf
  | succ j =>
    rw [lastP_succ (by omega)] at hl
    exact last_less T.sort (k := j) (by rw [List.length_take]; omega) (by rw [List.length_take]; omega) (by rw [List.getElem_take]; exact hl)
/-- What a mark says by itself is right. -/
def signB (d : Int) (x : ByteArray) : Bool := if d = 1 then dataB x else ((d == 2) || ((d == 3) || (d == 4))) && (x.toList == [])
/-- A mark may stand at a path. -/
def takesM (es : List E) (p : ByteArray) (d : Int) : Bool := inM es p && (!bareM es p || decide (d ≤ 2))
theorem data_nil : dataB ⟨#[]⟩ = true := by
  unfold dataB; rfl
theorem okM_less {es : List E} {k : Nat} (h : k < es.length) (T : TrM (es.take k)) (hl : less (lastP es k) es[k].p) : okM es k = (signB es[k].d es[k].x && takesM (es.take k) es[k].p es[k].d) := by
  rw [okM_is h]
  have hord : (k == 0 || Op.bytesLess ((es[k - 1]?.map (·.p.toList)).getD []) es[k].p.toList) = true := by
    cases k with
    | zero => rfl
    | succ j =>
      rw [lastP_succ (by omega)] at hl
      have e1 : es[j + 1 - 1]? = some es[j] := by rw [show j + 1 - 1 = j from rfl, List.getElem?_eq_getElem (by omega)]
      rw [e1]
      rw [Bool.or_eq_true]; exact .inr hl
  rw [hord, Bool.true_and]
  unfold takesM
  cases hi : inM (es.take k) es[k].p with
  | false => simp
  | true =>
    rw [inM_path T hi]
    rw [Bool.true_and, Bool.true_and, Bool.true_and]
    obtain ⟨d, hd⟩ : ∃ d, es[k].d = d := ⟨_, rfl⟩
    obtain ⟨x, hx⟩ : ∃ x, es[k].x = x := ⟨_, rfl⟩
    rw [hd, hx]
    have hb : (!(decide (2 < d) && bareM (es.take k) es[k].p)) = (!bareM (es.take k) es[k].p || decide (d ≤ 2)) := by
      by_cases h2 : d ≤ 2
      · rw [decide_eq_true h2, decide_eq_false (by omega : ¬ 2 < d)]; simp
      · rw [decide_eq_false h2, decide_eq_true (by omega : 2 < d)]; simp
    rw [hb, ← Bool.and_assoc, ← Bool.and_assoc]
    congr 1
    unfold signB
    by_cases h1 : d = 1
    · subst h1; simp
    · rw [if_neg h1]
      have e1 : (d != 1) = true := by simpa using h1
      rw [e1, Bool.true_and, Bool.not_not]
      have e2 : ((d == 2) || ((d == 3) || (d == 4))) = decide (1 ≤ d ∧ d ≤ 4) := by
        rw [Bool.eq_iff_iff]
        simp only [Bool.or_eq_true, beq_iff_eq, decide_eq_true_eq]
        omega
      rw [e2]
      have e3 : (x.toList == []) = x.toList.isEmpty := by cases x.toList <;> rfl
      rw [e3]
      cases hx : x.toList.isEmpty with
      | false => simp
      | true => rw [notEmpty.1 hx, data_nil]; simp
theorem okM_not {es : List E} {k : Nat} (h : k < es.length) (hl : ¬ less (lastP es k) es[k].p) : okM es k = false := by
  cases ho : okM es k with
  | false => rfl
  | true =>
    exfalso
    rw [okM_is h] at ho
    simp only [Bool.and_eq_true] at ho
    obtain ⟨_, h1, _, _, h4, _⟩ := ho
    cases k with
    | zero =>
      have := pathB_head _ h1
      refine hl (less_L.2 ?_)
      show Op.bytesLess [] (L es[0].p) = true
      have hlen := L_len es[0].p
      cases hq : L es[0].p with
      | nil => rw [hq] at hlen; simp at hlen; omega
      | cons y r => rfl
    | succ j =>
      rw [Bool.or_eq_true] at h4
      have e1 : es[j + 1 - 1]? = some es[j] := by rw [show j + 1 - 1 = j from rfl, List.getElem?_eq_getElem (by omega)]
      rw [e1] at h4
      rcases h4 with h4 | h4
      · cases h4
      · rw [lastP_succ (by omega)] at hl; exact hl h4
theorem tr_take {es : List E} : ∀ k, k ≤ es.length → (List.range k).all (okM es) = true → TrM (es.take k)
  | 0, _, _ => by rw [List.take_zero]; exact TrM.nil
  | k + 1, hk, h => by
    rw [List.range_succ, List.all_append, Bool.and_eq_true] at h
    have T := tr_take k (by omega) h.1
    have hk' : k < es.length := by omega
    have ho : okM es k = true := by simpa using h.2
    have hl : less (lastP es k) es[k].p := Classical.byContradiction fun hn => by rw [okM_not hk' hn] at ho; cases ho
    rw [List.take_succ_eq_append_getElem hk']
    have hk1 := ho
    rw [okM_is hk'] at hk1
    simp only [Bool.and_eq_true, decide_eq_true_eq] at hk1
    exact tr_snoc T (take_less hk' T hl) hk1.2.2.2.2.2.1 hk1.1

/-! ### What is above a path -/
def upsF : Nat → ByteArray → List ByteArray
  | 0, _ => []
  | n + 1, s => if pathB s = true then s :: upsF n (upS s) else []
def ups (s : ByteArray) : List ByteArray := upsF (s.size + 1) s
theorem up_lt {s : ByteArray} (h : pathB s = true) : (upS s).size < s.size := by
  have h1 := up_size h
  rcases stemOk_is (up_facts h).1 with q | q
  · rw [q]
    have h2 := (pathB_head s h).1
    have h3 : (⟨#[47]⟩ : ByteArray).size = 1 := rfl
    omega
  · rw [stem_path q] at h1; exact h1
theorem upsF_more : ∀ (n m : Nat) (s : ByteArray), s.size < n → s.size < m → upsF n s = upsF m s
  | 0, _, _, h, _ => by omega
  | _ + 1, 0, _, _, h => by omega
  | n + 1, m + 1, s, h1, h2 => by
    unfold upsF
    by_cases hp : pathB s = true
    · rw [if_pos hp, if_pos hp, upsF_more n m (upS s) (by have := up_lt hp; omega) (by have := up_lt hp; omega)]
    · rw [if_neg hp, if_neg hp]
theorem ups_yes {s : ByteArray} (h : pathB s = true) : ups s = s :: ups (upS s) := by
  show (if pathB s = true then s :: upsF s.size (upS s) else []) = _
  rw [if_pos h]
  have := up_lt h
  rw [upsF_more s.size ((upS s).size + 1) (upS s) (by omega) (by omega)]
  rfl
theorem ups_no {s : ByteArray} (h : pathB s = false) : ups s = [] := by
  show (if pathB s = true then s :: upsF s.size (upS s) else []) = _
  rw [if_neg (by rw [h]; decide)]
theorem mem_ups : ∀ (N : Nat) (s b : ByteArray), s.size ≤ N → (b ∈ ups s ↔ pathB s = true ∧ pathB b = true ∧ (b = s ∨ underI s b = true))
  | N, s, b, hN => by
    cases hp : pathB s with
    | false => rw [ups_no hp]; simp
    | true =>
      rw [ups_yes hp, List.mem_cons]
      have hlt := up_lt hp
      match N, hN with
      | 0, hN => omega
      | N + 1, hN =>
        rw [mem_ups N (upS s) b (by omega)]
        constructor
        · rintro (rfl | ⟨h1, h2, h3⟩)
          · exact ⟨rfl, hp, .inl rfl⟩
          · exact ⟨rfl, h2, .inr ((under_up hp).2 h3)⟩
        · rintro ⟨_, h2, h3 | h3⟩
          · exact .inl h3
          · refine .inr ?_
            rcases (under_up hp).1 h3 with q | q
            · exact ⟨by rw [← q]; exact h2, h2, .inl q⟩
            · refine ⟨((underI_iff _ _).1 q).2.1, h2, .inr q⟩
theorem underL_I {s b : ByteArray} (hs : pathB s = true) (hb : pathB b = true) : underL s b = underI s b := by
  rw [underI_eq, hs, stemOk_path hb]; rfl
/-- What is told of the mark at a path, if there is one. -/
def tellM (es : List E) (f : Int → Bool) (q : ByteArray) : Bool := match lookE es q with
  | some e => f e.d
  | none => false
theorem tell_any {es : List E} (T : TrM es) (f : Int → Bool) (s : ByteArray) (P : E → Bool) (hP : ∀ e ∈ es, P e = true ↔ e.p ∈ ups s) : (ups s).any (tellM es f) = es.any (fun e => f e.d && P e) := by
  rw [Bool.eq_iff_iff, List.any_eq_true, List.any_eq_true]
  constructor
  · rintro ⟨q, hq, h⟩
    unfold tellM at h
    cases hl : lookE es q with
    | none => rw [hl] at h; cases h
    | some e =>
      rw [hl] at h
      obtain ⟨h1, h2⟩ := look_mem hl
      exact ⟨e, h1, by rw [Bool.and_eq_true]; exact ⟨h, (hP e h1).2 (by rw [h2]; exact hq)⟩⟩
  · rintro ⟨e, he, h⟩
    rw [Bool.and_eq_true] at h
    refine ⟨e.p, (hP e he).1 h.2, ?_⟩
    unfold tellM
    rw [look_self T.sort he]; exact h.1
theorem bares_is {es : List E} (T : TrM es) {s : ByteArray} (hs : pathB s = true) : (ups (upS s)).any (tellM es (fun d => d == 4)) = bareM es s := by
  rw [tell_any T (fun d => d == 4) (upS s) (fun e => underL s e.p)]
  · rfl
  · intro e he
    have hpe := T.path e he
    rw [underL_I hs hpe, under_up hs, mem_ups _ _ _ (Nat.le_refl _)]
    constructor
    · rintro (q | q)
      · exact ⟨by rw [← q]; exact hpe, hpe, .inl q⟩
      · exact ⟨((underI_iff _ _).1 q).2.1, hpe, .inr q⟩
    · rintro ⟨_, _, q⟩
      exact q
theorem hides_is {es : List E} (T : TrM es) (s : ByteArray) : (ups s).any (tellM es (fun d => d != 2)) = (pathB s && hidesM es s) := by
  cases hs : pathB s with
  | false => rw [ups_no hs]; rfl
  | true =>
    rw [tell_any T (fun d => d != 2) s (fun e => decide (e.p = s) || underL s e.p), Bool.true_and]
    · unfold hidesM
      congr 1
      funext e
      unfold hideM
      rw [beqL]
      cases h1 : decide (e.p = s) <;> cases h2 : (e.d != 2) <;> cases h3 : underL s e.p <;> rfl
    · intro e he
      have hpe := T.path e he
      rw [underL_I hs hpe, mem_ups _ _ _ (Nat.le_refl _), Bool.or_eq_true, decide_eq_true_eq]
      exact ⟨fun q => ⟨hs, hpe, q⟩, fun q => q.2.2⟩
end Go.Proofs.YtgkfhcpegdlejaaGreatDoor.Mk
