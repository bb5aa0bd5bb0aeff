/-
  Plain facts on paths: joined, moved, and in the order of their bytes.
-/
import Derived.Test.YtbeaegolgaopbaaDoorHFacts
import Derived.Laws.Cover1
namespace Go.Proofs.YtbeaegolgaopbaaDoor

/-! ### Joined -/
theorem name_bytes {n : ByteArray} (h : nameB n = true) : ∀ i, i < n.size → low (n.get! i) = true := by
  intro i hi
  unfold nameB at h
  rw [Bool.and_eq_true] at h
  rw [get_plus n i hi]
  exact List.all_eq_true.1 h.2 _ (by rw [show n[i] = (L n)[i]'(by rw [L_len]; exact hi) from rfl]; exact List.getElem_mem _)
theorem low_not {c : UInt8} (h : low c = true) : c ≠ 47 := by
  rintro rfl; revert h; decide
theorem join_parts {d n : ByteArray} (h : joinOk d n = true) : stemOk d = true ∧ nameB n = true ∧ pathB (joinI d n) = true ∧ joinS d n = joinI d n := by
  have h' := h
  unfold joinOk at h
  rw [Bool.and_eq_true, Bool.and_eq_true] at h
  exact ⟨h.1.1, h.1.2, h.2, by unfold joinS; rw [h', if_pos rfl]⟩
theorem join_last {d n : ByteArray} (h : joinOk d n = true) : lastS (joinI d n) = ((stemS d).size : Nat) := by
  obtain ⟨h1, h2, h3, _⟩ := join_parts h
  have hz : (stemS d ++ ⟨#[47]⟩ : ByteArray).size = (stemS d).size + 1 := by rw [ByteArray.size_append]; rfl
  have hzz : (joinI d n).size = (stemS d).size + 1 + n.size := by unfold joinI; rw [ByteArray.size_append, hz]
  refine last_eq h3 _ (by omega) ?_ ?_
  · unfold joinI
    rw [get_app_l _ _ _ (by omega), get_app_r _ _ _ (Nat.le_refl _), Nat.sub_self]; rfl
  · intro j hj hj'
    unfold joinI
    rw [get_app_r _ _ _ (by omega), hz]
    exact low_not (name_bytes h2 _ (by omega))
theorem join_up {d n : ByteArray} (h : joinOk d n = true) : upS (joinI d n) = d ∧ nmS (joinI d n) = n := by
  obtain ⟨h1, h2, h3, _⟩ := join_parts h
  have hl := join_last h
  constructor
  · refine stem_inj (up_facts h3).1 h1 ?_
    rw [(up_facts h3).2.1, hl]
    unfold joinI
    have e : (stemS d ++ ⟨#[47]⟩ ++ n : ByteArray) = stemS d ++ (⟨#[47]⟩ ++ n) := by
      apply L_inj; rw [L_app, L_app, L_app, L_app, List.append_assoc]
    rw [e]
    exact app_ext_l _ _
  · unfold nmS
    rw [h3, if_pos rfl, hl]
    have hz : (stemS d ++ ⟨#[47]⟩ : ByteArray).size = (stemS d).size + 1 := by rw [ByteArray.size_append]; rfl
    have := app_ext_r (stemS d ++ ⟨#[47]⟩) n 0
    rw [hz, ext_all] at this
    exact this
theorem join_inj {d n e o : ByteArray} (h : joinOk d n = true) (k : joinOk e o = true) : joinS e o = joinS d n ↔ (e = d ∧ o = n) := by
  constructor
  · intro q
    rw [(join_parts h).2.2.2, (join_parts k).2.2.2] at q
    have a := join_up h
    have b := join_up k
    rw [q] at b
    exact ⟨b.1.symm.trans a.1, b.2.symm.trans a.2⟩
  · rintro ⟨rfl, rfl⟩; rfl

/-! ### Moved -/
theorem hit_iff (s f : ByteArray) : movHit s f = true ↔ (s = f ∨ Pre s f) := by
  unfold movHit
  rw [Bool.or_eq_true, beq_iff_eq, preB_iff]
  exact ⟨fun h => h.elim (fun h => .inl (toList_inj h)) .inr, fun h => h.elim (fun h => .inl (by rw [h])) .inr⟩
theorem hit_le {s f : ByteArray} (h : movHit s f = true) : f.size ≤ s.size ∧ f ++ s.extract f.size s.size = s := by
  rcases (hit_iff s f).1 h with rfl | h
  · refine ⟨Nat.le_refl _, app_empty _ _ (by rw [size_ext]; omega)⟩
  · refine ⟨Nat.le_of_lt h.1, ?_⟩
    have := glue s f.size
    rw [h.2.1] at this; exact this
theorem rest_size (s f : ByteArray) : (s.extract f.size s.size).size = s.size - f.size := by rw [size_ext]; omega
/-- What is moved lies below where it is moved to, as it lay below where it was. -/
theorem moved_hit {s f t : ByteArray} (h : movHit s f = true) : movHit (movX s f t) t = true := by
  rw [hit_iff]
  unfold movX
  rcases (hit_iff s f).1 h with rfl | h
  · left; exact app_empty _ _ (by rw [rest_size]; omega)
  · right
    have hz := rest_size s f
    refine ⟨by rw [ByteArray.size_append, hz]; have := h.1; omega, app_ext_l _ _, ?_⟩
    rw [get_app_r _ _ _ (Nat.le_refl _), Nat.sub_self, get_ext s f.size s.size 0 (by have := h.1; omega)]
    exact h.2.2
theorem moved_rest (s f t : ByteArray) : (movX s f t).extract t.size (movX s f t).size = s.extract f.size s.size := by
  unfold movX
  have := app_ext_r t (s.extract f.size s.size) 0
  rw [Nat.add_zero, ext_all] at this; exact this
theorem moved_back {s f t : ByteArray} (h : movHit s f = true) : movX (movX s f t) t f = s := by
  unfold movX
  have := moved_rest s f t
  unfold movX at this
  rw [this]
  exact (hit_le h).2
theorem moved_via (s f v t : ByteArray) : movX (movX s f v) v t = movX s f t := by
  have := moved_rest s f v
  show t ++ (movX s f v).extract v.size (movX s f v).size = t ++ s.extract f.size s.size
  rw [this]
theorem moved_same {s f : ByteArray} (t : ByteArray) (h : movHit s f = true) : movX s f t = t ↔ s = f := by
  constructor
  · intro e
    have hz : (movX s f t).size = t.size + (s.size - f.size) := by unfold movX; rw [ByteArray.size_append, rest_size]
    rw [e] at hz
    rcases (hit_iff s f).1 h with r | r
    · exact r
    · have := r.1; omega
  · rintro rfl; unfold movX; exact app_empty _ _ (by rw [rest_size]; omega)
theorem moved_name {s f t : ByteArray} (hs : pathB s = true) (hx : pathB (movX s f t) = true) (h : Pre s f) : nmS (movX s f t) = nmS s := by
  obtain ⟨m, hm, m1, m2, m3⟩ := last_is hs
  have le : f.size ≤ m := by
    rcases Nat.lt_or_ge m f.size with c | c
    · exact absurd h.2.2 (m3 _ c h.1)
    · exact c
  have hz : (movX s f t).size = t.size + (s.size - f.size) := by unfold movX; rw [ByteArray.size_append, rest_size]
  have hg : ∀ j, f.size ≤ j → j < s.size → (movX s f t).get! (t.size + (j - f.size)) = s.get! j := by
    intro j hj hj'
    unfold movX
    rw [get_app_r _ _ _ (by omega), get_ext s f.size s.size _ (by omega)]
    congr 1; omega
  have hl : lastS (movX s f t) = ((t.size + (m - f.size) : Nat) : Int) := by
    refine last_eq hx _ (by omega) ?_ ?_
    · rw [hg m le m1]; exact m2
    · intro j hj hj'
      have := hg (f.size + (j - t.size)) (by omega) (by omega)
      rw [show t.size + (f.size + (j - t.size) - f.size) = j from by omega] at this
      rw [this]
      exact m3 _ (by omega) (by omega)
  unfold nmS
  rw [hs, hx, if_pos rfl, if_pos rfl, hl, hm]
  show (movX s f t).extract (t.size + (m - f.size) + 1) (movX s f t).size = s.extract (m + 1) s.size
  have := app_ext_r t (s.extract f.size s.size) (m - f.size + 1)
  unfold movX
  rw [show t.size + (m - f.size) + 1 = t.size + (m - f.size + 1) from by omega, this, rest_size]
  apply L_inj
  rw [L_ext, L_ext, L_ext, List.drop_take, List.drop_drop, List.take_take]
  congr 1
  · omega
  · congr 1; omega

theorem hit_under {s f : ByteArray} (hs : pathB s = true) (hf : pathB f = true) : movHit s f = ((s.toList == f.toList) || underI s f) := by
  unfold movHit underI; rw [stemOk_path hf, hs, stem_path hf]; rfl
theorem movAll_parts {s f t : ByteArray} (h : movAll s f t = true) : pathB s = true ∧ pathB f = true ∧ pathB t = true := by
  unfold movAll at h; rw [Bool.and_eq_true, Bool.and_eq_true] at h; exact ⟨h.1.1, h.1.2, h.2⟩
theorem movOk_parts {s f t : ByteArray} (h : movOk s f t = true) : movAll s f t = true ∧ (movHit s f = false ∨ pathB (movX s f t) = true) := by
  unfold movOk at h
  rw [Bool.and_eq_true, Bool.or_eq_true, Bool.not_eq_true'] at h; exact h
theorem movS_no {s f t : ByteArray} (h : movOk s f t = false) : movS s f t = ⟨#[]⟩ := by
  cases ha : movAll s f t with
  | false => exact movS_bad ha
  | true =>
    cases hh : movHit s f with
    | false => rw [movOk_stay ha hh] at h; cases h
    | true =>
      rw [movOk_go ha hh] at h
      rw [movS_go ha hh]; unfold ifS; rw [h]; rfl
theorem movS_yes {s f t : ByteArray} (h : movOk s f t = true) (hh : movHit s f = true) : movS s f t = movX s f t ∧ pathB (movX s f t) = true := by
  obtain ⟨ha, hx⟩ := movOk_parts h
  rcases hx with hx | hx
  · rw [hh] at hx; cases hx
  · exact ⟨by rw [movS_go ha hh]; unfold ifS; rw [hx, if_pos rfl], hx⟩
/-- What was moved, moved back, is where it was. -/
theorem mov_back {s f t : ByteArray} (h : movOk s f t = true) (hh : movHit s f = true) : movOk (movX s f t) t f = true ∧ movS (movX s f t) t f = s := by
  obtain ⟨ha, _⟩ := movOk_parts h
  obtain ⟨a1, a2, a3⟩ := movAll_parts ha
  obtain ⟨_, hx⟩ := movS_yes h hh
  have hb : movAll (movX s f t) t f = true := by unfold movAll; rw [hx, a3, a2]; rfl
  have hk := moved_hit (t := t) hh
  rw [movOk_go hb hk, movS_go hb hk, moved_back hh]
  exact ⟨a1, by unfold ifS; rw [a1, if_pos rfl]⟩
/-- Moved by way of another path it is where it is when it is moved at once. -/
theorem mov_via {s f v : ByteArray} (t : ByteArray) (h : movOk s f v = true) (hh : movHit s f = true) : movOk (movX s f v) v t = movOk s f t ∧ movS (movX s f v) v t = movS s f t := by
  obtain ⟨ha, _⟩ := movOk_parts h
  obtain ⟨a1, a2, a3⟩ := movAll_parts ha
  obtain ⟨_, hx⟩ := movS_yes h hh
  have hk := moved_hit (t := v) hh
  cases ht : pathB t with
  | false =>
    have b1 : movAll (movX s f v) v t = false := by unfold movAll; rw [ht, Bool.and_false]
    have b2 : movAll s f t = false := by unfold movAll; rw [ht, Bool.and_false]
    exact ⟨by rw [movOk_bad b1, movOk_bad b2], by rw [movS_bad b1, movS_bad b2]⟩
  | true =>
    have b1 : movAll (movX s f v) v t = true := by unfold movAll; rw [hx, a3, ht]; rfl
    have b2 : movAll s f t = true := by unfold movAll; rw [a1, a2, ht]; rfl
    exact ⟨by rw [movOk_go b1 hk, movOk_go b2 hh, moved_via], by rw [movS_go b1 hk, movS_go b2 hh, moved_via]⟩
theorem movS_size (s f t : ByteArray) : (movS s f t).size ≤ s.size + t.size := by
  unfold movS
  split
  · split
    · unfold ifS
      split
      · unfold movX; rw [ByteArray.size_append, rest_size]; omega
      · exact Nat.zero_le _
    · omega
  · exact Nat.zero_le _

/-! ### The order of bytes -/
theorem path_bytes (s : ByteArray) : ∀ (l : List UInt8) (pos : Nat) (k : Int), l = s.data.toList.drop pos → -1 ≤ k → k < pos → (itemsL s l pos k).all okItem = true →
    ∀ j : Nat, k < j → j < s.size → s.get! j = 47 ∨ low (s.get! j) = true
  | [], pos, k, hl, hk, hk', ha, j, hj, hj' => by
    right
    rw [itemsL, List.all_cons, Bool.and_eq_true] at ha
    have hn := ha.1
    unfold okItem at hn
    rw [Bool.and_eq_true] at hn
    have := name_bytes hn.2 (j - (k + 1).toNat) (by rw [size_ext]; omega)
    rw [get_ext s _ _ _ (by omega)] at this
    rw [show (k + 1).toNat + (j - (k + 1).toNat) = j from by omega] at this
    exact this
  | c :: r, pos, k, hl, hk, hk', ha, j, hj, hj' => by
    have hlt : pos < s.size := by
      rcases Nat.lt_or_ge pos s.size with h | h
      · exact h
      · rw [drop_end s pos (by omega)] at hl; cases hl
    rw [drop_at s pos hlt] at hl
    injection hl with hc hr
    have hg : s.get! pos = c := by rw [get_plus s pos hlt, hc]
    rw [itemsL_cons] at ha
    by_cases h47 : c = 47
    · rw [if_pos h47] at ha
      by_cases hp : 0 < pos
      · rw [if_pos hp, List.all_cons, Bool.and_eq_true] at ha
        rcases Nat.lt_trichotomy j pos with q | q | q
        · right
          have hn := ha.1
          unfold okItem at hn
          rw [Bool.and_eq_true] at hn
          have := name_bytes hn.2 (j - (k + 1).toNat) (by rw [size_ext]; omega)
          rw [get_ext s _ _ _ (by omega)] at this
          rw [show (k + 1).toNat + (j - (k + 1).toNat) = j from by omega] at this
          exact this
        · left; rw [q, hg, h47]
        · exact path_bytes s r (pos + 1) pos hr (by omega) (by omega) ha.2 j (by omega) hj'
      · rw [if_neg hp] at ha
        rcases Nat.lt_or_ge pos j with q | q
        · exact path_bytes s r (pos + 1) pos hr (by omega) (by omega) ha j (by omega) hj'
        · left; rw [show j = pos from by omega, hg, h47]
    · rw [if_neg h47] at ha
      exact path_bytes s r (pos + 1) k hr hk (by omega) ha j hj hj'
theorem path_byte {s : ByteArray} (h : pathB s = true) (j : Nat) (hj : j < s.size) : s.get! j = 47 ∨ low (s.get! j) = true := by
  unfold pathB okItems at h
  rw [Bool.and_eq_true] at h
  exact path_bytes s _ 0 (-1) rfl (by omega) (by omega) h.1 j (by omega) hj
end Go.Proofs.YtbeaegolgaopbaaDoor
