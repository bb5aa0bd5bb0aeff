/-
  Plain facts on paths: joined, moved, and in the order of their bytes.
-/
import Derived.Test.YtenlibefdefjmaaDoorHPk00
import Derived.Laws.Cover1
namespace Go.Proofs.YtenlibefdefjmaaDoor

/-! ### Joined -/
theorem name_bytes {n : ByteArray} (h : nameB n = true) : ∀ i, i < n.size → low (n.get! i) = true := by
  intro i hi
  unfold nameB at h
  rw [Bool.and_eq_true] at h
  rw [get_plus n i hi]
  exact List.all_eq_true.1 h.2 _ (by rw [show n[i] = (L n)[i]'(by rw [L_len]; exact hi) from rfl]; exact List.getElem_mem _)
theorem low_not {c : UInt8} (h : low c = true) : c ≠ 47 := by
  rintro rfl; revert h; decide
theorem join_parts {d n : ByteArray} (h : joinOk d n = true) : stemOk d = true ∧ nameB n = true ∧ pathB (joinI d n) = true ∧ joinS d n = joinI d n := by
  have h' := h
  unfold joinOk at h
  rw [Bool.and_eq_true, Bool.and_eq_true] at h
  exact ⟨h.1.1, h.1.2, h.2, by unfold joinS; rw [h', if_pos rfl]⟩
theorem join_last {d n : ByteArray} (h : joinOk d n = true) : lastS (joinI d n) = ((stemS d).size : Nat) := by
  obtain ⟨h1, h2, h3, _⟩ := join_parts h
  have hz : (stemS d ++ ⟨#[47]⟩ : ByteArray).size = (stemS d).size + 1 := by rw [ByteArray.size_append]; rfl
  have hzz : (joinI d n).size = (stemS d).size + 1 + n.size := by unfold joinI; rw [ByteArray.size_append, hz]
  refine last_eq h3 _ (by omega) ?_ ?_
  · unfold joinI
    rw [get_app_l _ _ _ (by omega), get_app_r _ _ _ (Nat.le_refl _), Nat.sub_self]; rfl
  · intro j hj hj'
    unfold joinI
    rw [get_app_r _ _ _ (by omega), hz]
    exact low_not (name_bytes h2 _ (by omega))
theorem join_up {d n : ByteArray} (h : joinOk d n = true) : upS (joinI d n) = d ∧ nmS (joinI d n) = n := by
  obtain ⟨h1, h2, h3, _⟩ := join_parts h
  have hl := join_last h
  constructor
  · refine stem_inj (up_facts h3).1 h1 ?_
    rw [(up_facts h3).2.1, hl]
    unfold joinI
    have e : (stemS d ++ ⟨#[47]⟩ ++ n : ByteArray) = stemS d ++ (⟨#[47]⟩ ++ n) := by
      apply L_inj; rw [L_app, L_app, L_app, L_app, List.append_assoc]
    rw [e]
    exact app_ext_l _ _
  · unfold nmS
    rw [h3, if_pos rfl, hl]
    have hz : (stemS d ++ ⟨#[47]⟩ : ByteArray).size = (stemS d).size + 1 := by rw [ByteArray.size_append]; rfl
    have := app_ext_r (stemS d ++ ⟨#[47]⟩) n 0
    rw [hz, ext_all] at this
    exact this
theorem join_inj {d n e o : ByteArray} (h : joinOk d n = true) (k : joinOk e o = true) : joinS e o = joinS d n ↔ (e = d ∧ o = n) := by
  constructor
  · intro q
    rw [(join_parts h).2.2.2, (join_parts k).2.2.2] at q
    have a := join_up h
    have b := join_up k
    rw [q] at b
    exact ⟨b.1.symm.trans a.1, b.2.symm.trans a.2⟩
  · rintro ⟨rfl, rfl⟩; rfl

/-! ### Moved -/
theorem hit_iff (s f : ByteArray) : movHit s f = true ↔ (s = f ∨ Pre s f) := by
  unfold movHit
  rw [Bool.or_eq_true, beq_iff_eq, preB_iff]
  exact ⟨fun h => h.elim (fun h => .inl (toList_inj h)) .inr, fun h => h.elim (fun h => .inl (by rw [h])) .inr⟩
theorem hit_le {s f : ByteArray} (h : movHit s f = true) : f.size ≤ s.size ∧ f ++ s.extract f.size s.size = s := by
  rcases (hit_iff s f).1 h with rfl | h
  · refine ⟨Nat.le_refl _, app_empty _ _ (by rw [size_ext]; omega)⟩
  · refine ⟨Nat.le_of_lt h.1, ?_⟩
    have := glue s f.size
    rw [h.2.1] at this; exact this
theorem rest_size (s f : ByteArray) : (s.extract f.size s.size).size = s.size - f.size := by rw [size_ext]; omega
/-- What is moved lies below where it is moved to, as it lay below where it was. -/
theorem moved_hit {s f t : ByteArray} (h : movHit s f = true) : movHit (movX s f t) t = true := by
  rw [hit_iff]
  unfold movX
  rcases (hit_iff s f).1 h with rfl | h
  · left; exact app_empty _ _ (by rw [rest_size]; omega)
  · right
    have hz := rest_size s f
    refine ⟨by rw [ByteArray.size_append, hz]; have := h.1; omega, app_ext_l _ _, ?_⟩
    rw [get_app_r _ _ _ (Nat.le_refl _), Nat.sub_self, get_ext s f.size s.size 0 (by have := h.1; omega)]
    exact h.2.2
theorem moved_rest (s f t : ByteArray) : (movX s f t).extract t.size (movX s f t).size = s.extract f.size s.size := by
  unfold movX
  have := app_ext_r t (s.extract f.size s.size) 0
  rw [Nat.add_zero, ext_all] at this; exact this
theorem moved_back {s f t : ByteArray} (h : movHit s f = true) : movX (movX s f t) t f = s := by
  unfold movX
  have := moved_rest s f t
  unfold movX at this
  rw [this]
  exact (hit_le h).2
theorem moved_via (s f v t : ByteArray) : movX (movX s f v) v t = movX s f t := by
  have := moved_rest s f v
  show t ++ (movX s f v).extract v.size (movX s f v).size = t ++ s.extract f.size s.size
  rw [this]
theorem moved_same {s f : ByteArray} (t : ByteArray) (h : movHit s f = true) : movX s f t = t ↔ s = f := by
  constructor
  · intro e
    have hz : (movX s f t).size = t.size + (s.size - f.size) := by unfold movX; rw [ByteArray.size_append, rest_size]
    rw [e] at hz
    rcases (hit_iff s f).1 h with r | r
    · exact r
    · have := r.1; omega
  · rintro rfl; unfold movX; exact app_empty _ _ (by rw [rest_size]; omega)
theorem moved_name {s f t : ByteArray} (hs : pathB s = true) (hx : pathB (movX s f t) = true) (h : Pre s f) : nmS (movX s f t) = nmS s := by
  obtain ⟨m, hm, m1, m2, m3⟩ := last_is hs
  have le : f.size ≤ m := by
    rcases Nat.lt_or_ge m f.size with c | c
    · exact absurd h.2.2 (m3 _ c h.1)
    · exact c
  have hz : (movX s f t).size = t.size + (s.size - f.size) := by unfold movX; rw [ByteArray.size_append, rest_size]
  have hg : ∀ j, f.size ≤ j → j < s.size → (movX s f t).get! (t.size + (j - f.size)) = s.get! j := by
    intro j hj hj'
    unfold movX
    rw [get_app_r _ _ _ (by omega), get_ext s f.size s.size _ (by omega)]
    congr 1; omega
  have hl : lastS (movX s f t) = ((t.size + (m - f.size) : Nat) : Int) := by
    refine last_eq hx _ (by omega) ?_ ?_
    · rw [hg m le m1]; exact m2
    · intro j hj hj'
      have := hg (f.size + (j - t.size)) (by omega) (by omega)
      rw [show t.size + (f.size + (j - t.size) - f.size) = j from by omega] at this
      rw [this]
      exact m3 _ (by omega) (by omega)
  unfold nmS
  rw [hs, hx, if_pos rfl, if_pos rfl, hl, hm]
  show (movX s f t).extract (t.size + (m - f.size) + 1) (movX s f t).size = s.extract (m + 1) s.size
  have := app_ext_r t (s.extract f.size s.size) (m - f.size + 1)
  unfold movX
  rw [show t.size + (m - f.size) + 1 = t.size + (m - f.size + 1) from by omega, this, rest_size]
  apply L_inj
  rw [L_ext, L_ext, L_ext, List.drop_take, List.drop_drop, List.take_take]
  congr 1
  · omega
  · congr 1; omega

theorem hit_under {s f : ByteArray} (hs : pathB s = true) (hf : pathB f = true) : movHit s f = ((s.toList == f.toList) || underI s f) := by
  unfold movHit underI; rw [stemOk_path hf, hs, stem_path hf]; rfl
theorem movAll_parts {s f t : ByteArray} (h : movAll s f t = true) : pathB s = true ∧ pathB f = true ∧ pathB t = true := by
  unfold movAll at h; rw [Bool.and_eq_true, Bool.and_eq_true] at h; exact ⟨h.1.1, h.1.2, h.2⟩
theorem movOk_parts {s f t : ByteArray} (h : movOk s f t = true) : movAll s f t = true ∧ (movHit s f = false ∨ pathB (movX s f t) = true) := by
  unfold movOk at h
  rw [Bool.and_eq_true, Bool.or_eq_true, Bool.not_eq_true'] at h; exact h
theorem movS_no {s f t : ByteArray} (h : movOk s f t = false) : movS s f t = ⟨#[]⟩ := by
  cases ha : movAll s f t with
  | false => exact movS_bad ha
  | true =>
    cases hh : movHit s f with
    | false => rw [movOk_stay ha hh] at h; cases h
    | true =>
      rw [movOk_go ha hh] at h
      rw [movS_go ha hh]; unfold ifS; rw [h]; rfl
theorem movS_yes {s f t : ByteArray} (h : movOk s f t = true) (hh : movHit s f = true) : movS s f t = movX s f t ∧ pathB (movX s f t) = true := by
  obtain ⟨ha, hx⟩ := movOk_parts h
  rcases hx with hx | hx
  · rw [hh] at hx; cases hx
  · exact ⟨by rw [movS_go ha hh]; unfold ifS; rw [hx, if_pos rfl], hx⟩
/-- What was moved, moved back, is where it was. -/
theorem mov_back {s f t : ByteArray} (h : movOk s f t = true) (hh : movHit s f = true) : movOk (movX s f t) t f = true ∧ movS (movX s f t) t f = s := by
  obtain ⟨ha, _⟩ := movOk_parts h
  obtain ⟨a1, a2, a3⟩ := movAll_parts ha
  obtain ⟨_, hx⟩ := movS_yes h hh
  have hb : movAll (movX s f t) t f = true := by unfold movAll; rw [hx, a3, a2]; rfl
  have hk := moved_hit (t := t) hh
  rw [movOk_go hb hk, movS_go hb hk, moved_back hh]
  exact ⟨a1, by unfold ifS; rw [a1, if_pos rfl]⟩
/-- Moved by way of another path it is where it is when it is moved at once. -/
theorem mov_via {s f v : ByteArray} (t : ByteArray) (h : movOk s f v = true) (hh : movHit s f = true) : movOk (movX s f v) v t = movOk s f t ∧ movS (movX s f v) v t = movS s f t := by
  obtain ⟨ha, _⟩ := movOk_parts h
  obtain ⟨a1, a2, a3⟩ := movAll_parts ha
  obtain ⟨_, hx⟩ := movS_yes h hh
  have hk := moved_hit (t := v) hh
  cases ht : pathB t with
  | false =>
    have b1 : movAll (movX s f v) v t = false := by unfold movAll; rw [ht, Bool.and_false]
    have b2 : movAll s f t = false := by unfold movAll; rw [ht, Bool.and_false]
    exact ⟨by rw [movOk_bad b1, movOk_bad b2], by rw [movS_bad b1, movS_bad b2]⟩
  | true =>
    have b1 : movAll (movX s f v) v t = true := by unfold movAll; rw [hx, a3, ht]; rfl
    have b2 : movAll s f t = true := by unfold movAll; rw [a1, a2, ht]; rfl
    exact ⟨by rw [movOk_go b1 hk, movOk_go b2 hh, moved_via], by rw [movS_go b1 hk, movS_go b2 hh, moved_via]⟩
theorem movS_size (s f t : ByteArray) : (movS s f t).size ≤ s.size + t.size := by
  unfold movS
  split
  · split
    · unfold ifS
      split
      · unfold movX; rw [ByteArray.size_append, rest_size]; omega
      · exact Nat.zero_le _
    · omega
  · exact Nat.zero_le _

/-! ### The order of bytes -/
theorem path_bytes (s : ByteArray) : ∀ (l : List UInt8) (pos : Nat) (k : Int), l = s.data.toList.drop pos → -1 ≤ k → k < pos → (itemsL s l pos k).all okItem = true →
    ∀ j : Nat, k < j → j < s.size → s.get! j = 47 ∨ low (s.get! j) = true
  | [], pos, k, hl, hk, hk', ha, j, hj, hj' => by
    right
    rw [itemsL, List.all_cons, Bool.and_eq_true] at ha
    have hn := ha.1
    unfold okItem at hn
    rw [Bool.and_eq_true] at hn
    have := name_bytes hn.2 (j - (k + 1).toNat) (by rw [size_ext]; omega)
    rw [get_ext s _ _ _ (by omega)] at this
    rw [show (k + 1).toNat + (j - (k + 1).toNat) = j from by omega] at this
    exact this
  | c :: r, pos, k, hl, hk, hk', ha, j, hj, hj' => by
    have hlt : pos < s.size := by
      rcases Nat.lt_or_ge pos s.size with h | h
      · exact h
      · rw [drop_end s pos (by omega)] at hl; cases hl
    rw [drop_at s pos hlt] at hl
    injection hl with hc hr
    have hg : s.get! pos = c := by rw [get_plus s pos hlt, hc]
    rw [itemsL_cons] at ha
    by_cases h47 : c = 47
    · rw [if_pos h47] at ha
      by_cases hp : 0 < pos
      · rw [if_pos hp, List.all_cons, Bool.and_eq_true] at ha
        rcases Nat.lt_trichotomy j pos with q | q | q
        · right
          have hn := ha.1
          unfold okItem at hn
          rw [Bool.and_eq_true] at hn
          have := name_bytes hn.2 (j - (k + 1).toNat) (by rw [size_ext]; omega)
          rw [get_ext s _ _ _ (by omega)] at this
          rw [show (k + 1).toNat + (j - (k + 1).toNat) = j from by omega] at this
          exact this
        · left; rw [q, hg, h47]
        · exact path_bytes s r (pos + 1) pos hr (by omega) (by omega) ha.2 j (by omega) hj'
      · rw [if_neg hp] at ha
        rcases Nat.lt_or_ge pos j with q | q
        · exact path_bytes s r (pos + 1) pos hr (by omega) (by omega) ha j (by omega) hj'
        · left; rw [show j = pos from by omega, hg, h47]
    · rw [if_neg h47] at ha
      exact path_bytes s r (pos + 1) k hr hk (by omega) ha j hj hj'
theorem path_byte {s : ByteArray} (h : pathB s = true) (j : Nat) (hj : j < s.size) : s.get! j = 47 ∨ low (s.get! j) = true := by
  unfold pathB okItems at h
  rw [Bool.and_eq_true] at h
  exact path_bytes s _ 0 (-1) rfl (by omega) (by omega) h.1 j (by omega) hj
end Go.Proofs.YtenlibefdefjmaaDoor

/-
  Plain facts on the order of bytes of paths.
-/
namespace Go.Proofs.YtenlibefdefjmaaDoor

theorem less_app : ∀ (b : List UInt8) (y : UInt8) (r : List UInt8), Op.bytesLess b (b ++ y :: r) = true
  | [], _, _ => rfl
  | h :: b, y, r => by
    show (decide (h < h) || (h == h && Op.bytesLess b (b ++ y :: r))) = true
    rw [less_app b y r, beq_self_eq_true]; simp
theorem less_total : ∀ (a b : List UInt8), Op.bytesLess a b = false → a ≠ b → Op.bytesLess b a = true
  | [], [], _, h => absurd rfl h
  | [], _ :: _, h, _ => by cases h
  | _ :: _, [], _, _ => rfl
  | x :: a, y :: b, h, hne => by
    have h' : (decide (x < y) || (x == y && Op.bytesLess a b)) = false := h
    show (decide (y < x) || (y == x && Op.bytesLess b a)) = true
    rw [Bool.or_eq_false_iff, decide_eq_false_iff_not] at h'
    obtain ⟨h1, h2⟩ := h'
    by_cases e : x = y
    · subst e
      rw [beq_self_eq_true, Bool.true_and] at h2
      rw [less_total a b h2 (fun q => hne (by rw [q])), beq_self_eq_true]; simp
    · have : y < x := by
        rw [UInt8.lt_iff_toNat_lt] at *
        have : x.toNat ≠ y.toNat := fun q => e (UInt8.toNat_inj.1 q)
        omega
      rw [decide_eq_true this]; rfl
theorem less_between : ∀ (b c r : List UInt8), (∀ y ∈ c, 47 ≤ y.toNat) → Op.bytesLess b c = true → Op.bytesLess c (b ++ 47 :: r) = true → ∃ q, c = b ++ 47 :: q
  | [], [], _, _, h, _ => by cases h
  | [], y :: c, r, hc, _, h2 => by
    have h' : (decide (y < 47) || (y == 47 && Op.bytesLess c r)) = true := h2
    rw [Bool.or_eq_true, decide_eq_true_eq, Bool.and_eq_true, beq_iff_eq] at h'
    have h47 := hc y List.mem_cons_self
    rcases h' with h | h
    · rw [UInt8.lt_iff_toNat_lt] at h
      have : (47 : UInt8).toNat = 47 := rfl
      omega
    · exact ⟨c, by rw [h.1]; rfl⟩
  | x :: b, [], _, _, h, _ => by cases h
  | x :: b, y :: c, r, hc, h1, h2 => by
    have h1' : (decide (x < y) || (x == y && Op.bytesLess b c)) = true := h1
    have h2' : (decide (y < x) || (y == x && Op.bytesLess c (b ++ 47 :: r))) = true := h2
    rw [Bool.or_eq_true, decide_eq_true_eq, Bool.and_eq_true, beq_iff_eq] at h1' h2'
    rw [UInt8.lt_iff_toNat_lt] at h1' h2'
    rcases h1' with p | p
    · rcases h2' with q | q
      · omega
      · rw [q.1] at p; omega
    · rcases h2' with q | q
      · rw [p.1] at q; omega
      · obtain ⟨t, ht⟩ := less_between b c r (fun z hz => hc z (List.mem_cons_of_mem _ hz)) p.2 q.2
        exact ⟨t, by rw [p.1, ht]; rfl⟩

theorem pre_list {a b : ByteArray} (h : Pre a b) : ∃ r, L a = L b ++ 47 :: r := by
  obtain ⟨h1, h2, h3⟩ := h
  refine ⟨(L a).drop (b.size + 1), ?_⟩
  rw [get_plus a b.size h1] at h3
  have e : (L a).drop b.size = 47 :: (L a).drop (b.size + 1) := by rw [drop_at a b.size h1, h3]
  rw [← e]
  have e2 : L b = (L a).take b.size := by
    have := congrArg L h2
    rw [L_ext, List.drop_zero, Nat.sub_zero] at this
    exact this.symm
  rw [e2, List.take_append_drop]
theorem list_pre {a b : ByteArray} {r : List UInt8} (h : L a = L b ++ 47 :: r) : Pre a b := by
  have hz : a.size = b.size + (r.length + 1) := by
    rw [← L_len, h, List.length_append, L_len, List.length_cons]
  refine ⟨by omega, ?_, ?_⟩
  · apply L_inj
    rw [L_ext, List.drop_zero, Nat.sub_zero, h, ← L_len b, List.take_left']; rfl
  · rw [gE, h, List.getElem?_append_right (by rw [L_len]; exact Nat.le_refl _), L_len, Nat.sub_self]; rfl
/-- A path stands ahead of all that is below it. -/
theorem order_up {a b : ByteArray} (hb : pathB b = true) (h : underI a b = true) : Op.bytesLess b.toList a.toList = true := by
  obtain ⟨_, _, k⟩ := (underI_iff _ _).1 h
  rw [stem_path hb] at k
  obtain ⟨r, hr⟩ := pre_list k
  rw [Lib.toList_data, Lib.toList_data]
  show Op.bytesLess (L b) (L a) = true
  rw [hr]; exact less_app _ _ _
/-- Nothing else stands between these. -/
theorem order_between {a b c : ByteArray} (hb : pathB b = true) (hc : pathB c = true) (h : underI a b = true) (h1 : Op.bytesLess c.toList b.toList = false) (h2 : ¬ c.toList = b.toList) (h3 : Op.bytesLess c.toList a.toList = true) : underI c b = true := by
  obtain ⟨k1, _, k⟩ := (underI_iff _ _).1 h
  rw [stem_path hb] at k
  obtain ⟨r, hr⟩ := pre_list k
  have h1' := less_total _ _ h1 h2
  rw [Lib.toList_data, Lib.toList_data] at h1' h3
  have h3' : Op.bytesLess (L c) (L b ++ 47 :: r) = true := by rw [← hr]; exact h3
  have hbytes : ∀ y ∈ L c, 47 ≤ y.toNat := by
    intro y hy
    obtain ⟨i, hi, e⟩ := List.getElem_of_mem hy
    rw [L_len] at hi
    have := path_byte hc i hi
    rw [get_plus c i hi] at this
    have e' : c[i] = y := e
    rw [e'] at this
    rcases this with q | q
    · rw [q]; decide
    · unfold low at q; have := (of_decide_eq_true q).1; omega
  obtain ⟨q, hq⟩ := less_between (L b) (L c) r hbytes h1' h3'
  refine (underI_iff _ _).2 ⟨k1, hc, ?_⟩
  rw [stem_path hb]
  exact list_pre hq
end Go.Proofs.YtenlibefdefjmaaDoor

/-
  Plain facts on trees as lists of entries: what is at a path, and what a right tree is.
-/
namespace Go.Proofs.YtenlibefdefjmaaDoor

/-- What is at a path. -/
def lookE (es : List E) (s : ByteArray) : Option E := es.find? (fun e => decide (e.p = s))
theorem look_mem {es : List E} {s : ByteArray} {e : E} (h : lookE es s = some e) : e ∈ es ∧ e.p = s :=
  ⟨List.mem_of_find?_eq_some h, by have := List.find?_some h; exact of_decide_eq_true this⟩
theorem look_none {es : List E} {s : ByteArray} : lookE es s = none ↔ ∀ e ∈ es, e.p ≠ s := by
  unfold lookE; rw [List.find?_eq_none]; simp
theorem beqL (a b : ByteArray) : (a.toList == b.toList) = decide (a = b) := by
  rw [Bool.eq_iff_iff, beq_iff_eq, decide_eq_true_iff]; exact ⟨toList_inj, fun h => by rw [h]⟩

theorem findL_look (s : ByteArray) : ∀ (es : List E) (k : Nat), (findL s es k = -1 ∧ lookE es s = none) ∨ ∃ (j : Nat) (h : j < es.length), findL s es k = ((k + j : Nat) : Int) ∧ lookE es s = some es[j]
  | [], _ => .inl ⟨rfl, rfl⟩
  | e :: r, k => by
    unfold findL lookE
    rw [beqL, List.find?_cons]
    by_cases h : e.p = s
    · right; refine ⟨0, by simp, ?_, ?_⟩ <;> simp [h]
    · rcases findL_look s r (k + 1) with ⟨h1, h2⟩ | ⟨j, hj, h1, h2⟩
      · left; unfold lookE at h2; simp [h, h1, h2]
      · right; unfold lookE at h2
        refine ⟨j + 1, by simp; omega, ?_, ?_⟩
        · simp [h, h1]; omega
        · simp [h, h2]
theorem getE_look {es : List E} {s : ByteArray} (h : isRoot s = false) : getE es s = ((lookE es s).getD noneE, (lookE es s).isSome) := by
  rcases findL_look s es 0 with ⟨h1, h2⟩ | ⟨j, hj, h1, h2⟩
  · rw [getE_no h h1, h2]; rfl
  · rw [getE_at h hj (by unfold findE; rw [h1]; simp), h2]; rfl
theorem dirE_look (es : List E) (s : ByteArray) : dirE es s = (isRoot s || ((lookE es s).map (·.d)).getD false) := by
  unfold dirE
  rcases findL_look s es 0 with ⟨h1, h2⟩ | ⟨j, hj, h1, h2⟩
  · rw [h2, show findE es s = -1 from h1]
    cases es[((-1 : Int)).toNat]? <;> simp
  · rw [h2, show findE es s = (j : Int) from by unfold findE; rw [h1]; simp]
    have : es[((j : Nat) : Int).toNat]? = some es[j] := by rw [show ((j : Nat) : Int).toNat = j from rfl, List.getElem?_eq_getElem hj]
    rw [this]; simp

/-! ### The order of the bytes -/
def less (a b : ByteArray) : Prop := Op.bytesLess a.toList b.toList = true
theorem less_L {a b : ByteArray} : less a b ↔ Op.bytesLess (L a) (L b) = true := by unfold less; rw [Lib.toList_data, Lib.toList_data]
theorem bless_irrefl : ∀ a : List UInt8, Op.bytesLess a a = false
  | [] => rfl
  | x :: a => by
    show (decide (x < x) || (x == x && Op.bytesLess a a)) = false
    rw [bless_irrefl a]; simp
theorem bless_trans : ∀ a b c : List UInt8, Op.bytesLess a b = true → Op.bytesLess b c = true → Op.bytesLess a c = true
  | [], [], _, h, _ => by cases h
  | [], _ :: _, [], _, h => by cases h
  | [], _ :: _, _ :: _, _, _ => rfl
  | _ :: _, [], _, h, _ => by cases h
  | _ :: _, _ :: _, [], _, h => by cases h
  | x :: a, y :: b, z :: c, h1, h2 => by
    have h1' : (decide (x < y) || (x == y && Op.bytesLess a b)) = true := h1
    have h2' : (decide (y < z) || (y == z && Op.bytesLess b c)) = true := h2
    show (decide (x < z) || (x == z && Op.bytesLess a c)) = true
    rw [Bool.or_eq_true, decide_eq_true_eq, Bool.and_eq_true, beq_iff_eq] at h1' h2' ⊢
    rw [UInt8.lt_iff_toNat_lt] at *
    rcases h1' with p | p
    · rcases h2' with q | q
      · left; omega
      · left; rw [← q.1]; exact p
    · rcases h2' with q | q
      · left; rw [p.1]; exact q
      · right; exact ⟨p.1.trans q.1, bless_trans a b c p.2 q.2⟩
theorem less_irrefl (a : ByteArray) : ¬ less a a := by unfold less; rw [bless_irrefl]; simp
theorem less_trans {a b c : ByteArray} (h : less a b) (k : less b c) : less a c := bless_trans _ _ _ h k
theorem less_or {a b : ByteArray} (h : a ≠ b) : less a b ∨ less b a := by
  by_cases k : less a b
  · exact .inl k
  · exact .inr (less_total _ _ (by unfold less at k; simpa using k) (fun e => h (toList_inj e)))

/-- Two rising lists with the same in them are one. -/
theorem rising_ext {α : Type} {r : α → α → Prop} (irr : ∀ a, ¬ r a a) (tr : ∀ {a b c}, r a b → r b c → r a c) : ∀ (xs ys : List α), xs.Pairwise r → ys.Pairwise r → (∀ a, a ∈ xs ↔ a ∈ ys) → xs = ys
  | [], [], _, _, _ => rfl
  | [], y :: ys, _, _, h => by have := (h y).2 List.mem_cons_self; cases this
  | x :: xs, [], _, _, h => by have := (h x).1 List.mem_cons_self; cases this
  | x :: xs, y :: ys, hx, hy, h => by
    obtain ⟨hx1, hx2⟩ := List.pairwise_cons.1 hx
    obtain ⟨hy1, hy2⟩ := List.pairwise_cons.1 hy
    have e : x = y := by
      rcases List.mem_cons.1 ((h x).1 List.mem_cons_self) with e | h1
      · exact e
      · rcases List.mem_cons.1 ((h y).2 List.mem_cons_self) with e | h2
        · exact e.symm
        · exact absurd (tr (hx1 y h2) (hy1 x h1)) (irr x)
    subst e
    refine congrArg (x :: ·) (rising_ext irr tr xs ys hx2 hy2 fun a => ?_)
    constructor
    · intro ha
      rcases List.mem_cons.1 ((h a).1 (List.mem_cons_of_mem _ ha)) with e | h1
      · subst e; exact absurd (hx1 a ha) (irr a)
      · exact h1
    · intro ha
      rcases List.mem_cons.1 ((h a).2 (List.mem_cons_of_mem _ ha)) with e | h1
      · subst e; exact absurd (hy1 a ha) (irr a)
      · exact h1

/-! ### A right tree -/
structure TrE (es : List E) : Prop where
  path : ∀ e ∈ es, pathB e.p = true
  sort : es.Pairwise (fun a b => less a.p b.p)
  up : ∀ e ∈ es, dirE es (upS e.p) = true
  data : ∀ e ∈ es, dataB e.x = true ∧ (e.d = true → e.x = ⟨#[]⟩)

theorem TrE.nil : TrE [] := ⟨by simp, by simp, by simp, by simp⟩
theorem look_self {es : List E} (h : es.Pairwise (fun a b => less a.p b.p)) {e : E} (he : e ∈ es) : lookE es e.p = some e := by
  cases hl : lookE es e.p with
  | none => exact absurd rfl (look_none.1 hl e he)
  | some f =>
    obtain ⟨hf, hp⟩ := look_mem hl
    by_cases hne : e = f
    · rw [hne]
    · exfalso
      have key : ∀ (l : List E), l.Pairwise (fun a b => less a.p b.p) → e ∈ l → f ∈ l → False := by
        intro l
        induction l with
        | nil => intro _ h; cases h
        | cons x r ih =>
          intro hl he hf
          obtain ⟨h1, h2⟩ := List.pairwise_cons.1 hl
          rcases List.mem_cons.1 he with e1 | e1
          · rcases List.mem_cons.1 hf with e2 | e2
            · exact hne (e1.trans e2.symm)
            · have := h1 f e2; rw [← e1, hp] at this; exact less_irrefl _ this
          · rcases List.mem_cons.1 hf with e2 | e2
            · have := h1 e e1; rw [← e2, hp] at this; exact less_irrefl _ this
            · exact ih h2 e1 e2
      exact key es h he hf
theorem look_iff {es : List E} (h : es.Pairwise (fun a b => less a.p b.p)) (s : ByteArray) (e : E) : lookE es s = some e ↔ e ∈ es ∧ e.p = s :=
  ⟨look_mem, fun ⟨h1, h2⟩ => by rw [← h2]; exact look_self h h1⟩

/-- Two right lists that tell the same of each path are one. -/
theorem look_ext {es fs : List E} (h : es.Pairwise (fun a b => less a.p b.p)) (k : fs.Pairwise (fun a b => less a.p b.p)) (hl : ∀ s, lookE es s = lookE fs s) : es = fs :=
  rising_ext (r := fun a b => less a.p b.p) (fun a => less_irrefl a.p) (fun {_ _ _} => less_trans) es fs h k fun a =>
    ⟨fun ha => (look_mem ((hl a.p).symm.trans (look_self h ha))).1, fun ha => (look_mem ((hl a.p).trans (look_self k ha))).1⟩

theorem dir_look {es : List E} {s : ByteArray} (h : dirE es s = true) : s = ⟨#[47]⟩ ∨ ∃ e, lookE es s = some e ∧ e.d = true := by
  rw [dirE_look, Bool.or_eq_true] at h
  rcases h with h | h
  · exact .inl ((isRoot_iff s).1 h)
  · cases hl : lookE es s with
    | none => rw [hl] at h; cases h
    | some e => rw [hl] at h; exact .inr ⟨e, rfl, h⟩
theorem look_dir {es : List E} {s : ByteArray} (h : s = ⟨#[47]⟩ ∨ ∃ e, lookE es s = some e ∧ e.d = true) : dirE es s = true := by
  rw [dirE_look, Bool.or_eq_true]
  rcases h with h | ⟨e, h, hd⟩
  · exact .inl ((isRoot_iff s).2 h)
  · exact .inr (by rw [h]; exact hd)
theorem TrE.dirOk {es : List E} (T : TrE es) {s : ByteArray} (h : dirE es s = true) : stemOk s = true := by
  rcases dir_look h with rfl | ⟨e, h, _⟩
  · unfold stemOk; rw [root_root]; rfl
  · obtain ⟨h1, h2⟩ := look_mem h
    exact stemOk_path (by rw [← h2]; exact T.path e h1)

theorem look_append (es fs : List E) (s : ByteArray) : lookE (es ++ fs) s = (lookE es s).or (lookE fs s) := by
  unfold lookE; rw [List.find?_append]
theorem dir_append {es fs : List E} {s : ByteArray} (h : dirE es s = true) : dirE (es ++ fs) s = true := by
  rcases dir_look h with e | ⟨e, h, hd⟩
  · exact look_dir (.inl e)
  · exact look_dir (.inr ⟨e, by rw [look_append, h]; rfl, hd⟩)

theorem notEmpty {x : ByteArray} : x.toList.isEmpty = true ↔ x = ⟨#[]⟩ := by
  rw [List.isEmpty_iff]
  exact ⟨fun h => toList_inj (h.trans (by rw [Lib.toList_data])), fun h => by rw [h, Lib.toList_data]⟩
/-- One entry more. -/
theorem tr_snoc {es : List E} {e : E} (T : TrE es) (h1 : pathB e.p = true) (h2 : dataB e.x = true) (h3 : e.d = true → e.x = ⟨#[]⟩) (h4 : ∀ f ∈ es, less f.p e.p) (h5 : dirE es (upS e.p) = true) : TrE (es ++ [e]) where
  path f hf := by
    rcases List.mem_append.1 hf with hf | hf
    · exact T.path f hf
    · rw [List.mem_singleton.1 hf]; exact h1
  sort := by
    rw [List.pairwise_append]
    exact ⟨T.sort, by simp, fun a ha b hb => by rw [List.mem_singleton.1 hb]; exact h4 a ha⟩
  up f hf := by
    rcases List.mem_append.1 hf with hf | hf
    · exact dir_append (T.up f hf)
    · rw [List.mem_singleton.1 hf]; exact dir_append h5
  data f hf := by
    rcases List.mem_append.1 hf with hf | hf
    · exact T.data f hf
    · rw [List.mem_singleton.1 hf]; exact ⟨h2, h3⟩

theorem last_less {es : List E} (h : es.Pairwise (fun a b => less a.p b.p)) {k : Nat} (hk : k < es.length) {s : ByteArray} (hl : es.length = k + 1) (hs : less es[k].p s) : ∀ f ∈ es, less f.p s := by
  intro f hf
  obtain ⟨i, hi, rfl⟩ := List.getElem_of_mem hf
  by_cases e : i = k
  · subst e; exact hs
  · exact less_trans (List.pairwise_iff_getElem.1 h i k hi hk (by omega)) hs

theorem okAt_parts {es : List E} {i : Nat} (hi : i < es.length) : okAt es i = true ↔ pathB es[i].p = true ∧ dataB es[i].x = true ∧ (es[i].d = true → es[i].x = ⟨#[]⟩) ∧ (i = 0 ∨ ∃ h : i - 1 < es.length, less es[i - 1].p es[i].p) ∧ dirE (es.take i) (upS es[i].p) = true := by
  rw [okAt_is hi]
  simp only [Bool.and_eq_true, Bool.or_eq_true, Bool.not_eq_true', Bool.and_eq_false_iff, beq_iff_eq]
  have hi1 : i - 1 < es.length := by omega
  rw [List.getElem?_eq_getElem hi1]
  refine ⟨fun ⟨a, b, c, d, e⟩ => ⟨a, b, fun hd => ?_, ?_, e⟩, fun ⟨a, b, c, d, e⟩ => ⟨a, b, ?_, ?_, e⟩⟩
  · rcases c with c | c
    · rw [hd] at c; cases c
    · exact notEmpty.1 (by simpa using c)
  · rcases d with d | d
    · exact .inl d
    · exact .inr ⟨hi1, d⟩
  · cases hd : es[i].d with
    | false => exact .inl rfl
    | true => exact .inr (by rw [notEmpty.2 (c hd)]; rfl)
  · rcases d with d | ⟨_, d⟩
    · exact .inl d
    · exact .inr d

theorem tr_take {es : List E} : ∀ k, k ≤ es.length → (List.range k).all (okAt es) = true → TrE (es.take k)
  | 0, _, _ => by rw [List.take_zero]; exact TrE.nil
  | k + 1, hk, h => by
    rw [List.range_succ, List.all_append, Bool.and_eq_true] at h
    have T := tr_take k (by omega) h.1
    have hk' : k < es.length := by omega
    obtain ⟨a, b, c, d, e⟩ := (okAt_parts hk').1 (by simpa using h.2)
    rw [List.take_succ_eq_append_getElem hk']
    refine tr_snoc T a b c ?_ e
    rcases d with d | ⟨d1, d⟩
    · subst d; intro f hf; rw [List.take_zero] at hf; cases hf
    · by_cases k0 : k = 0
      · subst k0; intro f hf; rw [List.take_zero] at hf; cases hf
      · exact last_less T.sort (k := k - 1) (by rw [List.length_take]; omega) (by rw [List.length_take]; omega) (by rw [List.getElem_take]; exact d)
theorem treeE_tr {es : List E} (h : treeE es = true) : TrE es ∧ es.length ≤ 16 := by
  unfold treeE at h
  rw [Bool.and_eq_true] at h
  refine ⟨?_, of_decide_eq_true h.1⟩
  have := tr_take es.length (Nat.le_refl _) h.2
  rwa [List.take_length] at this
theorem TrE.treeE {es : List E} (T : TrE es) (hl : es.length ≤ 16) : treeE es = true := by
  unfold Proofs.YtenlibefdefjmaaDoor.treeE
  rw [Bool.and_eq_true]
  refine ⟨decide_eq_true hl, ?_⟩
  rw [List.all_eq_true]
  intro i hi
  rw [List.mem_range] at hi
  have hm : es[i] ∈ es := List.getElem_mem hi
  refine (okAt_parts hi).2 ⟨T.path _ hm, (T.data _ hm).1, (T.data _ hm).2, ?_, ?_⟩
  · by_cases i0 : i = 0
    · exact .inl i0
    · exact .inr ⟨by omega, List.pairwise_iff_getElem.1 T.sort (i - 1) i (by omega) hi (by omega)⟩
  · rcases dir_look (T.up _ hm) with e | ⟨e, hl, hd⟩
    · exact look_dir (.inl e)
    · refine look_dir (.inr ⟨e, ?_, hd⟩)
      obtain ⟨he, hp⟩ := look_mem hl
      have hs := T.sort
      obtain ⟨j, hj, rfl⟩ := List.getElem_of_mem he
      have hji : j < i := by
        have hup : pathB (upS es[i].p) = true := by rw [← hp]; exact T.path _ he
        have h1 : less es[j].p es[i].p := by rw [hp]; exact order_up hup (up_under (T.path _ hm))
        rcases Nat.lt_trichotomy j i with h | h | h
        · exact h
        · subst h; exact absurd h1 (less_irrefl _)
        · exact absurd (less_trans h1 (List.pairwise_iff_getElem.1 hs i j hi hj h)) (less_irrefl _)
      rw [← hp]
      refine look_self (hs.sublist (List.take_sublist i es)) ?_
      rw [List.mem_take_iff_getElem]
      exact ⟨j, by omega, rfl⟩
end Go.Proofs.YtenlibefdefjmaaDoor

/-
  Plain facts on trees: what is in a directory, and what is below it, in order.
-/
namespace Go.Proofs.YtenlibefdefjmaaDoor

theorem bless_pre : ∀ (x a b : List UInt8), Op.bytesLess (x ++ a) (x ++ b) = Op.bytesLess a b
  | [], _, _ => rfl
  | y :: x, a, b => by
    show (decide (y < y) || (y == y && Op.bytesLess (x ++ a) (x ++ b))) = _
    rw [bless_pre x a b]; simp
theorem bless_ext : ∀ (a b r1 r2 : List UInt8), (∀ y ∈ b, 47 < y.toNat) → Op.bytesLess a b = true → (r1 = [] ∨ ∃ r, r1 = 47 :: r) → Op.bytesLess (a ++ r1) (b ++ r2) = true
  | [], [], _, _, _, h, _ => by cases h
  | [], y :: b, r1, r2, hb, _, hr => by
    rcases hr with rfl | ⟨r, rfl⟩
    · rfl
    · show (decide ((47 : UInt8) < y) || _) = true
      have := hb y List.mem_cons_self
      rw [decide_eq_true (by rw [UInt8.lt_iff_toNat_lt]; exact this)]; rfl
  | _ :: _, [], _, _, _, h, _ => by cases h
  | x :: a, y :: b, r1, r2, hb, h, hr => by
    have h' : (decide (x < y) || (x == y && Op.bytesLess a b)) = true := h
    show (decide (x < y) || (x == y && Op.bytesLess (a ++ r1) (b ++ r2))) = true
    rw [Bool.or_eq_true, decide_eq_true_eq, Bool.and_eq_true] at h' ⊢
    rcases h' with p | p
    · exact .inl p
    · exact .inr ⟨p.1, bless_ext a b r1 r2 (fun z hz => hb z (List.mem_cons_of_mem _ hz)) p.2 hr⟩
theorem L_join (p n : ByteArray) : L (joinI p n) = L (stemS p) ++ 47 :: L n := by
  unfold joinI
  rw [L_app, L_app, List.append_assoc]; rfl
theorem name_high {n : ByteArray} (h : nameB n = true) : ∀ y ∈ L n, 47 < y.toNat := by
  intro y hy
  unfold nameB at h
  rw [Bool.and_eq_true, List.all_eq_true] at h
  have := h.2 y hy
  unfold low at this
  have := (of_decide_eq_true this).1; omega
theorem less_join {p n m : ByteArray} : less (joinI p n) (joinI p m) ↔ less n m := by
  rw [less_L, less_L, L_join, L_join, bless_pre, show (47 :: L n) = [47] ++ L n from rfl, show (47 :: L m) = [47] ++ L m from rfl, bless_pre]
theorem join_ok {p n : ByteArray} (hp : stemOk p = true) (hn : nameB n = true) (h : pathB (joinI p n) = true) : joinOk p n = true := by
  unfold joinOk; rw [hp, hn, h]; rfl

/-! ### What is in a directory -/
theorem kid_iff (s : ByteArray) (e : E) : kidB s e = true ↔ upS e.p = s := by
  unfold kidB; rw [beq_iff_eq]; exact ⟨toList_inj, fun h => by rw [h]⟩
theorem kids_mem {es : List E} (T : TrE es) {p : ByteArray} (hp : stemOk p = true) (n : ByteArray) : n ∈ kidsE es p ↔ nameB n = true ∧ ∃ e, lookE es (joinI p n) = some e := by
  unfold kidsE
  rw [List.mem_map]
  constructor
  · rintro ⟨e, he, rfl⟩
    obtain ⟨h1, h2⟩ := List.mem_filter.1 he
    have hu := (kid_iff p e).1 h2
    have hpe := T.path e h1
    refine ⟨(up_facts hpe).2.2.1, e, ?_⟩
    rw [← hu, up_join hpe]; exact look_self T.sort h1
  · rintro ⟨hn, e, h⟩
    obtain ⟨h1, h2⟩ := look_mem h
    have hpe := T.path e h1
    have hj := join_up (join_ok hp hn (by rw [← h2]; exact hpe))
    exact ⟨e, List.mem_filter.2 ⟨h1, (kid_iff p e).2 (by rw [h2]; exact hj.1)⟩, by rw [h2]; exact hj.2⟩
theorem kids_rise {es : List E} (T : TrE es) {p : ByteArray} : (kidsE es p).Pairwise less := by
  unfold kidsE
  rw [List.pairwise_map]
  have h1 := T.sort.filter (kidB p)
  refine h1.imp_of_mem ?_
  intro a b ha hb h
  obtain ⟨a1, a2⟩ := List.mem_filter.1 ha
  obtain ⟨b1, b2⟩ := List.mem_filter.1 hb
  have ea := up_join (T.path a a1)
  have eb := up_join (T.path b b1)
  rw [(kid_iff p a).1 a2] at ea
  rw [(kid_iff p b).1 b2] at eb
  rw [← ea, ← eb] at h
  exact less_join.1 h

/-! ### What is below a directory -/
def bel (es : List E) (p : ByteArray) : List E := es.filter (fun e => underI e.p p)
theorem bel_iff {es : List E} {p : ByteArray} {e : E} : e ∈ bel es p ↔ e ∈ es ∧ underI e.p p = true := List.mem_filter
theorem join_under {p n : ByteArray} (h : joinOk p n = true) : underI (joinI p n) p = true := by
  obtain ⟨h1, h2, h3, _⟩ := join_parts h
  refine (underI_iff _ _).2 ⟨h1, h3, ?_⟩
  exact list_pre (L_join p n)
theorem up_size {s : ByteArray} (h : pathB s = true) : (stemS (upS s)).size < s.size := (up_pre h).1
/-- Whatever is below a directory is in it, or below what is in it. -/
theorem below_kid {es : List E} (T : TrE es) {p : ByteArray} (hp : stemOk p = true) : ∀ (N : Nat) (e : E), e ∈ es → e.p.size ≤ N → underI e.p p = true → ∃ n ∈ kidsE es p, e.p = joinI p n ∨ underI e.p (joinI p n) = true
  | 0, e, he, hN, h => by have := pathB_head _ (T.path e he); omega
  | N + 1, e, he, hN, h => by
    have hpe := T.path e he
    rcases (under_up hpe).1 h with e1 | e1
    · refine ⟨nmS e.p, (kids_mem T hp _).2 ⟨(up_facts hpe).2.2.1, e, ?_⟩, .inl ?_⟩
      · rw [e1, up_join hpe]; exact look_self T.sort he
      · rw [e1, up_join hpe]
    · rcases dir_look (T.up e he) with q | ⟨f, hf, _⟩
      · obtain ⟨_, h2, _⟩ := (underI_iff _ _).1 e1
        rw [q] at h2
        have := path_not_root h2
        rw [root_root] at this; cases this
      · obtain ⟨f1, f2⟩ := look_mem hf
        have hsz := up_size hpe
        rw [stem_path (by rw [← f2]; exact T.path f f1)] at hsz
        obtain ⟨n, hn, k⟩ := below_kid T hp N f f1 (by rw [f2]; omega) (by rw [f2]; exact e1)
        refine ⟨n, hn, .inr ?_⟩
        rcases k with k | k
        · rw [← k, f2]; exact up_under hpe
        · exact under_trans (up_under hpe) (by rw [f2] at k; exact k)

theorem under_list {a b : ByteArray} (hb : pathB b = true) (h : a = b ∨ underI a b = true) : ∃ r, L a = L b ++ r ∧ (r = [] ∨ ∃ q, r = 47 :: q) := by
  rcases h with rfl | h
  · exact ⟨[], by simp, .inl rfl⟩
  · obtain ⟨_, _, k⟩ := (underI_iff _ _).1 h
    rw [stem_path hb] at k
    obtain ⟨r, hr⟩ := pre_list k
    exact ⟨_, hr, .inr ⟨r, rfl⟩⟩
/-- What is below a directory: each thing that is in it, and what is below that. -/
theorem bel_split {es : List E} (T : TrE es) {p : ByteArray} (hp : stemOk p = true) : bel es p = (kidsE es p).flatMap (fun n => (lookE es (joinI p n)).toList ++ bel es (joinI p n)) := by
  have hjoin : ∀ n ∈ kidsE es p, joinOk p n = true ∧ ∃ e, lookE es (joinI p n) = some e := fun n hn => by
    obtain ⟨h1, e, h2⟩ := (kids_mem T hp n).1 hn
    obtain ⟨m1, m2⟩ := look_mem h2
    exact ⟨join_ok hp h1 (by rw [← m2]; exact T.path e m1), e, h2⟩
  have hin : ∀ n ∈ kidsE es p, ∀ x ∈ (lookE es (joinI p n)).toList ++ bel es (joinI p n), x ∈ es ∧ (x.p = joinI p n ∨ underI x.p (joinI p n) = true) := fun n hn x hx => by
    rcases List.mem_append.1 hx with h | h
    · have := look_mem (Option.mem_toList.1 h)
      exact ⟨this.1, .inl this.2⟩
    · obtain ⟨h1, h2⟩ := bel_iff.1 h
      exact ⟨h1, .inr h2⟩
  refine rising_ext (r := fun a b => less a.p b.p) (fun a => less_irrefl a.p) (fun {_ _ _} => less_trans) _ _ (T.sort.filter _) ?_ ?_
  · rw [List.pairwise_flatMap]
    constructor
    · intro n hn
      obtain ⟨hj, e, he⟩ := hjoin n hn
      obtain ⟨_, _, hjp, _⟩ := join_parts hj
      rw [List.pairwise_append]
      refine ⟨by rw [he]; simp, T.sort.filter _, fun a ha b hb => ?_⟩
      have := look_mem (Option.mem_toList.1 ha)
      rw [this.2]
      exact order_up hjp (bel_iff.1 hb).2
    · refine (kids_rise T).imp_of_mem ?_
      intro n m hn hm hless x hx y hy
      obtain ⟨hj, _⟩ := hjoin n hn
      obtain ⟨hj', _⟩ := hjoin m hm
      obtain ⟨_, hn1, hp1, _⟩ := join_parts hj
      obtain ⟨_, hm1, hp2, _⟩ := join_parts hj'
      obtain ⟨r1, e1, k1⟩ := under_list hp1 (hin n hn x hx).2
      obtain ⟨r2, e2, k2⟩ := under_list hp2 (hin m hm y hy).2
      refine less_L.2 ?_
      rw [e1, e2, L_join, L_join, List.append_assoc, List.append_assoc, bless_pre, show (47 :: L n) = [47] ++ L n from rfl, show (47 :: L m) = [47] ++ L m from rfl, List.append_assoc, List.append_assoc, bless_pre]
      exact bless_ext _ _ _ _ (name_high hm1) (less_L.1 hless) k1
  · intro x
    rw [List.mem_flatMap]
    constructor
    · intro hx
      obtain ⟨h1, h2⟩ := bel_iff.1 hx
      obtain ⟨n, hn, k⟩ := below_kid T hp x.p.size x h1 (Nat.le_refl _) h2
      refine ⟨n, hn, List.mem_append.2 ?_⟩
      rcases k with k | k
      · left; rw [← k, look_self T.sort h1]; simp
      · right; exact bel_iff.2 ⟨h1, k⟩
    · rintro ⟨n, hn, hx⟩
      obtain ⟨h1, h2⟩ := hin n hn x hx
      obtain ⟨hj, _⟩ := hjoin n hn
      refine bel_iff.2 ⟨h1, ?_⟩
      rcases h2 with h2 | h2
      · rw [h2]; exact join_under hj
      · exact under_trans h2 (join_under hj)

theorem fmap_congr {α β : Type} {f g : α → List β} : ∀ (l : List α), (∀ a ∈ l, f a = g a) → l.flatMap f = l.flatMap g
  | [], _ => rfl
  | a :: l, h => by
    rw [List.flatMap_cons, List.flatMap_cons, h a List.mem_cons_self, fmap_congr l (fun b hb => h b (List.mem_cons_of_mem _ hb))]
/-- What is told of what is below a directory, as if that were at q. -/
def toldAt (p q : ByteArray) (e : E) : ByteArray × E := (q ++ e.p.extract (stemS p).size e.p.size, e)
def told (es : List E) (p q : ByteArray) : List (ByteArray × E) := (bel es p).map (toldAt p q)
def under1 (q n : ByteArray) : ByteArray := q ++ ⟨#[47]⟩ ++ n
theorem app_assoc' (a b c : ByteArray) : a ++ b ++ c = a ++ (b ++ c) := by
  apply L_inj; rw [L_app, L_app, L_app, L_app, List.append_assoc]
theorem join_rest (p n : ByteArray) : (joinI p n).extract (stemS p).size (joinI p n).size = ⟨#[47]⟩ ++ n := by
  unfold joinI
  rw [app_assoc']
  have := app_ext_r (stemS p) (⟨#[47]⟩ ++ n) 0
  rw [Nat.add_zero] at this
  rw [this, ext_all]
theorem told_split {es : List E} (T : TrE es) {p : ByteArray} (hp : stemOk p = true) (q : ByteArray) :
    told es p q = (kidsE es p).flatMap (fun n => ((lookE es (joinI p n)).toList.map (fun e => (under1 q n, e))) ++ told es (joinI p n) (under1 q n)) := by
  unfold told
  rw [bel_split T hp, List.map_flatMap]
  refine fmap_congr _ fun n hn => ?_
  rw [List.map_append]
  obtain ⟨hn1, e, he⟩ := (kids_mem T hp n).1 hn
  obtain ⟨m1, m2⟩ := look_mem he
  have hjp : pathB (joinI p n) = true := by rw [← m2]; exact T.path e m1
  congr 1
  · rw [he]
    simp only [Option.toList_some, List.map_cons, List.map_nil, toldAt]
    rw [m2, join_rest]
    unfold under1; rw [app_assoc']
  · refine List.map_congr_left fun x hx => ?_
    obtain ⟨x1, x2⟩ := bel_iff.1 hx
    obtain ⟨_, _, k⟩ := (underI_iff _ _).1 x2
    unfold toldAt
    refine Prod.ext ?_ rfl
    dsimp only
    rw [stem_path hjp] at k ⊢
    apply L_inj
    unfold under1
    obtain ⟨r, hr⟩ := pre_list k
    have hs : (stemS p).size = (L (stemS p)).length := (L_len _).symm
    have hj : (joinI p n).size = (L (joinI p n)).length := (L_len _).symm
    have e1 : L (x.p.extract (stemS p).size x.p.size) = (L x.p).drop (stemS p).size := by
      rw [L_ext, List.take_of_length_le]; rw [List.length_drop, L_len]; exact Nat.le_refl _
    have e2 : L (x.p.extract (joinI p n).size x.p.size) = (L x.p).drop (joinI p n).size := by
      rw [L_ext, List.take_of_length_le]; rw [List.length_drop, L_len]; exact Nat.le_refl _
    rw [L_app, L_app, L_app, L_app, e1, e2, hr, hj, List.drop_left, L_join, hs]
    rw [List.append_assoc, List.drop_left]
    simp [List.append_assoc]
    rfl
/-- All that a tree has. -/
theorem told_all {es : List E} (T : TrE es) : told es ⟨#[47]⟩ ⟨#[]⟩ = es.map (fun e => (e.p, e)) := by
  unfold told
  have : bel es ⟨#[47]⟩ = es := by
    unfold bel; rw [List.filter_eq_self]; intro e he; exact under_root (T.path e he)
  rw [this]
  refine List.map_congr_left fun e _ => ?_
  unfold toldAt
  rw [stem_root, empty_app]
  rw [show (ByteArray.mk #[]).size = 0 from rfl, ext_all]
/-- Nothing is below what is as deep as may be. -/
theorem lev_le (s : ByteArray) : levS s ≤ 3 := by
  unfold levS
  split
  · rename_i h
    unfold pathB okItems at h
    rw [Bool.and_eq_true] at h
    have := of_decide_eq_true h.2; omega
  · decide
theorem under_lev : ∀ (N : Nat) (a b : ByteArray), a.size ≤ N → underI a b = true → levS b < levS a
  | 0, a, b, hN, h => by
    obtain ⟨_, h2, _⟩ := (underI_iff _ _).1 h
    have := pathB_head _ h2; omega
  | N + 1, a, b, hN, h => by
    obtain ⟨_, h2, _⟩ := (underI_iff _ _).1 h
    have hl := (up_facts h2).2.2.2
    rcases (under_up h2).1 h with e | e
    · rw [e, hl]; omega
    · have hsz := up_size h2
      obtain ⟨_, h3, _⟩ := (underI_iff _ _).1 e
      rw [stem_path h3] at hsz
      have := under_lev N (upS a) b (by omega) e
      omega
theorem told_deep {es : List E} {p : ByteArray} (h : 3 ≤ levS p) (q : ByteArray) : told es p q = [] := by
  unfold told
  rw [List.map_eq_nil_iff]
  unfold bel
  rw [List.filter_eq_nil_iff]
  intro e _ hu
  have := under_lev _ _ _ (Nat.le_refl _) hu
  have := lev_le e.p
  omega
end Go.Proofs.YtenlibefdefjmaaDoor

/-
  Plain facts on trees: a path is its names, one below the other; what is above what is there is there.
-/
namespace Go.Proofs.YtenlibefdefjmaaDoor

/-- The path of a row of names. -/
def chain (xs : List (Int × ByteArray)) : ByteArray := xs.foldl (fun p x => joinI p x.2) ⟨#[47]⟩
theorem chain_snoc (xs : List (Int × ByteArray)) (x : Int × ByteArray) : chain (xs ++ [x]) = joinI (chain xs) x.2 := by
  unfold chain; rw [List.foldl_append]; rfl
theorem root_no_path : pathB ⟨#[47]⟩ = false := by
  cases hq : pathB ⟨#[47]⟩ with
  | false => rfl
  | true => have := path_not_root hq; rw [root_root] at this; cases this
theorem items_step {s : ByteArray} (h : pathB s = true) : (upS s = ⟨#[47]⟩ ∧ ∃ k, items s = [(k, nmS s)]) ∨ (pathB (upS s) = true ∧ ∃ k, items s = items (upS s) ++ [(k, nmS s)]) := by
  obtain ⟨m, hm, m1, m2, m3⟩ := last_is h
  have en : nmS s = s.extract (m + 1) s.size := by unfold nmS; rw [h, if_pos rfl, hm]; rfl
  by_cases h0 : m = 0
  · subst h0
    left
    refine ⟨by unfold upS; rw [h, if_pos rfl, hm]; rfl, 0, ?_⟩
    rw [en, items_slash s m1 (by rw [← get0 s m1]; exact m2)]
    exact itemsL_plain s _ 1 0 (no_stroke_list s 1 (fun j hj hj' => m3 j (by omega) hj'))
  · right
    have eu : upS s = s.extract 0 m := by unfold upS; rw [h, if_pos rfl, hm, if_neg (by omega)]; rfl
    have ei := items_up m m1 (by omega) m2 m3
    have hp := h
    unfold pathB at hp
    rw [ei] at hp
    refine ⟨by rw [eu]; exact (ok_app hp).1, m, ?_⟩
    rw [eu, en]; exact ei
theorem chain_pre : ∀ (N : Nat) (s : ByteArray), s.size ≤ N → pathB s = true → ∀ pre, pre <+: items s → pre ≠ [] → pathB (chain pre) = true ∧ (s = chain pre ∨ underI s (chain pre) = true) ∧ (pre = items s → chain pre = s)
  | 0, s, hN, h => by have := pathB_head _ h; omega
  | N + 1, s, hN, h => by
    intro pre hpre hne
    rcases items_step h with ⟨hu, k, hi⟩ | ⟨hu, k, hi⟩
    · have e : pre = [(k, nmS s)] := by
        rw [hi] at hpre
        rcases List.prefix_concat_iff.1 (show pre <+: [] ++ [(k, nmS s)] from hpre) with e | e
        · exact e
        · exact absurd (List.prefix_nil.1 e) hne
      have : chain pre = s := by
        rw [e, show [(k, nmS s)] = [] ++ [(k, nmS s)] from rfl, chain_snoc]
        show joinI ⟨#[47]⟩ (nmS s) = s
        rw [← hu]; exact up_join h
      exact ⟨by rw [this]; exact h, .inl this.symm, fun _ => this⟩
    · have hsz := up_size h
      rw [stem_path hu] at hsz
      have ih := chain_pre N (upS s) (by omega) hu
      rw [hi] at hpre
      rcases List.prefix_concat_iff.1 hpre with e | e
      · have hnn : items (upS s) ≠ [] := by
          intro e0
          have := itemsL_pos (upS s) ((upS s).data.toList.drop 0) 0 (-1)
          unfold items itemsAt at e0
          rw [e0] at this; simp at this
        have hc := (ih _ (List.prefix_refl _) hnn).2.2 rfl
        have : chain pre = s := by
          rw [e, chain_snoc, hc]; exact up_join h
        exact ⟨by rw [this]; exact h, .inl this.symm, fun _ => this⟩
      · obtain ⟨h1, h2, h3⟩ := ih pre e hne
        refine ⟨h1, .inr ?_, fun e' => ?_⟩
        · rcases h2 with h2 | h2
          · rw [← h2]; exact up_under h
          · exact under_trans (up_under h) h2
        · exfalso
          have l1 := e.length_le
          rw [e', hi, List.length_append, List.length_singleton] at l1; omega
theorem items_ne (s : ByteArray) : items s ≠ [] := by
  intro e0
  have := itemsL_pos s (s.data.toList.drop 0) 0 (-1)
  unfold items itemsAt at e0
  rw [e0] at this; simp at this
theorem chain_items {s : ByteArray} (h : pathB s = true) : chain (items s) = s :=
  (chain_pre _ s (Nat.le_refl _) h _ (List.prefix_refl _) (items_ne s)).2.2 rfl
theorem chain_path {s : ByteArray} (h : pathB s = true) {pre : List (Int × ByteArray)} (hp : pre <+: items s) (hne : pre ≠ []) : pathB (chain pre) = true := (chain_pre _ s (Nat.le_refl _) h pre hp hne).1
theorem chain_over {s : ByteArray} (h : pathB s = true) {pre : List (Int × ByteArray)} (hp : pre <+: items s) (hne : pre ≠ []) : s = chain pre ∨ underI s (chain pre) = true := (chain_pre _ s (Nat.le_refl _) h pre hp hne).2.1
theorem chain_stem {s : ByteArray} (h : pathB s = true) {pre : List (Int × ByteArray)} (hp : pre <+: items s) : stemOk (chain pre) = true := by
  by_cases hne : pre = []
  · subst hne; unfold stemOk; rw [show chain [] = ⟨#[47]⟩ from rfl, root_root]; rfl
  · exact stemOk_path (chain_path h hp hne)
theorem item_name {s : ByteArray} (h : pathB s = true) {x : Int × ByteArray} (hx : x ∈ items s) : nameB x.2 = true := by
  unfold pathB okItems at h
  rw [Bool.and_eq_true, List.all_eq_true] at h
  have := h.1 x hx
  unfold okItem at this
  rw [Bool.and_eq_true] at this
  exact this.2

/-- What is above what is there is there, and a directory. -/
theorem up_there {es : List E} (T : TrE es) {b : ByteArray} (hb : pathB b = true) : ∀ (N : Nat) (e : E), e.p.size ≤ N → e ∈ es → underI e.p b = true → ∃ f, lookE es b = some f ∧ f.d = true
  | 0, e, hN, he, h => by have := pathB_head _ (T.path e he); omega
  | N + 1, e, hN, he, h => by
    have hpe := T.path e he
    rcases dir_look (T.up e he) with q | ⟨f, hf, hd⟩
    · rcases (under_up hpe).1 h with e1 | e1
      · rw [q] at e1; rw [e1, root_no_path] at hb; cases hb
      · obtain ⟨_, h2, _⟩ := (underI_iff _ _).1 e1
        rw [q, root_no_path] at h2; cases h2
    · rcases (under_up hpe).1 h with e1 | e1
      · rw [e1]; exact ⟨f, hf, hd⟩
      · obtain ⟨f1, f2⟩ := look_mem hf
        have hsz := up_size hpe
        rw [stem_path (by rw [← f2]; exact T.path f f1)] at hsz
        exact up_there T hb N f (by rw [f2]; omega) f1 (by rw [f2]; exact e1)
theorem gone_below {es : List E} (T : TrE es) {s b : ByteArray} (hb : pathB b = true) (h : s = b ∨ underI s b = true) (hl : lookE es b = none) : lookE es s = none := by
  rcases h with rfl | h
  · exact hl
  · cases hs : lookE es s with
    | none => rfl
    | some e =>
      obtain ⟨e1, e2⟩ := look_mem hs
      obtain ⟨f, hf, _⟩ := up_there T hb _ e (Nat.le_refl _) e1 (by rw [e2]; exact h)
      rw [hl] at hf; cases hf
/-- Nothing is in what is no directory. -/
theorem look_kid {es : List E} (T : TrE es) {p n : ByteArray} (hp : stemOk p = true) (hn : nameB n = true) {e : E} (h : lookE es (joinI p n) = some e) : dirE es p = true := by
  obtain ⟨e1, e2⟩ := look_mem h
  have hj := join_up (join_ok hp hn (by rw [← e2]; exact T.path e e1))
  have := T.up e e1
  rwa [e2, hj.1] at this
theorem look_path {es : List E} (T : TrE es) {s : ByteArray} {e : E} (h : lookE es s = some e) : pathB s = true := by
  obtain ⟨e1, e2⟩ := look_mem h
  rw [← e2]; exact T.path e e1
theorem look_bad {es : List E} (T : TrE es) {s : ByteArray} (h : pathB s = false) : lookE es s = none := by
  cases hl : lookE es s with
  | none => rfl
  | some e => rw [look_path T hl] at h; cases h
end Go.Proofs.YtenlibefdefjmaaDoor
