/-
  Plain facts on paths: no program is named here.
-/
import Derived.Test.YtbeaegolgaopbaaDoorHPure
namespace Go.Proofs.YtbeaegolgaopbaaDoor

/-! ### Texts as lists of bytes -/
abbrev L (s : ByteArray) : List UInt8 := s.data.toList
theorem L_inj {a b : ByteArray} (h : L a = L b) : a = b := ByteArray.ext (Array.toList_inj.1 h)
theorem L_app (a b : ByteArray) : L (a ++ b) = L a ++ L b := app_toList a b
theorem L_ext (s : ByteArray) (a b : Nat) : L (s.extract a b) = ((L s).drop a).take (b - a) := Lib.extract_data s a b
theorem L_len (s : ByteArray) : (L s).length = s.size := len_data s
theorem gE (s : ByteArray) (i : Nat) : s.get! i = (L s)[i]?.getD 0 := by
  by_cases h : i < s.size
  · rw [get_plus s i h, List.getElem?_eq_getElem (by rw [L_len]; exact h)]; rfl
  · rw [List.getElem?_eq_none (by rw [L_len]; omega)]
    simp [ByteArray.get!, h]
    rfl
theorem size_ext (s : ByteArray) (a b : Nat) : (s.extract a b).size = min b s.size - a := ByteArray.size_extract
theorem get_ext (s : ByteArray) (a b i : Nat) (h : a + i < b) : (s.extract a b).get! i = s.get! (a + i) := by
  rw [gE, gE, L_ext, List.getElem?_take_of_lt (by omega), List.getElem?_drop]
theorem get_app_l (a b : ByteArray) (i : Nat) (h : i < a.size) : (a ++ b).get! i = a.get! i := by
  rw [gE, gE, L_app, List.getElem?_append_left (by rw [L_len]; exact h)]
theorem get_app_r (a b : ByteArray) (i : Nat) (h : a.size ≤ i) : (a ++ b).get! i = b.get! (i - a.size) := by
  rw [gE, gE, L_app, List.getElem?_append_right (by rw [L_len]; exact h), L_len]
theorem ext_ext0 (s : ByteArray) (a b : Nat) (h : a ≤ b) : (s.extract 0 b).extract 0 a = s.extract 0 a := by
  apply L_inj
  rw [L_ext, L_ext, L_ext, List.drop_zero, List.drop_zero, List.take_take]
  congr 1; omega
theorem ext_all (s : ByteArray) : s.extract 0 s.size = s := by
  apply L_inj; rw [L_ext, List.drop_zero, List.take_of_length_le (by rw [L_len]; omega)]
theorem glue (s : ByteArray) (m : Nat) : s.extract 0 m ++ s.extract m s.size = s := by
  apply L_inj
  rw [L_app, L_ext, L_ext, List.drop_zero, Nat.sub_zero, List.take_of_length_le (i := s.size - m) (by rw [List.length_drop, L_len]; exact Nat.le_refl _), List.take_append_drop]
theorem glue3 (s : ByteArray) (m : Nat) (hm : m < s.size) (hg : s.get! m = 47) : s.extract 0 m ++ ⟨#[47]⟩ ++ s.extract (m + 1) s.size = s := by
  apply L_inj
  have h1 : L (⟨#[47]⟩ : ByteArray) = [47] := rfl
  rw [L_app, L_app, L_ext, L_ext, List.drop_zero, Nat.sub_zero, h1, List.take_of_length_le (i := s.size - (m + 1)) (by rw [List.length_drop, L_len]; exact Nat.le_refl _)]
  rw [get_plus s m hm] at hg
  have h2 : (L s).drop m = 47 :: (L s).drop (m + 1) := by rw [drop_at s m hm, hg]
  rw [List.append_assoc, List.singleton_append, ← h2, List.take_append_drop]
theorem app_ext_l (a b : ByteArray) : (a ++ b).extract 0 a.size = a := by
  apply L_inj; rw [L_ext, L_app, List.drop_zero, Nat.sub_zero, ← L_len, List.take_left']; rfl
theorem app_ext_r (a b : ByteArray) (i : Nat) : (a ++ b).extract (a.size + i) (a ++ b).size = b.extract i b.size := by
  apply L_inj
  rw [L_ext, L_ext, L_app, ByteArray.size_append, ← L_len a, List.drop_length_add_append]
  congr 1; omega
theorem app_empty (a b : ByteArray) (h : b.size = 0) : a ++ b = a := by
  apply L_inj
  have e : L b = [] := List.eq_nil_of_length_eq_zero (by rw [L_len]; exact h)
  rw [L_app, e, List.append_nil]

/-! ### What begins with another text and a stroke -/
def Pre (s x : ByteArray) : Prop := x.size < s.size ∧ s.extract 0 x.size = x ∧ s.get! x.size = 47
theorem preB_iff (s x : ByteArray) : preB s (x ++ ⟨#[47]⟩) = true ↔ Pre s x := by
  rw [pre_stroke]
  unfold Pre
  rw [Bool.and_eq_true, Bool.and_eq_true, decide_eq_true_eq, beq_iff_eq, beq_iff_eq]
  constructor
  · rintro ⟨⟨h1, h2⟩, h3⟩; exact ⟨h1, toList_inj h2, h3⟩
  · rintro ⟨h1, h2, h3⟩; exact ⟨⟨h1, by rw [h2]⟩, h3⟩
theorem Pre.trans {a b c : ByteArray} (h : Pre a b) (k : Pre b c) : Pre a c := by
  obtain ⟨h1, h2, h3⟩ := h
  obtain ⟨k1, k2, k3⟩ := k
  refine ⟨by omega, ?_, ?_⟩
  · rw [← ext_ext0 a c.size b.size (by omega), h2, k2]
  · rw [← h2, get_ext a 0 b.size c.size (by omega), Nat.zero_add] at k3; exact k3
theorem underI_iff (s d : ByteArray) : underI s d = true ↔ stemOk d = true ∧ pathB s = true ∧ Pre s (stemS d) := by
  unfold underI
  rw [Bool.and_eq_true, Bool.and_eq_true, preB_iff]

theorem stem_path {d : ByteArray} (h : pathB d = true) : stemS d = d := by unfold stemS; rw [path_not_root h]; rfl
theorem stemOk_path {d : ByteArray} (h : pathB d = true) : stemOk d = true := by unfold stemOk; rw [h, Bool.or_true]
theorem root_root : isRoot ⟨#[47]⟩ = true := (isRoot_iff _).2 rfl
theorem stem_root : stemS ⟨#[47]⟩ = ⟨#[]⟩ := by unfold stemS; rw [root_root]; rfl
theorem stemOk_is {d : ByteArray} (h : stemOk d = true) : d = ⟨#[47]⟩ ∨ pathB d = true := by
  unfold stemOk at h
  rw [Bool.or_eq_true] at h
  exact h.elim (fun h => .inl ((isRoot_iff d).1 h)) .inr
theorem stem_inj {a b : ByteArray} (ha : stemOk a = true) (hb : stemOk b = true) (h : stemS a = stemS b) : a = b := by
  rcases stemOk_is ha with rfl | ha
  · rcases stemOk_is hb with rfl | hb
    · rfl
    · rw [stem_root, stem_path hb] at h
      have := (pathB_head b hb).1
      rw [← h] at this; exact absurd this (by decide)
  · rcases stemOk_is hb with rfl | hb
    · rw [stem_root, stem_path ha] at h
      have := (pathB_head a ha).1
      rw [h] at this; exact absurd this (by decide)
    · rw [stem_path ha, stem_path hb] at h; exact h
theorem under_trans {a b c : ByteArray} (h : underI a b = true) (k : underI b c = true) : underI a c = true := by
  rw [underI_iff] at *
  obtain ⟨h1, h2, h3⟩ := h
  obtain ⟨k1, k2, k3⟩ := k
  rw [stem_path k2] at h3
  exact ⟨k1, h2, h3.trans k3⟩
theorem under_anti {a b : ByteArray} (h : underI a b = true) : underI b a = false := by
  rw [Bool.eq_false_iff]
  intro k
  rw [underI_iff] at *
  obtain ⟨h1, h2, h3⟩ := h
  obtain ⟨k1, k2, k3⟩ := k
  rw [stem_path k2] at h3
  rw [stem_path h2] at k3
  have := h3.1; have := k3.1; omega
theorem under_self (a : ByteArray) : underI a a = false := by
  cases h : underI a a with
  | false => rfl
  | true => rw [under_anti h] at h; exact h.symm
theorem pre_nothing {a : ByteArray} (h : pathB a = true) : Pre a ⟨#[]⟩ := by
  obtain ⟨h1, h2⟩ := pathB_head a h
  refine ⟨by show 0 < a.size; omega, ?_, h2⟩
  apply L_inj; rw [L_ext]; rfl
theorem under_root {a : ByteArray} (h : pathB a = true) : underI a ⟨#[47]⟩ = true := by
  rw [underI_iff, stem_root]
  exact ⟨by unfold stemOk; rw [root_root]; rfl, h, pre_nothing h⟩

/-! ### The last stroke -/
theorem last_is {s : ByteArray} (h : pathB s = true) : ∃ m : Nat, lastS s = m ∧ m < s.size ∧ s.get! m = 47 ∧ ∀ j, m < j → j < s.size → s.get! j ≠ 47 := by
  obtain ⟨h1, h2⟩ := pathB_head s h
  refine ⟨slashF s (s.size - 1), lastS_slash s h, ?_, ?_, fun j hj hj' => slashF_none s (s.size - 1) j hj (by omega)⟩
  · have := slashF_le s (s.size - 1); omega
  · rcases slashF_is s (s.size - 1) with e | e
    · rw [e]; exact h2
    · exact e
theorem last_eq {s : ByteArray} (h : pathB s = true) (m : Nat) (hm : m < s.size) (hg : s.get! m = 47) (hn : ∀ j, m < j → j < s.size → s.get! j ≠ 47) : lastS s = m := by
  obtain ⟨k, hk, k1, k2, k3⟩ := last_is h
  rw [hk]
  rcases Nat.lt_trichotomy k m with c | c | c
  · exact absurd hg (k3 m c hm)
  · rw [c]
  · exact absurd k2 (hn k c k1)

theorem itemsL_plain (s : ByteArray) : ∀ (l : List UInt8) (pos : Nat) (k : Int), (∀ c ∈ l, c ≠ 47) → itemsL s l pos k = [(k, s.extract (k + 1).toNat s.size)]
  | [], _, _, _ => rfl
  | c :: r, pos, k, h => by
    rw [itemsL_cons, if_neg (h c List.mem_cons_self)]
    exact itemsL_plain s r (pos + 1) k (fun x hx => h x (List.mem_cons_of_mem _ hx))
theorem items_split (s : ByteArray) (m : Nat) (hm : m < s.size) (h0 : 0 < m) : ∀ (l1 l2 : List UInt8) (pos : Nat) (k : Int), pos + l1.length = m → k < pos → -1 ≤ k → (∀ c ∈ l2, c ≠ 47) →
    itemsL s (l1 ++ 47 :: l2) pos k = itemsL (s.extract 0 m) l1 pos k ++ [((m : Int), s.extract (m + 1) s.size)]
  | [], l2, pos, k, hp, hk, hk', hl => by
    obtain rfl : pos = m := by simpa using hp
    rw [List.nil_append, itemsL_cons, if_pos rfl, if_pos h0, itemsL_plain s l2 (pos + 1) pos hl]
    have e : (s.extract 0 pos).extract (k + 1).toNat (s.extract 0 pos).size = s.extract (k + 1).toNat pos := by
      apply L_inj
      rw [L_ext, L_ext, L_ext, size_ext, List.drop_zero, List.drop_take, List.take_take]
      congr 1; omega
    show (k, s.extract (k + 1).toNat pos) :: _ = [(k, (s.extract 0 pos).extract (k + 1).toNat (s.extract 0 pos).size)] ++ _
    rw [e]; rfl
  | c :: r, l2, pos, k, hp, hk, hk', hl => by
    simp only [List.length_cons] at hp
    rw [List.cons_append, itemsL_cons, itemsL_cons]
    have e : (s.extract 0 m).extract (k + 1).toNat pos = s.extract (k + 1).toNat pos := by
      apply L_inj
      rw [L_ext, L_ext, L_ext, List.drop_zero, List.drop_take, List.take_take]
      congr 1; omega
    by_cases h47 : c = 47
    · rw [if_pos h47, if_pos h47, items_split s m hm h0 r l2 (pos + 1) pos (by omega) (by omega) (by omega) hl, e]
      split <;> rfl
    · rw [if_neg h47, if_neg h47, items_split s m hm h0 r l2 (pos + 1) k (by omega) (by omega) hk' hl]

theorem no_stroke_list (s : ByteArray) (a : Nat) (h : ∀ j, a ≤ j → j < s.size → s.get! j ≠ 47) : ∀ c ∈ (L s).drop a, c ≠ 47 := by
  intro c hc
  obtain ⟨i, hi, e⟩ := List.getElem_of_mem hc
  rw [List.length_drop, L_len] at hi
  have := h (a + i) (by omega) (by omega)
  rw [get_plus s (a + i) (by omega)] at this
  rw [List.getElem_drop] at e
  rw [← e]; exact this

theorem items_up {s : ByteArray} (m : Nat) (hm : m < s.size) (h0 : 0 < m) (hg : s.get! m = 47) (hn : ∀ j, m < j → j < s.size → s.get! j ≠ 47) :
    items s = items (s.extract 0 m) ++ [((m : Int), s.extract (m + 1) s.size)] := by
  have e : L s = L (s.extract 0 m) ++ 47 :: (L s).drop (m + 1) := by
    rw [L_ext, List.drop_zero, Nat.sub_zero]
    rw [get_plus s m hm] at hg
    have h2 : (L s).drop m = 47 :: (L s).drop (m + 1) := by rw [drop_at s m hm, hg]
    rw [← h2, List.take_append_drop]
  have hlen : (L (s.extract 0 m)).length = m := by rw [L_len, size_ext]; omega
  have := items_split s m hm h0 (L (s.extract 0 m)) ((L s).drop (m + 1)) 0 (-1) (by rw [hlen]; omega) (by omega) (by omega) (no_stroke_list s (m + 1) (fun j hj hj' => hn j (by omega) hj'))
  unfold items itemsAt
  rw [List.drop_zero, List.drop_zero, ← this, ← e]

theorem ok_app {a : List (Int × ByteArray)} {x : Int × ByteArray} (h : okItems (a ++ [x]) = true) : okItems a = true ∧ okItem x = true ∧ a.length ≤ 2 := by
  unfold okItems at *
  rw [Bool.and_eq_true, List.all_append, Bool.and_eq_true, decide_eq_true_eq, List.length_append, List.length_singleton] at h
  obtain ⟨⟨h1, h2⟩, h3⟩ := h
  refine ⟨by rw [h1, decide_eq_true (by omega)]; rfl, ?_, by omega⟩
  rw [List.all_cons, List.all_nil, Bool.and_true] at h2; exact h2

/-- All that is said of a path, the one that it is in, and its name. -/
theorem up_facts {s : ByteArray} (h : pathB s = true) : stemOk (upS s) = true ∧ stemS (upS s) = s.extract 0 (lastS s).toNat ∧ nameB (nmS s) = true ∧ levS s = levS (upS s) + 1 := by
  obtain ⟨m, hm, m1, m2, m3⟩ := last_is h
  have en : nmS s = s.extract (m + 1) s.size := by unfold nmS; rw [h, if_pos rfl, hm]; rfl
  by_cases h0 : m = 0
  · subst h0
    have eu : upS s = ⟨#[47]⟩ := by unfold upS; rw [h, if_pos rfl, hm]; rfl
    have ei : items s = [(0, s.extract 1 s.size)] := by
      rw [items_slash s m1 (by rw [← get0 s m1]; exact m2)]
      exact itemsL_plain s _ 1 0 (no_stroke_list s 1 (fun j hj hj' => m3 j (by omega) hj'))
    have hp := h
    unfold pathB at hp
    rw [ei] at hp
    have ho := (ok_app (a := []) hp).2.1
    unfold okItem at ho
    rw [Bool.and_eq_true] at ho
    refine ⟨by rw [eu]; unfold stemOk; rw [root_root]; rfl, ?_, by rw [en]; exact ho.2, ?_⟩
    · rw [eu, stem_root, hm]; apply L_inj; rw [L_ext]; rfl
    · have hr : pathB ⟨#[47]⟩ = false := by
        cases hq : pathB ⟨#[47]⟩ with
        | false => rfl
        | true => have := path_not_root hq; rw [root_root] at this; cases this
      rw [eu]; unfold levS; rw [h, hr, if_pos rfl, ei]; rfl
  · have eu : upS s = s.extract 0 m := by unfold upS; rw [h, if_pos rfl, hm, if_neg (by omega)]; rfl
    have ei := items_up m m1 (by omega) m2 m3
    have hp := h
    unfold pathB at hp
    rw [ei] at hp
    obtain ⟨o1, o2, o3⟩ := ok_app hp
    have hpu : pathB (s.extract 0 m) = true := o1
    unfold okItem at o2
    rw [Bool.and_eq_true] at o2
    refine ⟨by rw [eu]; exact stemOk_path hpu, by rw [eu, stem_path hpu, hm]; rfl, by rw [en]; exact o2.2, ?_⟩
    rw [eu]; unfold levS; rw [h, hpu, if_pos rfl, if_pos rfl, ei, List.length_append, List.length_singleton]; omega

theorem up_pre {s : ByteArray} (h : pathB s = true) : Pre s (stemS (upS s)) := by
  obtain ⟨m, hm, m1, m2, m3⟩ := last_is h
  obtain ⟨_, e, _⟩ := up_facts h
  rw [e, hm]
  have ez : (s.extract 0 (m : Int).toNat).size = m := by rw [size_ext]; omega
  unfold Pre
  rw [ez]
  exact ⟨m1, rfl, m2⟩
theorem up_under {s : ByteArray} (h : pathB s = true) : underI s (upS s) = true :=
  (underI_iff _ _).2 ⟨(up_facts h).1, h, up_pre h⟩
theorem up_join {s : ByteArray} (h : pathB s = true) : joinI (upS s) (nmS s) = s := by
  obtain ⟨m, hm, m1, m2, m3⟩ := last_is h
  obtain ⟨_, e, _⟩ := up_facts h
  unfold joinI
  rw [e]
  unfold nmS
  rw [h, if_pos rfl, hm]
  exact glue3 s m m1 m2
theorem up_joinOk {s : ByteArray} (h : pathB s = true) : joinOk (upS s) (nmS s) = true ∧ joinS (upS s) (nmS s) = s := by
  obtain ⟨h1, _, h3, _⟩ := up_facts h
  have e : joinOk (upS s) (nmS s) = true := by unfold joinOk; rw [up_join h, h1, h3, h]; rfl
  exact ⟨e, by unfold joinS; rw [e, if_pos rfl, up_join h]⟩
theorem under_up {a b : ByteArray} (h : pathB a = true) : underI a b = true ↔ (b = upS a ∨ underI (upS a) b = true) := by
  constructor
  · intro k
    obtain ⟨k1, k2, k3⟩ := (underI_iff _ _).1 k
    obtain ⟨m, hm, m1, m2, m3⟩ := last_is h
    obtain ⟨u1, u2, _⟩ := up_facts h
    have um : stemS (upS a) = a.extract 0 m := by rw [u2, hm]; rfl
    have le : (stemS b).size ≤ m := by
      rcases Nat.lt_or_ge m (stemS b).size with c | c
      · exact absurd k3.2.2 (m3 _ c k3.1)
      · exact c
    rcases Nat.lt_or_ge (stemS b).size m with c | c
    · right
      have ez : (a.extract 0 m).size = m := by rw [size_ext]; omega
      have hu : pathB (upS a) = true := by
        rcases stemOk_is u1 with e | e
        · rw [e, stem_root] at um
          rw [← um] at ez
          exact absurd ez (by show ¬ (0 = m); omega)
        · exact e
      rw [stem_path hu] at um
      refine (underI_iff _ _).2 ⟨k1, hu, ?_⟩
      rw [um]
      refine ⟨by rw [ez]; exact c, ?_, ?_⟩
      · rw [ext_ext0 a _ _ (by omega), k3.2.1]
      · rw [get_ext a 0 m _ (by omega), Nat.zero_add]; exact k3.2.2
    · left
      have e : (stemS b).size = m := by omega
      exact stem_inj k1 u1 (by rw [um, ← e]; exact k3.2.1.symm)
  · rintro (rfl | k)
    · exact up_under h
    · exact under_trans (up_under h) k
end Go.Proofs.YtbeaegolgaopbaaDoor
