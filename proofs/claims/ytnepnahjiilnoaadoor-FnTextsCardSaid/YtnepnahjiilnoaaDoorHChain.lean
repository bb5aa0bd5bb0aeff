/-
  Plain facts on trees: a path is its names, one below the other; what is above what is there is there.
-/
import Derived.Test.YtnepnahjiilnoaaDoorHPk11
namespace Go.Proofs.YtnepnahjiilnoaaDoor

/-- The path of a row of names. -/
def chain (xs : List (Int × ByteArray)) : ByteArray := xs.foldl (fun p x => joinI p x.2) ⟨#[47]⟩
theorem chain_snoc (xs : List (Int × ByteArray)) (x : Int × ByteArray) : chain (xs ++ [x]) = joinI (chain xs) x.2 := by
  unfold chain; rw [List.foldl_append]; rfl
theorem root_no_path : pathB ⟨#[47]⟩ = false := by
  cases hq : pathB ⟨#[47]⟩ with
  | false => rfl
  | true => have := path_not_root hq; rw [root_root] at this; cases this
theorem items_step {s : ByteArray} (h : pathB s = true) : (upS s = ⟨#[47]⟩ ∧ ∃ k, items s = [(k, nmS s)]) ∨ (pathB (upS s) = true ∧ ∃ k, items s = items (upS s) ++ [(k, nmS s)]) := by
  obtain ⟨m, hm, m1, m2, m3⟩ := last_is h
  have en : nmS s = s.extract (m + 1) s.size := by unfold nmS; rw [h, if_pos rfl, hm]; rfl
  by_cases h0 : m = 0
  · subst h0
    left
    refine ⟨by unfold upS; rw [h, if_pos rfl, hm]; rfl, 0, ?_⟩
    rw [en, items_slash s m1 (by rw [← get0 s m1]; exact m2)]
    exact itemsL_plain s _ 1 0 (no_stroke_list s 1 (fun j hj hj' => m3 j (by omega) hj'))
  · right
    have eu : upS s = s.extract 0 m := by unfold upS; rw [h, if_pos rfl, hm, if_neg (by omega)]; rfl
    have ei := items_up m m1 (by omega) m2 m3
    have hp := h
    unfold pathB at hp
    rw [ei] at hp
    refine ⟨by rw [eu]; exact (ok_app hp).1, m, ?_⟩
    rw [eu, en]; exact ei
theorem chain_pre : ∀ (N : Nat) (s : ByteArray), s.size ≤ N → pathB s = true → ∀ pre, pre <+: items s → pre ≠ [] → pathB (chain pre) = true ∧ (s = chain pre ∨ underI s (chain pre) = true) ∧ (pre = items s → chain pre = s)
  | 0, s, hN, h => by have := pathB_head _ h; omega
  | N + 1, s, hN, h => by
    intro pre hpre hne
    rcases items_step h with ⟨hu, k, hi⟩ | ⟨hu, k, hi⟩
    · have e : pre = [(k, nmS s)] := by
        rw [hi] at hpre
        rcases List.prefix_concat_iff.1 (show pre <+: [] ++ [(k, nmS s)] from hpre) with e | e
        · exact e
        · exact absurd (List.prefix_nil.1 e) hne
      have : chain pre = s := by
        rw [e, show [(k, nmS s)] = [] ++ [(k, nmS s)] from rfl, chain_snoc]
        show joinI ⟨#[47]⟩ (nmS s) = s
        rw [← hu]; exact up_join h
      exact ⟨by rw [this]; exact h, .inl this.symm, fun _ => this⟩
    · have hsz := up_size h
      rw [stem_path hu] at hsz
      have ih := chain_pre N (upS s) (by omega) hu
      rw [hi] at hpre
      rcases List.prefix_concat_iff.1 hpre with e | e
      · have hnn : items (upS s) ≠ [] := by
          intro e0
          have := itemsL_pos (upS s) ((upS s).data.toList.drop 0) 0 (-1)
          unfold items itemsAt at e0
          rw [e0] at this; simp at this
        have hc := (ih _ (List.prefix_refl _) hnn).2.2 rfl
        have : chain pre = s := by
          rw [e, chain_snoc, hc]; exact up_join h
        exact ⟨by rw [this]; exact h, .inl this.symm, fun _ => this⟩
      · obtain ⟨h1, h2, h3⟩ := ih pre e hne
        refine ⟨h1, .inr ?_, fun e' => ?_⟩
        · rcases h2 with h2 | h2
          · rw [← h2]; exact up_under h
          · exact under_trans (up_under h) h2
        · exfalso
          have l1 := e.length_le
          rw [e', hi, List.length_append, List.length_singleton] at l1; omega
theorem items_ne (s : ByteArray) : items s ≠ [] := by
  intro e0
  have := itemsL_pos s (s.data.toList.drop 0) 0 (-1)
  unfold items itemsAt at e0
  rw [e0] at this; simp at this
theorem chain_items {s : ByteArray} (h : pathB s = true) : chain (items s) = s :=
  (chain_pre _ s (Nat.le_refl _) h _ (List.prefix_refl _) (items_ne s)).2.2 rfl
theorem chain_path {s : ByteArray} (h : pathB s = true) {pre : List (Int × ByteArray)} (hp : pre <+: items s) (hne : pre ≠ []) : pathB (chain pre) = true := (chain_pre _ s (Nat.le_refl _) h pre hp hne).1
theorem chain_over {s : ByteArray} (h : pathB s = true) {pre : List (Int × ByteArray)} (hp : pre <+: items s) (hne : pre ≠ []) : s = chain pre ∨ underI s (chain pre) = true := (chain_pre _ s (Nat.le_refl _) h pre hp hne).2.1
theorem chain_stem {s : ByteArray} (h : pathB s = true) {pre : List (Int × ByteArray)} (hp : pre <+: items s) : stemOk (chain pre) = true := by
  by_cases hne : pre = []
  · subst hne; unfold stemOk; rw [show chain [] = ⟨#[47]⟩ from rfl, root_root]; rfl
  · exact stemOk_path (chain_path h hp hne)
theorem item_name {s : ByteArray} (h : pathB s = true) {x : Int × ByteArray} (hx : x ∈ items s) : nameB x.2 = true := by
  unfold pathB okItems at h
  rw [Bool.and_eq_true, List.all_eq_true] at h
  have := h.1 x hx
  unfold okItem at this
  rw [Bool.and_eq_true] at this
  exact this.2

/-- What is above what is there is there, and a directory. -/
theorem up_there {es : List E} (T : TrE es) {b : ByteArray} (hb : pathB b = true) : ∀ (N : Nat) (e : E), e.p.size ≤ N → e ∈ es → underI e.p b = true → ∃ f, lookE es b = some f ∧ f.d = true
  | 0, e, hN, he, h => by have := pathB_head _ (T.path e he); omega
  | N + 1, e, hN, he, h => by
    have hpe := T.path e he
    rcases dir_look (T.up e he) with q | ⟨f, hf, hd⟩
    · rcases (under_up hpe).1 h with e1 | e1
      · rw [q] at e1; rw [e1, root_no_path] at hb; cases hb
      · obtain ⟨_, h2, _⟩ := (underI_iff _ _).1 e1
        rw [q, root_no_path] at h2; cases h2
    · rcases (under_up hpe).1 h with e1 | e1
      · rw [e1]; exact ⟨f, hf, hd⟩
      · obtain ⟨f1, f2⟩ := look_mem hf
        have hsz := up_size hpe
        rw [stem_path (by rw [← f2]; exact T.path f f1)] at hsz
        exact up_there T hb N f (by rw [f2]; omega) f1 (by rw [f2]; exact e1)
theorem gone_below {es : List E} (T : TrE es) {s b : ByteArray} (hb : pathB b = true) (h : s = b ∨ underI s b = true) (hl : lookE es b = none) : lookE es s = none := by
  rcases h with rfl | h
  · exact hl
  · cases hs : lookE es s with
    | none => rfl
    | some e =>
      obtain ⟨e1, e2⟩ := look_mem hs
      obtain ⟨f, hf, _⟩ := up_there T hb _ e (Nat.le_refl _) e1 (by rw [e2]; exact h)
      rw [hl] at hf; cases hf
/-- Nothing is in what is no directory. -/
theorem look_kid {es : List E} (T : TrE es) {p n : ByteArray} (hp : stemOk p = true) (hn : nameB n = true) {e : E} (h : lookE es (joinI p n) = some e) : dirE es p = true := by
  obtain ⟨e1, e2⟩ := look_mem h
  have hj := join_up (join_ok hp hn (by rw [← e2]; exact T.path e e1))
  have := T.up e e1
  rwa [e2, hj.1] at this
theorem look_path {es : List E} (T : TrE es) {s : ByteArray} {e : E} (h : lookE es s = some e) : pathB s = true := by
  obtain ⟨e1, e2⟩ := look_mem h
  rw [← e2]; exact T.path e e1
theorem look_bad {es : List E} (T : TrE es) {s : ByteArray} (h : pathB s = false) : lookE es s = none := by
  cases hl : lookE es s with
  | none => rfl
  | some e => rw [look_path T hl] at h; cases h
end Go.Proofs.YtnepnahjiilnoaaDoor
