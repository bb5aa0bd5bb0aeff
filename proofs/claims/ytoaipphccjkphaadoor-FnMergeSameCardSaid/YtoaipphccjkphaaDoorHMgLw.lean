import Derived.Test.YtoaipphccjkphaaDoorHPk05
namespace Go.Proofs.YtoaipphccjkphaaDoor.Mg
open Go.RowKit Go.Lib
theorem eqT_iff (x y : E × Bool) : eqT x y = true ↔ x = y := by
 rcases eqT_parts x y with ⟨h, e⟩ | ⟨h, k⟩ | ⟨h, _, k⟩ | ⟨h, _, _, k⟩ | ⟨h, _, _, _, k⟩
 ·
  exact ⟨fun _ => e, fun _ => h⟩
 ·
  exact ⟨fun q => (by rw [h] at q; cases q), fun q => (by rw [q] at k; simp at k)⟩
 ·
  exact ⟨fun q => (by rw [h] at q; cases q), fun q => (by rw [q] at k; simp at k)⟩
 ·
  exact ⟨fun q => (by rw [h] at q; cases q), fun q => (by rw [q] at k; simp at k)⟩
 ·
  exact ⟨fun q => (by rw [h] at q; cases q), fun q => (by rw [q] at k; simp at k)⟩
theorem at3_cases (e x y : E × Bool) : (x = e ∧ at3 e x y = (y.1, y.2, true)) ∨ (x ≠ e ∧ (y = e ∨ x = y) ∧ at3 e x y = (x.1, x.2, true)) ∨ (x ≠ e ∧ y ≠ e ∧ x ≠ y ∧ at3 e x y = (noneE, false, false)) := by
 unfold at3; by_cases h : x = e
 ·
  exact .inl ⟨h, if_pos ((eqT_iff x e).2 h)⟩
 ·
  rw [if_neg (fun q => h ((eqT_iff x e).1 q))]; by_cases k : y = e ∨ x = y
  ·
   refine .inr (.inl ⟨h, k, if_pos ?_⟩); rw [Bool.or_eq_true]; exact k.imp (eqT_iff y e).2 (eqT_iff x y).2
  ·
   refine .inr (.inr ⟨h, fun q => k (.inl q), fun q => k (.inr q), if_neg ?_⟩); rw [Bool.or_eq_true]; exact fun q => k (q.imp (eqT_iff y e).1 (eqT_iff x y).1)
theorem at3_turn (e x y : E × Bool) : at3 e x y = at3 e y x := by
 rcases at3_cases e x y with ⟨h1, h2⟩ | ⟨h1, h2, h3⟩ | ⟨h1, h2, h3, h4⟩ <;> rcases at3_cases e y x with ⟨k1, k2⟩ | ⟨k1, k2, k3⟩ | ⟨k1, k2, k3, k4⟩
 ·
  rw [h2, k2, h1, k1]
 ·
  rw [h2, k3]
 ·
  exact absurd h1 k2
 ·
  rw [h3, k2]
 ·
  rw [h3, k3]; rcases h2 with q | q
  ·
   exact absurd q k1
  ·
   rw [q]
 ·
  rcases h2 with q | q
  ·
   exact absurd q k1
  ·
   exact absurd q.symm k3
 ·
  exact absurd k1 h2
 ·
  rcases k2 with q | q
  ·
   exact absurd q h1
  ·
   exact absurd q.symm h3
 ·
  rw [h4, k4]
theorem at3_back (e x : E × Bool) : at3 e x e = (x.1, x.2, true) := by
 rcases at3_cases e x e with ⟨h1, h2⟩ | ⟨_, _, h3⟩ | ⟨_, h2, _, _⟩
 ·
  rw [h2, h1]
 ·
  exact h3
 ·
  exact absurd rfl h2
theorem at3_same (e x : E × Bool) : at3 e x x = (x.1, x.2, true) := by
 rcases at3_cases e x x with ⟨_, h2⟩ | ⟨_, _, h3⟩ | ⟨_, _, h3, _⟩
 ·
  exact h2
 ·
  exact h3
 ·
  exact absurd rfl h3
theorem at3_first (e y : E × Bool) : at3 e e y = (y.1, y.2, true) := by
 rw [at3_turn]; exact at3_back e y
theorem at3_more {e x y z : E × Bool} (h : at3 e x y = (z.1, z.2, true)) : at3 e x z = (z.1, z.2, true) ∧ at3 e z y = (z.1, z.2, true) := by
 have hz : ∀ u : E × Bool, (u.1, u.2, true) = (z.1, z.2, true) → u = z := fun u q => by
  obtain ⟨u1, u2⟩ := u; obtain ⟨z1, z2⟩ := z
  injection q with q1 q2
  injection q2 with q2 _
  dsimp only at q1 q2; rw [q1, q2]
 rcases at3_cases e x y with ⟨h1, h2⟩ | ⟨h1, h2, h3⟩ | ⟨h1, h2, h3, h4⟩
 ·
  have := hz y (h2.symm.trans h); subst this; rw [h1]; exact ⟨at3_first e y, at3_same e y⟩
 ·
  have := hz x (h3.symm.trans h); subst this; refine ⟨at3_same e x, ?_⟩; rcases h2 with q | q
  ·
   rw [q]; exact at3_back e x
  ·
   rw [← q]; exact at3_same e x
 ·
  rw [h4] at h
  injection h with _ h
  injection h with _ h
  cases h
theorem trees3_iff {t a b : List E} : trees3 t a b = true ↔ treeE t = true ∧ treeE a = true ∧ treeE b = true := by
 unfold trees3; rw [Bool.and_eq_true, Bool.and_eq_true]
theorem paths_right {t a b : List E} (h : trees3 t a b = true) {s : ByteArray} (hs : s ∈ pathsE t a b) : pathB s = true := by
 obtain ⟨h1, h2, h3⟩ := trees3_iff.1 h; rcases (paths_mem (treeE_tr h1).1.sort s).1 hs with ⟨e, he, rfl⟩ | ⟨e, he, rfl⟩ | ⟨e, he, rfl⟩
 ·
  exact (treeE_tr h1).1.path e he
 ·
  exact (treeE_tr h2).1.path e he
 ·
  exact (treeE_tr h3).1.path e he
theorem get_p {es : List E} {s : ByteArray} (hp : pathB s = true) (h : (getE es s).2 = true) : (getE es s).1.p = s ∧ ∃ e ∈ es, e.p = s := by
 cases hl : lookE es s with
 | none => rw [get_no hp hl] at h; cases h
 | some f => rw [get_yes hp hl]; exact ⟨(look_mem hl).2, f, (look_mem hl).1, (look_mem hl).2⟩
theorem mk_p {t a b : List E} (h : trees3 t a b = true) {s : ByteArray} (hp : pathB s = true) (hk : (mk t a b s).2.1 = true) : (mk t a b s).1.p = s ∧ s ∈ pathsE t a b := by
 have hm := paths_mem (a := a) (b := b) (treeE_tr (trees3_iff.1 h).1).1.sort s; unfold mk at hk ⊢; rcases at3_cases (getE t s) (getE a s) (getE b s) with ⟨_, h2⟩ | ⟨_, _, h2⟩ | ⟨_, _, _, h2⟩
 ·
  rw [h2] at hk ⊢; obtain ⟨q1, q2⟩ := get_p hp hk; exact ⟨q1, hm.2 (.inr (.inr q2))⟩
 ·
  rw [h2] at hk ⊢; obtain ⟨q1, q2⟩ := get_p hp hk; exact ⟨q1, hm.2 (.inr (.inl q2))⟩
 ·
  rw [h2] at hk; cases hk
theorem mergeL_rise {t a b : List E} (h : trees3 t a b = true) : ∀ q : List ByteArray, q.Pairwise less → (∀ s ∈ q, pathB s = true) → Rise (mergeL t a b q) ∧ (∀ e ∈ mergeL t a b q, e.p ∈ q) ∧ ∀ s ∈ q, lookE (mergeL t a b q) s = if (mk t a b s).2.1 = true then some (mk t a b s).1 else none
 | [], _, _ => ⟨List.Pairwise.nil, fun e he => (by cases he), fun s hs => (by cases hs)⟩
 | s :: q, hq, hp => by
  obtain ⟨ih1, ih2, ih3⟩ := mergeL_rise h q (List.pairwise_cons.1 hq).2 (fun x hx => hp x (List.mem_cons_of_mem _ hx)); have hlt := (List.pairwise_cons.1 hq).1; have hne : ∀ x ∈ q, x ≠ s := fun x hx e => by have := hlt x hx; rw [e] at this; exact absurd this (less_irrefl _)
  by_cases hk : (mk t a b s).2.1 = true
  ·
   have hps := (mk_p h (hp s (by simp)) hk).1; have he : mergeL t a b (s :: q) = (mk t a b s).1 :: mergeL t a b q := by unfold mergeL; rw [List.filterMap_cons_some (by rw [if_pos hk])]
   rw [he]; refine ⟨List.pairwise_cons.2 ⟨fun e h2 => by rw [hps]; exact hlt _ (ih2 e h2), ih1⟩, fun e h2 => ?_, fun x hx => ?_⟩
   ·
    rcases List.mem_cons.1 h2 with rfl | h2
    ·
     rw [hps]; simp
    ·
     exact List.mem_cons_of_mem _ (ih2 e h2)
   ·
    rcases List.mem_cons.1 hx with rfl | hx
    ·
     rw [if_pos hk]; unfold lookE; simp [hps]
    ·
     rw [← ih3 x hx]; unfold lookE; rw [List.find?_cons_of_neg (by rw [hps]; simpa using fun e => hne x hx e.symm)]
  ·
   have he : mergeL t a b (s :: q) = mergeL t a b q := by unfold mergeL; rw [List.filterMap_cons_none (by rw [if_neg hk])]
   rw [he]; refine ⟨ih1, fun e h2 => List.mem_cons_of_mem _ (ih2 e h2), fun x hx => ?_⟩; rcases List.mem_cons.1 hx with rfl | hx
   ·
    rw [if_neg hk]; exact look_none.2 fun e h2 q2 => hne _ (ih2 e h2) q2
   ·
    exact ih3 x hx
theorem mergeL_look {t a b : List E} (h : trees3 t a b = true) {s : ByteArray} (hp : pathB s = true) : lookE (mergeL t a b (pathsE t a b)) s = if (mk t a b s).2.1 = true then some (mk t a b s).1 else none := by
 obtain ⟨h1, h2, h3⟩ := mergeL_rise h _ (paths_rise (treeE_tr (trees3_iff.1 h).1).1.sort) (fun x hx => paths_right h hx); by_cases hs : s ∈ pathsE t a b
 ·
  exact h3 s hs
 ·
  have hk : ¬ (mk t a b s).2.1 = true := fun q => hs (mk_p h hp q).2; rw [if_neg hk]; exact look_none.2 fun e he q => hs (by rw [← q]; exact h2 e he)
theorem mergeL_get {t a b : List E} (h : trees3 t a b = true) {s : ByteArray} (hp : pathB s = true) (hc : (mk t a b s).2.2 = true) : ((getE (mergeL t a b (pathsE t a b)) s).1, (getE (mergeL t a b (pathsE t a b)) s).2, true) = mk t a b s := by
 have hl := mergeL_look h hp
 have hn : (mk t a b s).2.1 = false → (mk t a b s).1 = noneE := by
  have hg : ∀ es : List E, (getE es s).2 = false → (getE es s).1 = noneE := fun es q => by
   cases hl : lookE es s with
   | none => rw [get_no hp hl]
   | some f => rw [get_yes hp hl] at q; cases q
  unfold mk; rcases at3_cases (getE t s) (getE a s) (getE b s) with ⟨_, h2⟩ | ⟨_, _, h2⟩ | ⟨_, _, _, h2⟩ <;> rw [h2]
  ·
   exact hg b
  ·
   exact hg a
  ·
   exact fun _ => rfl
 generalize hm : mk t a b s = m at hl hc hn ⊢
 obtain ⟨m1, m2, m3⟩ := m; dsimp only at hl hc hn ⊢; subst hc; cases m2 with
 | true => rw [if_pos rfl] at hl; rw [get_yes hp hl]
 | false => rw [if_neg (by decide)] at hl; rw [get_no hp hl, hn rfl]
theorem merge_is {t a b x : List E} (h : trees3 t a b = true) (hx : treeE x = true) (hs : ∀ s, pathB s = true → mk t a b s = ((getE x s).1, (getE x s).2, true)) : mergeB t a b = true ∧ mergeE t a b = x ∧ clashE t a b = [] := by
 obtain ⟨T, hlx⟩ := treeE_tr hx; have hR := paths_rise (t := t) (a := a) (b := b) (treeE_tr (trees3_iff.1 h).1).1.sort; obtain ⟨h1, h2, h3⟩ := mergeL_rise h _ hR (fun x hx => paths_right h hx)
 have hc : clashL t a b (pathsE t a b) = [] := by
  unfold clashL; rw [List.filter_eq_nil_iff]; intro s hq; rw [hs s (paths_right h hq)]; simp
 have hl : mergeL t a b (pathsE t a b) = x := look_ext h1 T.sort fun s => by
  by_cases hp : pathB s = true
  ·
   rw [mergeL_look h hp, hs s hp]; cases hk : lookE x s with
   | none => rw [get_no hp hk]; rfl
   | some f => rw [get_yes hp hk]; rfl
  ·
   rw [look_none.2 fun e he q => hp (by rw [← q]; exact paths_right h (h2 e he)), look_none.2 fun e he q => hp (by rw [← q]; exact T.path e he)]
 have hb : mergeB t a b = true := by unfold mergeB; rw [h, hc, hl, hx]; rfl
 exact ⟨hb, by unfold mergeE; rw [if_pos hb, hl], by unfold clashE; rw [if_pos h, hc]⟩
theorem merge_back {t a : List E} (ht : treeE t = true) (ha : treeE a = true) : mergeB t a t = true ∧ mergeE t a t = a := by
 have := merge_is (trees3_iff.2 ⟨ht, ha, ht⟩) ha fun s _ => at3_back (getE t s) (getE a s); exact ⟨this.1, this.2.1⟩
theorem merge_same {t a : List E} (ht : treeE t = true) (ha : treeE a = true) : mergeB t a a = true ∧ mergeE t a a = a := by
 have := merge_is (trees3_iff.2 ⟨ht, ha, ha⟩) ha fun s _ => at3_same (getE t s) (getE a s); exact ⟨this.1, this.2.1⟩
theorem merge_first {t b : List E} (ht : treeE t = true) (hb : treeE b = true) : mergeB t t b = true ∧ mergeE t t b = b := by
 have := merge_is (trees3_iff.2 ⟨ht, ht, hb⟩) hb fun s _ => at3_first (getE t s) (getE b s); exact ⟨this.1, this.2.1⟩
theorem merge_parts {t a b : List E} (h : mergeB t a b = true) : trees3 t a b = true ∧ treeE (mergeE t a b) = true ∧ ∀ s, pathB s = true → mk t a b s = ((getE (mergeE t a b) s).1, (getE (mergeE t a b) s).2, true) := by
 have he : mergeE t a b = mergeL t a b (pathsE t a b) := by unfold mergeE; rw [if_pos h]
 unfold mergeB at h; rw [Bool.and_eq_true, Bool.and_eq_true] at h; obtain ⟨h1, h2, h3⟩ := h; rw [he]; refine ⟨h1, h3, fun s hp => (mergeL_get h1 hp ?_).symm⟩; by_cases hs : s ∈ pathsE t a b
 ·
  cases hc : (mk t a b s).2.2 with
  | true => rfl
  | false =>
   have : s ∈ clashL t a b (pathsE t a b) := by unfold clashL; rw [List.mem_filter]; exact ⟨hs, by rw [hc]; rfl⟩
   rw [List.isEmpty_iff.1 h2] at this; cases this
 ·
  have hm := paths_mem (a := a) (b := b) (treeE_tr (trees3_iff.1 h1).1).1.sort s; have hn : ∀ es : List E, (¬ ∃ e ∈ es, e.p = s) → getE es s = (noneE, false) := fun es q => get_no hp (look_none.2 fun e he k => q ⟨e, he, k⟩); unfold mk; rw [hn t (fun q => hs (hm.2 (.inl q))), hn a (fun q => hs (hm.2 (.inr (.inl q)))), at3_first]
theorem merge_more {t a b : List E} (h : mergeB t a b = true) :
  (mergeB t a (mergeE t a b) = true ∧ mergeE t a (mergeE t a b) = mergeE t a b) ∧ (mergeB t (mergeE t a b) b = true ∧ mergeE t (mergeE t a b) b = mergeE t a b) ∧ (mergeB a a (mergeE t a b) = true ∧ mergeE a a (mergeE t a b) = mergeE t a b) := by
 obtain ⟨h1, h2, h3⟩ := merge_parts h; obtain ⟨t1, t2, t3⟩ := trees3_iff.1 h1; have k1 := merge_is (trees3_iff.2 ⟨t1, t2, h2⟩) h2 fun s hp => (at3_more (h3 s hp)).1; have k2 := merge_is (trees3_iff.2 ⟨t1, h2, t3⟩) h2 fun s hp => (at3_more (h3 s hp)).2; have k3 := merge_first t2 h2; exact ⟨⟨k1.1, k1.2.1⟩, ⟨k2.1, k2.2.1⟩, k3⟩
end Go.Proofs.YtoaipphccjkphaaDoor.Mg
