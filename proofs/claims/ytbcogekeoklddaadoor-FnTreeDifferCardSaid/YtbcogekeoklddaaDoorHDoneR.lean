/-
  Plain facts on what is turned, told, listed and above in a tree.
-/
import Derived.Test.YtbcogekeoklddaaDoorHDoneQ
namespace Go.Proofs.YtbcogekeoklddaaDoor
open Go.Lib

/-! ### What is turned -/
theorem turned_self (es : List E) : turnedE es es = [] := by
  unfold turnedE
  split
  · rename_i h
    rw [Bool.and_self] at h
    obtain ⟨T, _⟩ := treeE_tr h
    rw [List.eq_nil_iff_forall_not_mem]
    intro s hs
    exact (turnE_mem T T s).1 hs rfl
  · rfl
theorem turned_bad {es fs : List E} (h : treeE es = false ∨ treeE fs = false) : turnedE es fs = [] := by
  unfold turnedE
  rcases h with h | h <;> rw [h] <;> simp
theorem turned_mem {es fs : List E} (h : treeE es = true) (k : treeE fs = true) (s : ByteArray) : s ∈ turnedE es fs ↔ lookE es s ≠ lookE fs s := by
  unfold turnedE
  rw [h, k, if_pos (by rfl)]
  exact turnE_mem (treeE_tr h).1 (treeE_tr k).1 s
theorem turned_rise (es fs : List E) : (turnedE es fs).Pairwise less := by
  unfold turnedE
  split
  · rename_i h
    rw [Bool.and_eq_true] at h
    exact turnE_rise (treeE_tr h.1).1
  · exact List.Pairwise.nil
theorem turned_ext {es fs gs hs : List E} (h : ∀ s, s ∈ turnedE es fs ↔ s ∈ turnedE gs hs) : turnedE es fs = turnedE gs hs :=
  rising_ext less_irrefl (fun a b => less_trans a b) _ _ (turned_rise es fs) (turned_rise gs hs) h
theorem turned_comm (es fs : List E) : turnedE es fs = turnedE fs es := by
  cases h : treeE es with
  | false => rw [turned_bad (.inl h), turned_bad (.inr h)]
  | true =>
    cases k : treeE fs with
    | false => rw [turned_bad (.inr k), turned_bad (.inl k)]
    | true => exact turned_ext fun s => by rw [turned_mem h k, turned_mem k h]; exact ⟨fun a b => a b.symm, fun a b => a b.symm⟩
theorem turned_nil {es fs : List E} (h : treeE es = true) (k : treeE fs = true) : turnedE es fs = [] ↔ es = fs := by
  constructor
  · intro q
    refine look_ext (treeE_tr h).1.sort (treeE_tr k).1.sort fun s => ?_
    by_cases e : lookE es s = lookE fs s
    · exact e
    · have := (turned_mem h k s).2 e
      rw [q] at this; cases this
  · rintro rfl; exact turned_self es
theorem turned_path {es fs : List E} (h : treeE es = true) (k : treeE fs = true) {s : ByteArray} (hs : s ∈ turnedE es fs) : pathB s = true := by
  have := (turned_mem h k s).1 hs
  cases hl : lookE es s with
  | some e => exact look_path (treeE_tr h).1 hl
  | none =>
    cases hk : lookE fs s with
    | some e => exact look_path (treeE_tr k).1 hk
    | none => rw [hl, hk] at this; exact absurd rfl this
theorem turned_one {es fs : List E} (h : treeE es = true) (k : treeE fs = true) {p : ByteArray} (hd : ∀ s, lookE es s ≠ lookE fs s ↔ s = p) : turnedE es fs = [p] :=
  rising_ext less_irrefl (fun a b => less_trans a b) _ _ (turned_rise es fs) (List.pairwise_singleton _ _) fun s => by
    rw [turned_mem h k, hd, List.mem_singleton]
theorem undone_turned {es : List E} {q : O} (h : doC es q ≠ 0) : turnedE es (doE es q) = [] := by
  rw [not_done h]
  split
  · exact turned_self es
  · rename_i k; exact turned_bad (.inl (by simpa using k))
theorem Done.tree' {es : List E} {q : O} (d : Done es q) : treeE (doE es q) = true := do_tree d.tree
theorem put_turned {es : List E} {q : O} (d : Done es q) {e : E} (he : e.p = q.p) (hm : doE es q = putE es e) (hne : lookE es q.p ≠ some e) : turnedE es (doE es q) = [q.p] := by
  refine turned_one d.tree d.tree' fun s => ?_
  rw [hm, put_look d.T.sort, he]
  by_cases hs : s = q.p
  · rw [if_pos hs, hs]; simp [hne]
  · rw [if_neg hs]; simp [hs]
theorem off_turned {es : List E} {q : O} (d : Done es q) {f : E} (hf : lookE es q.p = some f) (hm : doE es q = offE es q.p) : turnedE es (doE es q) = [q.p] := by
  refine turned_one d.tree d.tree' fun s => ?_
  rw [hm, off_look d.T.sort]
  by_cases hs : s = q.p
  · rw [if_pos hs, hs, hf]; simp
  · rw [if_neg hs]; simp [hs]
theorem Done.turned1 {es : List E} {q : O} (d : Done es q) (h : q.k = 1) : turnedE es (doE es q) = [q.p] ∧ tgetE (doE es q) q.p = (⟨q.p, true, ⟨#[]⟩⟩, true) := by
  rcases d.kinds with ⟨_, _, _, _, h5, _, hm⟩ | ⟨k, _⟩ | ⟨k, _⟩ | ⟨k, _⟩ | ⟨k, _⟩
  · exact ⟨put_turned d (e := ⟨q.p, true, ⟨#[]⟩⟩) rfl hm (by rw [h5]; simp), tget_some d.tree' d.path (by rw [hm, put_look d.T.sort, if_pos rfl])⟩
  all_goals omega
theorem Done.turned2 {es : List E} {q : O} (d : Done es q) (h : q.k = 2) : tgetE (doE es q) q.p = (⟨q.p, false, q.x⟩, true) ∧ ((turnedE es (doE es q) = [] ∧ tgetE es q.p = (⟨q.p, false, q.x⟩, true)) ∨ turnedE es (doE es q) = [q.p]) := by
  rcases d.kinds with ⟨k, _⟩ | ⟨_, _, _, _, h5, hm⟩ | ⟨k, _⟩ | ⟨k, _⟩ | ⟨k, _⟩
  · omega
  · refine ⟨tget_some d.tree' d.path (by rw [hm, put_look d.T.sort, if_pos rfl]), ?_⟩
    by_cases hne : lookE es q.p = some ⟨q.p, false, q.x⟩
    · left
      refine ⟨(turned_nil d.tree d.tree').2 ?_, tget_some d.tree d.path hne⟩
      rw [hm]
      refine look_ext d.T.sort (put_rise d.T.sort _) fun s => ?_
      rw [put_look d.T.sort]
      by_cases hs : s = q.p
      · rw [if_pos hs, hs, hne]
      · rw [if_neg hs]
    · exact .inr (put_turned d (e := ⟨q.p, false, q.x⟩) rfl hm hne)
  all_goals omega
theorem Done.turned34 {es : List E} {q : O} (d : Done es q) (h : q.k = 3 ∨ q.k = 4) : turnedE es (doE es q) = [q.p] ∧ tgetE (doE es q) q.p = (noneE, false) := by
  have key : ∀ f, lookE es q.p = some f → doE es q = offE es q.p → turnedE es (doE es q) = [q.p] ∧ tgetE (doE es q) q.p = (noneE, false) := fun f hf hm =>
    ⟨off_turned d hf hm, tget_none d.tree' d.path (by rw [hm, off_look d.T.sort, if_pos rfl])⟩
  rcases d.kinds with ⟨k, _⟩ | ⟨k, _⟩ | ⟨_, _, _, ⟨f, hf, _⟩, hm⟩ | ⟨_, _, _, _, ⟨f, hf, _⟩, hm⟩ | ⟨k, _⟩
  · omega
  · omega
  · exact key f hf hm
  · exact key f hf hm
  · omega
theorem Done.turned5 {es : List E} {q : O} (d : Done es q) (h : q.k = 5) : (∀ s ∈ turnedE es (doE es q), s = q.p ∨ s = q.t ∨ underI s q.p = true ∨ underI s q.t = true) ∧ tgetE (doE es q) q.p = (noneE, false) ∧ (doE es q).length = es.length := by
  refine ⟨?_, ?_, d.many5 h⟩
  · rcases d.kinds with ⟨k, _⟩ | ⟨k, _⟩ | ⟨k, _⟩ | ⟨k, _⟩ | ⟨_, _, m, hm⟩
    · omega
    · omega
    · omega
    · omega
    · intro s hs
      have hp := turned_path d.tree d.tree' hs
      have hd := (turned_mem d.tree d.tree' s).1 hs
      rw [hm] at hd
      cases hf : movHit s q.p with
      | true => rcases (hitP hp m.pf).1 hf with z | z
                · exact .inl z
                · exact .inr (.inr (.inl z))
      | false =>
        cases ht : movHit s q.t with
        | true => rcases (hitP hp m.pt).1 ht with z | z
                  · exact .inr (.inl z)
                  · exact .inr (.inr (.inr z))
        | false => rw [m.look_else ht hf] at hd; exact absurd rfl hd
  · rcases d.kinds with ⟨k, _⟩ | ⟨k, _⟩ | ⟨k, _⟩ | ⟨k, _⟩ | ⟨_, _, m, hm⟩
    · omega
    · omega
    · omega
    · omega
    · exact tget_none d.tree' d.path (by rw [hm]; exact m.gone)

/-! ### What is told of a path -/
theorem tget_root {es : List E} (h : treeE es = true) : tgetE es ⟨#[47]⟩ = (rootE, true) := by
  unfold tgetE; rw [if_pos h, getE_root root_root]
theorem tget_bad {es : List E} (h : treeE es = false) (s : ByteArray) : tgetE es s = (noneE, false) := by
  unfold tgetE; rw [if_neg (by rw [h]; decide)]
theorem tget_self {es : List E} (h : treeE es = true) {e : E} (he : e ∈ es) : tgetE es e.p = (e, true) := by
  obtain ⟨T, _⟩ := treeE_tr h
  exact tget_some h (T.path e he) (look_self T.sort he)
theorem tget_look {es : List E} (h : treeE es = true) {s : ByteArray} (hr : isRoot s = false) : tgetE es s = ((lookE es s).getD noneE, (lookE es s).isSome) := by
  unfold tgetE; rw [if_pos h, getE_look hr]
def cntE (es : List E) (s : ByteArray) : Nat := (es.filter (fun e => e.p.toList == s.toList)).length
theorem cnt_succ (es : List E) (s : ByteArray) (k : Nat) (h : k < es.length) : cntE (es.take (k + 1)) s = cntE (es.take k) s + (if (es[k].p.toList == s.toList) = true then 1 else 0) := by
  unfold cntE
  rw [List.take_succ_eq_append_getElem h, List.filter_append, List.length_append]
  by_cases hb : (es[k].p.toList == s.toList) = true
  · simp [hb]
  · simp [hb]
theorem cnt_le (es : List E) (s : ByteArray) : cntE es s ≤ es.length := List.length_filter_le _ _
theorem cnt_off (es : List E) (s : ByteArray) : cntE es s + (offE es s).length = es.length := by
  unfold cntE offE
  induction es with
  | nil => rfl
  | cons e r ih =>
    by_cases hb : (e.p.toList == s.toList) = true
    · rw [List.filter_cons_of_pos (p := fun e : E => e.p.toList == s.toList) hb, List.filter_cons_of_neg (by simp [hb])]; simp only [List.length_cons]; omega
    · rw [List.filter_cons_of_neg (p := fun e : E => e.p.toList == s.toList) hb, List.filter_cons_of_pos (by simpa using hb)]; simp only [List.length_cons]; omega
theorem cnt_look {es : List E} (h : Rise es) (s : ByteArray) : cntE es s = if (lookE es s).isSome = true then 1 else 0 := by
  have hc := cnt_off es s
  cases hl : lookE es s with
  | some f =>
    have := off_len_there es h ⟨f, hl⟩
    simp; omega
  | none =>
    have : cntE es s = 0 := by
      unfold cntE
      rw [List.length_eq_zero_iff, List.filter_eq_nil_iff]
      intro e he q
      rw [beqL, decide_eq_true_eq] at q
      exact look_none.1 hl e he q
    rw [this]; rfl
/-- How often a path stands in a right tree tells whether something is told of it. -/
theorem get_count {es : List E} (h : treeE es = true) (s : ByteArray) : (tgetE es s).2 = (decide (cntE es s = 1) || isRoot s) := by
  obtain ⟨T, _⟩ := treeE_tr h
  cases hr : isRoot s with
  | true => rw [(isRoot_iff s).1 hr, tget_root h]; simp
  | false =>
    rw [tget_look h hr, cnt_look T.sort]
    cases lookE es s <;> rfl
theorem get_path {es : List E} (s : ByteArray) (h : (tgetE es s).2 = true) : (tgetE es s).1.p = s := by
  cases ht : treeE es with
  | false => rw [tget_bad ht] at h; cases h
  | true =>
    cases hr : isRoot s with
    | true => rw [(isRoot_iff s).1 hr, tget_root ht]; rfl
    | false =>
      rw [tget_look ht hr] at h ⊢
      cases hl : lookE es s with
      | none => rw [hl] at h; cases h
      | some f => exact look_p hl

/-! ### What is listed -/
theorem list_self {es : List E} (h : treeE es = true) {e : E} (he : e ∈ es) : (listC es e.p = 0 ↔ e.d = true) ∧ listE es e.p = kidsE es e.p := by
  obtain ⟨T, _⟩ := treeE_tr h
  have hp := T.path e he
  have hg := get_yes hp (look_self T.sort he)
  have hc : listC es e.p = if e.d = false then 3 else 0 := by
    unfold listC
    rw [h, hp, Bool.or_true, hg, if_neg (by decide), if_neg (by simp)]
  unfold listE
  rw [hc]
  cases hd : e.d with
  | true => simp
  | false =>
    have : kidsE es e.p = [] := kids_file T (by rw [dirE_look, look_self T.sort he, root_not_path hp]; simp [hd])
    simp [this]
theorem list_root {es : List E} (h : treeE es = true) : listC es ⟨#[47]⟩ = 0 ∧ listE es ⟨#[47]⟩ = kidsE es ⟨#[47]⟩ := by
  have hc : listC es ⟨#[47]⟩ = 0 := by
    unfold listC
    rw [h, root_root, getE_root root_root]; rfl
  exact ⟨hc, by unfold listE; rw [hc, if_pos rfl]⟩
def sumE (es ds : List E) : Nat := (ds.map (fun e => (listE es e.p).length)).sum
theorem sum_succ (es ds : List E) (k : Nat) (h : k < ds.length) : sumE es (ds.take (k + 1)) = sumE es (ds.take k) + (listE es ds[k].p).length := by
  unfold sumE
  rw [List.take_succ_eq_append_getElem h, List.map_append, List.sum_append]; simp
def kidN (gs : List E) (s : ByteArray) : Nat := (gs.filter (kidB s)).length
theorem kidN_len (gs : List E) (s : ByteArray) : kidN gs s = (kidsE gs s).length := by unfold kidN kidsE; rw [List.length_map]
theorem kidN_cons (g : E) (gs : List E) (s : ByteArray) : kidN (g :: gs) s = kidN gs s + (if kidB s g = true then 1 else 0) := by
  unfold kidN
  by_cases h : kidB s g = true
  · rw [List.filter_cons_of_pos h, if_pos h, List.length_cons]
  · rw [List.filter_cons_of_neg h, if_neg h]; rfl
theorem sum_add (es : List E) (f g : E → Nat) : (es.map (fun e => f e + g e)).sum = (es.map f).sum + (es.map g).sum := by
  induction es with
  | nil => rfl
  | cons e r ih => simp only [List.map_cons, List.sum_cons, ih]; omega
theorem sum_cnt (es : List E) (s : ByteArray) : (es.map (fun e => if decide (s = e.p) = true then 1 else 0)).sum = cntE es s := by
  unfold cntE
  induction es with
  | nil => rfl
  | cons e r ih =>
    simp only [List.map_cons, List.sum_cons, ih]
    by_cases h : s = e.p
    · rw [List.filter_cons_of_pos (by rw [beqL]; simp [h])]; simp [h]; omega
    · rw [List.filter_cons_of_neg (by rw [beqL]; simp; exact fun q => h q.symm)]; simp [h]
theorem kids_sum {es : List E} (T : TrE es) : ∀ gs : List E, (∀ g ∈ gs, g ∈ es) → kidN gs ⟨#[47]⟩ + (es.map (fun e => kidN gs e.p)).sum = gs.length
  | [], _ => by
    have : (es.map (fun e => kidN [] e.p)).sum = 0 := by
      have z : ∀ ds : List E, (ds.map (fun e => kidN [] e.p)).sum = 0 := fun ds => by
        induction ds with
        | nil => rfl
        | cons e r ih => simp only [List.map_cons, List.sum_cons, ih]; rfl
      exact z es
    rw [this]; rfl
  | g :: gs, h => by
    have ih := kids_sum T gs (fun x hx => h x (List.mem_cons_of_mem _ hx))
    have hg := T.up g (h g (List.mem_cons_self ..))
    have e1 : (es.map (fun e => kidN (g :: gs) e.p)).sum = (es.map (fun e => kidN gs e.p)).sum + cntE es (upS g.p) := by
      rw [← sum_cnt, ← sum_add]
      congr 1
      refine List.map_congr_left fun e _ => ?_
      rw [kidN_cons]
      congr 1
      unfold kidB
      rw [beqL]
    rw [kidN_cons, e1, cnt_look T.sort, List.length_cons]
    rcases dir_look hg with hr | ⟨e, he, _⟩
    · have hk : kidB ⟨#[47]⟩ g = true := (kid_iff _ _).2 hr
      have hl : lookE es (upS g.p) = none := by rw [hr]; exact look_bad T root_no_path
      rw [hk, hl]; simp; omega
    · have hk : kidB ⟨#[47]⟩ g = false := by
        cases hk : kidB ⟨#[47]⟩ g with
        | false => rfl
        | true =>
          rw [kid_iff] at hk
          have := look_path T he
          rw [hk, root_no_path] at this; cases this
      rw [hk, he]; simp; omega
/-- All directories together have all that there is. -/
theorem list_sum {es : List E} (h : treeE es = true) : (listE es ⟨#[47]⟩).length + sumE es es = es.length := by
  obtain ⟨T, _⟩ := treeE_tr h
  have := kids_sum T es (fun _ h => h)
  rw [(list_root h).2, ← kidN_len]
  have e : sumE es es = (es.map (fun e => kidN es e.p)).sum := by
    unfold sumE
    congr 1
    refine List.map_congr_left fun e he => ?_
    rw [(list_self h he).2, kidN_len]
  rw [e]; exact this
theorem list_dir {es : List E} {s : ByteArray} (h : listC es s = 0) : treeE es = true ∧ stemOk s = true ∧ dirE es s = true ∧ listE es s = kidsE es s := by
  unfold listE
  rw [if_pos h]
  unfold listC at h
  split at h
  · cases h
  · rename_i h1
    split at h
    · cases h
    · rename_i h2
      split at h
      · cases h
      · rename_i h3
        have h1' : treeE es = true ∧ stemOk s = true := by
          rw [Bool.not_eq_false, Bool.and_eq_true] at h1; exact h1
        refine ⟨h1'.1, h1'.2, ?_, rfl⟩
        rw [dirE_look]
        cases hr : isRoot s with
        | true => rfl
        | false =>
          rw [getE_look hr] at h2 h3
          cases hl : lookE es s with
          | none => rw [hl] at h2; exact absurd rfl h2
          | some f => rw [hl] at h3; simpa using h3
/-- A name that is listed is that of something that is there. -/
theorem list_there {es : List E} {s : ByteArray} (h : listC es s = 0) {n : ByteArray} (hn : n ∈ listE es s) : joinOk s n = true ∧ (tgetE es (joinS s n)).2 = true := by
  obtain ⟨h1, h2, h3, h4⟩ := list_dir h
  obtain ⟨T, _⟩ := treeE_tr h1
  rw [h4] at hn
  obtain ⟨k1, e, k2⟩ := (kids_mem T h2 n).1 hn
  have hp := look_path T k2
  have hj := join_ok h2 k1 hp
  refine ⟨hj, ?_⟩
  rw [(join_parts hj).2.2.2, tget_some h1 hp k2]
theorem list_rise {es : List E} {s : ByteArray} : (listE es s).Pairwise less := by
  by_cases h : listC es s = 0
  · obtain ⟨h1, _, _, h4⟩ := list_dir h
    rw [h4]; exact kids_rise (treeE_tr h1).1
  · rw [list_no (c := listC es s) rfl h]; exact List.Pairwise.nil
theorem list_lenD (es : List E) (s : ByteArray) : (listE es s).length ≤ es.length := by
  unfold listE
  split
  · unfold kidsE; rw [List.length_map]; exact List.length_filter_le _ _
  · simp
theorem listC_get {es : List E} {s : ByteArray} (h : treeE es = true) (hs : stemOk s = true) : listC es s = if (tgetE es s).2 = false then 2 else if (tgetE es s).1.d = false then 3 else 0 := by
  unfold listC tgetE
  rw [h, if_pos rfl]
  have : (true && (isRoot s || pathB s)) = true := hs
  rw [this, if_neg (by decide)]

/-! ### What is above -/
theorem up_dirs {es : List E} (T : TrE es) {s : ByteArray} (hd : dirE es s = true) : s = ⟨#[47]⟩ ∨ (pathB s = true ∧ (∃ e, lookE es s = some e ∧ e.d = true) ∧ dirE es (upS s) = true) := by
  rcases dir_look hd with h | ⟨e, he, hdd⟩
  · exact .inl h
  · right
    obtain ⟨h1, h2⟩ := look_mem he
    have := T.up e h1
    rw [h2] at this
    exact ⟨look_path T he, ⟨e, he, hdd⟩, this⟩
theorem ups_list {es : List E} (h : treeE es = true) {s : ByteArray} {e : E} (he : lookE es s = some e) : listC es (upS s) = 0 ∧ nmS s ∈ listE es (upS s) := by
  obtain ⟨T, _⟩ := treeE_tr h
  have hp := look_path T he
  obtain ⟨h1, h2⟩ := look_mem he
  have hd := T.up e h1
  rw [h2] at hd
  have hst := T.dirOk hd
  have hc : listC es (upS s) = 0 := by
    rw [listC_get h hst]
    rcases up_dirs T hd with r | ⟨r1, ⟨f, r2, r3⟩, _⟩
    · rw [r, tget_root h]; rfl
    · rw [tget_some h r1 r2]; simp [r3]
  refine ⟨hc, ?_⟩
  rw [(list_dir hc).2.2.2, kids_mem T hst]
  exact ⟨(up_facts hp).2.2.1, e, by rw [up_join hp]; exact he⟩

/-! ### How it ends -/
theorem up_get {es : List E} (h : treeE es = true) (s : ByteArray) : upC es s = if (tgetE es (upS s)).2 = false then 2 else if (tgetE es (upS s)).1.d = false then 3 else 0 := by
  unfold upC tgetE; rw [if_pos h]
theorem new_get {es : List E} (h : treeE es = true) (s : ByteArray) : newC es s = if (tgetE es (upS s)).2 = false then 2 else if (tgetE es (upS s)).1.d = false then 3 else if (tgetE es s).2 = true then 4 else if 16 ≤ es.length then 8 else 0 := by
  unfold newC; rw [up_get h]
  have hg : getE es s = tgetE es s := by unfold tgetE; rw [if_pos h]
  rw [hg]
  by_cases h1 : (tgetE es (upS s)).2 = false
  · simp [h1]
  · by_cases h2 : (tgetE es (upS s)).1.d = false
    · simp [h1, h2]
    · simp [h1, h2]
theorem put_get {es : List E} (h : treeE es = true) (s : ByteArray) : putC es s = if (tgetE es (upS s)).2 = false then 2 else if (tgetE es (upS s)).1.d = false then 3 else if (tgetE es s).2 = true then (if (tgetE es s).1.d = true then 5 else 0) else if 16 ≤ es.length then 8 else 0 := by
  unfold putC
  have hg : getE es s = tgetE es s := by unfold tgetE; rw [if_pos h]
  rw [new_get h, hg]
  by_cases h1 : (tgetE es (upS s)).2 = false
  · simp [h1]
  · by_cases h2 : (tgetE es (upS s)).1.d = false
    · simp [h1, h2]
    · by_cases h3 : (tgetE es s).2 = true
      · simp [h1, h2, h3]
      · by_cases h4 : 16 ≤ es.length
        · simp [h1, h2, h3, h4]
        · simp [h1, h2, h3, h4]
theorem off_get {es : List E} (h : treeE es = true) (k : Int) {s : ByteArray} (hp : pathB s = true) : offC es k s = if (tgetE es s).2 = false then 2 else if k = 3 ∧ (tgetE es s).1.d = true then 5 else if k = 4 ∧ (tgetE es s).1.d = false then 3 else if 0 < (listE es s).length then 6 else 0 := by
  have hg : getE es s = tgetE es s := by unfold tgetE; rw [if_pos h]
  obtain ⟨T, _⟩ := treeE_tr h
  unfold offC
  rw [hg]
  cases hl : lookE es s with
  | none => rw [tget_none h hp hl]; simp
  | some f =>
    obtain ⟨h1, h2⟩ := look_mem hl
    have hk := (list_self h h1).2
    rw [h2] at hk
    rw [hk]
theorem move_noneD {es : List E} (h : treeE es = true) {f t : ByteArray} (hf : (tgetE es f).2 = false) : moveC es f t = 2 := by
  have hg : getE es f = tgetE es f := by unfold tgetE; rw [if_pos h]
  unfold moveC; rw [hg, hf]; rfl
theorem codeC_do {es : List E} {q : O} (h : treeE es = true) (ho : opB q = true) : doC es q = codeC es q.k q.p q.t := by unfold doC; rw [h, ho]; rfl
end Go.Proofs.YtbcogekeoklddaaDoor
