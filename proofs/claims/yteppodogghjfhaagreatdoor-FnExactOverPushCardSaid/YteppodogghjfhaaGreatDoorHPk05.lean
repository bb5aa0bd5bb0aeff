import Derived.Test.YteppodogghjfhaaGreatDoorHPk00
import Derived.Laws.Cover1
namespace Go.Proofs.YteppodogghjfhaaGreatDoor
/-! ### Joined -/
theorem name_bytes {n : ByteArray} (h : nameB n = true) : ∀ i, i < n.size → low (n.get! i) = true := by
 intro i hi; unfold nameB at h; rw [Bool.and_eq_true] at h; rw [get_plus n i hi]; exact List.all_eq_true.1 h.2 _ (by rw [show n[i] = (L n)[i]'(by rw [L_len]; exact hi) from rfl]; exact List.getElem_mem _)
theorem low_not {c : UInt8} (h : low c = true) : c ≠ 47 := by
 rintro rfl; revert h; decide
theorem join_parts {d n : ByteArray} (h : joinOk d n = true) : stemOk d = true ∧ nameB n = true ∧ pathB (joinI d n) = true ∧ joinS d n = joinI d n := by
 have h' := h; unfold joinOk at h; rw [Bool.and_eq_true, Bool.and_eq_true] at h; exact ⟨h.1.1, h.1.2, h.2, by unfold joinS; rw [h', if_pos rfl]⟩
theorem join_last {d n : ByteArray} (h : joinOk d n = true) : lastS (joinI d n) = ((stemS d).size : Nat) := by
 obtain ⟨h1, h2, h3, _⟩ := join_parts h; have hz : (stemS d ++ ⟨#[47]⟩ : ByteArray).size = (stemS d).size + 1 := by rw [ByteArray.size_append]; rfl
 have hzz : (joinI d n).size = (stemS d).size + 1 + n.size := by unfold joinI; rw [ByteArray.size_append, hz]
 refine last_eq h3 _ (by omega) ?_ ?_
 ·
  unfold joinI; rw [get_app_l _ _ _ (by omega), get_app_r _ _ _ (Nat.le_refl _), Nat.sub_self]; rfl
 ·
  intro j hj hj'; unfold joinI; rw [get_app_r _ _ _ (by omega), hz]; exact low_not (name_bytes h2 _ (by omega))
theorem join_up {d n : ByteArray} (h : joinOk d n = true) : upS (joinI d n) = d ∧ nmS (joinI d n) = n := by
 obtain ⟨h1, h2, h3, _⟩ := join_parts h; have hl := join_last h
 constructor
 ·
  refine stem_inj (up_facts h3).1 h1 ?_; rw [(up_facts h3).2.1, hl]; unfold joinI
  have e : (stemS d ++ ⟨#[47]⟩ ++ n : ByteArray) = stemS d ++ (⟨#[47]⟩ ++ n) := by
   apply L_inj; rw [L_app, L_app, L_app, L_app, List.append_assoc]
  rw [e]; exact app_ext_l _ _
 ·
  unfold nmS; rw [h3, if_pos rfl, hl]; have hz : (stemS d ++ ⟨#[47]⟩ : ByteArray).size = (stemS d).size + 1 := by rw [ByteArray.size_append]; rfl
  have := app_ext_r (stemS d ++ ⟨#[47]⟩) n 0; rw [hz, ext_all] at this; exact this
theorem less_app : ∀ (b : List UInt8) (y : UInt8) (r : List UInt8), Op.bytesLess b (b ++ y :: r) = true
 | [], _, _ => rfl
 | h :: b, y, r => by
  show (decide (h < h) || (h == h && Op.bytesLess b (b ++ y :: r))) = true
  rw [less_app b y r, beq_self_eq_true]; simp
theorem less_total : ∀ (a b : List UInt8), Op.bytesLess a b = false → a ≠ b → Op.bytesLess b a = true
 | [], [], _, h => absurd rfl h
 | [], _ :: _, h, _ => by cases h
 | _ :: _, [], _, _ => rfl
 | x :: a, y :: b, h, hne => by
  have h' : (decide (x < y) || (x == y && Op.bytesLess a b)) = false := h; show (decide (y < x) || (y == x && Op.bytesLess b a)) = true
  rw [Bool.or_eq_false_iff, decide_eq_false_iff_not] at h'; obtain ⟨h1, h2⟩ := h'; by_cases e : x = y
  ·
   subst e; rw [beq_self_eq_true, Bool.true_and] at h2; rw [less_total a b h2 (fun q => hne (by rw [q])), beq_self_eq_true]; simp
  ·
   have : y < x := by
    rw [UInt8.lt_iff_toNat_lt] at *; have : x.toNat ≠ y.toNat := fun q => e (UInt8.toNat_inj.1 q); omega
   rw [decide_eq_true this]; rfl
theorem pre_list {a b : ByteArray} (h : Pre a b) : ∃ r, L a = L b ++ 47 :: r := by
 obtain ⟨h1, h2, h3⟩ := h; refine ⟨(L a).drop (b.size + 1), ?_⟩; rw [get_plus a b.size h1] at h3; have e : (L a).drop b.size = 47 :: (L a).drop (b.size + 1) := by rw [drop_at a b.size h1, h3]
 rw [← e]
 have e2 : L b = (L a).take b.size := by
  have := congrArg L h2; rw [L_ext, List.drop_zero, Nat.sub_zero] at this; exact this.symm
 rw [e2, List.take_append_drop]
theorem list_pre {a b : ByteArray} {r : List UInt8} (h : L a = L b ++ 47 :: r) : Pre a b := by
 have hz : a.size = b.size + (r.length + 1) := by
  rw [← L_len, h, List.length_append, L_len, List.length_cons]
 refine ⟨by omega, ?_, ?_⟩
 ·
  apply L_inj
  rw [L_ext, List.drop_zero, Nat.sub_zero, h, ← L_len b, List.take_left']; rfl
 ·
  rw [gE, h, List.getElem?_append_right (by rw [L_len]; exact Nat.le_refl _), L_len, Nat.sub_self]; rfl
theorem order_up {a b : ByteArray} (hb : pathB b = true) (h : underI a b = true) : Op.bytesLess b.toList a.toList = true := by
 obtain ⟨_, _, k⟩ := (underI_iff _ _).1 h; rw [stem_path hb] at k; obtain ⟨r, hr⟩ := pre_list k; rw [Lib.toList_data, Lib.toList_data]; show Op.bytesLess (L b) (L a) = true
 rw [hr]; exact less_app _ _ _
def lookE (es : List E) (s : ByteArray) : Option E := es.find? (fun e => decide (e.p = s))
theorem look_mem {es : List E} {s : ByteArray} {e : E} (h : lookE es s = some e) : e ∈ es ∧ e.p = s :=
 ⟨List.mem_of_find?_eq_some h, by have := List.find?_some h; exact of_decide_eq_true this⟩
theorem look_none {es : List E} {s : ByteArray} : lookE es s = none ↔ ∀ e ∈ es, e.p ≠ s := by
 unfold lookE; rw [List.find?_eq_none]; simp
theorem beqL (a b : ByteArray) : (a.toList == b.toList) = decide (a = b) := by
 rw [Bool.eq_iff_iff, beq_iff_eq, decide_eq_true_iff]; exact ⟨toList_inj, fun h => by rw [h]⟩
theorem findL_look (s : ByteArray) : ∀ (es : List E) (k : Nat), (findL s es k = -1 ∧ lookE es s = none) ∨ ∃ (j : Nat) (h : j < es.length), findL s es k = ((k + j : Nat) : Int) ∧ lookE es s = some es[j]
 | [], _ => .inl ⟨rfl, rfl⟩
 | e :: r, k => by
  unfold findL lookE; rw [beqL, List.find?_cons]; by_cases h : e.p = s
  ·
   right; refine ⟨0, by simp, ?_, ?_⟩ <;> simp [h]
  ·
   rcases findL_look s r (k + 1) with ⟨h1, h2⟩ | ⟨j, hj, h1, h2⟩
   ·
    left; unfold lookE at h2; simp [h, h1, h2]
   ·
    right; unfold lookE at h2
    refine ⟨j + 1, by simp; omega, ?_, ?_⟩
    ·
     simp [h, h1]; omega
    ·
     simp [h, h2]
theorem getE_look {es : List E} {s : ByteArray} (h : isRoot s = false) : getE es s = ((lookE es s).getD noneE, (lookE es s).isSome) := by
 rcases findL_look s es 0 with ⟨h1, h2⟩ | ⟨j, hj, h1, h2⟩
 ·
  rw [getE_no h h1, h2]; rfl
 ·
  rw [getE_at h hj (by unfold findE; rw [h1]; simp), h2]; rfl
theorem dirE_look (es : List E) (s : ByteArray) : dirE es s = (isRoot s || ((lookE es s).map (·.d)).getD false) := by
 unfold dirE; rcases findL_look s es 0 with ⟨h1, h2⟩ | ⟨j, hj, h1, h2⟩
 ·
  rw [h2, show findE es s = -1 from h1]; cases es[((-1 : Int)).toNat]? <;> simp
 ·
  rw [h2, show findE es s = (j : Int) from by unfold findE; rw [h1]; simp]; have : es[((j : Nat) : Int).toNat]? = some es[j] := by rw [show ((j : Nat) : Int).toNat = j from rfl, List.getElem?_eq_getElem hj]
  rw [this]; simp
/-! ### The order of the bytes -/
def less (a b : ByteArray) : Prop := Op.bytesLess a.toList b.toList = true
theorem less_L {a b : ByteArray} : less a b ↔ Op.bytesLess (L a) (L b) = true := by unfold less; rw [Lib.toList_data, Lib.toList_data]
theorem bless_irrefl : ∀ a : List UInt8, Op.bytesLess a a = false
 | [] => rfl
 | x :: a => by
  show (decide (x < x) || (x == x && Op.bytesLess a a)) = false
  rw [bless_irrefl a]; simp
theorem bless_trans : ∀ a b c : List UInt8, Op.bytesLess a b = true → Op.bytesLess b c = true → Op.bytesLess a c = true
 | [], [], _, h, _ => by cases h
 | [], _ :: _, [], _, h => by cases h
 | [], _ :: _, _ :: _, _, _ => rfl
 | _ :: _, [], _, h, _ => by cases h
 | _ :: _, _ :: _, [], _, h => by cases h
 | x :: a, y :: b, z :: c, h1, h2 => by
  have h1' : (decide (x < y) || (x == y && Op.bytesLess a b)) = true := h1; have h2' : (decide (y < z) || (y == z && Op.bytesLess b c)) = true := h2; show (decide (x < z) || (x == z && Op.bytesLess a c)) = true
  rw [Bool.or_eq_true, decide_eq_true_eq, Bool.and_eq_true, beq_iff_eq] at h1' h2' ⊢; rw [UInt8.lt_iff_toNat_lt] at *; rcases h1' with p | p
  ·
   rcases h2' with q | q
   ·
    left; omega
   ·
    left; rw [← q.1]; exact p
  ·
   rcases h2' with q | q
   ·
    left; rw [p.1]; exact q
   ·
    right; exact ⟨p.1.trans q.1, bless_trans a b c p.2 q.2⟩
theorem less_irrefl (a : ByteArray) : ¬ less a a := by unfold less; rw [bless_irrefl]; simp
theorem less_trans {a b c : ByteArray} (h : less a b) (k : less b c) : less a c := bless_trans _ _ _ h k
theorem less_or {a b : ByteArray} (h : a ≠ b) : less a b ∨ less b a := by
 by_cases k : less a b
 ·
  exact .inl k
 ·
  exact .inr (less_total _ _ (by unfold less at k; simpa using k) (fun e => h (toList_inj e)))
theorem rising_ext {α : Type} {r : α → α → Prop} (irr : ∀ a, ¬ r a a) (tr : ∀ {a b c}, r a b → r b c → r a c) : ∀ (xs ys : List α), xs.Pairwise r → ys.Pairwise r → (∀ a, a ∈ xs ↔ a ∈ ys) → xs = ys
 | [], [], _, _, _ => rfl
 | [], y :: ys, _, _, h => by have := (h y).2 List.mem_cons_self; cases this
 | x :: xs, [], _, _, h => by have := (h x).1 List.mem_cons_self; cases this
 | x :: xs, y :: ys, hx, hy, h => by
  obtain ⟨hx1, hx2⟩ := List.pairwise_cons.1 hx; obtain ⟨hy1, hy2⟩ := List.pairwise_cons.1 hy
  have e : x = y := by
   rcases List.mem_cons.1 ((h x).1 List.mem_cons_self) with e | h1
   ·
    exact e
   ·
    rcases List.mem_cons.1 ((h y).2 List.mem_cons_self) with e | h2
    ·
     exact e.symm
    ·
     exact absurd (tr (hx1 y h2) (hy1 x h1)) (irr x)
  subst e; refine congrArg (x :: ·) (rising_ext irr tr xs ys hx2 hy2 fun a => ?_)
  constructor
  ·
   intro ha; rcases List.mem_cons.1 ((h a).1 (List.mem_cons_of_mem _ ha)) with e | h1
   ·
    subst e; exact absurd (hx1 a ha) (irr a)
   ·
    exact h1
  ·
   intro ha; rcases List.mem_cons.1 ((h a).2 (List.mem_cons_of_mem _ ha)) with e | h1
   ·
    subst e; exact absurd (hy1 a ha) (irr a)
   ·
    exact h1
/-! ### A right tree -/
structure TrE (es : List E) : Prop where
 path : ∀ e ∈ es, pathB e.p = true
 sort : es.Pairwise (fun a b => less a.p b.p)
 up : ∀ e ∈ es, dirE es (upS e.p) = true
 data : ∀ e ∈ es, dataB e.x = true ∧ (e.d = true → e.x = ⟨#[]⟩)
theorem TrE.nil : TrE [] := ⟨by simp, by simp, by simp, by simp⟩
theorem look_self {es : List E} (h : es.Pairwise (fun a b => less a.p b.p)) {e : E} (he : e ∈ es) : lookE es e.p = some e := by
 cases hl : lookE es e.p with
 | none => exact absurd rfl (look_none.1 hl e he)
 | some f =>
  obtain ⟨hf, hp⟩ := look_mem hl; by_cases hne : e = f
  ·
   rw [hne]
  ·
   exfalso
   have key : ∀ (l : List E), l.Pairwise (fun a b => less a.p b.p) → e ∈ l → f ∈ l → False := by
    intro l
    induction l with
    | nil => intro _ h; cases h
    | cons x r ih =>
     intro hl he hf; obtain ⟨h1, h2⟩ := List.pairwise_cons.1 hl; rcases List.mem_cons.1 he with e1 | e1
     ·
      rcases List.mem_cons.1 hf with e2 | e2
      ·
       exact hne (e1.trans e2.symm)
      ·
       have := h1 f e2; rw [← e1, hp] at this; exact less_irrefl _ this
     ·
      rcases List.mem_cons.1 hf with e2 | e2
      ·
       have := h1 e e1; rw [← e2, hp] at this; exact less_irrefl _ this
      ·
       exact ih h2 e1 e2
   exact key es h he hf
theorem look_iff {es : List E} (h : es.Pairwise (fun a b => less a.p b.p)) (s : ByteArray) (e : E) : lookE es s = some e ↔ e ∈ es ∧ e.p = s :=
 ⟨look_mem, fun ⟨h1, h2⟩ => by rw [← h2]; exact look_self h h1⟩
theorem dir_look {es : List E} {s : ByteArray} (h : dirE es s = true) : s = ⟨#[47]⟩ ∨ ∃ e, lookE es s = some e ∧ e.d = true := by
 rw [dirE_look, Bool.or_eq_true] at h; rcases h with h | h
 ·
  exact .inl ((isRoot_iff s).1 h)
 ·
  cases hl : lookE es s with
  | none => rw [hl] at h; cases h
  | some e => rw [hl] at h; exact .inr ⟨e, rfl, h⟩
theorem look_dir {es : List E} {s : ByteArray} (h : s = ⟨#[47]⟩ ∨ ∃ e, lookE es s = some e ∧ e.d = true) : dirE es s = true := by
 rw [dirE_look, Bool.or_eq_true]; rcases h with h | ⟨e, h, hd⟩
 ·
  exact .inl ((isRoot_iff s).2 h)
 ·
  exact .inr (by rw [h]; exact hd)
theorem TrE.dirOk {es : List E} (T : TrE es) {s : ByteArray} (h : dirE es s = true) : stemOk s = true := by
 rcases dir_look h with rfl | ⟨e, h, _⟩
 ·
  unfold stemOk; rw [root_root]; rfl
 ·
  obtain ⟨h1, h2⟩ := look_mem h; exact stemOk_path (by rw [← h2]; exact T.path e h1)
theorem look_append (es fs : List E) (s : ByteArray) : lookE (es ++ fs) s = (lookE es s).or (lookE fs s) := by
 unfold lookE; rw [List.find?_append]
theorem dir_append {es fs : List E} {s : ByteArray} (h : dirE es s = true) : dirE (es ++ fs) s = true := by
 rcases dir_look h with e | ⟨e, h, hd⟩
 ·
  exact look_dir (.inl e)
 ·
  exact look_dir (.inr ⟨e, by rw [look_append, h]; rfl, hd⟩)
theorem notEmpty {x : ByteArray} : x.toList.isEmpty = true ↔ x = ⟨#[]⟩ := by
 rw [List.isEmpty_iff]; exact ⟨fun h => toList_inj (h.trans (by rw [Lib.toList_data])), fun h => by rw [h, Lib.toList_data]⟩
theorem tr_snoc {es : List E} {e : E} (T : TrE es) (h1 : pathB e.p = true) (h2 : dataB e.x = true) (h3 : e.d = true → e.x = ⟨#[]⟩) (h4 : ∀ f ∈ es, less f.p e.p) (h5 : dirE es (upS e.p) = true) : TrE (es ++ [e]) where
 path f hf := by
  rcases List.mem_append.1 hf with hf | hf
  ·
   exact T.path f hf
  ·
   rw [List.mem_singleton.1 hf]; exact h1
 sort := by
  rw [List.pairwise_append]; exact ⟨T.sort, by simp, fun a ha b hb => by rw [List.mem_singleton.1 hb]; exact h4 a ha⟩
 up f hf := by
  rcases List.mem_append.1 hf with hf | hf
  ·
   exact dir_append (T.up f hf)
  ·
   rw [List.mem_singleton.1 hf]; exact dir_append h5
 data f hf := by
  rcases List.mem_append.1 hf with hf | hf
  ·
   exact T.data f hf
  ·
   rw [List.mem_singleton.1 hf]; exact ⟨h2, h3⟩
theorem last_less {es : List E} (h : es.Pairwise (fun a b => less a.p b.p)) {k : Nat} (hk : k < es.length) {s : ByteArray} (hl : es.length = k + 1) (hs : less es[k].p s) : ∀ f ∈ es, less f.p s := by
 intro f hf; obtain ⟨i, hi, rfl⟩ := List.getElem_of_mem hf; by_cases e : i = k
 ·
  subst e; exact hs
 ·
  exact less_trans (List.pairwise_iff_getElem.1 h i k hi hk (by omega)) hs
theorem okAt_parts {es : List E} {i : Nat} (hi : i < es.length) : okAt es i = true ↔ pathB es[i].p = true ∧ dataB es[i].x = true ∧ (es[i].d = true → es[i].x = ⟨#[]⟩) ∧ (i = 0 ∨ ∃ h : i - 1 < es.length, less es[i - 1].p es[i].p) ∧ dirE (es.take i) (upS es[i].p) = true := by
 rw [okAt_is hi]; simp only [Bool.and_eq_true, Bool.or_eq_true, Bool.not_eq_true', Bool.and_eq_false_iff, beq_iff_eq]; have hi1 : i - 1 < es.length := by omega
 rw [List.getElem?_eq_getElem hi1]; refine ⟨fun ⟨a, b, c, d, e⟩ => ⟨a, b, fun hd => ?_, ?_, e⟩, fun ⟨a, b, c, d, e⟩ => ⟨a, b, ?_, ?_, e⟩⟩
 ·
  rcases c with c | c
  ·
   rw [hd] at c; cases c
  ·
   exact notEmpty.1 (by simpa using c)
 ·
  rcases d with d | d
  ·
   exact .inl d
  ·
   exact .inr ⟨hi1, d⟩
 ·
  cases hd : es[i].d with
  | false => exact .inl rfl
  | true => exact .inr (by rw [notEmpty.2 (c hd)]; rfl)
 ·
  rcases d with d | ⟨_, d⟩
  ·
   exact .inl d
  ·
   exact .inr d
theorem tr_take {es : List E} : ∀ k, k ≤ es.length → (List.range k).all (okAt es) = true → TrE (es.take k)
 | 0, _, _ => by rw [List.take_zero]; exact TrE.nil
 | k + 1, hk, h => by
  rw [List.range_succ, List.all_append, Bool.and_eq_true] at h; have T := tr_take k (by omega) h.1; have hk' : k < es.length := by omega
  obtain ⟨a, b, c, d, e⟩ := (okAt_parts hk').1 (by simpa using h.2); rw [List.take_succ_eq_append_getElem hk']; refine tr_snoc T a b c ?_ e; rcases d with d | ⟨d1, d⟩
  ·
   subst d; intro f hf; rw [List.take_zero] at hf; cases hf
  ·
   by_cases k0 : k = 0
   ·
    subst k0; intro f hf; rw [List.take_zero] at hf; cases hf
   ·
    exact last_less T.sort (k := k - 1) (by rw [List.length_take]; omega) (by rw [List.length_take]; omega) (by rw [List.getElem_take]; exact d)
theorem treeE_tr {es : List E} (h : treeE es = true) : TrE es ∧ es.length ≤ 16 := by
 unfold treeE at h; rw [Bool.and_eq_true] at h; refine ⟨?_, of_decide_eq_true h.1⟩; have := tr_take es.length (Nat.le_refl _) h.2
 rwa [List.take_length] at this
theorem TrE.treeE {es : List E} (T : TrE es) (hl : es.length ≤ 16) : treeE es = true := by
 unfold Proofs.YteppodogghjfhaaGreatDoor.treeE; rw [Bool.and_eq_true]; refine ⟨decide_eq_true hl, ?_⟩; rw [List.all_eq_true]; intro i hi; rw [List.mem_range] at hi; have hm : es[i] ∈ es := List.getElem_mem hi; refine (okAt_parts hi).2 ⟨T.path _ hm, (T.data _ hm).1, (T.data _ hm).2, ?_, ?_⟩
 ·
  by_cases i0 : i = 0
  ·
   exact .inl i0
  ·
   exact .inr ⟨by omega, List.pairwise_iff_getElem.1 T.sort (i - 1) i (by omega) hi (by omega)⟩
 ·
  rcases dir_look (T.up _ hm) with e | ⟨e, hl, hd⟩
  ·
   exact look_dir (.inl e)
  ·
   refine look_dir (.inr ⟨e, ?_, hd⟩); obtain ⟨he, hp⟩ := look_mem hl; have hs := T.sort; obtain ⟨j, hj, rfl⟩ := List.getElem_of_mem he
   have hji : j < i := by
    have hup : pathB (upS es[i].p) = true := by rw [← hp]; exact T.path _ he
    have h1 : less es[j].p es[i].p := by rw [hp]; exact order_up hup (up_under (T.path _ hm))
    rcases Nat.lt_trichotomy j i with h | h | h
    ·
     exact h
    ·
     subst h; exact absurd h1 (less_irrefl _)
    ·
     exact absurd (less_trans h1 (List.pairwise_iff_getElem.1 hs i j hi hj h)) (less_irrefl _)
   rw [← hp]; refine look_self (hs.sublist (List.take_sublist i es)) ?_; rw [List.mem_take_iff_getElem]; exact ⟨j, by omega, rfl⟩
theorem bless_pre : ∀ (x a b : List UInt8), Op.bytesLess (x ++ a) (x ++ b) = Op.bytesLess a b
 | [], _, _ => rfl
 | y :: x, a, b => by
  show (decide (y < y) || (y == y && Op.bytesLess (x ++ a) (x ++ b))) = _
  rw [bless_pre x a b]; simp
theorem bless_ext : ∀ (a b r1 r2 : List UInt8), (∀ y ∈ b, 47 < y.toNat) → Op.bytesLess a b = true → (r1 = [] ∨ ∃ r, r1 = 47 :: r) → Op.bytesLess (a ++ r1) (b ++ r2) = true
 | [], [], _, _, _, h, _ => by cases h
 | [], y :: b, r1, r2, hb, _, hr => by
  rcases hr with rfl | ⟨r, rfl⟩
  ·
   rfl
  ·
   show (decide ((47 : UInt8) < y) || _) = true
   have := hb y List.mem_cons_self; rw [decide_eq_true (by rw [UInt8.lt_iff_toNat_lt]; exact this)]; rfl
 | _ :: _, [], _, _, _, h, _ => by cases h
 | x :: a, y :: b, r1, r2, hb, h, hr => by
  have h' : (decide (x < y) || (x == y && Op.bytesLess a b)) = true := h; show (decide (x < y) || (x == y && Op.bytesLess (a ++ r1) (b ++ r2))) = true
  rw [Bool.or_eq_true, decide_eq_true_eq, Bool.and_eq_true] at h' ⊢; rcases h' with p | p
  ·
   exact .inl p
  ·
   exact .inr ⟨p.1, bless_ext a b r1 r2 (fun z hz => hb z (List.mem_cons_of_mem _ hz)) p.2 hr⟩
theorem L_join (p n : ByteArray) : L (joinI p n) = L (stemS p) ++ 47 :: L n := by
 unfold joinI; rw [L_app, L_app, List.append_assoc]; rfl
theorem name_high {n : ByteArray} (h : nameB n = true) : ∀ y ∈ L n, 47 < y.toNat := by
 intro y hy; unfold nameB at h; rw [Bool.and_eq_true, List.all_eq_true] at h; have := h.2 y hy; unfold low at this; have := (of_decide_eq_true this).1; omega
theorem less_join {p n m : ByteArray} : less (joinI p n) (joinI p m) ↔ less n m := by
 rw [less_L, less_L, L_join, L_join, bless_pre, show (47 :: L n) = [47] ++ L n from rfl, show (47 :: L m) = [47] ++ L m from rfl, bless_pre]
theorem join_ok {p n : ByteArray} (hp : stemOk p = true) (hn : nameB n = true) (h : pathB (joinI p n) = true) : joinOk p n = true := by
 unfold joinOk; rw [hp, hn, h]; rfl
/-! ### What is in a directory -/
theorem kid_iff (s : ByteArray) (e : E) : kidB s e = true ↔ upS e.p = s := by
 unfold kidB; rw [beq_iff_eq]; exact ⟨toList_inj, fun h => by rw [h]⟩
theorem kids_mem {es : List E} (T : TrE es) {p : ByteArray} (hp : stemOk p = true) (n : ByteArray) : n ∈ kidsE es p ↔ nameB n = true ∧ ∃ e, lookE es (joinI p n) = some e := by
 unfold kidsE; rw [List.mem_map]
 constructor
 ·
  rintro ⟨e, he, rfl⟩; obtain ⟨h1, h2⟩ := List.mem_filter.1 he; have hu := (kid_iff p e).1 h2; have hpe := T.path e h1; refine ⟨(up_facts hpe).2.2.1, e, ?_⟩; rw [← hu, up_join hpe]; exact look_self T.sort h1
 ·
  rintro ⟨hn, e, h⟩; obtain ⟨h1, h2⟩ := look_mem h; have hpe := T.path e h1; have hj := join_up (join_ok hp hn (by rw [← h2]; exact hpe)); exact ⟨e, List.mem_filter.2 ⟨h1, (kid_iff p e).2 (by rw [h2]; exact hj.1)⟩, by rw [h2]; exact hj.2⟩
theorem kids_rise {es : List E} (T : TrE es) {p : ByteArray} : (kidsE es p).Pairwise less := by
 unfold kidsE; rw [List.pairwise_map]; have h1 := T.sort.filter (kidB p); refine h1.imp_of_mem ?_; intro a b ha hb h; obtain ⟨a1, a2⟩ := List.mem_filter.1 ha; obtain ⟨b1, b2⟩ := List.mem_filter.1 hb; have ea := up_join (T.path a a1); have eb := up_join (T.path b b1); rw [(kid_iff p a).1 a2] at ea; rw [(kid_iff p b).1 b2] at eb; rw [← ea, ← eb] at h; exact less_join.1 h
/-! ### What is below a directory -/
def bel (es : List E) (p : ByteArray) : List E := es.filter (fun e => underI e.p p)
theorem bel_iff {es : List E} {p : ByteArray} {e : E} : e ∈ bel es p ↔ e ∈ es ∧ underI e.p p = true := List.mem_filter
theorem join_under {p n : ByteArray} (h : joinOk p n = true) : underI (joinI p n) p = true := by
 obtain ⟨h1, h2, h3, _⟩ := join_parts h; refine (underI_iff _ _).2 ⟨h1, h3, ?_⟩; exact list_pre (L_join p n)
theorem up_size {s : ByteArray} (h : pathB s = true) : (stemS (upS s)).size < s.size := (up_pre h).1
theorem below_kid {es : List E} (T : TrE es) {p : ByteArray} (hp : stemOk p = true) : ∀ (N : Nat) (e : E), e ∈ es → e.p.size ≤ N → underI e.p p = true → ∃ n ∈ kidsE es p, e.p = joinI p n ∨ underI e.p (joinI p n) = true
 | 0, e, he, hN, h => by have := pathB_head _ (T.path e he); omega
 | N + 1, e, he, hN, h => by
  have hpe := T.path e he; rcases (under_up hpe).1 h with e1 | e1
  ·
   refine ⟨nmS e.p, (kids_mem T hp _).2 ⟨(up_facts hpe).2.2.1, e, ?_⟩, .inl ?_⟩
   ·
    rw [e1, up_join hpe]; exact look_self T.sort he
   ·
    rw [e1, up_join hpe]
  ·
   rcases dir_look (T.up e he) with q | ⟨f, hf, _⟩
   ·
    obtain ⟨_, h2, _⟩ := (underI_iff _ _).1 e1; rw [q] at h2; have := path_not_root h2; rw [root_root] at this; cases this
   ·
    obtain ⟨f1, f2⟩ := look_mem hf; have hsz := up_size hpe; rw [stem_path (by rw [← f2]; exact T.path f f1)] at hsz; obtain ⟨n, hn, k⟩ := below_kid T hp N f f1 (by rw [f2]; omega) (by rw [f2]; exact e1); refine ⟨n, hn, .inr ?_⟩; rcases k with k | k
    ·
     rw [← k, f2]; exact up_under hpe
    ·
     exact under_trans (up_under hpe) (by rw [f2] at k; exact k)
theorem under_list {a b : ByteArray} (hb : pathB b = true) (h : a = b ∨ underI a b = true) : ∃ r, L a = L b ++ r ∧ (r = [] ∨ ∃ q, r = 47 :: q) := by
 rcases h with rfl | h
 ·
  exact ⟨[], by simp, .inl rfl⟩
 ·
  obtain ⟨_, _, k⟩ := (underI_iff _ _).1 h; rw [stem_path hb] at k; obtain ⟨r, hr⟩ := pre_list k; exact ⟨_, hr, .inr ⟨r, rfl⟩⟩
theorem bel_split {es : List E} (T : TrE es) {p : ByteArray} (hp : stemOk p = true) : bel es p = (kidsE es p).flatMap (fun n => (lookE es (joinI p n)).toList ++ bel es (joinI p n)) := by
 have hjoin : ∀ n ∈ kidsE es p, joinOk p n = true ∧ ∃ e, lookE es (joinI p n) = some e := fun n hn => by
  obtain ⟨h1, e, h2⟩ := (kids_mem T hp n).1 hn; obtain ⟨m1, m2⟩ := look_mem h2; exact ⟨join_ok hp h1 (by rw [← m2]; exact T.path e m1), e, h2⟩
 have hin : ∀ n ∈ kidsE es p, ∀ x ∈ (lookE es (joinI p n)).toList ++ bel es (joinI p n), x ∈ es ∧ (x.p = joinI p n ∨ underI x.p (joinI p n) = true) := fun n hn x hx => by
  rcases List.mem_append.1 hx with h | h
  ·
   have := look_mem (Option.mem_toList.1 h); exact ⟨this.1, .inl this.2⟩
  ·
   obtain ⟨h1, h2⟩ := bel_iff.1 h; exact ⟨h1, .inr h2⟩
 refine rising_ext (r := fun a b => less a.p b.p) (fun a => less_irrefl a.p) (fun {_ _ _} => less_trans) _ _ (T.sort.filter _) ?_ ?_
 ·
  rw [List.pairwise_flatMap]
  constructor
  ·
   intro n hn; obtain ⟨hj, e, he⟩ := hjoin n hn; obtain ⟨_, _, hjp, _⟩ := join_parts hj; rw [List.pairwise_append]; refine ⟨by rw [he]; simp, T.sort.filter _, fun a ha b hb => ?_⟩; have := look_mem (Option.mem_toList.1 ha); rw [this.2]; exact order_up hjp (bel_iff.1 hb).2
  ·
   refine (kids_rise T).imp_of_mem ?_; intro n m hn hm hless x hx y hy; obtain ⟨hj, _⟩ := hjoin n hn; obtain ⟨hj', _⟩ := hjoin m hm; obtain ⟨_, hn1, hp1, _⟩ := join_parts hj; obtain ⟨_, hm1, hp2, _⟩ := join_parts hj'; obtain ⟨r1, e1, k1⟩ := under_list hp1 (hin n hn x hx).2; obtain ⟨r2, e2, k2⟩ := under_list hp2 (hin m hm y hy).2; refine less_L.2 ?_; rw [e1, e2, L_join, L_join, List.append_assoc, List.append_assoc, bless_pre, show (47 :: L n) = [47] ++ L n from rfl, show (47 :: L m) = [47] ++ L m from rfl, List.append_assoc, List.append_assoc, bless_pre]; exact bless_ext _ _ _ _ (name_high hm1) (less_L.1 hless) k1
 ·
  intro x; rw [List.mem_flatMap]
  constructor
  ·
   intro hx; obtain ⟨h1, h2⟩ := bel_iff.1 hx; obtain ⟨n, hn, k⟩ := below_kid T hp x.p.size x h1 (Nat.le_refl _) h2; refine ⟨n, hn, List.mem_append.2 ?_⟩; rcases k with k | k
   ·
    left; rw [← k, look_self T.sort h1]; simp
   ·
    right; exact bel_iff.2 ⟨h1, k⟩
  ·
   rintro ⟨n, hn, hx⟩; obtain ⟨h1, h2⟩ := hin n hn x hx; obtain ⟨hj, _⟩ := hjoin n hn; refine bel_iff.2 ⟨h1, ?_⟩; rcases h2 with h2 | h2
   ·
    rw [h2]; exact join_under hj
   ·
    exact under_trans h2 (join_under hj)
theorem fmap_congr {α β : Type} {f g : α → List β} : ∀ (l : List α), (∀ a ∈ l, f a = g a) → l.flatMap f = l.flatMap g
 | [], _ => rfl
 | a :: l, h => by
  rw [List.flatMap_cons, List.flatMap_cons, h a List.mem_cons_self, fmap_congr l (fun b hb => h b (List.mem_cons_of_mem _ hb))]
def toldAt (p q : ByteArray) (e : E) : ByteArray × E := (q ++ e.p.extract (stemS p).size e.p.size, e)
def told (es : List E) (p q : ByteArray) : List (ByteArray × E) := (bel es p).map (toldAt p q)
def under1 (q n : ByteArray) : ByteArray := q ++ ⟨#[47]⟩ ++ n
theorem app_assoc' (a b c : ByteArray) : a ++ b ++ c = a ++ (b ++ c) := by
 apply L_inj; rw [L_app, L_app, L_app, L_app, List.append_assoc]
theorem join_rest (p n : ByteArray) : (joinI p n).extract (stemS p).size (joinI p n).size = ⟨#[47]⟩ ++ n := by
 unfold joinI; rw [app_assoc']; have := app_ext_r (stemS p) (⟨#[47]⟩ ++ n) 0; rw [Nat.add_zero] at this; rw [this, ext_all]
theorem told_split {es : List E} (T : TrE es) {p : ByteArray} (hp : stemOk p = true) (q : ByteArray) :
  told es p q = (kidsE es p).flatMap (fun n => ((lookE es (joinI p n)).toList.map (fun e => (under1 q n, e))) ++ told es (joinI p n) (under1 q n)) := by
 unfold told; rw [bel_split T hp, List.map_flatMap]; refine fmap_congr _ fun n hn => ?_; rw [List.map_append]; obtain ⟨hn1, e, he⟩ := (kids_mem T hp n).1 hn; obtain ⟨m1, m2⟩ := look_mem he; have hjp : pathB (joinI p n) = true := by rw [← m2]; exact T.path e m1
 congr 1
 ·
  rw [he]; simp only [Option.toList_some, List.map_cons, List.map_nil, toldAt]; rw [m2, join_rest]; unfold under1; rw [app_assoc']
 ·
  refine List.map_congr_left fun x hx => ?_; obtain ⟨x1, x2⟩ := bel_iff.1 hx; obtain ⟨_, _, k⟩ := (underI_iff _ _).1 x2; unfold toldAt; refine Prod.ext ?_ rfl; dsimp only; rw [stem_path hjp] at k ⊢
  apply L_inj
  unfold under1; obtain ⟨r, hr⟩ := pre_list k; have hs : (stemS p).size = (L (stemS p)).length := (L_len _).symm; have hj : (joinI p n).size = (L (joinI p n)).length := (L_len _).symm
  have e1 : L (x.p.extract (stemS p).size x.p.size) = (L x.p).drop (stemS p).size := by
   rw [L_ext, List.take_of_length_le]; rw [List.length_drop, L_len]; exact Nat.le_refl _
  have e2 : L (x.p.extract (joinI p n).size x.p.size) = (L x.p).drop (joinI p n).size := by
   rw [L_ext, List.take_of_length_le]; rw [List.length_drop, L_len]; exact Nat.le_refl _
  rw [L_app, L_app, L_app, L_app, e1, e2, hr, hj, List.drop_left, L_join, hs]; rw [List.append_assoc, List.drop_left]; simp [List.append_assoc]; rfl
theorem told_all {es : List E} (T : TrE es) : told es ⟨#[47]⟩ ⟨#[]⟩ = es.map (fun e => (e.p, e)) := by
 unfold told
 have : bel es ⟨#[47]⟩ = es := by
  unfold bel; rw [List.filter_eq_self]; intro e he; exact under_root (T.path e he)
 rw [this]; refine List.map_congr_left fun e _ => ?_; unfold toldAt; rw [stem_root, empty_app]; rw [show (ByteArray.mk #[]).size = 0 from rfl, ext_all]
theorem lev_le (s : ByteArray) : levS s ≤ 3 := by
 unfold levS
 split
 ·
  rename_i h
  unfold pathB okItems at h; rw [Bool.and_eq_true] at h; have := of_decide_eq_true h.2; omega
 ·
  decide
theorem under_lev : ∀ (N : Nat) (a b : ByteArray), a.size ≤ N → underI a b = true → levS b < levS a
 | 0, a, b, hN, h => by
  obtain ⟨_, h2, _⟩ := (underI_iff _ _).1 h; have := pathB_head _ h2; omega
 | N + 1, a, b, hN, h => by
  obtain ⟨_, h2, _⟩ := (underI_iff _ _).1 h; have hl := (up_facts h2).2.2.2; rcases (under_up h2).1 h with e | e
  ·
   rw [e, hl]; omega
  ·
   have hsz := up_size h2; obtain ⟨_, h3, _⟩ := (underI_iff _ _).1 e; rw [stem_path h3] at hsz; have := under_lev N (upS a) b (by omega) e; omega
def chain (xs : List (Int × ByteArray)) : ByteArray := xs.foldl (fun p x => joinI p x.2) ⟨#[47]⟩
theorem chain_snoc (xs : List (Int × ByteArray)) (x : Int × ByteArray) : chain (xs ++ [x]) = joinI (chain xs) x.2 := by
 unfold chain; rw [List.foldl_append]; rfl
theorem root_no_path : pathB ⟨#[47]⟩ = false := by
 cases hq : pathB ⟨#[47]⟩ with
 | false => rfl
 | true => have := path_not_root hq; rw [root_root] at this; cases this
theorem items_step {s : ByteArray} (h : pathB s = true) : (upS s = ⟨#[47]⟩ ∧ ∃ k, items s = [(k, nmS s)]) ∨ (pathB (upS s) = true ∧ ∃ k, items s = items (upS s) ++ [(k, nmS s)]) := by
 obtain ⟨m, hm, m1, m2, m3⟩ := last_is h; have en : nmS s = s.extract (m + 1) s.size := by unfold nmS; rw [h, if_pos rfl, hm]; rfl
 by_cases h0 : m = 0
 ·
  subst h0
  left
  refine ⟨by unfold upS; rw [h, if_pos rfl, hm]; rfl, 0, ?_⟩; rw [en, items_slash s m1 (by rw [← get0 s m1]; exact m2)]; exact itemsL_plain s _ 1 0 (no_stroke_list s 1 (fun j hj hj' => m3 j (by omega) hj'))
 ·
  right
  have eu : upS s = s.extract 0 m := by unfold upS; rw [h, if_pos rfl, hm, if_neg (by omega)]; rfl
  have ei := items_up m m1 (by omega) m2 m3; have hp := h; unfold pathB at hp; rw [ei] at hp; refine ⟨by rw [eu]; exact (ok_app hp).1, m, ?_⟩; rw [eu, en]; exact ei
theorem chain_pre : ∀ (N : Nat) (s : ByteArray), s.size ≤ N → pathB s = true → ∀ pre, pre <+: items s → pre ≠ [] → pathB (chain pre) = true ∧ (s = chain pre ∨ underI s (chain pre) = true) ∧ (pre = items s → chain pre = s)
 | 0, s, hN, h => by have := pathB_head _ h; omega
 | N + 1, s, hN, h => by
  intro pre hpre hne; rcases items_step h with ⟨hu, k, hi⟩ | ⟨hu, k, hi⟩
  ·
   have e : pre = [(k, nmS s)] := by
    rw [hi] at hpre; rcases List.prefix_concat_iff.1 (show pre <+: [] ++ [(k, nmS s)] from hpre) with e | e
    ·
     exact e
    ·
     exact absurd (List.prefix_nil.1 e) hne
   have : chain pre = s := by
    rw [e, show [(k, nmS s)] = [] ++ [(k, nmS s)] from rfl, chain_snoc]; show joinI ⟨#[47]⟩ (nmS s) = s
    rw [← hu]; exact up_join h
   exact ⟨by rw [this]; exact h, .inl this.symm, fun _ => this⟩
  ·
   have hsz := up_size h; rw [stem_path hu] at hsz; have ih := chain_pre N (upS s) (by omega) hu; rw [hi] at hpre; rcases List.prefix_concat_iff.1 hpre with e | e
   ·
    have hnn : items (upS s) ≠ [] := by
     intro e0; have := itemsL_pos (upS s) ((upS s).data.toList.drop 0) 0 (-1); unfold items itemsAt at e0; rw [e0] at this; simp at this
    have hc := (ih _ (List.prefix_refl _) hnn).2.2 rfl
    have : chain pre = s := by
     rw [e, chain_snoc, hc]; exact up_join h
    exact ⟨by rw [this]; exact h, .inl this.symm, fun _ => this⟩
   ·
    obtain ⟨h1, h2, h3⟩ := ih pre e hne; refine ⟨h1, .inr ?_, fun e' => ?_⟩
    ·
     rcases h2 with h2 | h2
     ·
      rw [← h2]; exact up_under h
     ·
      exact under_trans (up_under h) h2
    ·
     exfalso
     have l1 := e.length_le; rw [e', hi, List.length_append, List.length_singleton] at l1; omega
theorem items_ne (s : ByteArray) : items s ≠ [] := by
 intro e0; have := itemsL_pos s (s.data.toList.drop 0) 0 (-1); unfold items itemsAt at e0; rw [e0] at this; simp at this
theorem chain_items {s : ByteArray} (h : pathB s = true) : chain (items s) = s :=
 (chain_pre _ s (Nat.le_refl _) h _ (List.prefix_refl _) (items_ne s)).2.2 rfl
theorem chain_path {s : ByteArray} (h : pathB s = true) {pre : List (Int × ByteArray)} (hp : pre <+: items s) (hne : pre ≠ []) : pathB (chain pre) = true := (chain_pre _ s (Nat.le_refl _) h pre hp hne).1
theorem chain_over {s : ByteArray} (h : pathB s = true) {pre : List (Int × ByteArray)} (hp : pre <+: items s) (hne : pre ≠ []) : s = chain pre ∨ underI s (chain pre) = true := (chain_pre _ s (Nat.le_refl _) h pre hp hne).2.1
theorem item_name {s : ByteArray} (h : pathB s = true) {x : Int × ByteArray} (hx : x ∈ items s) : nameB x.2 = true := by
 unfold pathB okItems at h; rw [Bool.and_eq_true, List.all_eq_true] at h; have := h.1 x hx; unfold okItem at this; rw [Bool.and_eq_true] at this; exact this.2
theorem up_there {es : List E} (T : TrE es) {b : ByteArray} (hb : pathB b = true) : ∀ (N : Nat) (e : E), e.p.size ≤ N → e ∈ es → underI e.p b = true → ∃ f, lookE es b = some f ∧ f.d = true
 | 0, e, hN, he, h => by have := pathB_head _ (T.path e he); omega
 | N + 1, e, hN, he, h => by
  have hpe := T.path e he; rcases dir_look (T.up e he) with q | ⟨f, hf, hd⟩
  ·
   rcases (under_up hpe).1 h with e1 | e1
   ·
    rw [q] at e1; rw [e1, root_no_path] at hb; cases hb
   ·
    obtain ⟨_, h2, _⟩ := (underI_iff _ _).1 e1; rw [q, root_no_path] at h2; cases h2
  ·
   rcases (under_up hpe).1 h with e1 | e1
   ·
    rw [e1]; exact ⟨f, hf, hd⟩
   ·
    obtain ⟨f1, f2⟩ := look_mem hf; have hsz := up_size hpe; rw [stem_path (by rw [← f2]; exact T.path f f1)] at hsz; exact up_there T hb N f (by rw [f2]; omega) f1 (by rw [f2]; exact e1)
theorem gone_below {es : List E} (T : TrE es) {s b : ByteArray} (hb : pathB b = true) (h : s = b ∨ underI s b = true) (hl : lookE es b = none) : lookE es s = none := by
 rcases h with rfl | h
 ·
  exact hl
 ·
  cases hs : lookE es s with
  | none => rfl
  | some e =>
   obtain ⟨e1, e2⟩ := look_mem hs; obtain ⟨f, hf, _⟩ := up_there T hb _ e (Nat.le_refl _) e1 (by rw [e2]; exact h); rw [hl] at hf; cases hf
theorem look_kid {es : List E} (T : TrE es) {p n : ByteArray} (hp : stemOk p = true) (hn : nameB n = true) {e : E} (h : lookE es (joinI p n) = some e) : dirE es p = true := by
 obtain ⟨e1, e2⟩ := look_mem h; have hj := join_up (join_ok hp hn (by rw [← e2]; exact T.path e e1)); have := T.up e e1
 rwa [e2, hj.1] at this
theorem look_path {es : List E} (T : TrE es) {s : ByteArray} {e : E} (h : lookE es s = some e) : pathB s = true := by
 obtain ⟨e1, e2⟩ := look_mem h; rw [← e2]; exact T.path e e1
theorem look_bad {es : List E} (T : TrE es) {s : ByteArray} (h : pathB s = false) : lookE es s = none := by
 cases hl : lookE es s with
 | none => rfl
 | some e => rw [look_path T hl] at h; cases h
end Go.Proofs.YteppodogghjfhaaGreatDoor
namespace Go.Proofs.YteppodogghjfhaaGreatDoor.Mk
open Go.Lib
def lookE (es : List E) (s : ByteArray) : Option E := es.find? (fun e => decide (e.p = s))
theorem look_mem {es : List E} {s : ByteArray} {e : E} (h : lookE es s = some e) : e ∈ es ∧ e.p = s :=
 ⟨List.mem_of_find?_eq_some h, by have := List.find?_some h; simpa using this⟩
theorem look_none {es : List E} {s : ByteArray} : lookE es s = none ↔ ∀ e ∈ es, e.p ≠ s := by
 unfold lookE; rw [List.find?_eq_none]; simp
theorem look_append (es fs : List E) (s : ByteArray) : lookE (es ++ fs) s = (lookE es s).or (lookE fs s) := by
 unfold lookE; rw [List.find?_append]
theorem findL_look (s : ByteArray) : ∀ (es : List E) (k : Nat), (findL s es k = -1 ∧ lookE es s = none) ∨ ∃ (j : Nat) (h : j < es.length), findL s es k = ((k + j : Nat) : Int) ∧ lookE es s = some es[j]
 | [], _ => .inl ⟨rfl, rfl⟩
 | e :: r, k => by
  unfold findL; by_cases h : e.p = s
  ·
   have : (e.p.toList == s.toList) = true := by rw [beqL]; exact decide_eq_true h
   rw [if_pos this]; exact .inr ⟨0, Nat.succ_pos _, rfl, by unfold lookE; rw [List.find?_cons_of_pos (by simpa using h)]; rfl⟩
  ·
   have : ¬ (e.p.toList == s.toList) = true := by rw [beqL]; simpa using h
   rw [if_neg this]; have hl : lookE (e :: r) s = lookE r s := by unfold lookE; rw [List.find?_cons_of_neg (by simpa using h)]
   rw [hl]; rcases findL_look s r (k + 1) with ⟨h1, h2⟩ | ⟨j, hj, h1, h2⟩
   ·
    exact .inl ⟨h1, h2⟩
   ·
    exact .inr ⟨j + 1, Nat.succ_lt_succ hj, by rw [h1]; omega, h2⟩
theorem kind_look (es : List E) (s : ByteArray) : kindM es s = ((lookE es s).map (·.d)).getD 0 := by
 rcases findL_look s es 0 with ⟨h1, h2⟩ | ⟨j, hj, h1, h2⟩
 ·
  rw [kind_no h1, h2]; rfl
 ·
  rw [kind_at hj (by unfold findE; rw [h1]; omega), h2]; rfl
def dirK (d : Int) : Bool := (d == 2) || (d == 4)
structure TrM (es : List E) : Prop where
 path : ∀ e ∈ es, pathB e.p = true
 sort : es.Pairwise (fun a b => less a.p b.p)
 up : ∀ e ∈ es, upS e.p = ⟨#[47]⟩ ∨ ∃ f, lookE es (upS e.p) = some f ∧ dirK f.d = true
 kind : ∀ e ∈ es, 1 ≤ e.d ∧ e.d ≤ 4
theorem TrM.nil : TrM [] := ⟨by simp, by simp, by simp, by simp⟩
theorem look_self {es : List E} (h : es.Pairwise (fun a b => less a.p b.p)) {e : E} (he : e ∈ es) : lookE es e.p = some e := by
 cases hl : lookE es e.p with
 | none => exact absurd rfl (look_none.1 hl e he)
 | some f =>
  obtain ⟨hf, hp⟩ := look_mem hl; by_cases hne : e = f
  ·
   rw [hne]
  ·
   exfalso
   have key : ∀ (l : List E), l.Pairwise (fun a b => less a.p b.p) → e ∈ l → f ∈ l → False := by
    intro l
    induction l with
    | nil => intro _ h; cases h
    | cons x r ih =>
     intro hl he hf; obtain ⟨h1, h2⟩ := List.pairwise_cons.1 hl; rcases List.mem_cons.1 he with e1 | e1
     ·
      rcases List.mem_cons.1 hf with e2 | e2
      ·
       exact hne (e1.trans e2.symm)
      ·
       have := h1 f e2; rw [← e1, hp] at this; exact less_irrefl _ this
     ·
      rcases List.mem_cons.1 hf with e2 | e2
      ·
       have := h1 e e1; rw [← e2, hp] at this; exact less_irrefl _ this
      ·
       exact ih h2 e1 e2
   exact key es h he hf
theorem look_path {es : List E} (T : TrM es) {s : ByteArray} {e : E} (h : lookE es s = some e) : pathB s = true := by
 obtain ⟨e1, e2⟩ := look_mem h; rw [← e2]; exact T.path e e1
theorem look_bad {es : List E} (T : TrM es) {s : ByteArray} (h : pathB s = false) : lookE es s = none := by
 cases hl : lookE es s with
 | none => rfl
 | some e => rw [look_path T hl] at h; cases h
theorem look_up {es : List E} (T : TrM es) {s : ByteArray} (h : lookE es (upS s) = none) (hr : upS s ≠ ⟨#[47]⟩) : lookE es s = none := by
 cases hl : lookE es s with
 | none => rfl
 | some e =>
  obtain ⟨e1, e2⟩ := look_mem hl; rcases T.up e e1 with q | ⟨f, q, _⟩
  ·
   rw [e2] at q; exact absurd q hr
  ·
   rw [e2, h] at q; cases q
theorem inM_look {es : List E} {s : ByteArray} : inM es s = true ↔ upS s = ⟨#[47]⟩ ∨ ∃ f, lookE es (upS s) = some f ∧ dirK f.d = true := by
 unfold inM; rw [Bool.or_eq_true, isRoot_iff, kind_look]; cases lookE es (upS s) with
 | none => simp
 | some f => simp [dirK]
theorem up_bad {s : ByteArray} (h : pathB s = false) : upS s = ⟨#[]⟩ := by unfold upS; rw [h]; rfl
theorem nil_bad : pathB ⟨#[]⟩ = false := by
 cases h : pathB ⟨#[]⟩ with
 | false => rfl
 | true =>
  have h1 := (pathB_head _ h).1; have h2 : (⟨#[]⟩ : ByteArray).size = 0 := rfl; omega
theorem inM_path {es : List E} (T : TrM es) {s : ByteArray} (h : inM es s = true) : pathB s = true := by
 cases hp : pathB s with
 | true => rfl
 | false =>
  exfalso
  have hu := up_bad hp; rcases inM_look.1 h with q | ⟨f, q, _⟩
  ·
   rw [hu] at q; have := congrArg ByteArray.size q; have h1 : (⟨#[]⟩ : ByteArray).size = 0 := rfl; have h2 : (⟨#[47]⟩ : ByteArray).size = 1 := rfl; omega
  ·
   rw [hu, look_bad T nil_bad] at q; cases q
theorem tr_snoc {es : List E} {e : E} (T : TrM es) (h4 : ∀ f ∈ es, less f.p e.p) (h5 : inM es e.p = true) (h6 : 1 ≤ e.d ∧ e.d ≤ 4) : TrM (es ++ [e]) where
 path f hf := by
  rcases List.mem_append.1 hf with hf | hf
  ·
   exact T.path f hf
  ·
   rw [List.mem_singleton.1 hf]; exact inM_path T h5
 sort := by
  rw [List.pairwise_append]; exact ⟨T.sort, by simp, fun a ha b hb => by rw [List.mem_singleton.1 hb]; exact h4 a ha⟩
 up f hf := by
  have key : ∀ s, (upS s = ⟨#[47]⟩ ∨ ∃ f, lookE es (upS s) = some f ∧ dirK f.d = true) → (upS s = ⟨#[47]⟩ ∨ ∃ f, lookE (es ++ [e]) (upS s) = some f ∧ dirK f.d = true) := fun s h =>
   h.imp id fun ⟨f, h1, h2⟩ => ⟨f, by rw [look_append, h1]; rfl, h2⟩
  rcases List.mem_append.1 hf with hf | hf
  ·
   exact key _ (T.up f hf)
  ·
   rw [List.mem_singleton.1 hf]; exact key _ (inM_look.1 h5)
 kind f hf := by
  rcases List.mem_append.1 hf with hf | hf
  ·
   exact T.kind f hf
  ·
   rw [List.mem_singleton.1 hf]; exact h6
theorem last_less {es : List E} (h : es.Pairwise (fun a b => less a.p b.p)) {k : Nat} (hk : k < es.length) {s : ByteArray} (hl : es.length = k + 1) (hs : less es[k].p s) : ∀ f ∈ es, less f.p s := by
 intro f hf; obtain ⟨i, hi, rfl⟩ := List.getElem_of_mem hf; by_cases e : i = k
 ·
  subst e; exact hs
 ·
  exact less_trans (List.pairwise_iff_getElem.1 h i k hi hk (by omega)) hs
def lastP (es : List E) (k : Nat) : ByteArray := match k with
 | 0 => ⟨#[]⟩
 | j + 1 => ((es[j]?).map (·.p)).getD ⟨#[]⟩
theorem lastP_succ {es : List E} {k : Nat} (h : k < es.length) : lastP es (k + 1) = es[k].p := by
 show ((es[k]?).map (·.p)).getD ⟨#[]⟩ = _
 rw [List.getElem?_eq_getElem h]; rfl
theorem take_less {es : List E} {k : Nat} (h : k < es.length) (T : TrM (es.take k)) (hl : less (lastP es k) es[k].p) : ∀ f ∈ es.take k, less f.p es[k].p := by
 cases k with
 | zero => intro f hf; rw [List.take_zero] at hf; cases hf
 | succ j =>
  rw [lastP_succ (by omega)] at hl; exact last_less T.sort (k := j) (by rw [List.length_take]; omega) (by rw [List.length_take]; omega) (by rw [List.getElem_take]; exact hl)
def signB (d : Int) (x : ByteArray) : Bool := if d = 1 then dataB x else ((d == 2) || ((d == 3) || (d == 4))) && (x.toList == [])
def takesM (es : List E) (p : ByteArray) (d : Int) : Bool := inM es p && (!bareM es p || decide (d ≤ 2))
theorem data_nil : dataB ⟨#[]⟩ = true := by
 unfold dataB; rfl
theorem okM_less {es : List E} {k : Nat} (h : k < es.length) (T : TrM (es.take k)) (hl : less (lastP es k) es[k].p) : okM es k = (signB es[k].d es[k].x && takesM (es.take k) es[k].p es[k].d) := by
 rw [okM_is h]
 have hord : (k == 0 || Op.bytesLess ((es[k - 1]?.map (·.p.toList)).getD []) es[k].p.toList) = true := by
  cases k with
  | zero => rfl
  | succ j =>
   rw [lastP_succ (by omega)] at hl; have e1 : es[j + 1 - 1]? = some es[j] := by rw [show j + 1 - 1 = j from rfl, List.getElem?_eq_getElem (by omega)]
   rw [e1]; rw [Bool.or_eq_true]; exact .inr hl
 rw [hord, Bool.true_and]; unfold takesM; cases hi : inM (es.take k) es[k].p with
 | false => simp
 | true =>
  rw [inM_path T hi]; rw [Bool.true_and, Bool.true_and, Bool.true_and]; obtain ⟨d, hd⟩ : ∃ d, es[k].d = d := ⟨_, rfl⟩
  obtain ⟨x, hx⟩ : ∃ x, es[k].x = x := ⟨_, rfl⟩
  rw [hd, hx]
  have hb : (!(decide (2 < d) && bareM (es.take k) es[k].p)) = (!bareM (es.take k) es[k].p || decide (d ≤ 2)) := by
   by_cases h2 : d ≤ 2
   ·
    rw [decide_eq_true h2, decide_eq_false (by omega : ¬ 2 < d)]; simp
   ·
    rw [decide_eq_false h2, decide_eq_true (by omega : 2 < d)]; simp
  rw [hb, ← Bool.and_assoc, ← Bool.and_assoc]
  congr 1
  unfold signB; by_cases h1 : d = 1
  ·
   subst h1; simp
  ·
   rw [if_neg h1]; have e1 : (d != 1) = true := by simpa using h1
   rw [e1, Bool.true_and, Bool.not_not]
   have e2 : ((d == 2) || ((d == 3) || (d == 4))) = decide (1 ≤ d ∧ d ≤ 4) := by
    rw [Bool.eq_iff_iff]; simp only [Bool.or_eq_true, beq_iff_eq, decide_eq_true_eq]; omega
   rw [e2]; have e3 : (x.toList == []) = x.toList.isEmpty := by cases x.toList <;> rfl
   rw [e3]; cases hx : x.toList.isEmpty with
   | false => simp
   | true => rw [notEmpty.1 hx, data_nil]; simp
theorem okM_not {es : List E} {k : Nat} (h : k < es.length) (hl : ¬ less (lastP es k) es[k].p) : okM es k = false := by
 cases ho : okM es k with
 | false => rfl
 | true =>
  exfalso
  rw [okM_is h] at ho; simp only [Bool.and_eq_true] at ho; obtain ⟨_, h1, _, _, h4, _⟩ := ho; cases k with
  | zero =>
   have := pathB_head _ h1; refine hl (less_L.2 ?_); show Op.bytesLess [] (L es[0].p) = true
   have hlen := L_len es[0].p; cases hq : L es[0].p with
   | nil => rw [hq] at hlen; simp at hlen; omega
   | cons y r => rfl
  | succ j =>
   rw [Bool.or_eq_true] at h4; have e1 : es[j + 1 - 1]? = some es[j] := by rw [show j + 1 - 1 = j from rfl, List.getElem?_eq_getElem (by omega)]
   rw [e1] at h4; rcases h4 with h4 | h4
   ·
    cases h4
   ·
    rw [lastP_succ (by omega)] at hl; exact hl h4
theorem tr_take {es : List E} : ∀ k, k ≤ es.length → (List.range k).all (okM es) = true → TrM (es.take k)
 | 0, _, _ => by rw [List.take_zero]; exact TrM.nil
 | k + 1, hk, h => by
  rw [List.range_succ, List.all_append, Bool.and_eq_true] at h; have T := tr_take k (by omega) h.1; have hk' : k < es.length := by omega
  have ho : okM es k = true := by simpa using h.2
  have hl : less (lastP es k) es[k].p := Classical.byContradiction fun hn => by rw [okM_not hk' hn] at ho; cases ho
  rw [List.take_succ_eq_append_getElem hk']; have hk1 := ho; rw [okM_is hk'] at hk1; simp only [Bool.and_eq_true, decide_eq_true_eq] at hk1; exact tr_snoc T (take_less hk' T hl) hk1.2.2.2.2.2.1 hk1.1
/-! ### What is above a path -/
def upsF : Nat → ByteArray → List ByteArray
 | 0, _ => []
 | n + 1, s => if pathB s = true then s :: upsF n (upS s) else []
def ups (s : ByteArray) : List ByteArray := upsF (s.size + 1) s
theorem up_lt {s : ByteArray} (h : pathB s = true) : (upS s).size < s.size := by
 have h1 := up_size h; rcases stemOk_is (up_facts h).1 with q | q
 ·
  rw [q]; have h2 := (pathB_head s h).1; have h3 : (⟨#[47]⟩ : ByteArray).size = 1 := rfl; omega
 ·
  rw [stem_path q] at h1; exact h1
theorem upsF_more : ∀ (n m : Nat) (s : ByteArray), s.size < n → s.size < m → upsF n s = upsF m s
 | 0, _, _, h, _ => by omega
 | _ + 1, 0, _, _, h => by omega
 | n + 1, m + 1, s, h1, h2 => by
  unfold upsF; by_cases hp : pathB s = true
  ·
   rw [if_pos hp, if_pos hp, upsF_more n m (upS s) (by have := up_lt hp; omega) (by have := up_lt hp; omega)]
  ·
   rw [if_neg hp, if_neg hp]
theorem ups_yes {s : ByteArray} (h : pathB s = true) : ups s = s :: ups (upS s) := by
 show (if pathB s = true then s :: upsF s.size (upS s) else []) = _
 rw [if_pos h]; have := up_lt h; rw [upsF_more s.size ((upS s).size + 1) (upS s) (by omega) (by omega)]; rfl
theorem ups_no {s : ByteArray} (h : pathB s = false) : ups s = [] := by
 show (if pathB s = true then s :: upsF s.size (upS s) else []) = _
 rw [if_neg (by rw [h]; decide)]
theorem mem_ups : ∀ (N : Nat) (s b : ByteArray), s.size ≤ N → (b ∈ ups s ↔ pathB s = true ∧ pathB b = true ∧ (b = s ∨ underI s b = true))
 | N, s, b, hN => by
  cases hp : pathB s with
  | false => rw [ups_no hp]; simp
  | true =>
   rw [ups_yes hp, List.mem_cons]; have hlt := up_lt hp
   match N, hN with
   | 0, hN => omega
   | N + 1, hN =>
    rw [mem_ups N (upS s) b (by omega)]
    constructor
    ·
     rintro (rfl | ⟨h1, h2, h3⟩)
     ·
      exact ⟨rfl, hp, .inl rfl⟩
     ·
      exact ⟨rfl, h2, .inr ((under_up hp).2 h3)⟩
    ·
     rintro ⟨_, h2, h3 | h3⟩
     ·
      exact .inl h3
     ·
      refine .inr ?_; rcases (under_up hp).1 h3 with q | q
      ·
       exact ⟨by rw [← q]; exact h2, h2, .inl q⟩
      ·
       refine ⟨((underI_iff _ _).1 q).2.1, h2, .inr q⟩
theorem underL_I {s b : ByteArray} (hs : pathB s = true) (hb : pathB b = true) : underL s b = underI s b := by
 rw [underI_eq, hs, stemOk_path hb]; rfl
def tellM (es : List E) (f : Int → Bool) (q : ByteArray) : Bool := match lookE es q with
 | some e => f e.d
 | none => false
theorem tell_any {es : List E} (T : TrM es) (f : Int → Bool) (s : ByteArray) (P : E → Bool) (hP : ∀ e ∈ es, P e = true ↔ e.p ∈ ups s) : (ups s).any (tellM es f) = es.any (fun e => f e.d && P e) := by
 rw [Bool.eq_iff_iff, List.any_eq_true, List.any_eq_true]
 constructor
 ·
  rintro ⟨q, hq, h⟩; unfold tellM at h; cases hl : lookE es q with
  | none => rw [hl] at h; cases h
  | some e =>
   rw [hl] at h; obtain ⟨h1, h2⟩ := look_mem hl; exact ⟨e, h1, by rw [Bool.and_eq_true]; exact ⟨h, (hP e h1).2 (by rw [h2]; exact hq)⟩⟩
 ·
  rintro ⟨e, he, h⟩; rw [Bool.and_eq_true] at h; refine ⟨e.p, (hP e he).1 h.2, ?_⟩; unfold tellM; rw [look_self T.sort he]; exact h.1
theorem bares_is {es : List E} (T : TrM es) {s : ByteArray} (hs : pathB s = true) : (ups (upS s)).any (tellM es (fun d => d == 4)) = bareM es s := by
 rw [tell_any T (fun d => d == 4) (upS s) (fun e => underL s e.p)]
 ·
  rfl
 ·
  intro e he; have hpe := T.path e he; rw [underL_I hs hpe, under_up hs, mem_ups _ _ _ (Nat.le_refl _)]
  constructor
  ·
   rintro (q | q)
   ·
    exact ⟨by rw [← q]; exact hpe, hpe, .inl q⟩
   ·
    exact ⟨((underI_iff _ _).1 q).2.1, hpe, .inr q⟩
  ·
   rintro ⟨_, _, q⟩; exact q
theorem hides_is {es : List E} (T : TrM es) (s : ByteArray) : (ups s).any (tellM es (fun d => d != 2)) = (pathB s && hidesM es s) := by
 cases hs : pathB s with
 | false => rw [ups_no hs]; rfl
 | true =>
  rw [tell_any T (fun d => d != 2) s (fun e => decide (e.p = s) || underL s e.p), Bool.true_and]
  ·
   unfold hidesM
   congr 1
   funext e
   unfold hideM; rw [beqL]; cases h1 : decide (e.p = s) <;> cases h2 : (e.d != 2) <;> cases h3 : underL s e.p <;> rfl
  ·
   intro e he; have hpe := T.path e he; rw [underL_I hs hpe, mem_ups _ _ _ (Nat.le_refl _), Bool.or_eq_true, decide_eq_true_eq]; exact ⟨fun q => ⟨hs, hpe, q⟩, fun q => q.2.2⟩
theorem look_iffM {es : List E} (h : es.Pairwise (fun a b => less a.p b.p)) (s : ByteArray) (e : E) : lookE es s = some e ↔ e ∈ es ∧ e.p = s :=
 ⟨look_mem, fun ⟨h1, h2⟩ => by rw [← h2]; exact look_self h h1⟩
theorem look_extM {es fs : List E} (h : es.Pairwise (fun a b => less a.p b.p)) (k : fs.Pairwise (fun a b => less a.p b.p)) (hl : ∀ e, e ∈ es ↔ e ∈ fs) : es = fs :=
 rising_ext (r := fun a b : E => less a.p b.p) (fun a => less_irrefl a.p) (fun h k => less_trans h k) es fs h k hl
abbrev Rise (es : List E) : Prop := es.Pairwise (fun a b => less a.p b.p)
theorem ltP_iff {e x : E} : ltP e x = true ↔ less x.p e.p := Iff.rfl
theorem put_cons_lt {e x : E} {r : List E} (h : less x.p e.p) : putE (x :: r) e = x :: putE r e := by
 have h' : ltP e x = true := h; unfold putE; simp [h']
theorem put_cons_eq {e x : E} {r : List E} (h : x.p = e.p) : putE (x :: r) e = e :: r := by
 have h' : ltP e x = false := by
  cases hl : ltP e x with
  | false => rfl
  | true => have := ltP_iff.1 hl; rw [h] at this; exact absurd this (less_irrefl _)
 unfold putE; simp [h', restE, h]
theorem put_cons_gt {e x : E} {r : List E} (h : less e.p x.p) : putE (x :: r) e = e :: x :: r := by
 have h' : ltP e x = false := by
  cases hl : ltP e x with
  | false => rfl
  | true => exact absurd (less_trans (ltP_iff.1 hl) h) (less_irrefl _)
 have h2 : ¬ x.p.toList = e.p.toList := fun k => by rw [toList_inj k] at h; exact less_irrefl _ h
 unfold putE; simp [h', restE, h2]
theorem put_facts (e : E) : ∀ es : List E, Rise es → Rise (putE es e) ∧ ∀ f, f ∈ putE es e ↔ f = e ∨ (f ∈ es ∧ f.p ≠ e.p)
 | [], _ => ⟨by simp [putE, restE, Rise], fun f => by simp [putE, restE]⟩
 | x :: r, h => by
  obtain ⟨h1, h2⟩ := List.pairwise_cons.1 h; by_cases hx : x.p = e.p
  ·
   rw [put_cons_eq hx]; refine ⟨List.pairwise_cons.2 ⟨fun f hf => by rw [← hx]; exact h1 f hf, h2⟩, fun f => ?_⟩; rw [List.mem_cons, List.mem_cons]
   constructor
   ·
    rintro (k | k)
    ·
     exact .inl k
    ·
     exact .inr ⟨.inr k, fun q => by have := h1 f k; rw [hx, q] at this; exact less_irrefl _ this⟩
   ·
    rintro (k | ⟨k | k, q⟩)
    ·
     exact .inl k
    ·
     rw [k] at q; exact absurd hx q
    ·
     exact .inr k
  ·
   rcases less_or hx with hl | hl
   ·
    rw [put_cons_lt hl]; obtain ⟨i1, i2⟩ := put_facts e r h2; refine ⟨List.pairwise_cons.2 ⟨fun f hf => ?_, i1⟩, fun f => ?_⟩
    ·
     rcases (i2 f).1 hf with k | ⟨k, _⟩
     ·
      rw [k]; exact hl
     ·
      exact h1 f k
    ·
     rw [List.mem_cons, List.mem_cons, i2 f]
     constructor
     ·
      rintro (k | k | ⟨k, q⟩)
      ·
       exact .inr ⟨.inl k, by rw [k]; exact hx⟩
      ·
       exact .inl k
      ·
       exact .inr ⟨.inr k, q⟩
     ·
      rintro (k | ⟨k | k, q⟩)
      ·
       exact .inr (.inl k)
      ·
       exact .inl k
      ·
       exact .inr (.inr ⟨k, q⟩)
   ·
    rw [put_cons_gt hl]; refine ⟨List.pairwise_cons.2 ⟨fun f hf => ?_, h⟩, fun f => ?_⟩
    ·
     rcases List.mem_cons.1 hf with k | k
     ·
      rw [k]; exact hl
     ·
      exact less_trans hl (h1 f k)
    ·
     rw [List.mem_cons]
     constructor
     ·
      rintro (k | k)
      ·
       exact .inl k
      ·
       refine .inr ⟨k, fun q => ?_⟩; rcases List.mem_cons.1 k with m | m
       ·
        rw [m] at q; exact hx q
       ·
        have := less_trans hl (h1 f m); rw [q] at this; exact less_irrefl _ this
     ·
      rintro (k | ⟨k, _⟩)
      ·
       exact .inl k
      ·
       exact .inr k
theorem put_rise {es : List E} (h : Rise es) (e : E) : Rise (putE es e) := (put_facts e es h).1
theorem put_memQ {es : List E} (h : Rise es) (e f : E) : f ∈ putE es e ↔ f = e ∨ (f ∈ es ∧ f.p ≠ e.p) := (put_facts e es h).2 f
theorem put_look {es : List E} (h : Rise es) (e : E) (s : ByteArray) : lookE (putE es e) s = if s = e.p then some e else lookE es s := by
 by_cases hs : s = e.p
 ·
  rw [if_pos hs, look_iffM (put_rise h e), put_memQ h]; exact ⟨.inl rfl, hs.symm⟩
 ·
  rw [if_neg hs]; cases hl : lookE es s with
  | none =>
   rw [look_none] at hl ⊢; intro f hf q; rcases (put_memQ h e f).1 hf with k | ⟨k, _⟩
   ·
    rw [k] at q; exact hs q.symm
   ·
    exact hl f k q
  | some f =>
   rw [look_iffM (put_rise h e), put_memQ h]; obtain ⟨h1, h2⟩ := look_mem hl; exact ⟨.inr ⟨h1, by rw [h2]; exact hs⟩, h2⟩
theorem put_lenQ (es : List E) (e : E) : (putE es e).length ≤ es.length + 1 := by
 have h1 := rest_len e (es.dropWhile (ltP e)); have h2 : (es.takeWhile (ltP e)).length + (es.dropWhile (ltP e)).length = es.length := by rw [← List.length_append, List.takeWhile_append_dropWhile]
 unfold putE; simp only [List.length_append, List.length_singleton]; omega
theorem tr_put {es : List E} {e : E} (T : TrM es) (hp : pathB e.p = true) (hk : 1 ≤ e.d ∧ e.d ≤ 4) (hu : upS e.p = ⟨#[47]⟩ ∨ ∃ f, lookE es (upS e.p) = some f ∧ dirK f.d = true) (hold : ∀ f, lookE es e.p = some f → dirK f.d = true → dirK e.d = true) : TrM (putE es e) where
 path f hf := by
  rcases (put_memQ T.sort e f).1 hf with h | ⟨h, _⟩
  ·
   rw [h]; exact hp
  ·
   exact T.path f h
 sort := put_rise T.sort e
 up f hf := by
  have key : ∀ s, (s = ⟨#[47]⟩ ∨ ∃ f, lookE es s = some f ∧ dirK f.d = true) → (s = ⟨#[47]⟩ ∨ ∃ f, lookE (putE es e) s = some f ∧ dirK f.d = true) := fun s h =>
   h.imp id fun ⟨f, h1, h2⟩ => by
    by_cases q : s = e.p
    ·
     exact ⟨e, by rw [put_look T.sort, if_pos q], hold f (by rw [← q]; exact h1) h2⟩
    ·
     exact ⟨f, by rw [put_look T.sort, if_neg q]; exact h1, h2⟩
  rcases (put_memQ T.sort e f).1 hf with h | ⟨h, _⟩
  ·
   rw [h]; exact key _ hu
  ·
   exact key _ (T.up f h)
 kind f hf := by
  rcases (put_memQ T.sort e f).1 hf with h | ⟨h, _⟩
  ·
   rw [h]; exact hk
  ·
   exact T.kind f h
theorem put_app {es : List E} {e : E} (h : Rise es) (hl : lookE es e.p = none) (s : ByteArray) : lookE (es ++ [e]) s = lookE (putE es e) s := by
 rw [put_look h, look_append]; by_cases q : s = e.p
 ·
  rw [if_pos q, q, hl]; show lookE [e] e.p = some e
  unfold lookE; rw [List.find?_cons_of_pos (by simp)]
 ·
  rw [if_neg q]; have : lookE [e] s = none := look_none.2 fun f hf => by rw [List.mem_singleton.1 hf]; exact fun h => q h.symm
  rw [this]; cases lookE es s <;> rfl
def em (m : E) : Go.Proofs.YteppodogghjfhaaGreatDoor.E := ⟨m.p, dirK m.d, ⟨#[]⟩⟩
theorem look_em (l : List E) (s : ByteArray) : Go.Proofs.YteppodogghjfhaaGreatDoor.lookE (l.map em) s = (lookE l s).map em := by
 unfold Go.Proofs.YteppodogghjfhaaGreatDoor.lookE lookE; rw [List.find?_map]; rfl
theorem TrM.tr {l : List E} (T : TrM l) : TrE (l.map em) where
 path e he := by
  obtain ⟨m, hm, rfl⟩ := List.mem_map.1 he; exact T.path m hm
 sort := by rw [List.pairwise_map]; exact T.sort
 up e he := by
  obtain ⟨m, hm, rfl⟩ := List.mem_map.1 he; refine look_dir ?_; rcases T.up m hm with q | ⟨f, q1, q2⟩
  ·
   exact .inl q
  ·
   exact .inr ⟨em f, by show Go.Proofs.YteppodogghjfhaaGreatDoor.lookE (l.map em) (upS m.p) = _; rw [look_em, q1]; rfl, q2⟩
 data e he := by
  obtain ⟨m, _, rfl⟩ := List.mem_map.1 he; exact ⟨by show dataB ⟨#[]⟩ = true; rfl, fun _ => rfl⟩
def upM (l : List E) (x : ByteArray × Go.Proofs.YteppodogghjfhaaGreatDoor.E) : Option (ByteArray × E) := (lookE l x.2.p).map (fun m => (x.1, m))
def toldM (l : List E) (p q : ByteArray) : List (ByteArray × E) := (told (l.map em) p q).filterMap (upM l)
def kidsM (l : List E) (p : ByteArray) : List ByteArray := kidsE (l.map em) p
theorem kidsM_mem {l : List E} (T : TrM l) {p : ByteArray} (hp : stemOk p = true) (n : ByteArray) : n ∈ kidsM l p ↔ nameB n = true ∧ ∃ e, lookE l (joinI p n) = some e := by
 unfold kidsM; rw [kids_mem T.tr hp n, look_em]; cases lookE l (joinI p n) <;> simp
theorem kidsM_rise {l : List E} (T : TrM l) {p : ByteArray} : (kidsM l p).Pairwise less := kids_rise T.tr
theorem kidsM_len (l : List E) (p : ByteArray) : (kidsM l p).length ≤ l.length := by
 have := kids_len (l.map em) p (l.map em).length; rw [List.take_length, List.length_map] at this; exact this
theorem toldM_split {l : List E} (T : TrM l) {p : ByteArray} (hp : stemOk p = true) (q : ByteArray) :
  toldM l p q = (kidsM l p).flatMap (fun n => ((lookE l (joinI p n)).toList.map (fun e => (under1 q n, e))) ++ toldM l (joinI p n) (under1 q n)) := by
 unfold toldM kidsM; rw [told_split T.tr hp, List.filterMap_flatMap]; refine fmap_congr _ fun n _ => ?_; rw [List.filterMap_append]
 congr 1
 rw [look_em]; cases h : lookE l (joinI p n) with
 | none => rfl
 | some m =>
  have hm : (em m).p = joinI p n := (look_mem h).2; simp only [Option.map_some, Option.toList_some, List.map_cons, List.map_nil]; rw [List.filterMap_cons]; unfold upM; dsimp only; rw [hm, h]; rfl
theorem toldM_all {l : List E} (T : TrM l) : toldM l ⟨#[47]⟩ ⟨#[]⟩ = l.map (fun e => (e.p, e)) := by
 unfold toldM; rw [told_all T.tr, List.map_map, List.filterMap_map]
 have key : ∀ k : List E, (∀ m ∈ k, m ∈ l) → k.filterMap (upM l ∘ (fun e => (e.p, e)) ∘ em) = k.map (fun e => (e.p, e)) := by
  intro k
  induction k with
  | nil => intro _; rfl
  | cons m r ih =>
   intro h; rw [List.filterMap_cons]
   have : (upM l ∘ (fun e => (e.p, e)) ∘ em) m = some (m.p, m) := by
    show (lookE l m.p).map (fun x => (m.p, x)) = _
    rw [look_self T.sort (h m (by simp))]; rfl
   rw [this, List.map_cons, ih fun x hx => h x (List.mem_cons_of_mem _ hx)]
 exact key l fun _ h => h
theorem toldM_kid {l : List E} (T : TrM l) {p : ByteArray} (hp : stemOk p = true) (q : ByteArray) {k : Nat} (hk : k < (kidsM l p).length) :
  ∃ (e : E) (pre post : List (ByteArray × E)), lookE l (joinI p (kidsM l p)[k]) = some e ∧ toldM l p q = pre ++ ((under1 q (kidsM l p)[k], e) :: toldM l (joinI p (kidsM l p)[k]) (under1 q (kidsM l p)[k])) ++ post ∧
   pre = ((kidsM l p).take k).flatMap (fun n => ((lookE l (joinI p n)).toList.map (fun e => (under1 q n, e))) ++ toldM l (joinI p n) (under1 q n)) ∧
   pre ++ ((under1 q (kidsM l p)[k], e) :: toldM l (joinI p (kidsM l p)[k]) (under1 q (kidsM l p)[k])) = ((kidsM l p).take (k + 1)).flatMap (fun n => ((lookE l (joinI p n)).toList.map (fun e => (under1 q n, e))) ++ toldM l (joinI p n) (under1 q n)) := by
 obtain ⟨_, e, he⟩ := (kidsM_mem T hp _).1 (List.getElem_mem hk); refine ⟨e, _, ((kidsM l p).drop (k + 1)).flatMap (fun n => ((lookE l (joinI p n)).toList.map (fun e => (under1 q n, e))) ++ toldM l (joinI p n) (under1 q n)), he, ?_, rfl, ?_⟩
 ·
  rw [toldM_split T hp q]
  conv => lhs; rw [← List.take_append_drop k (kidsM l p), List.drop_eq_getElem_cons hk]
  rw [List.flatMap_append, List.flatMap_cons, he]; simp
 ·
  rw [List.take_succ_eq_append_getElem hk, List.flatMap_append, List.flatMap_cons, he]; simp
theorem kidM_lev {l : List E} (T : TrM l) {p n : ByteArray} (hp : stemOk p = true) (hn : nameB n = true) {e : E} (h : lookE l (joinI p n) = some e) : levS (joinI p n) = levS p + 1 := by
 have hj := join_ok hp hn (look_path T h); have := (up_facts (look_path T h)).2.2.2; rw [(join_up hj).1] at this; exact this
end Go.Proofs.YteppodogghjfhaaGreatDoor.Mk
namespace Go.Proofs.YteppodogghjfhaaGreatDoor
abbrev Rise (es : List E) : Prop := es.Pairwise (fun a b => less a.p b.p)
theorem ltP_iff {e x : E} : ltP e x = true ↔ less x.p e.p := Iff.rfl
theorem put_cons_lt {e x : E} {r : List E} (h : less x.p e.p) : putE (x :: r) e = x :: putE r e := by
 have h' : ltP e x = true := h; unfold putE; simp [h']
theorem put_cons_eq {e x : E} {r : List E} (h : x.p = e.p) : putE (x :: r) e = e :: r := by
 have h' : ltP e x = false := by
  cases hl : ltP e x with
  | false => rfl
  | true => have := ltP_iff.1 hl; rw [h] at this; exact absurd this (less_irrefl _)
 unfold putE; simp [h', restE, h]
theorem put_cons_gt {e x : E} {r : List E} (h : less e.p x.p) : putE (x :: r) e = e :: x :: r := by
 have h' : ltP e x = false := by
  cases hl : ltP e x with
  | false => rfl
  | true => exact absurd (less_trans (ltP_iff.1 hl) h) (less_irrefl _)
 have h2 : ¬ x.p.toList = e.p.toList := fun k => by rw [toList_inj k] at h; exact less_irrefl _ h
 unfold putE; simp [h', restE, h2]
theorem put_facts (e : E) : ∀ es : List E, Rise es → Rise (putE es e) ∧ ∀ f, f ∈ putE es e ↔ f = e ∨ (f ∈ es ∧ f.p ≠ e.p)
 | [], _ => ⟨by simp [putE, restE, Rise], fun f => by simp [putE, restE]⟩
 | x :: r, h => by
  obtain ⟨h1, h2⟩ := List.pairwise_cons.1 h; by_cases hx : x.p = e.p
  ·
   rw [put_cons_eq hx]; refine ⟨List.pairwise_cons.2 ⟨fun f hf => by rw [← hx]; exact h1 f hf, h2⟩, fun f => ?_⟩; rw [List.mem_cons, List.mem_cons]
   constructor
   ·
    rintro (k | k)
    ·
     exact .inl k
    ·
     exact .inr ⟨.inr k, fun q => by have := h1 f k; rw [hx, q] at this; exact less_irrefl _ this⟩
   ·
    rintro (k | ⟨k | k, q⟩)
    ·
     exact .inl k
    ·
     rw [k] at q; exact absurd hx q
    ·
     exact .inr k
  ·
   rcases less_or hx with hl | hl
   ·
    rw [put_cons_lt hl]; obtain ⟨i1, i2⟩ := put_facts e r h2; refine ⟨List.pairwise_cons.2 ⟨fun f hf => ?_, i1⟩, fun f => ?_⟩
    ·
     rcases (i2 f).1 hf with k | ⟨k, _⟩
     ·
      rw [k]; exact hl
     ·
      exact h1 f k
    ·
     rw [List.mem_cons, List.mem_cons, i2 f]
     constructor
     ·
      rintro (k | k | ⟨k, q⟩)
      ·
       exact .inr ⟨.inl k, by rw [k]; exact hx⟩
      ·
       exact .inl k
      ·
       exact .inr ⟨.inr k, q⟩
     ·
      rintro (k | ⟨k | k, q⟩)
      ·
       exact .inr (.inl k)
      ·
       exact .inl k
      ·
       exact .inr (.inr ⟨k, q⟩)
   ·
    rw [put_cons_gt hl]; refine ⟨List.pairwise_cons.2 ⟨fun f hf => ?_, h⟩, fun f => ?_⟩
    ·
     rcases List.mem_cons.1 hf with k | k
     ·
      rw [k]; exact hl
     ·
      exact less_trans hl (h1 f k)
    ·
     rw [List.mem_cons]
     constructor
     ·
      rintro (k | k)
      ·
       exact .inl k
      ·
       refine .inr ⟨k, fun q => ?_⟩; rcases List.mem_cons.1 k with m | m
       ·
        rw [m] at q; exact hx q
       ·
        have := less_trans hl (h1 f m); rw [q] at this; exact less_irrefl _ this
     ·
      rintro (k | ⟨k, _⟩)
      ·
       exact .inl k
      ·
       exact .inr k
theorem put_rise {es : List E} (h : Rise es) (e : E) : Rise (putE es e) := (put_facts e es h).1
theorem put_mem {es : List E} (h : Rise es) (e f : E) : f ∈ putE es e ↔ f = e ∨ (f ∈ es ∧ f.p ≠ e.p) := (put_facts e es h).2 f
theorem put_look {es : List E} (h : Rise es) (e : E) (s : ByteArray) : lookE (putE es e) s = if s = e.p then some e else lookE es s := by
 by_cases hs : s = e.p
 ·
  rw [if_pos hs, look_iff (put_rise h e), put_mem h]; exact ⟨.inl rfl, hs.symm⟩
 ·
  rw [if_neg hs]; cases hl : lookE es s with
  | none =>
   rw [look_none] at hl ⊢; intro f hf q; rcases (put_mem h e f).1 hf with k | ⟨k, _⟩
   ·
    rw [k] at q; exact hs q.symm
   ·
    exact hl f k q
  | some f =>
   rw [look_iff (put_rise h e), put_mem h]; obtain ⟨h1, h2⟩ := look_mem hl; exact ⟨.inr ⟨h1, by rw [h2]; exact hs⟩, h2⟩
theorem both_rise : ∀ (fs es : List E), Rise es → Rise (bothE es fs)
 | [], _, h => h
 | f :: r, es, h => both_rise r (putE es f) (put_rise h f)
theorem both_look : ∀ (fs es : List E), Rise es → Rise fs → ∀ s, lookE (bothE es fs) s = (lookE fs s).or (lookE es s)
 | [], _, _, _, _ => rfl
 | f :: r, es, h, k, s => by
  obtain ⟨k1, k2⟩ := List.pairwise_cons.1 k; show lookE (bothE (putE es f) r) s = _
  rw [both_look r (putE es f) (put_rise h f) k2 s, put_look h f s]; show _ = (lookE (f :: r) s).or _
  have hc : lookE (f :: r) s = if f.p = s then some f else lookE r s := by
   unfold lookE; rw [List.find?_cons]; by_cases hf : f.p = s <;> simp [hf]
  rw [hc]; by_cases hf : f.p = s
  ·
   have hr : lookE r s = none := look_none.2 fun g hg q => by
    have := k1 g hg; rw [hf, q] at this; exact less_irrefl _ this
   rw [if_pos hf, if_pos hf.symm, hr]; rfl
  ·
   rw [if_neg hf, if_neg (fun q => hf q.symm)]
def differ (es fs : List E) (s : ByteArray) : Prop := lookE es s ≠ lookE fs s
theorem sameT1_iff (e f : E) : sameT1 e f = true ↔ e = f := by
 unfold sameT1; rw [Bool.and_eq_true, Bool.and_eq_true, beqL, beqL, decide_eq_true_iff, decide_eq_true_iff, beq_iff_eq]
 constructor
 ·
  rintro ⟨⟨h1, h2⟩, h3⟩; cases e; cases f; simp_all
 ·
  rintro rfl; exact ⟨⟨rfl, rfl⟩, rfl⟩
theorem turnB_iff {es fs : List E} {e : E} (hp : isRoot e.p = false) (hs : (lookE es e.p).isSome = true ∨ (lookE fs e.p).isSome = true) : turnB es fs e = true ↔ differ es fs e.p := by
 unfold turnB differ; rw [getE_look hp, getE_look hp, Bool.or_eq_true, Bool.not_eq_true']; have hst := fun a b : E => sameT1_iff a b; cases h1 : lookE es e.p with
 | none =>
  cases h2 : lookE fs e.p with
  | none => rw [h1, h2] at hs; simp at hs
  | some f => simp
 | some g =>
  cases h2 : lookE fs e.p with
  | none => simp
  | some f =>
   simp only [Option.isSome_some, bne_self_eq_false, Bool.false_eq_true, false_or, Option.getD_some, ne_eq, Option.some.injEq]; rw [← hst g f]; simp
theorem root_not_path {s : ByteArray} (h : pathB s = true) : isRoot s = false := by
 cases hr : isRoot s with
 | false => rfl
 | true =>
  have := (isRoot_iff s).1 hr; rw [this, root_no_path] at h; cases h
theorem turnE_rise {es fs : List E} (T : TrE es) : (turnE es fs).Pairwise less := by
 unfold turnE; rw [List.pairwise_map]; exact (both_rise fs es T.sort).filter _
theorem turnE_mem {es fs : List E} (T : TrE es) (U : TrE fs) (s : ByteArray) : s ∈ turnE es fs ↔ differ es fs s := by
 have hb := both_rise fs es T.sort; have hl := both_look fs es T.sort U.sort s; unfold turnE; rw [List.mem_map]
 have hpath : ∀ e : E, e ∈ bothE es fs → pathB e.p = true ∧ ((lookE es e.p).isSome = true ∨ (lookE fs e.p).isSome = true) := fun e he => by
  have h1 := look_self hb he; rw [both_look fs es T.sort U.sort] at h1; cases h2 : lookE fs e.p with
  | some f =>
   obtain ⟨h3, h4⟩ := look_mem h2; exact ⟨by rw [← h4]; exact U.path f h3, .inr rfl⟩
  | none =>
   rw [h2] at h1; obtain ⟨h3, _⟩ := look_mem (show lookE es e.p = some e from h1); exact ⟨T.path e h3, .inl (by rw [show lookE es e.p = some e from h1]; rfl)⟩
 constructor
 ·
  rintro ⟨e, he, rfl⟩; obtain ⟨h1, h2⟩ := List.mem_filter.1 he; obtain ⟨h3, h4⟩ := hpath e h1; exact (turnB_iff (root_not_path h3) h4).1 h2
 ·
  intro hd
  have : ∃ e, lookE (bothE es fs) s = some e := by
   rw [hl]; unfold differ at hd; cases h2 : lookE fs s with
   | some f => exact ⟨f, rfl⟩
   | none =>
    rw [h2] at hd; cases h3 : lookE es s with
    | some f => exact ⟨f, rfl⟩
    | none => exact absurd h3 hd
  obtain ⟨e, he⟩ := this; obtain ⟨h1, h2⟩ := look_mem he; obtain ⟨h3, h4⟩ := hpath e h1; exact ⟨e, List.mem_filter.2 ⟨h1, (turnB_iff (root_not_path h3) h4).2 (by rw [h2]; exact hd)⟩, h2⟩
end Go.Proofs.YteppodogghjfhaaGreatDoor
namespace Go.Proofs.YteppodogghjfhaaGreatDoor.Ly
open Go.Lib
def dm (to : List E) (s : ByteArray) : Mk.E := match lookE to s with
 | some e => ⟨s, if e.d = true then 2 else 1, e.x⟩
 | none => ⟨s, 3, ⟨#[]⟩⟩
theorem dm_p (to : List E) (s : ByteArray) : (dm to s).p = s := by unfold dm; split <;> rfl
theorem dm_k (to : List E) (s : ByteArray) : 1 ≤ (dm to s).d ∧ (dm to s).d ≤ 4 := by
 unfold dm
 split
 ·
  dsimp only; split <;> omega
 ·
  dsimp only; omega
theorem dm_dir {to : List E} (T : TrE to) {s : ByteArray} {e : E} (h : lookE to s = some e) (hd : e.d = true) : dm to s = ⟨s, 2, ⟨#[]⟩⟩ := by
 unfold dm; rw [h]; dsimp only; rw [if_pos hd, (T.data e (look_mem h).1).2 hd]
def kept (to : List E) (s : ByteArray) : Bool := (lookE to s).isSome || dirE to (upS s)
def reach (ks : List ByteArray) (q : ByteArray) : Prop := ∃ s ∈ ks, q = s ∨ (pathB q = true ∧ underI s q = true)
structure IsD (to : List E) (ks : List ByteArray) (l : List Mk.E) : Prop where
 sort : Mk.Rise l
 mem : ∀ m, m ∈ l ↔ reach ks m.p ∧ m = dm to m.p
theorem IsD.nil (to : List E) : IsD to [] [] := ⟨by simp, fun m => by simp [reach]⟩
theorem IsD.uniq {to : List E} {ks : List ByteArray} {l l' : List Mk.E} (h : IsD to ks l) (h' : IsD to ks l') : l = l' :=
 Mk.look_extM h.sort h'.sort fun m => by rw [h.mem, h'.mem]
theorem IsD.look {to : List E} {ks : List ByteArray} {l : List Mk.E} (h : IsD to ks l) (s : ByteArray) : Mk.lookE l s = none ∨ Mk.lookE l s = some (dm to s) := by
 cases hl : Mk.lookE l s with
 | none => exact .inl rfl
 | some m =>
  obtain ⟨h1, h2⟩ := Mk.look_mem hl; have := ((h.mem m).1 h1).2; rw [h2] at this; exact .inr (by rw [this])
theorem IsD.look_iff {to : List E} {ks : List ByteArray} {l : List Mk.E} (h : IsD to ks l) (s : ByteArray) : Mk.lookE l s ≠ none ↔ reach ks s := by
 constructor
 ·
  intro hn; cases hl : Mk.lookE l s with
  | none => exact absurd hl hn
  | some m =>
   obtain ⟨h1, h2⟩ := Mk.look_mem hl; have := ((h.mem m).1 h1).1
   rwa [h2] at this
 ·
  intro hr hn; exact Mk.look_none.1 hn (dm to s) ((h.mem _).2 ⟨by rw [dm_p]; exact hr, by rw [dm_p]⟩) (dm_p to s)
theorem kept_up {to : List E} (T : TrE to) {s : ByteArray} (hk : kept to s = true) : dirE to (upS s) = true := by
 unfold kept at hk; rw [Bool.or_eq_true] at hk; rcases hk with hk | hk
 ·
  obtain ⟨e, he⟩ := Option.isSome_iff_exists.1 hk; obtain ⟨h1, h2⟩ := look_mem he; have := T.up e h1
  rwa [h2] at this
 ·
  exact hk
theorem above_dir {to : List E} (T : TrE to) : ∀ (n : Nat) {s q : ByteArray}, s.size ≤ n → pathB s = true → dirE to (upS s) = true → pathB q = true → underI s q = true → ∃ e, lookE to q = some e ∧ e.d = true
 | 0, s, q, hn, hp, _, _, _ => by have := Mk.up_lt hp; omega
 | n + 1, s, q, hn, hp, hd, hq, hu => by
  have hlt := Mk.up_lt hp
  have hroot : upS s = ⟨#[47]⟩ → False := fun e => by
   rcases (under_up hp).1 hu with h | h
   ·
    rw [e] at h; rw [h, root_no_path] at hq; cases hq
   ·
    rw [e] at h; have := ((underI_iff _ _).1 h).2.1; rw [root_no_path] at this; cases this
  rcases dir_look hd with h | ⟨e, h1, h2⟩
  ·
   exact (hroot h).elim
  ·
   rcases (under_up hp).1 hu with h | h
   ·
    rw [h]; exact ⟨e, h1, h2⟩
   ·
    have hpu : pathB (upS s) = true := look_path T h1; refine above_dir T n (by omega) hpu ?_ hq h; obtain ⟨g1, g2⟩ := look_mem h1; have := T.up e g1
    rwa [g2] at this
theorem IsD.step {to : List E} (T : TrE to) {ks : List ByteArray} {l l' : List Mk.E} (h : IsD to ks l) {s : ByteArray} (hp : pathB s = true) (hk : kept to s = true) (hs : Mk.Rise l')
  (hm : ∀ m, m ∈ l' ↔ m = dm to s ∨ (m ∈ l ∧ m.p ≠ s) ∨ (pathB m.p = true ∧ underI s m.p = true ∧ Mk.lookE l m.p = none ∧ m = ⟨m.p, 2, ⟨#[]⟩⟩)) : IsD to (ks ++ [s]) l' where
 sort := hs
 mem m := by
  rw [hm]
  have hab : ∀ q, pathB q = true → underI s q = true → dm to q = ⟨q, 2, ⟨#[]⟩⟩ := fun q h1 h2 => by
   obtain ⟨e, g1, g2⟩ := above_dir T s.size (Nat.le_refl _) hp (kept_up T hk) h1 h2; exact dm_dir T g1 g2
  constructor
  ·
   rintro (rfl | ⟨h1, h2⟩ | ⟨h1, h2, h3, h4⟩)
   ·
    rw [dm_p]; exact ⟨⟨s, by simp, .inl rfl⟩, rfl⟩
   ·
    obtain ⟨⟨t, ht, g⟩, g2⟩ := (h.mem m).1 h1; exact ⟨⟨t, by simp [ht], g⟩, g2⟩
   ·
    exact ⟨⟨s, by simp, .inr ⟨h1, h2⟩⟩, by rw [hab _ h1 h2]; exact h4⟩
  ·
   rintro ⟨⟨t, ht, g⟩, g2⟩; by_cases hms : m.p = s
   ·
    left; rw [g2, hms]
   ·
    right
    rcases List.mem_append.1 ht with ht | ht
    ·
     exact .inl ⟨(h.mem m).2 ⟨⟨t, ht, g⟩, g2⟩, hms⟩
    ·
     rw [List.mem_singleton] at ht; subst ht; rcases g with g | ⟨g, g'⟩
     ·
      exact absurd g hms
     ·
      cases hl : Mk.lookE l m.p with
      | none => exact .inr ⟨g, g', rfl, by rw [← hab _ g g']; exact g2⟩
      | some k =>
       obtain ⟨k1, k2⟩ := Mk.look_mem hl; have := ((h.mem k).1 k1).2; rw [k2, ← g2] at this; rw [this] at k1; exact .inl ⟨k1, hms⟩
theorem IsD.tr {to : List E} (T : TrE to) {ks : List ByteArray} (hks : ∀ s ∈ ks, pathB s = true ∧ kept to s = true) {l : List Mk.E} (h : IsD to ks l) : Mk.TrM l where
 path m hm := by
  obtain ⟨⟨s, hs, g⟩, _⟩ := (h.mem m).1 hm; rcases g with g | ⟨g, _⟩
  ·
   rw [g]; exact (hks s hs).1
  ·
   exact g
 sort := h.sort
 up m hm := by
  obtain ⟨⟨s, hs, g⟩, _⟩ := (h.mem m).1 hm; obtain ⟨h1, h2⟩ := hks s hs
  have hpm : pathB m.p = true := by
   rcases g with g | ⟨g, _⟩
   ·
    rw [g]; exact h1
   ·
    exact g
  rcases stemOk_is (up_facts hpm).1 with hr | hr
  ·
   exact .inl hr
  ·
   right
   have hu : underI s (upS m.p) = true := by
    rcases g with g | ⟨_, g⟩
    ·
     rw [g]; rw [g] at hr; exact (under_up h1).2 (.inl rfl)
    ·
     exact under_trans g ((under_up hpm).2 (.inl rfl))
   obtain ⟨e, g1, g2⟩ := above_dir T s.size (Nat.le_refl _) h1 (kept_up T h2) hr hu; rcases h.look (upS m.p) with k | k
   ·
    exact absurd k ((h.look_iff _).2 ⟨s, hs, .inr ⟨hr, hu⟩⟩)
   ·
    exact ⟨_, k, by rw [dm_dir T g1 g2]; rfl⟩
 kind m hm := by
  rw [((h.mem m).1 hm).2]; exact dm_k _ _
def upsM : Nat → List Mk.E → ByteArray → List Mk.E
 | 0, l, _ => l
 | n + 1, l, s => if upS s = ⟨#[47]⟩ then l else upsM n (if Mk.kindM l (upS s) = 0 then Mk.putE l ⟨upS s, 2, ⟨#[]⟩⟩ else l) (upS s)
theorem kind_zero {l : List Mk.E} (hk : ∀ m ∈ l, 1 ≤ m.d) (s : ByteArray) : Mk.kindM l s = 0 ↔ Mk.lookE l s = none := by
 rw [Mk.kind_look]; cases hl : Mk.lookE l s with
 | none => simp
 | some m =>
  have := hk m (Mk.look_mem hl).1; show m.d = 0 ↔ _
  constructor
  ·
   intro h; omega
  ·
   intro h; cases h
theorem ups_facts : ∀ (n : Nat) (l : List Mk.E) (s : ByteArray), s.size < n → pathB s = true → Mk.Rise l → (∀ m ∈ l, 1 ≤ m.d) →
  Mk.Rise (upsM n l s) ∧ (∀ m, m ∈ upsM n l s ↔ m ∈ l ∨ (pathB m.p = true ∧ underI s m.p = true ∧ Mk.lookE l m.p = none ∧ m = ⟨m.p, 2, ⟨#[]⟩⟩)) ∧ (upsM n l s).length ≤ l.length + s.size
 | 0, _, s, hn, _, _, _ => by omega
 | n + 1, l, s, hn, hp, hs, hk => by
  have hlt := Mk.up_lt hp; unfold upsM; by_cases hr : upS s = ⟨#[47]⟩
  ·
   rw [if_pos hr]; refine ⟨hs, fun m => ⟨.inl, ?_⟩, by omega⟩; rintro (h | ⟨h1, h2, -⟩)
   ·
    exact h
   ·
    exfalso
    rcases (under_up hp).1 h2 with h | h
    ·
     rw [hr] at h; rw [h, root_no_path] at h1; cases h1
    ·
     rw [hr] at h; have := ((underI_iff _ _).1 h).2.1; rw [root_no_path] at this; cases this
  ·
   rw [if_neg hr]; have hu : pathB (upS s) = true := (stemOk_is (up_facts hp).1).resolve_left hr; have habove : ∀ q, underI s q = true ↔ q = upS s ∨ underI (upS s) q = true := fun q => under_up hp; by_cases hz : Mk.kindM l (upS s) = 0
   ·
    rw [if_pos hz]; have hnone := (kind_zero hk _).1 hz
    obtain ⟨h1, h2, h3⟩ := ups_facts n (Mk.putE l ⟨upS s, 2, ⟨#[]⟩⟩) (upS s) (by omega) hu (Mk.put_rise hs _) (fun m hm => by
     rcases (Mk.put_memQ hs _ m).1 hm with h | ⟨h, _⟩
     ·
      rw [h]; show (1 : Int) ≤ 2; decide
     ·
      exact hk m h)
    refine ⟨h1, fun m => ?_, by have := Mk.put_lenQ l ⟨upS s, 2, ⟨#[]⟩⟩; omega⟩; rw [h2, Mk.put_memQ hs, Mk.put_look hs]
    constructor
    ·
     rintro ((h | ⟨h, _⟩) | ⟨g1, g2, g3, g4⟩)
     ·
      exact .inr (by rw [h]; exact ⟨hu, (habove _).2 (.inl rfl), hnone, rfl⟩)
     ·
      exact .inl h
     ·
      dsimp only at g3; by_cases q : m.p = upS s
      ·
       rw [if_pos q] at g3; cases g3
      ·
       rw [if_neg q] at g3; exact .inr ⟨g1, (habove _).2 (.inr g2), g3, g4⟩
    ·
     rintro (h | ⟨g1, g2, g3, g4⟩)
     ·
      refine .inl (.inr ⟨h, fun q => ?_⟩); exact Mk.look_none.1 hnone m h q
     ·
      rcases (habove _).1 g2 with q | q
      ·
       exact .inl (.inl (by rw [g4, q]))
      ·
       by_cases q2 : m.p = upS s
       ·
        exact .inl (.inl (by rw [g4, q2]))
       ·
        refine .inr ⟨g1, q, ?_, g4⟩; dsimp only; rw [if_neg q2]; exact g3
   ·
    rw [if_neg hz]; obtain ⟨h1, h2, h3⟩ := ups_facts n l (upS s) (by omega) hu hs hk; refine ⟨h1, fun m => ?_, by omega⟩; rw [h2]; refine or_congr Iff.rfl ⟨fun ⟨g1, g2, g3⟩ => ⟨g1, (habove _).2 (.inr g2), g3⟩, fun ⟨g1, g2, g3, g4⟩ => ?_⟩; rcases (habove _).1 g2 with q | q
    ·
     rw [q] at g3; exact absurd ((kind_zero hk _).2 g3) hz
    ·
     exact ⟨g1, q, g3, g4⟩
def diff1 (to : List E) (out : List Mk.E) (s : ByteArray) : List Mk.E := if kept to s = true then upsM (s.size + 1) (Mk.putE out (dm to s)) s else out
theorem diff1_is {to : List E} (T : TrE to) {ks : List ByteArray} {l : List Mk.E} (h : IsD to ks l) {s : ByteArray} (hp : pathB s = true) (hk : kept to s = true) : IsD to (ks ++ [s]) (diff1 to l s) ∧ (diff1 to l s).length ≤ l.length + (s.size + 1) := by
 have hkk : ∀ m ∈ l, 1 ≤ m.d := fun m hm => by rw [((h.mem m).1 hm).2]; exact (dm_k _ _).1
 unfold diff1; rw [if_pos hk]
 obtain ⟨h1, h2, h3⟩ := ups_facts (s.size + 1) (Mk.putE l (dm to s)) s (Nat.lt_succ_self _) hp (Mk.put_rise h.sort _) (fun m hm => by
  rcases (Mk.put_memQ h.sort _ m).1 hm with g | ⟨g, _⟩
  ·
   rw [g]; exact (dm_k _ _).1
  ·
   exact hkk m g)
 refine ⟨h.step T hp hk h1 fun m => ?_, by have := Mk.put_lenQ l (dm to s); omega⟩; rw [h2, Mk.put_memQ h.sort, Mk.put_look h.sort, dm_p, or_assoc]; refine or_congr Iff.rfl (or_congr Iff.rfl ⟨fun ⟨g1, g2, g3, g4⟩ => ?_, fun ⟨g1, g2, g3, g4⟩ => ?_⟩)
 ·
  by_cases q : m.p = s
  ·
   rw [if_pos q] at g3; cases g3
  ·
   rw [if_neg q] at g3; exact ⟨g1, g2, g3, g4⟩
 ·
  have q : m.p ≠ s := fun q => by rw [q] at g2; have := under_lev s.size s s (Nat.le_refl _) g2; omega
  rw [if_neg q]; exact ⟨g1, g2, g3, g4⟩
theorem ups_len : ∀ (n : Nat) (l : List Mk.E) (s : ByteArray), (upsM n l s).length ≤ l.length + n
 | 0, _, _ => Nat.le_refl _
 | n + 1, l, s => by
  unfold upsM
  split
  ·
   omega
  ·
   split
   ·
    have h1 := ups_len n (Mk.putE l ⟨upS s, 2, ⟨#[]⟩⟩) (upS s); have h2 := Mk.put_lenQ l ⟨upS s, 2, ⟨#[]⟩⟩; omega
   ·
    have := ups_len n l (upS s); omega
theorem diff1_len (to : List E) (l : List Mk.E) (s : ByteArray) : (diff1 to l s).length ≤ l.length + (s.size + 2) := by
 unfold diff1
 split
 ·
  have h1 := ups_len (s.size + 1) (Mk.putE l (dm to s)) s; have h2 := Mk.put_lenQ l (dm to s); omega
 ·
  omega
theorem diff_is {to : List E} (T : TrE to) : ∀ (ss ks : List ByteArray) (l : List Mk.E), IsD to ks l → (∀ s ∈ ss, pathB s = true) → IsD to (ks ++ ss.filter (kept to)) (ss.foldl (diff1 to) l)
 | [], ks, l, h, _ => by simpa using h
 | s :: r, ks, l, h, hs => by
  have hp := hs s (List.mem_cons_self ..); have hr : ∀ t ∈ r, pathB t = true := fun t ht => hs t (List.mem_cons_of_mem _ ht); by_cases hk : kept to s = true
  ·
   have := diff_is T r _ _ (diff1_is T h hp hk).1 hr; rw [List.filter_cons_of_pos hk, List.foldl_cons]
   simpa using this
  ·
   have := diff_is T r ks l h hr; rw [List.filter_cons_of_neg hk, List.foldl_cons]; have e : diff1 to l s = l := by unfold diff1; rw [if_neg hk]
   rw [e]; exact this
def diffM (es to : List E) : List Mk.E := (turnE es to).foldl (diff1 to) []
def diffE (es to : List E) : List Mk.E := if (treeE es && treeE to) = true then diffM es to else []
end Go.Proofs.YteppodogghjfhaaGreatDoor.Ly
namespace Go.Proofs.YteppodogghjfhaaGreatDoor
open Go.Lib
theorem get_no {es : List E} {s : ByteArray} (hp : pathB s = true) (h : lookE es s = none) : getE es s = (noneE, false) := by
 rw [getE_look (root_not_path hp), h]; rfl
theorem get_yes {es : List E} {s : ByteArray} (hp : pathB s = true) {f : E} (h : lookE es s = some f) : getE es s = (f, true) := by
 rw [getE_look (root_not_path hp), h]; rfl
theorem path_smallD : ∀ (n : Nat) (s : ByteArray), pathB s = true → levS s ≤ n → s.size ≤ 4 * n
 | 0, s, h, hl => by
  have h1 := (up_facts h).2.2.2; rcases stemOk_is (up_facts h).1 with k | k
  ·
   have : levS (⟨#[47]⟩ : ByteArray) = 0 := by decide
   rw [k, this] at h1; omega
  ·
   have := under_lev _ _ _ (Nat.le_refl _) (under_root k); have h0 : levS (⟨#[47]⟩ : ByteArray) = 0 := by decide
   omega
 | n + 1, s, h, hl => by
  have h1 := (up_facts h).2.2.2; have hn := (up_facts h).2.2.1
  have hns : (nmS s).size ≤ 3 := by
   unfold nameB at hn; rw [Bool.and_eq_true] at hn; exact (of_decide_eq_true hn.1).2
  have hj := congrArg ByteArray.size (up_join h); unfold joinI at hj; rw [ByteArray.size_append, ByteArray.size_append] at hj; have h47 : (⟨#[47]⟩ : ByteArray).size = 1 := rfl; rcases stemOk_is (up_facts h).1 with k | k
  ·
   rw [k, stem_root] at hj; have : (⟨#[]⟩ : ByteArray).size = 0 := rfl; omega
  ·
   rw [stem_path k] at hj; have := path_smallD n (upS s) k (by omega); omega
theorem path_sizeD {s : ByteArray} (h : pathB s = true) : s.size ≤ 12 := path_smallD 3 s h (lev_le s)
end Go.Proofs.YteppodogghjfhaaGreatDoor
namespace Go.Proofs.YteppodogghjfhaaGreatDoor.Ly
open Go.Lib
def entM (m : Mk.E) : Option E := if m.d = 1 then some ⟨m.p, false, m.x⟩ else if m.d = 2 ∨ m.d = 4 then some ⟨m.p, true, ⟨#[]⟩⟩ else none
theorem ent_path {m : Mk.E} {e : E} (h : entM m = some e) : e.p = m.p := by
 unfold entM at h
 split at h
 ·
  cases h; rfl
 ·
  split at h
  ·
   cases h; rfl
  ·
   cases h
def lay1 (out : List E) (m : Mk.E) : List E := match entM m with
 | some e => putE out e
 | none => out
def thruE (l : List Mk.E) (t : List E) : List E := t.filter (fun e => !Mk.hidesM l e.p)
def onM (l : List Mk.E) (t : List E) : List E := l.foldl lay1 (thruE l t)
theorem lay1_rise {out : List E} (h : Rise out) (m : Mk.E) : Rise (lay1 out m) := by
 unfold lay1
 split
 ·
  exact put_rise h _
 ·
  exact h
theorem fold_rise : ∀ (l : List Mk.E) (out : List E), Rise out → Rise (l.foldl lay1 out)
 | [], _, h => h
 | m :: r, _, h => fold_rise r _ (lay1_rise h m)
theorem thru_rise {l : List Mk.E} {t : List E} (h : Rise t) : Rise (thruE l t) := h.filter _
theorem on_rise {l : List Mk.E} {t : List E} (h : Rise t) : Rise (onM l t) := fold_rise l _ (thru_rise h)
theorem fold_mem : ∀ (l : List Mk.E) (out : List E), Rise out → l.Pairwise (fun a b => less a.p b.p) → ∀ e, e ∈ l.foldl lay1 out ↔ (∃ m ∈ l, entM m = some e) ∨ (e ∈ out ∧ ∀ m ∈ l, (entM m).isSome = true → m.p ≠ e.p)
 | [], _, _, _, e => by simp
 | m :: r, out, h, hs, e => by
  obtain ⟨h1, h2⟩ := List.pairwise_cons.1 hs; show e ∈ r.foldl lay1 (lay1 out m) ↔ _
  rw [fold_mem r _ (lay1_rise h m) h2]; cases hm : entM m with
  | none =>
   have e1 : lay1 out m = out := by unfold lay1; rw [hm]
   rw [e1]
   constructor
   ·
    rintro (⟨k, hk, q⟩ | ⟨q1, q2⟩)
    ·
     exact .inl ⟨k, List.mem_cons_of_mem _ hk, q⟩
    ·
     refine .inr ⟨q1, fun k hk hsm => ?_⟩; rcases List.mem_cons.1 hk with rfl | hk
     ·
      rw [hm] at hsm; cases hsm
     ·
      exact q2 k hk hsm
   ·
    rintro (⟨k, hk, q⟩ | ⟨q1, q2⟩)
    ·
     rcases List.mem_cons.1 hk with rfl | hk
     ·
      rw [hm] at q; cases q
     ·
      exact .inl ⟨k, hk, q⟩
    ·
     exact .inr ⟨q1, fun k hk => q2 k (List.mem_cons_of_mem _ hk)⟩
  | some f =>
   have e1 : lay1 out m = putE out f := by unfold lay1; rw [hm]
   have hfp := ent_path hm; rw [e1, put_mem h]
   constructor
   ·
    rintro (⟨k, hk, q⟩ | ⟨q1 | ⟨q1, q3⟩, q2⟩)
    ·
     exact .inl ⟨k, List.mem_cons_of_mem _ hk, q⟩
    ·
     exact .inl ⟨m, List.mem_cons_self .., by rw [hm, q1]⟩
    ·
     refine .inr ⟨q1, fun k hk hsm => ?_⟩; rcases List.mem_cons.1 hk with rfl | hk
     ·
      rw [← hfp]; exact fun q => q3 q.symm
     ·
      exact q2 k hk hsm
   ·
    rintro (⟨k, hk, q⟩ | ⟨q1, q2⟩)
    ·
     rcases List.mem_cons.1 hk with rfl | hk
     ·
      rw [hm] at q; cases q; refine .inr ⟨.inl rfl, fun j hj _ q => ?_⟩; have := h1 j hj; rw [q, hfp] at this; exact less_irrefl _ this
     ·
      exact .inl ⟨k, hk, q⟩
    ·
     have hne : m.p ≠ e.p := q2 m (List.mem_cons_self ..) (by rw [hm]; rfl); exact .inr ⟨.inr ⟨q1, by rw [hfp]; exact fun q => hne q.symm⟩, fun k hk => q2 k (List.mem_cons_of_mem _ hk)⟩
theorem on_mem {l : List Mk.E} {t : List E} (T : Mk.TrM l) (ht : Rise t) (e : E) : e ∈ onM l t ↔ (∃ m ∈ l, entM m = some e) ∨ ((e ∈ t ∧ Mk.hidesM l e.p = false) ∧ ∀ m ∈ l, (entM m).isSome = true → m.p ≠ e.p) := by
 unfold onM; rw [fold_mem l _ (thru_rise ht) T.sort]; unfold thruE; rw [List.mem_filter]; simp only [Bool.not_eq_true']
def covM (l : List Mk.E) (s : ByteArray) : Bool := (Mk.lookE l s).isSome || Mk.hidesM l s
def viewL (l : List Mk.E) (t : List E) : List E := t.filter (fun e => !covM l e.p) ++ l.filterMap entM
theorem view_mem {l : List Mk.E} {t : List E} (T : Mk.TrM l) (ht : Rise t) (e : E) : e ∈ viewL l t ↔ e ∈ onM l t := by
 rw [on_mem T ht]; unfold viewL; rw [List.mem_append, List.mem_filter, List.mem_filterMap]; unfold covM; simp only [Bool.not_eq_true', Bool.or_eq_false_iff]
 have gone : ∀ m ∈ l, (entM m).isSome = false → Mk.hidesM l m.p = true := fun m hm h => by
  unfold Mk.hidesM; rw [List.any_eq_true]; refine ⟨m, hm, ?_⟩
  have hd : (m.d != 2) = true := by
   rw [bne_iff_ne]; intro q; unfold entM at h; rw [q] at h; simp at h
  unfold Mk.hideM; rw [hd]; simp
 constructor
 ·
  rintro (⟨h1, h2, h3⟩ | h)
  ·
   refine .inr ⟨⟨h1, h3⟩, fun m hm _ q => ?_⟩; have := Mk.look_self T.sort hm; rw [q] at this; rw [this] at h2; cases h2
  ·
   exact .inl h
 ·
  rintro (h | ⟨⟨h1, h3⟩, h2⟩)
  ·
   exact .inr h
  ·
   refine .inl ⟨h1, ?_, h3⟩; cases hl : Mk.lookE l e.p with
   | none => rfl
   | some m =>
    exfalso
    obtain ⟨m1, m2⟩ := Mk.look_mem hl; cases hs : (entM m).isSome with
    | true => exact h2 m m1 hs m2
    | false =>
     have := gone m m1 hs; rw [m2, h3] at this; cases this
theorem view_once {l : List Mk.E} {t : List E} (T : Mk.TrM l) (ht : Rise t) : (viewL l t).Pairwise (fun a b => a.p ≠ b.p) := by
 unfold viewL; rw [List.pairwise_append]; have hne : ∀ {xs : List E}, Rise xs → xs.Pairwise (fun a b => a.p ≠ b.p) := fun h => h.imp fun {a b} q e => by rw [e] at q; exact less_irrefl _ q
 refine ⟨hne (ht.filter _), ?_, fun a ha b hb q => ?_⟩
 ·
  rw [List.pairwise_filterMap]
  exact T.sort.imp fun {a b} q x hx y hy e => by
   rw [ent_path hx, ent_path hy] at e; rw [e] at q; exact less_irrefl _ q
 ·
  obtain ⟨_, h2⟩ := List.mem_filter.1 ha; obtain ⟨m, hm, h3⟩ := List.mem_filterMap.1 hb; have h4 := Mk.look_self T.sort hm; rw [← ent_path h3, ← q] at h4; unfold covM at h2; rw [h4] at h2; simp at h2
theorem view_sorted {l : List Mk.E} {t r : List E} (T : Mk.TrM l) (ht : Rise t) (hp : r.Perm (viewL l t)) (hr : Rise r) : r = onM l t :=
 rising_ext (r := fun a b => less a.p b.p) (fun a => less_irrefl a.p) (fun {_ _ _} => less_trans) r _ hr (on_rise ht) fun a => by
  rw [hp.mem_iff, view_mem T ht]
theorem view_len {l : List Mk.E} {t : List E} (T : Mk.TrM l) (ht : Rise t) : (viewL l t).length = (onM l t).length := by
 have h1 : (viewL l t).Nodup := (view_once T ht).imp fun {a b} q e => q (by rw [e]); have h2 : (onM l t).Nodup := (on_rise ht).imp fun {a b} q e => by rw [e] at q; exact less_irrefl _ q
 exact ((List.perm_ext_iff_of_nodup h1 h2).2 fun a => view_mem T ht a).length_eq
end Go.Proofs.YteppodogghjfhaaGreatDoor.Ly
