import Derived.Test.YtoaipphccjkphaaDoorHPk00
import Derived.Laws.Cover1
namespace Go.Proofs.YtoaipphccjkphaaDoor
/-! ### Joined -/
theorem name_bytes {n : ByteArray} (h : nameB n = true) : ∀ i, i < n.size → low (n.get! i) = true := by
 intro i hi; unfold nameB at h; rw [Bool.and_eq_true] at h; rw [get_plus n i hi]; exact List.all_eq_true.1 h.2 _ (by rw [show n[i] = (L n)[i]'(by rw [L_len]; exact hi) from rfl]; exact List.getElem_mem _)
theorem low_not {c : UInt8} (h : low c = true) : c ≠ 47 := by
 rintro rfl; revert h; decide
theorem join_parts {d n : ByteArray} (h : joinOk d n = true) : stemOk d = true ∧ nameB n = true ∧ pathB (joinI d n) = true ∧ joinS d n = joinI d n := by
 have h' := h; unfold joinOk at h; rw [Bool.and_eq_true, Bool.and_eq_true] at h; exact ⟨h.1.1, h.1.2, h.2, by unfold joinS; rw [h', if_pos rfl]⟩
theorem join_last {d n : ByteArray} (h : joinOk d n = true) : lastS (joinI d n) = ((stemS d).size : Nat) := by
 obtain ⟨h1, h2, h3, _⟩ := join_parts h; have hz : (stemS d ++ ⟨#[47]⟩ : ByteArray).size = (stemS d).size + 1 := by rw [ByteArray.size_append]; rfl
 have hzz : (joinI d n).size = (stemS d).size + 1 + n.size := by unfold joinI; rw [ByteArray.size_append, hz]
 refine last_eq h3 _ (by omega) ?_ ?_
 ·
  unfold joinI; rw [get_app_l _ _ _ (by omega), get_app_r _ _ _ (Nat.le_refl _), Nat.sub_self]; rfl
 ·
  intro j hj hj'; unfold joinI; rw [get_app_r _ _ _ (by omega), hz]; exact low_not (name_bytes h2 _ (by omega))
theorem join_up {d n : ByteArray} (h : joinOk d n = true) : upS (joinI d n) = d ∧ nmS (joinI d n) = n := by
 obtain ⟨h1, h2, h3, _⟩ := join_parts h; have hl := join_last h
 constructor
 ·
  refine stem_inj (up_facts h3).1 h1 ?_; rw [(up_facts h3).2.1, hl]; unfold joinI
  have e : (stemS d ++ ⟨#[47]⟩ ++ n : ByteArray) = stemS d ++ (⟨#[47]⟩ ++ n) := by
   apply L_inj; rw [L_app, L_app, L_app, L_app, List.append_assoc]
  rw [e]; exact app_ext_l _ _
 ·
  unfold nmS; rw [h3, if_pos rfl, hl]; have hz : (stemS d ++ ⟨#[47]⟩ : ByteArray).size = (stemS d).size + 1 := by rw [ByteArray.size_append]; rfl
  have := app_ext_r (stemS d ++ ⟨#[47]⟩) n 0; rw [hz, ext_all] at this; exact this
theorem hit_iff (s f : ByteArray) : movHit s f = true ↔ (s = f ∨ Pre s f) := by
 unfold movHit; rw [Bool.or_eq_true, beq_iff_eq, preB_iff]; exact ⟨fun h => h.elim (fun h => .inl (toList_inj h)) .inr, fun h => h.elim (fun h => .inl (by rw [h])) .inr⟩
theorem hit_le {s f : ByteArray} (h : movHit s f = true) : f.size ≤ s.size ∧ f ++ s.extract f.size s.size = s := by
 rcases (hit_iff s f).1 h with rfl | h
 ·
  refine ⟨Nat.le_refl _, app_empty _ _ (by rw [size_ext]; omega)⟩
 ·
  refine ⟨Nat.le_of_lt h.1, ?_⟩; have := glue s f.size; rw [h.2.1] at this; exact this
theorem rest_size (s f : ByteArray) : (s.extract f.size s.size).size = s.size - f.size := by rw [size_ext]; omega
theorem moved_hit {s f t : ByteArray} (h : movHit s f = true) : movHit (movX s f t) t = true := by
 rw [hit_iff]; unfold movX; rcases (hit_iff s f).1 h with rfl | h
 ·
  left; exact app_empty _ _ (by rw [rest_size]; omega)
 ·
  right
  have hz := rest_size s f; refine ⟨by rw [ByteArray.size_append, hz]; have := h.1; omega, app_ext_l _ _, ?_⟩; rw [get_app_r _ _ _ (Nat.le_refl _), Nat.sub_self, get_ext s f.size s.size 0 (by have := h.1; omega)]; exact h.2.2
theorem moved_rest (s f t : ByteArray) : (movX s f t).extract t.size (movX s f t).size = s.extract f.size s.size := by
 unfold movX; have := app_ext_r t (s.extract f.size s.size) 0; rw [Nat.add_zero, ext_all] at this; exact this
theorem moved_back {s f t : ByteArray} (h : movHit s f = true) : movX (movX s f t) t f = s := by
 unfold movX; have := moved_rest s f t; unfold movX at this; rw [this]; exact (hit_le h).2
theorem hit_under {s f : ByteArray} (hs : pathB s = true) (hf : pathB f = true) : movHit s f = ((s.toList == f.toList) || underI s f) := by
 unfold movHit underI; rw [stemOk_path hf, hs, stem_path hf]; rfl
theorem movOk_parts {s f t : ByteArray} (h : movOk s f t = true) : movAll s f t = true ∧ (movHit s f = false ∨ pathB (movX s f t) = true) := by
 unfold movOk at h; rw [Bool.and_eq_true, Bool.or_eq_true, Bool.not_eq_true'] at h; exact h
theorem movS_yes {s f t : ByteArray} (h : movOk s f t = true) (hh : movHit s f = true) : movS s f t = movX s f t ∧ pathB (movX s f t) = true := by
 obtain ⟨ha, hx⟩ := movOk_parts h; rcases hx with hx | hx
 ·
  rw [hh] at hx; cases hx
 ·
  exact ⟨by rw [movS_go ha hh]; unfold ifS; rw [hx, if_pos rfl], hx⟩
theorem less_app : ∀ (b : List UInt8) (y : UInt8) (r : List UInt8), Op.bytesLess b (b ++ y :: r) = true
 | [], _, _ => rfl
 | h :: b, y, r => by
  show (decide (h < h) || (h == h && Op.bytesLess b (b ++ y :: r))) = true
  rw [less_app b y r, beq_self_eq_true]; simp
theorem less_total : ∀ (a b : List UInt8), Op.bytesLess a b = false → a ≠ b → Op.bytesLess b a = true
 | [], [], _, h => absurd rfl h
 | [], _ :: _, h, _ => by cases h
 | _ :: _, [], _, _ => rfl
 | x :: a, y :: b, h, hne => by
  have h' : (decide (x < y) || (x == y && Op.bytesLess a b)) = false := h; show (decide (y < x) || (y == x && Op.bytesLess b a)) = true
  rw [Bool.or_eq_false_iff, decide_eq_false_iff_not] at h'; obtain ⟨h1, h2⟩ := h'; by_cases e : x = y
  ·
   subst e; rw [beq_self_eq_true, Bool.true_and] at h2; rw [less_total a b h2 (fun q => hne (by rw [q])), beq_self_eq_true]; simp
  ·
   have : y < x := by
    rw [UInt8.lt_iff_toNat_lt] at *; have : x.toNat ≠ y.toNat := fun q => e (UInt8.toNat_inj.1 q); omega
   rw [decide_eq_true this]; rfl
theorem pre_list {a b : ByteArray} (h : Pre a b) : ∃ r, L a = L b ++ 47 :: r := by
 obtain ⟨h1, h2, h3⟩ := h; refine ⟨(L a).drop (b.size + 1), ?_⟩; rw [get_plus a b.size h1] at h3; have e : (L a).drop b.size = 47 :: (L a).drop (b.size + 1) := by rw [drop_at a b.size h1, h3]
 rw [← e]
 have e2 : L b = (L a).take b.size := by
  have := congrArg L h2; rw [L_ext, List.drop_zero, Nat.sub_zero] at this; exact this.symm
 rw [e2, List.take_append_drop]
theorem order_up {a b : ByteArray} (hb : pathB b = true) (h : underI a b = true) : Op.bytesLess b.toList a.toList = true := by
 obtain ⟨_, _, k⟩ := (underI_iff _ _).1 h; rw [stem_path hb] at k; obtain ⟨r, hr⟩ := pre_list k; rw [Lib.toList_data, Lib.toList_data]; show Op.bytesLess (L b) (L a) = true
 rw [hr]; exact less_app _ _ _
def lookE (es : List E) (s : ByteArray) : Option E := es.find? (fun e => decide (e.p = s))
theorem look_mem {es : List E} {s : ByteArray} {e : E} (h : lookE es s = some e) : e ∈ es ∧ e.p = s :=
 ⟨List.mem_of_find?_eq_some h, by have := List.find?_some h; exact of_decide_eq_true this⟩
theorem look_none {es : List E} {s : ByteArray} : lookE es s = none ↔ ∀ e ∈ es, e.p ≠ s := by
 unfold lookE; rw [List.find?_eq_none]; simp
theorem beqL (a b : ByteArray) : (a.toList == b.toList) = decide (a = b) := by
 rw [Bool.eq_iff_iff, beq_iff_eq, decide_eq_true_iff]; exact ⟨toList_inj, fun h => by rw [h]⟩
theorem findL_look (s : ByteArray) : ∀ (es : List E) (k : Nat), (findL s es k = -1 ∧ lookE es s = none) ∨ ∃ (j : Nat) (h : j < es.length), findL s es k = ((k + j : Nat) : Int) ∧ lookE es s = some es[j]
 | [], _ => .inl ⟨rfl, rfl⟩
 | e :: r, k => by
  unfold findL lookE; rw [beqL, List.find?_cons]; by_cases h : e.p = s
  ·
   right; refine ⟨0, by simp, ?_, ?_⟩ <;> simp [h]
  ·
   rcases findL_look s r (k + 1) with ⟨h1, h2⟩ | ⟨j, hj, h1, h2⟩
   ·
    left; unfold lookE at h2; simp [h, h1, h2]
   ·
    right; unfold lookE at h2
    refine ⟨j + 1, by simp; omega, ?_, ?_⟩
    ·
     simp [h, h1]; omega
    ·
     simp [h, h2]
theorem getE_look {es : List E} {s : ByteArray} (h : isRoot s = false) : getE es s = ((lookE es s).getD noneE, (lookE es s).isSome) := by
 rcases findL_look s es 0 with ⟨h1, h2⟩ | ⟨j, hj, h1, h2⟩
 ·
  rw [getE_no h h1, h2]; rfl
 ·
  rw [getE_at h hj (by unfold findE; rw [h1]; simp), h2]; rfl
theorem dirE_look (es : List E) (s : ByteArray) : dirE es s = (isRoot s || ((lookE es s).map (·.d)).getD false) := by
 unfold dirE; rcases findL_look s es 0 with ⟨h1, h2⟩ | ⟨j, hj, h1, h2⟩
 ·
  rw [h2, show findE es s = -1 from h1]; cases es[((-1 : Int)).toNat]? <;> simp
 ·
  rw [h2, show findE es s = (j : Int) from by unfold findE; rw [h1]; simp]; have : es[((j : Nat) : Int).toNat]? = some es[j] := by rw [show ((j : Nat) : Int).toNat = j from rfl, List.getElem?_eq_getElem hj]
  rw [this]; simp
/-! ### The order of the bytes -/
def less (a b : ByteArray) : Prop := Op.bytesLess a.toList b.toList = true
theorem less_L {a b : ByteArray} : less a b ↔ Op.bytesLess (L a) (L b) = true := by unfold less; rw [Lib.toList_data, Lib.toList_data]
theorem bless_irrefl : ∀ a : List UInt8, Op.bytesLess a a = false
 | [] => rfl
 | x :: a => by
  show (decide (x < x) || (x == x && Op.bytesLess a a)) = false
  rw [bless_irrefl a]; simp
theorem bless_trans : ∀ a b c : List UInt8, Op.bytesLess a b = true → Op.bytesLess b c = true → Op.bytesLess a c = true
 | [], [], _, h, _ => by cases h
 | [], _ :: _, [], _, h => by cases h
 | [], _ :: _, _ :: _, _, _ => rfl
 | _ :: _, [], _, h, _ => by cases h
 | _ :: _, _ :: _, [], _, h => by cases h
 | x :: a, y :: b, z :: c, h1, h2 => by
  have h1' : (decide (x < y) || (x == y && Op.bytesLess a b)) = true := h1; have h2' : (decide (y < z) || (y == z && Op.bytesLess b c)) = true := h2; show (decide (x < z) || (x == z && Op.bytesLess a c)) = true
  rw [Bool.or_eq_true, decide_eq_true_eq, Bool.and_eq_true, beq_iff_eq] at h1' h2' ⊢; rw [UInt8.lt_iff_toNat_lt] at *; rcases h1' with p | p
  ·
   rcases h2' with q | q
   ·
    left; omega
   ·
    left; rw [← q.1]; exact p
  ·
   rcases h2' with q | q
   ·
    left; rw [p.1]; exact q
   ·
    right; exact ⟨p.1.trans q.1, bless_trans a b c p.2 q.2⟩
theorem less_irrefl (a : ByteArray) : ¬ less a a := by unfold less; rw [bless_irrefl]; simp
theorem less_trans {a b c : ByteArray} (h : less a b) (k : less b c) : less a c := bless_trans _ _ _ h k
theorem less_or {a b : ByteArray} (h : a ≠ b) : less a b ∨ less b a := by
 by_cases k : less a b
 ·
  exact .inl k
 ·
  exact .inr (less_total _ _ (by unfold less at k; simpa using k) (fun e => h (toList_inj e)))
theorem rising_ext {α : Type} {r : α → α → Prop} (irr : ∀ a, ¬ r a a) (tr : ∀ {a b c}, r a b → r b c → r a c) : ∀ (xs ys : List α), xs.Pairwise r → ys.Pairwise r → (∀ a, a ∈ xs ↔ a ∈ ys) → xs = ys
 | [], [], _, _, _ => rfl
 | [], y :: ys, _, _, h => by have := (h y).2 List.mem_cons_self; cases this
 | x :: xs, [], _, _, h => by have := (h x).1 List.mem_cons_self; cases this
 | x :: xs, y :: ys, hx, hy, h => by
  obtain ⟨hx1, hx2⟩ := List.pairwise_cons.1 hx; obtain ⟨hy1, hy2⟩ := List.pairwise_cons.1 hy
  have e : x = y := by
   rcases List.mem_cons.1 ((h x).1 List.mem_cons_self) with e | h1
   ·
    exact e
   ·
    rcases List.mem_cons.1 ((h y).2 List.mem_cons_self) with e | h2
    ·
     exact e.symm
    ·
     exact absurd (tr (hx1 y h2) (hy1 x h1)) (irr x)
  subst e; refine congrArg (x :: ·) (rising_ext irr tr xs ys hx2 hy2 fun a => ?_)
  constructor
  ·
   intro ha; rcases List.mem_cons.1 ((h a).1 (List.mem_cons_of_mem _ ha)) with e | h1
   ·
    subst e; exact absurd (hx1 a ha) (irr a)
   ·
    exact h1
  ·
   intro ha; rcases List.mem_cons.1 ((h a).2 (List.mem_cons_of_mem _ ha)) with e | h1
   ·
    subst e; exact absurd (hy1 a ha) (irr a)
   ·
    exact h1
/-! ### A right tree -/
structure TrE (es : List E) : Prop where
 path : ∀ e ∈ es, pathB e.p = true
 sort : es.Pairwise (fun a b => less a.p b.p)
 up : ∀ e ∈ es, dirE es (upS e.p) = true
 data : ∀ e ∈ es, dataB e.x = true ∧ (e.d = true → e.x = ⟨#[]⟩)
theorem TrE.nil : TrE [] := ⟨by simp, by simp, by simp, by simp⟩
theorem look_self {es : List E} (h : es.Pairwise (fun a b => less a.p b.p)) {e : E} (he : e ∈ es) : lookE es e.p = some e := by
 cases hl : lookE es e.p with
 | none => exact absurd rfl (look_none.1 hl e he)
 | some f =>
  obtain ⟨hf, hp⟩ := look_mem hl; by_cases hne : e = f
  ·
   rw [hne]
  ·
   exfalso
   have key : ∀ (l : List E), l.Pairwise (fun a b => less a.p b.p) → e ∈ l → f ∈ l → False := by
    intro l
    induction l with
    | nil => intro _ h; cases h
    | cons x r ih =>
     intro hl he hf; obtain ⟨h1, h2⟩ := List.pairwise_cons.1 hl; rcases List.mem_cons.1 he with e1 | e1
     ·
      rcases List.mem_cons.1 hf with e2 | e2
      ·
       exact hne (e1.trans e2.symm)
      ·
       have := h1 f e2; rw [← e1, hp] at this; exact less_irrefl _ this
     ·
      rcases List.mem_cons.1 hf with e2 | e2
      ·
       have := h1 e e1; rw [← e2, hp] at this; exact less_irrefl _ this
      ·
       exact ih h2 e1 e2
   exact key es h he hf
theorem look_iff {es : List E} (h : es.Pairwise (fun a b => less a.p b.p)) (s : ByteArray) (e : E) : lookE es s = some e ↔ e ∈ es ∧ e.p = s :=
 ⟨look_mem, fun ⟨h1, h2⟩ => by rw [← h2]; exact look_self h h1⟩
theorem look_ext {es fs : List E} (h : es.Pairwise (fun a b => less a.p b.p)) (k : fs.Pairwise (fun a b => less a.p b.p)) (hl : ∀ s, lookE es s = lookE fs s) : es = fs :=
 rising_ext (r := fun a b => less a.p b.p) (fun a => less_irrefl a.p) (fun {_ _ _} => less_trans) es fs h k fun a =>
  ⟨fun ha => (look_mem ((hl a.p).symm.trans (look_self h ha))).1, fun ha => (look_mem ((hl a.p).trans (look_self k ha))).1⟩
theorem dir_look {es : List E} {s : ByteArray} (h : dirE es s = true) : s = ⟨#[47]⟩ ∨ ∃ e, lookE es s = some e ∧ e.d = true := by
 rw [dirE_look, Bool.or_eq_true] at h; rcases h with h | h
 ·
  exact .inl ((isRoot_iff s).1 h)
 ·
  cases hl : lookE es s with
  | none => rw [hl] at h; cases h
  | some e => rw [hl] at h; exact .inr ⟨e, rfl, h⟩
theorem look_dir {es : List E} {s : ByteArray} (h : s = ⟨#[47]⟩ ∨ ∃ e, lookE es s = some e ∧ e.d = true) : dirE es s = true := by
 rw [dirE_look, Bool.or_eq_true]; rcases h with h | ⟨e, h, hd⟩
 ·
  exact .inl ((isRoot_iff s).2 h)
 ·
  exact .inr (by rw [h]; exact hd)
theorem TrE.dirOk {es : List E} (T : TrE es) {s : ByteArray} (h : dirE es s = true) : stemOk s = true := by
 rcases dir_look h with rfl | ⟨e, h, _⟩
 ·
  unfold stemOk; rw [root_root]; rfl
 ·
  obtain ⟨h1, h2⟩ := look_mem h; exact stemOk_path (by rw [← h2]; exact T.path e h1)
theorem look_append (es fs : List E) (s : ByteArray) : lookE (es ++ fs) s = (lookE es s).or (lookE fs s) := by
 unfold lookE; rw [List.find?_append]
theorem dir_append {es fs : List E} {s : ByteArray} (h : dirE es s = true) : dirE (es ++ fs) s = true := by
 rcases dir_look h with e | ⟨e, h, hd⟩
 ·
  exact look_dir (.inl e)
 ·
  exact look_dir (.inr ⟨e, by rw [look_append, h]; rfl, hd⟩)
theorem notEmpty {x : ByteArray} : x.toList.isEmpty = true ↔ x = ⟨#[]⟩ := by
 rw [List.isEmpty_iff]; exact ⟨fun h => toList_inj (h.trans (by rw [Lib.toList_data])), fun h => by rw [h, Lib.toList_data]⟩
theorem tr_snoc {es : List E} {e : E} (T : TrE es) (h1 : pathB e.p = true) (h2 : dataB e.x = true) (h3 : e.d = true → e.x = ⟨#[]⟩) (h4 : ∀ f ∈ es, less f.p e.p) (h5 : dirE es (upS e.p) = true) : TrE (es ++ [e]) where
 path f hf := by
  rcases List.mem_append.1 hf with hf | hf
  ·
   exact T.path f hf
  ·
   rw [List.mem_singleton.1 hf]; exact h1
 sort := by
  rw [List.pairwise_append]; exact ⟨T.sort, by simp, fun a ha b hb => by rw [List.mem_singleton.1 hb]; exact h4 a ha⟩
 up f hf := by
  rcases List.mem_append.1 hf with hf | hf
  ·
   exact dir_append (T.up f hf)
  ·
   rw [List.mem_singleton.1 hf]; exact dir_append h5
 data f hf := by
  rcases List.mem_append.1 hf with hf | hf
  ·
   exact T.data f hf
  ·
   rw [List.mem_singleton.1 hf]; exact ⟨h2, h3⟩
theorem last_less {es : List E} (h : es.Pairwise (fun a b => less a.p b.p)) {k : Nat} (hk : k < es.length) {s : ByteArray} (hl : es.length = k + 1) (hs : less es[k].p s) : ∀ f ∈ es, less f.p s := by
 intro f hf; obtain ⟨i, hi, rfl⟩ := List.getElem_of_mem hf; by_cases e : i = k
 ·
  subst e; exact hs
 ·
  exact less_trans (List.pairwise_iff_getElem.1 h i k hi hk (by omega)) hs
theorem okAt_parts {es : List E} {i : Nat} (hi : i < es.length) : okAt es i = true ↔ pathB es[i].p = true ∧ dataB es[i].x = true ∧ (es[i].d = true → es[i].x = ⟨#[]⟩) ∧ (i = 0 ∨ ∃ h : i - 1 < es.length, less es[i - 1].p es[i].p) ∧ dirE (es.take i) (upS es[i].p) = true := by
 rw [okAt_is hi]; simp only [Bool.and_eq_true, Bool.or_eq_true, Bool.not_eq_true', Bool.and_eq_false_iff, beq_iff_eq]; have hi1 : i - 1 < es.length := by omega
 rw [List.getElem?_eq_getElem hi1]; refine ⟨fun ⟨a, b, c, d, e⟩ => ⟨a, b, fun hd => ?_, ?_, e⟩, fun ⟨a, b, c, d, e⟩ => ⟨a, b, ?_, ?_, e⟩⟩
 ·
  rcases c with c | c
  ·
   rw [hd] at c; cases c
  ·
   exact notEmpty.1 (by simpa using c)
 ·
  rcases d with d | d
  ·
   exact .inl d
  ·
   exact .inr ⟨hi1, d⟩
 ·
  cases hd : es[i].d with
  | false => exact .inl rfl
  | true => exact .inr (by rw [notEmpty.2 (c hd)]; rfl)
 ·
  rcases d with d | ⟨_, d⟩
  ·
   exact .inl d
  ·
   exact .inr d
theorem tr_take {es : List E} : ∀ k, k ≤ es.length → (List.range k).all (okAt es) = true → TrE (es.take k)
 | 0, _, _ => by rw [List.take_zero]; exact TrE.nil
 | k + 1, hk, h => by
  rw [List.range_succ, List.all_append, Bool.and_eq_true] at h; have T := tr_take k (by omega) h.1; have hk' : k < es.length := by omega
  obtain ⟨a, b, c, d, e⟩ := (okAt_parts hk').1 (by simpa using h.2); rw [List.take_succ_eq_append_getElem hk']; refine tr_snoc T a b c ?_ e; rcases d with d | ⟨d1, d⟩
  ·
   subst d; intro f hf; rw [List.take_zero] at hf; cases hf
  ·
   by_cases k0 : k = 0
   ·
    subst k0; intro f hf; rw [List.take_zero] at hf; cases hf
   ·
    exact last_less T.sort (k := k - 1) (by rw [List.length_take]; omega) (by rw [List.length_take]; omega) (by rw [List.getElem_take]; exact d)
theorem treeE_tr {es : List E} (h : treeE es = true) : TrE es ∧ es.length ≤ 16 := by
 unfold treeE at h; rw [Bool.and_eq_true] at h; refine ⟨?_, of_decide_eq_true h.1⟩; have := tr_take es.length (Nat.le_refl _) h.2
 rwa [List.take_length] at this
theorem TrE.treeE {es : List E} (T : TrE es) (hl : es.length ≤ 16) : treeE es = true := by
 unfold Proofs.YtoaipphccjkphaaDoor.treeE; rw [Bool.and_eq_true]; refine ⟨decide_eq_true hl, ?_⟩; rw [List.all_eq_true]; intro i hi; rw [List.mem_range] at hi; have hm : es[i] ∈ es := List.getElem_mem hi; refine (okAt_parts hi).2 ⟨T.path _ hm, (T.data _ hm).1, (T.data _ hm).2, ?_, ?_⟩
 ·
  by_cases i0 : i = 0
  ·
   exact .inl i0
  ·
   exact .inr ⟨by omega, List.pairwise_iff_getElem.1 T.sort (i - 1) i (by omega) hi (by omega)⟩
 ·
  rcases dir_look (T.up _ hm) with e | ⟨e, hl, hd⟩
  ·
   exact look_dir (.inl e)
  ·
   refine look_dir (.inr ⟨e, ?_, hd⟩); obtain ⟨he, hp⟩ := look_mem hl; have hs := T.sort; obtain ⟨j, hj, rfl⟩ := List.getElem_of_mem he
   have hji : j < i := by
    have hup : pathB (upS es[i].p) = true := by rw [← hp]; exact T.path _ he
    have h1 : less es[j].p es[i].p := by rw [hp]; exact order_up hup (up_under (T.path _ hm))
    rcases Nat.lt_trichotomy j i with h | h | h
    ·
     exact h
    ·
     subst h; exact absurd h1 (less_irrefl _)
    ·
     exact absurd (less_trans h1 (List.pairwise_iff_getElem.1 hs i j hi hj h)) (less_irrefl _)
   rw [← hp]; refine look_self (hs.sublist (List.take_sublist i es)) ?_; rw [List.mem_take_iff_getElem]; exact ⟨j, by omega, rfl⟩
theorem join_ok {p n : ByteArray} (hp : stemOk p = true) (hn : nameB n = true) (h : pathB (joinI p n) = true) : joinOk p n = true := by
 unfold joinOk; rw [hp, hn, h]; rfl
/-! ### What is in a directory -/
theorem kid_iff (s : ByteArray) (e : E) : kidB s e = true ↔ upS e.p = s := by
 unfold kidB; rw [beq_iff_eq]; exact ⟨toList_inj, fun h => by rw [h]⟩
def bel (es : List E) (p : ByteArray) : List E := es.filter (fun e => underI e.p p)
theorem up_size {s : ByteArray} (h : pathB s = true) : (stemS (upS s)).size < s.size := (up_pre h).1
theorem lev_le (s : ByteArray) : levS s ≤ 3 := by
 unfold levS
 split
 ·
  rename_i h
  unfold pathB okItems at h; rw [Bool.and_eq_true] at h; have := of_decide_eq_true h.2; omega
 ·
  decide
theorem under_lev : ∀ (N : Nat) (a b : ByteArray), a.size ≤ N → underI a b = true → levS b < levS a
 | 0, a, b, hN, h => by
  obtain ⟨_, h2, _⟩ := (underI_iff _ _).1 h; have := pathB_head _ h2; omega
 | N + 1, a, b, hN, h => by
  obtain ⟨_, h2, _⟩ := (underI_iff _ _).1 h; have hl := (up_facts h2).2.2.2; rcases (under_up h2).1 h with e | e
  ·
   rw [e, hl]; omega
  ·
   have hsz := up_size h2; obtain ⟨_, h3, _⟩ := (underI_iff _ _).1 e; rw [stem_path h3] at hsz; have := under_lev N (upS a) b (by omega) e; omega
def chain (xs : List (Int × ByteArray)) : ByteArray := xs.foldl (fun p x => joinI p x.2) ⟨#[47]⟩
theorem chain_snoc (xs : List (Int × ByteArray)) (x : Int × ByteArray) : chain (xs ++ [x]) = joinI (chain xs) x.2 := by
 unfold chain; rw [List.foldl_append]; rfl
theorem root_no_path : pathB ⟨#[47]⟩ = false := by
 cases hq : pathB ⟨#[47]⟩ with
 | false => rfl
 | true => have := path_not_root hq; rw [root_root] at this; cases this
theorem items_step {s : ByteArray} (h : pathB s = true) : (upS s = ⟨#[47]⟩ ∧ ∃ k, items s = [(k, nmS s)]) ∨ (pathB (upS s) = true ∧ ∃ k, items s = items (upS s) ++ [(k, nmS s)]) := by
 obtain ⟨m, hm, m1, m2, m3⟩ := last_is h; have en : nmS s = s.extract (m + 1) s.size := by unfold nmS; rw [h, if_pos rfl, hm]; rfl
 by_cases h0 : m = 0
 ·
  subst h0
  left
  refine ⟨by unfold upS; rw [h, if_pos rfl, hm]; rfl, 0, ?_⟩; rw [en, items_slash s m1 (by rw [← get0 s m1]; exact m2)]; exact itemsL_plain s _ 1 0 (no_stroke_list s 1 (fun j hj hj' => m3 j (by omega) hj'))
 ·
  right
  have eu : upS s = s.extract 0 m := by unfold upS; rw [h, if_pos rfl, hm, if_neg (by omega)]; rfl
  have ei := items_up m m1 (by omega) m2 m3; have hp := h; unfold pathB at hp; rw [ei] at hp; refine ⟨by rw [eu]; exact (ok_app hp).1, m, ?_⟩; rw [eu, en]; exact ei
theorem chain_pre : ∀ (N : Nat) (s : ByteArray), s.size ≤ N → pathB s = true → ∀ pre, pre <+: items s → pre ≠ [] → pathB (chain pre) = true ∧ (s = chain pre ∨ underI s (chain pre) = true) ∧ (pre = items s → chain pre = s)
 | 0, s, hN, h => by have := pathB_head _ h; omega
 | N + 1, s, hN, h => by
  intro pre hpre hne; rcases items_step h with ⟨hu, k, hi⟩ | ⟨hu, k, hi⟩
  ·
   have e : pre = [(k, nmS s)] := by
    rw [hi] at hpre; rcases List.prefix_concat_iff.1 (show pre <+: [] ++ [(k, nmS s)] from hpre) with e | e
    ·
     exact e
    ·
     exact absurd (List.prefix_nil.1 e) hne
   have : chain pre = s := by
    rw [e, show [(k, nmS s)] = [] ++ [(k, nmS s)] from rfl, chain_snoc]; show joinI ⟨#[47]⟩ (nmS s) = s
    rw [← hu]; exact up_join h
   exact ⟨by rw [this]; exact h, .inl this.symm, fun _ => this⟩
  ·
   have hsz := up_size h; rw [stem_path hu] at hsz; have ih := chain_pre N (upS s) (by omega) hu; rw [hi] at hpre; rcases List.prefix_concat_iff.1 hpre with e | e
   ·
    have hnn : items (upS s) ≠ [] := by
     intro e0; have := itemsL_pos (upS s) ((upS s).data.toList.drop 0) 0 (-1); unfold items itemsAt at e0; rw [e0] at this; simp at this
    have hc := (ih _ (List.prefix_refl _) hnn).2.2 rfl
    have : chain pre = s := by
     rw [e, chain_snoc, hc]; exact up_join h
    exact ⟨by rw [this]; exact h, .inl this.symm, fun _ => this⟩
   ·
    obtain ⟨h1, h2, h3⟩ := ih pre e hne; refine ⟨h1, .inr ?_, fun e' => ?_⟩
    ·
     rcases h2 with h2 | h2
     ·
      rw [← h2]; exact up_under h
     ·
      exact under_trans (up_under h) h2
    ·
     exfalso
     have l1 := e.length_le; rw [e', hi, List.length_append, List.length_singleton] at l1; omega
theorem items_ne (s : ByteArray) : items s ≠ [] := by
 intro e0; have := itemsL_pos s (s.data.toList.drop 0) 0 (-1); unfold items itemsAt at e0; rw [e0] at this; simp at this
theorem chain_items {s : ByteArray} (h : pathB s = true) : chain (items s) = s :=
 (chain_pre _ s (Nat.le_refl _) h _ (List.prefix_refl _) (items_ne s)).2.2 rfl
theorem chain_path {s : ByteArray} (h : pathB s = true) {pre : List (Int × ByteArray)} (hp : pre <+: items s) (hne : pre ≠ []) : pathB (chain pre) = true := (chain_pre _ s (Nat.le_refl _) h pre hp hne).1
theorem chain_over {s : ByteArray} (h : pathB s = true) {pre : List (Int × ByteArray)} (hp : pre <+: items s) (hne : pre ≠ []) : s = chain pre ∨ underI s (chain pre) = true := (chain_pre _ s (Nat.le_refl _) h pre hp hne).2.1
theorem item_name {s : ByteArray} (h : pathB s = true) {x : Int × ByteArray} (hx : x ∈ items s) : nameB x.2 = true := by
 unfold pathB okItems at h; rw [Bool.and_eq_true, List.all_eq_true] at h; have := h.1 x hx; unfold okItem at this; rw [Bool.and_eq_true] at this; exact this.2
theorem up_there {es : List E} (T : TrE es) {b : ByteArray} (hb : pathB b = true) : ∀ (N : Nat) (e : E), e.p.size ≤ N → e ∈ es → underI e.p b = true → ∃ f, lookE es b = some f ∧ f.d = true
 | 0, e, hN, he, h => by have := pathB_head _ (T.path e he); omega
 | N + 1, e, hN, he, h => by
  have hpe := T.path e he; rcases dir_look (T.up e he) with q | ⟨f, hf, hd⟩
  ·
   rcases (under_up hpe).1 h with e1 | e1
   ·
    rw [q] at e1; rw [e1, root_no_path] at hb; cases hb
   ·
    obtain ⟨_, h2, _⟩ := (underI_iff _ _).1 e1; rw [q, root_no_path] at h2; cases h2
  ·
   rcases (under_up hpe).1 h with e1 | e1
   ·
    rw [e1]; exact ⟨f, hf, hd⟩
   ·
    obtain ⟨f1, f2⟩ := look_mem hf; have hsz := up_size hpe; rw [stem_path (by rw [← f2]; exact T.path f f1)] at hsz; exact up_there T hb N f (by rw [f2]; omega) f1 (by rw [f2]; exact e1)
theorem gone_below {es : List E} (T : TrE es) {s b : ByteArray} (hb : pathB b = true) (h : s = b ∨ underI s b = true) (hl : lookE es b = none) : lookE es s = none := by
 rcases h with rfl | h
 ·
  exact hl
 ·
  cases hs : lookE es s with
  | none => rfl
  | some e =>
   obtain ⟨e1, e2⟩ := look_mem hs; obtain ⟨f, hf, _⟩ := up_there T hb _ e (Nat.le_refl _) e1 (by rw [e2]; exact h); rw [hl] at hf; cases hf
theorem look_kid {es : List E} (T : TrE es) {p n : ByteArray} (hp : stemOk p = true) (hn : nameB n = true) {e : E} (h : lookE es (joinI p n) = some e) : dirE es p = true := by
 obtain ⟨e1, e2⟩ := look_mem h; have hj := join_up (join_ok hp hn (by rw [← e2]; exact T.path e e1)); have := T.up e e1
 rwa [e2, hj.1] at this
theorem look_path {es : List E} (T : TrE es) {s : ByteArray} {e : E} (h : lookE es s = some e) : pathB s = true := by
 obtain ⟨e1, e2⟩ := look_mem h; rw [← e2]; exact T.path e e1
theorem look_bad {es : List E} (T : TrE es) {s : ByteArray} (h : pathB s = false) : lookE es s = none := by
 cases hl : lookE es s with
 | none => rfl
 | some e => rw [look_path T hl] at h; cases h
abbrev Rise (es : List E) : Prop := es.Pairwise (fun a b => less a.p b.p)
theorem ltP_iff {e x : E} : ltP e x = true ↔ less x.p e.p := Iff.rfl
theorem put_cons_lt {e x : E} {r : List E} (h : less x.p e.p) : putE (x :: r) e = x :: putE r e := by
 have h' : ltP e x = true := h; unfold putE; simp [h']
theorem put_cons_eq {e x : E} {r : List E} (h : x.p = e.p) : putE (x :: r) e = e :: r := by
 have h' : ltP e x = false := by
  cases hl : ltP e x with
  | false => rfl
  | true => have := ltP_iff.1 hl; rw [h] at this; exact absurd this (less_irrefl _)
 unfold putE; simp [h', restE, h]
theorem put_cons_gt {e x : E} {r : List E} (h : less e.p x.p) : putE (x :: r) e = e :: x :: r := by
 have h' : ltP e x = false := by
  cases hl : ltP e x with
  | false => rfl
  | true => exact absurd (less_trans (ltP_iff.1 hl) h) (less_irrefl _)
 have h2 : ¬ x.p.toList = e.p.toList := fun k => by rw [toList_inj k] at h; exact less_irrefl _ h
 unfold putE; simp [h', restE, h2]
theorem put_facts (e : E) : ∀ es : List E, Rise es → Rise (putE es e) ∧ ∀ f, f ∈ putE es e ↔ f = e ∨ (f ∈ es ∧ f.p ≠ e.p)
 | [], _ => ⟨by simp [putE, restE, Rise], fun f => by simp [putE, restE]⟩
 | x :: r, h => by
  obtain ⟨h1, h2⟩ := List.pairwise_cons.1 h; by_cases hx : x.p = e.p
  ·
   rw [put_cons_eq hx]; refine ⟨List.pairwise_cons.2 ⟨fun f hf => by rw [← hx]; exact h1 f hf, h2⟩, fun f => ?_⟩; rw [List.mem_cons, List.mem_cons]
   constructor
   ·
    rintro (k | k)
    ·
     exact .inl k
    ·
     exact .inr ⟨.inr k, fun q => by have := h1 f k; rw [hx, q] at this; exact less_irrefl _ this⟩
   ·
    rintro (k | ⟨k | k, q⟩)
    ·
     exact .inl k
    ·
     rw [k] at q; exact absurd hx q
    ·
     exact .inr k
  ·
   rcases less_or hx with hl | hl
   ·
    rw [put_cons_lt hl]; obtain ⟨i1, i2⟩ := put_facts e r h2; refine ⟨List.pairwise_cons.2 ⟨fun f hf => ?_, i1⟩, fun f => ?_⟩
    ·
     rcases (i2 f).1 hf with k | ⟨k, _⟩
     ·
      rw [k]; exact hl
     ·
      exact h1 f k
    ·
     rw [List.mem_cons, List.mem_cons, i2 f]
     constructor
     ·
      rintro (k | k | ⟨k, q⟩)
      ·
       exact .inr ⟨.inl k, by rw [k]; exact hx⟩
      ·
       exact .inl k
      ·
       exact .inr ⟨.inr k, q⟩
     ·
      rintro (k | ⟨k | k, q⟩)
      ·
       exact .inr (.inl k)
      ·
       exact .inl k
      ·
       exact .inr (.inr ⟨k, q⟩)
   ·
    rw [put_cons_gt hl]; refine ⟨List.pairwise_cons.2 ⟨fun f hf => ?_, h⟩, fun f => ?_⟩
    ·
     rcases List.mem_cons.1 hf with k | k
     ·
      rw [k]; exact hl
     ·
      exact less_trans hl (h1 f k)
    ·
     rw [List.mem_cons]
     constructor
     ·
      rintro (k | k)
      ·
       exact .inl k
      ·
       refine .inr ⟨k, fun q => ?_⟩; rcases List.mem_cons.1 k with m | m
       ·
        rw [m] at q; exact hx q
       ·
        have := less_trans hl (h1 f m); rw [q] at this; exact less_irrefl _ this
     ·
      rintro (k | ⟨k, _⟩)
      ·
       exact .inl k
      ·
       exact .inr k
theorem put_rise {es : List E} (h : Rise es) (e : E) : Rise (putE es e) := (put_facts e es h).1
theorem put_mem {es : List E} (h : Rise es) (e f : E) : f ∈ putE es e ↔ f = e ∨ (f ∈ es ∧ f.p ≠ e.p) := (put_facts e es h).2 f
theorem put_look {es : List E} (h : Rise es) (e : E) (s : ByteArray) : lookE (putE es e) s = if s = e.p then some e else lookE es s := by
 by_cases hs : s = e.p
 ·
  rw [if_pos hs, look_iff (put_rise h e), put_mem h]; exact ⟨.inl rfl, hs.symm⟩
 ·
  rw [if_neg hs]; cases hl : lookE es s with
  | none =>
   rw [look_none] at hl ⊢; intro f hf q; rcases (put_mem h e f).1 hf with k | ⟨k, _⟩
   ·
    rw [k] at q; exact hs q.symm
   ·
    exact hl f k q
  | some f =>
   rw [look_iff (put_rise h e), put_mem h]; obtain ⟨h1, h2⟩ := look_mem hl; exact ⟨.inr ⟨h1, by rw [h2]; exact hs⟩, h2⟩
theorem off_rise {es : List E} (h : Rise es) (s : ByteArray) : Rise (offE es s) := h.filter _
theorem off_mem (es : List E) (s : ByteArray) (f : E) : f ∈ offE es s ↔ f ∈ es ∧ f.p ≠ s := by
 unfold offE; rw [List.mem_filter, beqL]; simp
theorem off_look {es : List E} (h : Rise es) (s q : ByteArray) : lookE (offE es s) q = if q = s then none else lookE es q := by
 by_cases hq : q = s
 ·
  rw [if_pos hq, look_none]; intro f hf k; exact ((off_mem es s f).1 hf).2 (k.trans hq)
 ·
  rw [if_neg hq]; cases hl : lookE es q with
  | none =>
   rw [look_none] at hl ⊢; intro f hf k; exact hl f ((off_mem es s f).1 hf).1 k
  | some f =>
   obtain ⟨h1, h2⟩ := look_mem hl; rw [look_iff (off_rise h s), off_mem]; exact ⟨⟨h1, by rw [h2]; exact hq⟩, h2⟩
theorem both_rise : ∀ (fs es : List E), Rise es → Rise (bothE es fs)
 | [], _, h => h
 | f :: r, es, h => both_rise r (putE es f) (put_rise h f)
theorem root_not_path {s : ByteArray} (h : pathB s = true) : isRoot s = false := by
 cases hr : isRoot s with
 | false => rfl
 | true =>
  have := (isRoot_iff s).1 hr; rw [this, root_no_path] at h; cases h
end Go.Proofs.YtoaipphccjkphaaDoor
namespace Go.Proofs.YtoaipphccjkphaaDoor.Mg
open Go.RowKit Go.Lib
def allE (t a b : List E) : List E := bothE (bothE t a) b
def pathsE (t a b : List E) : List ByteArray := (allE t a b).map (fun e => e.p)
def mk (t a b : List E) (s : ByteArray) : E × Bool × Bool := at3 (getE t s) (getE a s) (getE b s)
def clashL (t a b : List E) (q : List ByteArray) : List ByteArray := q.filter (fun s => !(mk t a b s).2.2)
def mergeL (t a b : List E) (q : List ByteArray) : List E := q.filterMap (fun s => if (mk t a b s).2.1 = true then some (mk t a b s).1 else none)
def clashE (t a b : List E) : List ByteArray := if trees3 t a b = true then clashL t a b (pathsE t a b) else []
def mergeB (t a b : List E) : Bool := trees3 t a b && ((clashL t a b (pathsE t a b)).isEmpty && treeE (mergeL t a b (pathsE t a b)))
def mergeE (t a b : List E) : List E := if mergeB t a b = true then mergeL t a b (pathsE t a b) else []
theorem both_rise : ∀ (fs es : List E), Rise es → Rise (bothE es fs)
 | [], _, h => h
 | f :: r, es, h => both_rise r (putE es f) (put_rise h f)
theorem both_mem : ∀ (fs es : List E), Rise es → ∀ s, (∃ e ∈ bothE es fs, e.p = s) ↔ (∃ e ∈ es, e.p = s) ∨ (∃ e ∈ fs, e.p = s)
 | [], _, _, s => by simp [bothE]
 | f :: r, es, h, s => by
  have ih := both_mem r (putE es f) (put_rise h f) s; show (∃ e ∈ bothE (putE es f) r, e.p = s) ↔ _
  rw [ih]
  constructor
  ·
   rintro (⟨e, he, rfl⟩ | ⟨e, he, rfl⟩)
   ·
    rcases (put_mem h f e).1 he with rfl | ⟨h1, _⟩
    ·
     exact .inr ⟨e, by simp, rfl⟩
    ·
     exact .inl ⟨e, h1, rfl⟩
   ·
    exact .inr ⟨e, List.mem_cons_of_mem _ he, rfl⟩
  ·
   rintro (⟨e, he, rfl⟩ | ⟨e, he, rfl⟩)
   ·
    by_cases hp : e.p = f.p
    ·
     exact .inl ⟨f, (put_mem h f f).2 (.inl rfl), hp.symm⟩
    ·
     exact .inl ⟨e, (put_mem h f e).2 (.inr ⟨he, hp⟩), rfl⟩
   ·
    rcases List.mem_cons.1 he with rfl | he
    ·
     exact .inl ⟨e, (put_mem h e e).2 (.inl rfl), rfl⟩
    ·
     exact .inr ⟨e, he, rfl⟩
theorem paths_mem {t a b : List E} (h : Rise t) (s : ByteArray) : s ∈ pathsE t a b ↔ (∃ e ∈ t, e.p = s) ∨ (∃ e ∈ a, e.p = s) ∨ (∃ e ∈ b, e.p = s) := by
 unfold pathsE allE; rw [List.mem_map, both_mem b _ (both_rise a t h), both_mem a _ h, or_assoc]
theorem paths_rise {t a b : List E} (h : Rise t) : (pathsE t a b).Pairwise less := by
 unfold pathsE allE; exact List.pairwise_map.2 (both_rise b _ (both_rise a t h))
theorem both_len : ∀ (fs es : List E), (bothE es fs).length ≤ es.length + fs.length
 | [], es => by simp [bothE]
 | f :: r, es => by
  have := both_len r (putE es f); have h2 := put_len es f; show (bothE (putE es f) r).length ≤ _
  simp; omega
theorem paths_len (t a b : List E) : (pathsE t a b).length ≤ t.length + a.length + b.length := by
 unfold pathsE allE; have h1 := both_len b (bothE t a); have h2 := both_len a t
 simp; omega
def inQ (q : List ByteArray) (s : ByteArray) : Bool := q.any (fun x => decide (x = s))
theorem inQ_iff {q : List ByteArray} {s : ByteArray} : inQ q s = true ↔ s ∈ q := by
 unfold inQ; rw [List.any_eq_true]; exact ⟨fun ⟨x, h, e⟩ => by rw [← of_decide_eq_true e]; exact h, fun h => ⟨s, h, by simp⟩⟩
theorem inQ_not {q : List ByteArray} {s : ByteArray} (h : ¬ s ∈ q) : inQ q s = false := by
 cases hh : inQ q s with
 | false => rfl
 | true => exact absurd (inQ_iff.1 hh) h
def rest (q : List ByteArray) (es : List E) : List E := es.filter (fun e => inQ q e.p)
theorem rest_all {q : List ByteArray} {es : List E} (h : ∀ e ∈ es, e.p ∈ q) : rest q es = es := by
 unfold rest; exact List.filter_eq_self.2 (fun e he => inQ_iff.2 (h e he))
theorem rest_nil (es : List E) : rest [] es = [] := by unfold rest inQ; simp
theorem rest_in {q : List ByteArray} {es : List E} {e : E} (h : e ∈ rest q es) : e ∈ es ∧ e.p ∈ q := by
 unfold rest at h; rw [List.mem_filter] at h; exact ⟨h.1, inQ_iff.1 h.2⟩
theorem rest_len (q : List ByteArray) (es : List E) : (rest q es).length ≤ es.length := List.length_filter_le _ _
theorem cons_q {s p : ByteArray} {q : List ByteArray} (h : p ≠ s) : inQ (s :: q) p = inQ q p := by
 unfold inQ; rw [List.any_cons, decide_eq_false (fun e => h e.symm), Bool.false_or]
theorem rest_step {s : ByteArray} {q : List ByteArray} (hq : (s :: q).Pairwise less) : ∀ (es : List E), Rise es →
  (∃ e, lookE es s = some e ∧ rest (s :: q) es = e :: rest q es) ∨ (lookE es s = none ∧ rest (s :: q) es = rest q es)
 | [], _ => .inr ⟨rfl, rfl⟩
 | x :: r, h => by
  have hr : Rise r := (List.pairwise_cons.1 h).2; have hx := (List.pairwise_cons.1 h).1; have hs := (List.pairwise_cons.1 hq).1
  have hne : ∀ y ∈ r, y.p = s → ¬ (x.p = s ∨ less s x.p) := fun y hy hys hc => by
   have h1 := hx y hy; rw [hys] at h1; rcases hc with hc | hc
   ·
    rw [hc] at h1; exact absurd h1 (less_irrefl _)
   ·
    have := less_trans h1 hc; exact absurd this (less_irrefl _)
  by_cases hxs : x.p = s
  ·
   refine .inl ⟨x, ?_, ?_⟩
   ·
    unfold lookE; simp [hxs]
   ·
    have hnq : ¬ x.p ∈ q := fun hin => by
     have := hs _ hin; rw [hxs] at this; exact absurd this (less_irrefl _)
    unfold rest; rw [List.filter_cons_of_pos (p := fun e : E => inQ (s :: q) e.p) (inQ_iff.2 (by rw [hxs]; simp)), List.filter_cons_of_neg (p := fun e : E => inQ q e.p) (by rw [inQ_not hnq]; decide)]
    congr 1
    exact List.filter_congr (fun y hy => by
     have : y.p ≠ s := fun e => hne y hy e (.inl hxs)
     exact cons_q this)
  ·
   by_cases hin : x.p ∈ q
   ·
    have hl := hs _ hin; refine .inr ⟨look_none.2 (fun y hy e => ?_), ?_⟩
    ·
     rcases List.mem_cons.1 hy with rfl | hy
     ·
      exact hxs e
     ·
      exact hne y hy e (.inr hl)
    ·
     unfold rest; refine List.filter_congr (fun y hy => ?_)
     have : y.p ≠ s := fun e => by
      rcases List.mem_cons.1 hy with rfl | hy
      ·
       exact hxs e
      ·
       exact hne y hy e (.inr hl)
     exact cons_q this
   ·
    have hlook : lookE (x :: r) s = lookE r s := by unfold lookE; simp [hxs]
    have e1 : rest (s :: q) (x :: r) = rest (s :: q) r := by unfold rest; rw [List.filter_cons_of_neg (by rw [cons_q hxs, inQ_not hin]; decide)]
    have e2 : rest q (x :: r) = rest q r := by unfold rest; rw [List.filter_cons_of_neg (by rw [inQ_not hin]; decide)]
    rw [hlook, e1, e2]; exact rest_step hq r hr
instance (a b : ByteArray) : Decidable (less a b) := by unfold less; infer_instance
def fstF (m : ByteArray × Bool) : List E → ByteArray × Bool
 | [] => m
 | e :: _ => if m.2 = false then (e.p, true) else if less e.p m.1 then (e.p, true) else m
theorem fst_good {s : ByteArray} {m : ByteArray × Bool} {r : List E} (hm : m.2 = true → m.1 = s ∨ less s m.1) (hr : ∀ e ∈ r, e.p = s ∨ less s e.p) :
  ((fstF m r).2 = true → (fstF m r).1 = s ∨ less s (fstF m r).1) ∧ (m = (s, true) → fstF m r = (s, true)) ∧ (∀ e r', r = e :: r' → e.p = s → fstF m r = (s, true)) := by
 cases r with
 | nil => exact ⟨hm, fun h => h, fun e r' h => by cases h⟩
 | cons e r' =>
  have he := hr e (by simp); refine ⟨fun _ => ?_, fun h => ?_, fun e' r'' h hs => ?_⟩
  ·
   show (if m.2 = false then (e.p, true) else if less e.p m.1 then (e.p, true) else m).1 = s ∨ less s (if m.2 = false then (e.p, true) else if less e.p m.1 then (e.p, true) else m).1
   split
   ·
    exact he
   ·
    rename_i h1
    split
    ·
     exact he
    ·
     exact hm (by simpa using h1)
  ·
   subst h; show (if true = false then (e.p, true) else if less e.p s then (e.p, true) else (s, true)) = _
   rw [if_neg (by decide)]
   split
   ·
    rename_i h1
    rcases he with h | h
    ·
     rw [h] at h1; exact absurd h1 (less_irrefl _)
    ·
     exact absurd (less_trans h1 h) (less_irrefl _)
   ·
    rfl
  ·
   cases h; show (if m.2 = false then (e.p, true) else if less e.p m.1 then (e.p, true) else m) = _
   rw [hs]
   split
   ·
    rfl
   ·
    rename_i h1
    split
    ·
     rfl
    ·
     rename_i h2
     have h3 : m.2 = true := by simpa using h1
     rcases hm h3 with h | h
     ·
      obtain ⟨m1, m2⟩ := m; dsimp only at h h3; rw [h, h3]
     ·
      exact absurd h h2
theorem fst_some {s : ByteArray} {q : List ByteArray} {t a b : List E} (hq : (s :: q).Pairwise less) (ht : Rise t) (ha : Rise a) (hb : Rise b)
  (hs : (∃ e ∈ t, e.p = s) ∨ (∃ e ∈ a, e.p = s) ∨ (∃ e ∈ b, e.p = s)) :
  fstF (fstF (fstF (⟨#[]⟩, false) (rest (s :: q) t)) (rest (s :: q) a)) (rest (s :: q) b) = (s, true) := by
 have hin : ∀ es e, e ∈ rest (s :: q) es → e.p = s ∨ less s e.p := fun es e he => by
  rcases List.mem_cons.1 (rest_in he).2 with h | h
  ·
   exact .inl h
  ·
   exact .inr ((List.pairwise_cons.1 hq).1 _ h)
 have hd : ∀ es, Rise es → (∃ e ∈ es, e.p = s) → ∃ e r, rest (s :: q) es = e :: r ∧ e.p = s := fun es hR ⟨e, he, hes⟩ => by
  rcases rest_step hq es hR with ⟨x, h1, h2⟩ | ⟨h1, _⟩
  ·
   exact ⟨x, _, h2, (look_mem h1).2⟩
  ·
   exact absurd hes (look_none.1 h1 e he)
 obtain ⟨g1, _, k1⟩ := fst_good (s := s) (m := (⟨#[]⟩, false)) (r := rest (s :: q) t) (fun h => by cases h) (hin t); obtain ⟨g2, s2, k2⟩ := fst_good (m := fstF (⟨#[]⟩, false) (rest (s :: q) t)) (r := rest (s :: q) a) g1 (hin a); obtain ⟨_, s3, k3⟩ := fst_good (m := fstF (fstF (⟨#[]⟩, false) (rest (s :: q) t)) (rest (s :: q) a)) (r := rest (s :: q) b) g2 (hin b); rcases hs with h | h | h
 ·
  obtain ⟨e, r, h1, h2⟩ := hd t ht h; exact s3 (s2 (k1 e r h1 h2))
 ·
  obtain ⟨e, r, h1, h2⟩ := hd a ha h; exact s3 (k2 e r h1 h2)
 ·
  obtain ⟨e, r, h1, h2⟩ := hd b hb h; exact k3 e r h1 h2
end Go.Proofs.YtoaipphccjkphaaDoor.Mg
namespace Go.Proofs.YtoaipphccjkphaaDoor
theorem up_ne {s : ByteArray} (h : pathB s = true) : upS s ≠ s := fun q => by
 have h1 := up_under h; rw [q, under_self] at h1; cases h1
theorem dir_of_look {es fs : List E} {s : ByteArray} (h : lookE es s = lookE fs s) : dirE es s = dirE fs s := by
 rw [dirE_look, dirE_look, h]
theorem dir_isRoot {es : List E} {s : ByteArray} (hp : pathB s = true) (hl : lookE es s = none) : dirE es s = false := by
 rw [dirE_look, hl, root_not_path hp]; rfl
theorem tr_put {es : List E} {e : E} (T : TrE es) (h1 : pathB e.p = true) (h2 : dataB e.x = true) (h3 : e.d = true → e.x = ⟨#[]⟩) (h4 : dirE es e.p = false) (h5 : dirE es (upS e.p) = true) : TrE (putE es e) where
 path f hf := by
  rcases (put_mem T.sort e f).1 hf with k | ⟨k, _⟩
  ·
   rw [k]; exact h1
  ·
   exact T.path f k
 sort := put_rise T.sort e
 up f hf := by
  rcases (put_mem T.sort e f).1 hf with k | ⟨k, _⟩
  ·
   rw [k, dir_of_look (fs := es) (by rw [put_look T.sort, if_neg (up_ne h1)])]; exact h5
  ·
   have hu := T.up f k; have hne : upS f.p ≠ e.p := fun q => by rw [q, h4] at hu; cases hu
   rw [dir_of_look (fs := es) (by rw [put_look T.sort, if_neg hne])]; exact hu
 data f hf := by
  rcases (put_mem T.sort e f).1 hf with k | ⟨k, _⟩
  ·
   rw [k]; exact ⟨h2, h3⟩
  ·
   exact T.data f k
theorem tr_off {es : List E} {s : ByteArray} (T : TrE es) (h : ∀ e ∈ es, upS e.p ≠ s) : TrE (offE es s) where
 path f hf := T.path f ((off_mem es s f).1 hf).1
 sort := off_rise T.sort s
 up f hf := by
  obtain ⟨k, _⟩ := (off_mem es s f).1 hf; rw [dir_of_look (fs := es) (by rw [off_look T.sort, if_neg (h f k)])]; exact T.up f k
 data f hf := T.data f ((off_mem es s f).1 hf).1
theorem kids_nil {es : List E} {s : ByteArray} (h : kidsE es s = []) : ∀ e ∈ es, upS e.p ≠ s := fun e he q => by
 unfold kidsE at h; have h1 : es.filter (kidB s) = [] := List.map_eq_nil_iff.1 h; have := List.mem_filter.2 ⟨he, (kid_iff s e).2 q⟩; rw [h1] at this; cases this
theorem kids_file {es : List E} (T : TrE es) {s : ByteArray} (h : dirE es s = false) : kidsE es s = [] := by
 unfold kidsE; rw [List.map_eq_nil_iff, List.filter_eq_nil_iff]; intro e he hk; have := T.up e he; rw [(kid_iff s e).1 hk, h] at this; cases this
/-! ### What is moved -/
theorem both_mem : ∀ (gs es : List E), Rise es → gs.Pairwise (fun a b => a.p ≠ b.p) → ∀ x, x ∈ bothE es gs ↔ x ∈ gs ∨ (x ∈ es ∧ ∀ g ∈ gs, x.p ≠ g.p)
 | [], es, _, _, x => by simp [bothE]
 | g :: r, es, h, k, x => by
  obtain ⟨k1, k2⟩ := List.pairwise_cons.1 k; show x ∈ bothE (putE es g) r ↔ _
  rw [both_mem r (putE es g) (put_rise h g) k2 x, put_mem h, List.mem_cons]
  constructor
  ·
   rintro (m | ⟨m | ⟨m, q⟩, n⟩)
   ·
    exact .inl (.inr m)
   ·
    exact .inl (.inl m)
   ·
    refine .inr ⟨m, fun y hy => ?_⟩; rcases List.mem_cons.1 hy with e | e
    ·
     rw [e]; exact q
    ·
     exact n y e
  ·
   rintro ((m | m) | ⟨m, n⟩)
   ·
    exact .inr ⟨.inl m, fun y hy => by rw [m]; exact k1 y hy⟩
   ·
    exact .inl m
   ·
    exact .inr ⟨.inr ⟨m, n g (List.mem_cons_self ..)⟩, fun y hy => n y (List.mem_cons_of_mem _ hy)⟩
theorem mov_both (es : List E) (f t : ByteArray) : movE es f t = bothE [] (es.map (movE1 f t)) := by
 unfold movE bothE; rw [List.foldl_map]
theorem hitP {s f : ByteArray} (hs : pathB s = true) (hf : pathB f = true) : movHit s f = true ↔ (s = f ∨ underI s f = true) := by
 rw [hit_under hs hf, Bool.or_eq_true, beqL, decide_eq_true_iff]
structure Mv (es : List E) (f t : ByteArray) : Prop where
 T : TrE es
 pf : pathB f = true
 pt : pathB t = true
 there : ∃ e, lookE es f = some e
 dir : dirE es (upS t) = true
 free : lookE es t = none
 out : underI t f = false
 fit : fitE es f t = true
theorem Mv.ok {es : List E} {f t : ByteArray} (m : Mv es f t) {e : E} (he : e ∈ es) : movOk e.p f t = true := by
 have := m.fit; unfold fitE at this; rw [List.all_eq_true] at this; exact this e he
theorem Mv.free' {es : List E} {f t : ByteArray} (m : Mv es f t) {e : E} (he : e ∈ es) : movHit e.p t = false := by
 cases h : movHit e.p t with
 | false => rfl
 | true =>
  have h1 := gone_below m.T m.pt ((hitP (m.T.path e he) m.pt).1 h) m.free; rw [look_self m.T.sort he] at h1; cases h1
theorem Mv.hit {es : List E} {f t : ByteArray} (m : Mv es f t) {e : E} (he : e ∈ es) (h : movHit e.p f = true) : (movE1 f t e).p = movX e.p f t ∧ pathB (movX e.p f t) = true := movS_yes (m.ok he) h
theorem Mv.miss {es : List E} {f t : ByteArray} (m : Mv es f t) {e : E} (he : e ∈ es) (h : movHit e.p f = false) : (movE1 f t e).p = e.p := by
 obtain ⟨h1, _⟩ := movOk_parts (m.ok he); show movS e.p f t = _
 unfold movS; rw [h1, h]; rfl
theorem Mv.inj {es : List E} {f t : ByteArray} (m : Mv es f t) {a b : E} (ha : a ∈ es) (hb : b ∈ es) (h : (movE1 f t a).p = (movE1 f t b).p) : a.p = b.p := by
 cases h1 : movHit a.p f with
 | true =>
  cases h2 : movHit b.p f with
  | true =>
   rw [(m.hit ha h1).1, (m.hit hb h2).1] at h; have : movX (movX a.p f t) t f = movX (movX b.p f t) t f := by rw [h]
   rwa [moved_back h1, moved_back h2] at this
  | false =>
   rw [(m.hit ha h1).1, m.miss hb h2] at h; have := moved_hit (t := t) h1; rw [h, m.free' hb] at this; cases this
 | false =>
  cases h2 : movHit b.p f with
  | true =>
   rw [m.miss ha h1, (m.hit hb h2).1] at h; have := moved_hit (t := t) h2; rw [← h, m.free' ha] at this; cases this
  | false => rwa [m.miss ha h1, m.miss hb h2] at h
theorem Mv.apart {es : List E} {f t : ByteArray} (m : Mv es f t) : (es.map (movE1 f t)).Pairwise (fun a b => a.p ≠ b.p) := by
 rw [List.pairwise_map]; refine List.Pairwise.imp_of_mem ?_ m.T.sort; intro a b ha hb hl q; have := m.inj ha hb q; rw [this] at hl; exact less_irrefl _ hl
theorem Mv.mem {es : List E} {f t : ByteArray} (m : Mv es f t) (x : E) : x ∈ movE es f t ↔ ∃ e ∈ es, movE1 f t e = x := by
 rw [mov_both, both_mem _ _ (by simp [Rise]) m.apart]; simp
theorem Mv.rise {es : List E} {f t : ByteArray} (_m : Mv es f t) : Rise (movE es f t) := by
 rw [mov_both]; exact both_rise _ _ (by simp [Rise])
theorem look_of {es : List E} {s : ByteArray} {o : Option E} (h : Rise es) (hs : ∀ e, o = some e → e ∈ es ∧ e.p = s) (hn : o = none → ∀ e ∈ es, e.p ≠ s) : lookE es s = o := by
 cases o with
 | none => exact look_none.2 (hn rfl)
 | some e => exact (look_iff h s e).2 (hs e rfl)
theorem Mv.look_to {es : List E} {f t : ByteArray} (m : Mv es f t) {s : ByteArray} (h : movHit s t = true) : lookE (movE es f t) s = (lookE es (movX s t f)).map (fun e => ⟨s, e.d, e.x⟩) := by
 refine look_of m.rise (fun e he => ?_) (fun hn e he q => ?_)
 ·
  obtain ⟨g, hg, rfl⟩ := Option.map_eq_some_iff.1 he; obtain ⟨g1, g2⟩ := look_mem hg; have hh : movHit g.p f = true := by rw [g2]; exact moved_hit h
  have hp : (movE1 f t g).p = s := by rw [(m.hit g1 hh).1, g2]; exact moved_back h
  exact ⟨(m.mem _).2 ⟨g, g1, by rw [← hp]; rfl⟩, rfl⟩
 ·
  obtain ⟨g, g1, rfl⟩ := (m.mem e).1 he; cases h2 : movHit g.p f with
  | true =>
   rw [(m.hit g1 h2).1] at q; have hb : g.p = movX s t f := by rw [← q]; exact (moved_back h2).symm
   have hl := look_self m.T.sort g1; rw [hb] at hl; rw [hl] at hn; cases hn
  | false =>
   rw [m.miss g1 h2] at q; rw [← q, m.free' g1] at h; cases h
theorem Mv.look_else {es : List E} {f t : ByteArray} (m : Mv es f t) {s : ByteArray} (h : movHit s t = false) (k : movHit s f = false) : lookE (movE es f t) s = lookE es s := by
 refine look_of m.rise (fun e he => ?_) (fun hn e he q => ?_)
 ·
  obtain ⟨e1, e2⟩ := look_mem he; have hp := m.miss e1 (by rw [e2]; exact k); refine ⟨(m.mem e).2 ⟨e, e1, ?_⟩, e2⟩; cases e; simp only [movE1, E.mk.injEq, and_true]; exact hp
 ·
  obtain ⟨g, g1, rfl⟩ := (m.mem e).1 he; cases h2 : movHit g.p f with
  | true =>
   rw [(m.hit g1 h2).1] at q; have := moved_hit (t := t) h2; rw [q, h] at this; cases this
  | false =>
   rw [m.miss g1 h2] at q; exact look_none.1 hn g g1 q
theorem movX_join {s f t n : ByteArray} (hs : pathB s = true) (hx : pathB (movX s f t) = true) (h : movHit s f = true) : movX (joinI s n) f t = joinI (movX s f t) n := by
 obtain ⟨h1, _⟩ := hit_le h; unfold joinI; rw [stem_path hs, stem_path hx]
 apply L_inj
 unfold movX; rw [L_app, L_app, L_app, L_app, L_ext, L_ext, L_app, L_app]
 have e1 : (s ++ ⟨#[47]⟩ ++ n).size - f.size = (s.size - f.size) + (1 + n.size) := by
  rw [ByteArray.size_append, ByteArray.size_append]; have : (⟨#[47]⟩ : ByteArray).size = 1 := rfl; omega
 have hl := L_len s
 rw [List.append_assoc, List.drop_append_of_le_length (by omega), List.take_of_length_le (by
  rw [e1, List.length_append, List.length_append, List.length_drop, L_len, L_len n]; have : (L ⟨#[47]⟩).length = 1 := rfl
  omega), List.take_of_length_le (by rw [List.length_drop]; omega)]
 simp
theorem movX_self (f t : ByteArray) : movX f f t = t := by
 unfold movX; exact app_empty _ _ (by rw [size_ext]; omega)
theorem movX_up {s f t : ByteArray} (hs : pathB s = true) (hf : pathB f = true) (hu : underI s f = true) (hx : pathB (movX (upS s) f t) = true) (hx' : pathB (movX s f t) = true) : upS (movX s f t) = movX (upS s) f t := by
 have hup : pathB (upS s) = true ∧ movHit (upS s) f = true := by
  rcases (under_up hs).1 hu with e | e
  ·
   rw [← e]; exact ⟨hf, (hit_iff _ _).2 (.inl rfl)⟩
  ·
   have h2 := ((underI_iff _ _).1 e).2.1; exact ⟨h2, (hitP h2 hf).2 (.inr e)⟩
 have hj := movX_join (n := nmS s) hup.1 hx hup.2; rw [up_join hs] at hj; have := join_up (join_ok (stemOk_path hx) (up_facts hs).2.2.1 (by rw [← hj]; exact hx')); rw [hj]; exact this.1
theorem Mv.tr {es : List E} {f t : ByteArray} (m : Mv es f t) : TrE (movE es f t) where
 path x hx := by
  obtain ⟨e, he, rfl⟩ := (m.mem x).1 hx; cases h : movHit e.p f with
  | true => rw [(m.hit he h).1]; exact (m.hit he h).2
  | false => rw [m.miss he h]; exact m.T.path e he
 sort := m.rise
 up x hx := by
  obtain ⟨e, he, rfl⟩ := (m.mem x).1 hx; have hpe := m.T.path e he; have hup := m.T.up e he; cases h : movHit e.p f with
  | true =>
   rw [(m.hit he h).1]; rcases (hitP hpe m.pf).1 h with q | q
   ·
    rw [q, movX_self]
    have hnt : movHit (upS t) t = false := by
     cases hh : movHit (upS t) t with
     | false => rfl
     | true =>
      have := (hit_le hh).1; rcases stemOk_is (m.T.dirOk m.dir) with k | k
      ·
       rcases (hit_iff _ _).1 hh with k2 | k2
       ·
        exact absurd k2 (up_ne m.pt)
       ·
        have h3 := k2.1; rw [k] at h3; have h4 := pathB_head _ m.pt; have : (⟨#[47]⟩ : ByteArray).size = 1 := rfl; omega
      ·
       have := up_size m.pt; rw [stem_path k] at this; omega
    have hnf : movHit (upS t) f = false := by
     cases hh : movHit (upS t) f with
     | false => rfl
     | true =>
      rcases stemOk_is (m.T.dirOk m.dir) with k | k
      ·
       rcases (hit_iff _ _).1 hh with k2 | k2
       ·
        have hpf := m.pf; rw [← k2, k, root_no_path] at hpf; cases hpf
       ·
        have h3 := k2.1; rw [k] at h3; have h4 := pathB_head _ m.pf; have : (⟨#[47]⟩ : ByteArray).size = 1 := rfl; omega
      ·
       have h1 : underI t f = true := (under_up m.pt).2 (by
        rcases (hitP k m.pf).1 hh with e1 | e1
        ·
         exact .inl e1.symm
        ·
         exact .inr e1)
       rw [m.out] at h1; cases h1
    rw [dir_of_look (m.look_else hnt hnf)]; exact m.dir
   ·
    have hu2 : pathB (upS e.p) = true ∧ movHit (upS e.p) f = true := by
     rcases (under_up hpe).1 q with e1 | e1
     ·
      rw [← e1]; exact ⟨m.pf, (hit_iff _ _).2 (.inl rfl)⟩
     ·
      have h2 := ((underI_iff _ _).1 e1).2.1; exact ⟨h2, (hitP h2 m.pf).2 (.inr e1)⟩
    rcases dir_look hup with k | ⟨g, hg, hd⟩
    ·
     rw [k, root_no_path] at hu2; cases hu2.1
    ·
     obtain ⟨g1, g2⟩ := look_mem hg; have hgh : movHit g.p f = true := by rw [g2]; exact hu2.2
     have hgx := (m.hit g1 hgh).2; rw [g2] at hgx; rw [movX_up hpe m.pf q hgx (m.hit he h).2]; refine look_dir (.inr ⟨⟨movX (upS e.p) f t, g.d, g.x⟩, ?_, hd⟩); rw [m.look_to (moved_hit hu2.2), moved_back hu2.2, hg]; rfl
  | false =>
   rw [m.miss he h]; rcases dir_look hup with k | ⟨g, hg, hd⟩
   ·
    exact look_dir (.inl k)
   ·
    obtain ⟨g1, g2⟩ := look_mem hg; have hpu : pathB (upS e.p) = true := by rw [← g2]; exact m.T.path g g1
    have hnt : movHit (upS e.p) t = false := by rw [← g2]; exact m.free' g1
    have hnf : movHit (upS e.p) f = false := by
     cases hh : movHit (upS e.p) f with
     | false => rfl
     | true =>
      have h1 : underI e.p f = true := (under_up hpe).2 (by
       rcases (hitP hpu m.pf).1 hh with e1 | e1
       ·
        exact .inl e1.symm
       ·
        exact .inr e1)
      rw [(hitP hpe m.pf).2 (.inr h1)] at h; cases h
    exact look_dir (.inr ⟨g, by rw [m.look_else hnt hnf]; exact hg, hd⟩)
 data x hx := by
  obtain ⟨e, he, rfl⟩ := (m.mem x).1 hx; exact m.T.data e he
end Go.Proofs.YtoaipphccjkphaaDoor
namespace Go.Proofs.YtoaipphccjkphaaDoor.Mg
open Go.RowKit Go.Lib
theorem clash_succ (t a b : List E) (q : List ByteArray) (k : Nat) (h : k < q.length) : clashL t a b (q.take (k + 1)) = clashL t a b (q.take k) ++ (if (mk t a b q[k]).2.2 = true then [] else [q[k]]) := by
 unfold clashL; rw [List.take_succ_eq_append_getElem h, List.filter_append]
 congr 1
 cases hm : (mk t a b q[k]).2.2 with
 | true => rw [if_pos rfl, List.filter_cons_of_neg (by rw [hm]; decide)]; rfl
 | false => rw [if_neg (by decide), List.filter_cons_of_pos (by rw [hm]; rfl)]; rfl
theorem merge_succ (t a b : List E) (q : List ByteArray) (k : Nat) (h : k < q.length) : mergeL t a b (q.take (k + 1)) = mergeL t a b (q.take k) ++ (if (mk t a b q[k]).2.1 = true then [(mk t a b q[k]).1] else []) := by
 unfold mergeL; rw [List.take_succ_eq_append_getElem h, List.filterMap_append]
 congr 1
 cases hm : (mk t a b q[k]).2.1 with
 | true => rw [if_pos rfl, List.filterMap_cons_some (by rw [hm, if_pos rfl])]; rfl
 | false => rw [if_neg (by decide), List.filterMap_cons_none (by rw [hm, if_neg (by decide)])]; rfl
theorem clashL_len (t a b : List E) (q : List ByteArray) : (clashL t a b q).length ≤ q.length := List.length_filter_le _ _
theorem mergeL_len (t a b : List E) (q : List ByteArray) : (mergeL t a b q).length ≤ q.length := List.length_filterMap_le _ _
theorem trees_parts {t a b : List E} (h : trees3 t a b = true) : treeE t = true ∧ treeE a = true ∧ treeE b = true := by
 unfold trees3 at h; rw [Bool.and_eq_true, Bool.and_eq_true] at h; exact h
end Go.Proofs.YtoaipphccjkphaaDoor.Mg
namespace Go.Proofs.YtoaipphccjkphaaDoor
open Go.Lib
theorem get_no {es : List E} {s : ByteArray} (hp : pathB s = true) (h : lookE es s = none) : getE es s = (noneE, false) := by
 rw [getE_look (root_not_path hp), h]; rfl
theorem get_yes {es : List E} {s : ByteArray} (hp : pathB s = true) {f : E} (h : lookE es s = some f) : getE es s = (f, true) := by
 rw [getE_look (root_not_path hp), h]; rfl
theorem upC_cases (es : List E) (s : ByteArray) : (upC es s = 0 ∧ dirE es (upS s) = true) ∨ ((upC es s = 2 ∨ upC es s = 3) ∧ dirE es (upS s) = false) := by
 unfold upC; rw [dirE_look]; cases hr : isRoot (upS s) with
 | true => left; rw [getE_root hr]; exact ⟨rfl, rfl⟩
 | false =>
  rw [getE_look hr]; cases hl : lookE es (upS s) with
  | none => right; exact ⟨.inl rfl, rfl⟩
  | some f =>
   cases hd : f.d with
   | true => left; simp [hd]
   | false => right; simp [hd]
theorem newC_cases (es : List E) {s : ByteArray} (hp : pathB s = true) :
  (newC es s = 0 ∧ dirE es (upS s) = true ∧ lookE es s = none ∧ es.length < 16) ∨
  (newC es s = 8 ∧ dirE es (upS s) = true ∧ lookE es s = none ∧ 16 ≤ es.length) ∨
  (newC es s = 4 ∧ dirE es (upS s) = true ∧ ∃ f, lookE es s = some f) ∨
  ((newC es s = 2 ∨ newC es s = 3) ∧ dirE es (upS s) = false ∧ newC es s = upC es s) := by
 rcases upC_cases es s with ⟨h1, h2⟩ | ⟨h1, h2⟩
 ·
  cases hl : lookE es s with
  | none =>
   have : newC es s = if 16 ≤ es.length then 8 else 0 := by unfold newC; rw [h1, if_neg (by simp), get_no hp hl]; rfl
   by_cases h16 : 16 ≤ es.length
   ·
    rw [if_pos h16] at this; exact .inr (.inl ⟨this, h2, rfl, h16⟩)
   ·
    rw [if_neg h16] at this; exact .inl ⟨this, h2, rfl, by omega⟩
  | some f =>
   have : newC es s = 4 := by unfold newC; rw [h1, if_neg (by simp), get_yes hp hl]; rfl
   exact .inr (.inr (.inl ⟨this, h2, f, rfl⟩))
 ·
  have : newC es s = upC es s := by unfold newC; rw [if_pos (by rcases h1 with h1 | h1 <;> rw [h1] <;> decide)]
  rw [this]; exact .inr (.inr (.inr ⟨h1, h2, rfl⟩))
theorem putC_cases (es : List E) {s : ByteArray} (hp : pathB s = true) :
  (putC es s = 0 ∧ dirE es (upS s) = true ∧ ((lookE es s = none ∧ es.length < 16) ∨ ∃ f, lookE es s = some f ∧ f.d = false)) ∨
  (putC es s = 8 ∧ dirE es (upS s) = true ∧ lookE es s = none ∧ 16 ≤ es.length) ∨
  (putC es s = 5 ∧ dirE es (upS s) = true ∧ ∃ f, lookE es s = some f ∧ f.d = true) ∨
  ((putC es s = 2 ∨ putC es s = 3) ∧ dirE es (upS s) = false ∧ putC es s = upC es s) := by
 rcases newC_cases es hp with ⟨h1, h2, h3, h4⟩ | ⟨h1, h2, h3, h4⟩ | ⟨h1, h2, f, h3⟩ | ⟨h1, h2, h3⟩
 ·
  exact .inl ⟨by unfold putC; rw [h1]; rfl, h2, .inl ⟨h3, h4⟩⟩
 ·
  exact .inr (.inl ⟨by unfold putC; rw [h1]; rfl, h2, h3, h4⟩)
 ·
  have : putC es s = if f.d = true then 5 else 0 := by unfold putC; rw [h1, if_pos rfl, get_yes hp h3]
  cases hd : f.d with
  | true => rw [hd] at this; exact .inr (.inr (.inl ⟨this, h2, f, h3, hd⟩))
  | false => rw [hd] at this; exact .inl ⟨this, h2, .inr ⟨f, h3, hd⟩⟩
 ·
  have : putC es s = newC es s := by unfold putC; rw [if_neg (by rcases h1 with h1 | h1 <;> rw [h1] <;> decide)]
  rw [this]; exact .inr (.inr (.inr ⟨h1, h2, h3⟩))
theorem offC_cases (es : List E) (k : Int) {s : ByteArray} (hp : pathB s = true) :
  (offC es k s = 2 ∧ lookE es s = none) ∨ ∃ f, lookE es s = some f ∧ ((offC es k s = 5 ∧ k = 3 ∧ f.d = true) ∨ (offC es k s = 3 ∧ k = 4 ∧ f.d = false) ∨ (¬ (k = 3 ∧ f.d = true) ∧ ¬ (k = 4 ∧ f.d = false) ∧ ((offC es k s = 6 ∧ kidsE es s ≠ []) ∨ (offC es k s = 0 ∧ kidsE es s = [])))) := by
 cases hl : lookE es s with
 | none => left; exact ⟨by unfold offC; rw [get_no hp hl]; rfl, rfl⟩
 | some f =>
  right
  refine ⟨f, rfl, ?_⟩; unfold offC; rw [get_yes hp hl, if_neg (by simp)]; by_cases h1 : k = 3 ∧ f.d = true
  ·
   rw [if_pos h1]; exact .inl ⟨rfl, h1⟩
  ·
   rw [if_neg h1]; by_cases h2 : k = 4 ∧ f.d = false
   ·
    rw [if_pos h2]; exact .inr (.inl ⟨rfl, h2⟩)
   ·
    rw [if_neg h2]; refine .inr (.inr ⟨h1, h2, ?_⟩); by_cases h3 : 0 < (kidsE es s).length
    ·
     rw [if_pos h3]; exact .inl ⟨rfl, fun q => by rw [q] at h3; exact absurd h3 (by simp)⟩
    ·
     rw [if_neg h3]; exact .inr ⟨rfl, List.length_eq_zero_iff.1 (by omega)⟩
theorem underL_I {s d : ByteArray} (hs : pathB s = true) (hd : pathB d = true) : underL s d = underI s d := by
 rw [underI_eq, hs, stemOk_path hd]; rfl
theorem moveC_cases {es : List E} (T : TrE es) {f t : ByteArray} (hf : pathB f = true) (ht : pathB t = true) :
  (moveC es f t = 0 ∧ Mv es f t) ∨ (moveC es f t = 2 ∧ lookE es f = none) ∨
  ((moveC es f t = 2 ∨ moveC es f t = 3) ∧ dirE es (upS t) = false) ∨
  (moveC es f t = 4 ∧ ∃ e, lookE es t = some e) ∨ (moveC es f t = 7 ∧ underI t f = true) ∨ (moveC es f t = 8 ∧ fitE es f t = false) := by
 cases hl : lookE es f with
 | none => exact .inr (.inl ⟨by unfold moveC; rw [get_no hf hl]; rfl, rfl⟩)
 | some e =>
  unfold moveC; rw [get_yes hf hl, if_neg (by simp)]; rcases upC_cases es t with ⟨h1, h2⟩ | ⟨h1, h2⟩
  ·
   rw [h1, if_neg (by simp)]; cases hlt : lookE es t with
   | some g => rw [get_yes ht hlt, if_pos rfl]; exact .inr (.inr (.inr (.inl ⟨rfl, g, rfl⟩)))
   | none =>
    rw [get_no ht hlt, if_neg (by simp), underL_I ht hf]; cases hu : underI t f with
    | true => rw [if_pos rfl]; exact .inr (.inr (.inr (.inr (.inl ⟨rfl, rfl⟩))))
    | false =>
     rw [if_neg (by simp)]; cases hfi : fitE es f t with
     | true => rw [if_pos rfl]; exact .inl ⟨rfl, ⟨T, hf, ht, ⟨e, hl⟩, h2, hlt, hu, hfi⟩⟩
     | false => rw [if_neg (by simp)]; exact .inr (.inr (.inr (.inr (.inr ⟨rfl, rfl⟩))))
  ·
   have hz : upC es t ≠ 0 := by rcases h1 with h1 | h1 <;> rw [h1] <;> decide
   rw [if_pos hz]; exact .inr (.inr (.inl ⟨h1, h2⟩))
def Asks (es : List E) (q : O) : Prop :=
 (q.k = 1 ∧ q.t = ⟨#[]⟩ ∧ q.x = ⟨#[]⟩ ∧ dirE es (upS q.p) = true ∧ lookE es q.p = none ∧ es.length < 16) ∨
 (q.k = 2 ∧ q.t = ⟨#[]⟩ ∧ dataB q.x = true ∧ dirE es (upS q.p) = true ∧ ((lookE es q.p = none ∧ es.length < 16) ∨ ∃ f, lookE es q.p = some f ∧ f.d = false)) ∨
 (q.k = 3 ∧ q.t = ⟨#[]⟩ ∧ q.x = ⟨#[]⟩ ∧ ∃ f, lookE es q.p = some f ∧ f.d = false) ∨
 (q.k = 4 ∧ q.t = ⟨#[]⟩ ∧ q.x = ⟨#[]⟩ ∧ kidsE es q.p = [] ∧ ∃ f, lookE es q.p = some f ∧ f.d = true) ∨
 (q.k = 5 ∧ q.x = ⟨#[]⟩ ∧ Mv es q.p q.t)
theorem emptyB_iff (s : ByteArray) : emptyB s = true ↔ s = ⟨#[]⟩ := notEmpty
theorem empty_emptyB : emptyB ⟨#[]⟩ = true := (emptyB_iff _).2 rfl
theorem opB_parts {q : O} (h : opB q = true) : pathB q.p = true ∧ ((q.k = 1 ∧ q.t = ⟨#[]⟩ ∧ q.x = ⟨#[]⟩) ∨ (q.k = 2 ∧ q.t = ⟨#[]⟩ ∧ dataB q.x = true) ∨ (q.k = 3 ∧ q.t = ⟨#[]⟩ ∧ q.x = ⟨#[]⟩) ∨ (q.k = 4 ∧ q.t = ⟨#[]⟩ ∧ q.x = ⟨#[]⟩) ∨ (q.k = 5 ∧ pathB q.t = true ∧ q.x = ⟨#[]⟩)) := by
 unfold opB at h; rw [Bool.and_eq_true, Bool.and_eq_true, decide_eq_true_eq] at h; obtain ⟨⟨⟨h1, h2⟩, h3⟩, h4⟩ := h; refine ⟨h3, ?_⟩; by_cases h5 : q.k = 5
 ·
  rw [if_pos h5, Bool.and_eq_true, emptyB_iff] at h4; exact .inr (.inr (.inr (.inr ⟨h5, h4⟩)))
 ·
  rw [if_neg h5, Bool.and_eq_true, Bool.and_eq_true, Bool.or_eq_true, emptyB_iff, emptyB_iff, decide_eq_true_eq] at h4; obtain ⟨⟨h6, h7⟩, h8⟩ := h4; have hk : q.k = 1 ∨ q.k = 2 ∨ q.k = 3 ∨ q.k = 4 := by omega
  rcases hk with hk | hk | hk | hk
  ·
   exact .inl ⟨hk, h6, by rcases h8 with h8 | h8; omega; exact h8⟩
  ·
   exact .inr (.inl ⟨hk, h6, h7⟩)
  ·
   exact .inr (.inr (.inl ⟨hk, h6, by rcases h8 with h8 | h8; omega; exact h8⟩))
  ·
   exact .inr (.inr (.inr (.inl ⟨hk, h6, by rcases h8 with h8 | h8; omega; exact h8⟩)))
theorem dataB_none : dataB ⟨#[]⟩ = true := by decide
theorem opB_of {q : O} (hp : pathB q.p = true) (h : (q.k = 1 ∧ q.t = ⟨#[]⟩ ∧ q.x = ⟨#[]⟩) ∨ (q.k = 2 ∧ q.t = ⟨#[]⟩ ∧ dataB q.x = true) ∨ (q.k = 3 ∧ q.t = ⟨#[]⟩ ∧ q.x = ⟨#[]⟩) ∨ (q.k = 4 ∧ q.t = ⟨#[]⟩ ∧ q.x = ⟨#[]⟩) ∨ (q.k = 5 ∧ pathB q.t = true ∧ q.x = ⟨#[]⟩)) : opB q = true := by
 unfold opB; rw [hp]; rcases h with ⟨h1, h2, h3⟩ | ⟨h1, h2, h3⟩ | ⟨h1, h2, h3⟩ | ⟨h1, h2, h3⟩ | ⟨h1, h2, h3⟩
 ·
  rw [h1, h2, h3, empty_emptyB, dataB_none]; decide
 ·
  rw [h1, h2, h3, empty_emptyB]; simp
 ·
  rw [h1, h2, h3, empty_emptyB, dataB_none]; decide
 ·
  rw [h1, h2, h3, empty_emptyB, dataB_none]; decide
 ·
  rw [h1, h2, h3, empty_emptyB]; simp
theorem code_asks {es : List E} (T : TrE es) {q : O} (ho : opB q = true) : codeC es q.k q.p q.t = 0 ↔ Asks es q := by
 obtain ⟨hp, h⟩ := opB_parts ho; unfold codeC Asks; rcases h with ⟨h1, h2, h3⟩ | ⟨h1, h2, h3⟩ | ⟨h1, h2, h3⟩ | ⟨h1, h2, h3⟩ | ⟨h1, h2, h3⟩
 ·
  rw [h1, if_pos rfl]; rcases newC_cases es hp with ⟨c, r⟩ | ⟨c, r1, r2, r3⟩ | ⟨c, r1, f, r2⟩ | ⟨c, r1, r2⟩
  ·
   simp [c, r, h2, h3]
  ·
   simp [c]; omega
  ·
   simp [c, r2]
  ·
   rcases c with c | c <;> simp [c, r1]
 ·
  rw [h1, if_neg (by decide), if_pos rfl]; rcases putC_cases es hp with ⟨c, r⟩ | ⟨c, r1, r2, r3⟩ | ⟨c, r1, f, r2, r3⟩ | ⟨c, r1, r2⟩
  ·
   simp [c, r, h2, h3]
  ·
   simp [c, r2]; omega
  ·
   simp [c, r2, r3]
  ·
   rcases c with c | c <;> simp [c, r1]
 ·
  rw [h1, if_neg (by decide), if_neg (by decide), if_neg (by decide)]; rcases offC_cases es 3 hp with ⟨c, r⟩ | ⟨f, r, ⟨c, _, d⟩ | ⟨_, d, _⟩ | ⟨d1, d2, ⟨c, d⟩ | ⟨c, d⟩⟩⟩
  ·
   simp [c, r]
  ·
   simp [c, r, d]
  ·
   cases d
  ·
   simp [c, r, h2, h3]; cases hd : f.d with
   | true => rfl
   | false => exact absurd (kids_file T (by rw [dirE_look, r, root_not_path hp]; simp [hd])) d
  ·
   simp [c, r, h2, h3]
   simpa using d1
 ·
  rw [h1, if_neg (by decide), if_neg (by decide), if_neg (by decide)]; rcases offC_cases es 4 hp with ⟨c, r⟩ | ⟨f, r, ⟨c, d, _⟩ | ⟨c, _, d⟩ | ⟨d1, d2, ⟨c, d⟩ | ⟨c, d⟩⟩⟩
  ·
   simp [c, r]
  ·
   cases d
  ·
   simp [c, r, d]
  ·
   simp [c, r, d]
  ·
   simp [c, r, h2, h3, d]
   simpa using d2
 ·
  rw [h1, if_neg (by decide), if_neg (by decide), if_pos rfl]; rcases moveC_cases T hp h2 with ⟨c, m⟩ | ⟨c, r⟩ | ⟨c, r⟩ | ⟨c, e, r⟩ | ⟨c, r⟩ | ⟨c, r⟩
  ·
   simp [c, m, h3]
  ·
   simp [c]; intro _ m; obtain ⟨e, he⟩ := m.there; rw [r] at he; cases he
  ·
   have hc : moveC es q.p q.t ≠ 0 := by rcases c with c | c <;> rw [c] <;> decide
   simp [hc]; intro _ m; have := m.dir; rw [r] at this; cases this
  ·
   simp [c]; intro _ m; have := m.free; rw [r] at this; cases this
  ·
   simp [c]; intro _ m; have := m.out; rw [r] at this; cases this
  ·
   simp [c]; intro _ m; have := m.fit; rw [r] at this; cases this
theorem asks_op {es : List E} {q : O} (hp : pathB q.p = true) (h : Asks es q) : opB q = true := by
 refine opB_of hp ?_; rcases h with ⟨h1, h2, h3, _⟩ | ⟨h1, h2, h3, _⟩ | ⟨h1, h2, h3, _⟩ | ⟨h1, h2, h3, _⟩ | ⟨h1, h2, h3⟩
 ·
  exact .inl ⟨h1, h2, h3⟩
 ·
  exact .inr (.inl ⟨h1, h2, h3⟩)
 ·
  exact .inr (.inr (.inl ⟨h1, h2, h3⟩))
 ·
  exact .inr (.inr (.inr (.inl ⟨h1, h2, h3⟩)))
 ·
  exact .inr (.inr (.inr (.inr ⟨h1, h3.pt, h2⟩)))
structure Done (es : List E) (q : O) : Prop where
 T : TrE es
 len : es.length ≤ 16
 path : pathB q.p = true
 asks : Asks es q
theorem done_iff (es : List E) (q : O) : doC es q = 0 ↔ Done es q := by
 unfold doC; cases ht : treeE es with
 | false =>
  rw [Bool.false_and, if_neg (by decide)]; exact ⟨fun h => (by cases h), fun d => (by rw [d.T.treeE d.len] at ht; cases ht)⟩
 | true =>
  obtain ⟨T, hl⟩ := treeE_tr ht; cases ho : opB q with
  | false =>
   rw [Bool.true_and, if_neg (by decide)]; exact ⟨fun h => (by cases h), fun d => (by rw [asks_op d.path d.asks] at ho; cases ho)⟩
  | true =>
   rw [Bool.true_and, if_pos rfl, code_asks T ho]; exact ⟨fun h => ⟨T, hl, (opB_parts ho).1, h⟩, fun d => d.asks⟩
theorem Done.code {es : List E} {q : O} (d : Done es q) : doC es q = 0 := (done_iff es q).2 d
theorem Done.tree {es : List E} {q : O} (d : Done es q) : treeE es = true := d.T.treeE d.len
theorem Done.made {es : List E} {q : O} (d : Done es q) : doE es q = madeE es q.k q.p q.t q.x := by
 unfold doE; rw [if_pos d.tree, if_pos d.code]
theorem not_done {es : List E} {q : O} (h : doC es q ≠ 0) : doE es q = if treeE es = true then es else [] := by
 unfold doE; rw [if_neg h]
theorem put_new_len {e : E} : ∀ (es : List E), Rise es → lookE es e.p = none → (putE es e).length = es.length + 1
 | [], _, _ => rfl
 | x :: r, h, hl => by
  have hn := look_none.1 hl; rcases less_or (hn x (List.mem_cons_self ..)) with k | k
  ·
   rw [put_cons_lt k, List.length_cons, put_new_len r (List.pairwise_cons.1 h).2 (look_none.2 fun y hy => hn y (List.mem_cons_of_mem _ hy))]; rfl
  ·
   rw [put_cons_gt k]; rfl
theorem put_old_len {e : E} : ∀ (es : List E), Rise es → (∃ f, lookE es e.p = some f) → (putE es e).length = es.length
 | [], _, h => by obtain ⟨f, hf⟩ := h; cases hf
 | x :: r, h, hl => by
  obtain ⟨f, hf⟩ := hl; obtain ⟨hm, hp⟩ := look_mem hf; have hx := List.pairwise_cons.1 h; by_cases hxe : x.p = e.p
  ·
   rw [put_cons_eq hxe]; rfl
  ·
   have hfr : f ∈ r := by
    rcases List.mem_cons.1 hm with q | q
    ·
     rw [q] at hp; exact absurd hp hxe
    ·
     exact q
   have k : less x.p e.p := hp ▸ hx.1 f hfr; rw [put_cons_lt k, List.length_cons, List.length_cons, put_old_len r hx.2 ⟨f, (look_iff hx.2 _ _).2 ⟨hfr, hp⟩⟩]
theorem off_len_there {s : ByteArray} : ∀ (es : List E), Rise es → (∃ f, lookE es s = some f) → (offE es s).length + 1 = es.length
 | [], _, h => by obtain ⟨f, hf⟩ := h; cases hf
 | x :: r, h, hl => by
  obtain ⟨f, hf⟩ := hl; obtain ⟨hm, hp⟩ := look_mem hf; have hx := List.pairwise_cons.1 h; unfold offE; by_cases hxe : x.p = s
  ·
   have hr : r.filter (fun e => !(e.p.toList == s.toList)) = r := by
    rw [List.filter_eq_self]; intro y hy; rw [beqL]
    have : y.p ≠ s := fun q => by
     have := hx.1 y hy; rw [q, ← hxe] at this; exact less_irrefl _ this
    simp [this]
   rw [List.filter_cons_of_neg (by rw [beqL]; simp [hxe]), hr]; rfl
  ·
   have hfr : f ∈ r := by
    rcases List.mem_cons.1 hm with q | q
    ·
     rw [q] at hp; exact absurd hp hxe
    ·
     exact q
   have ih := off_len_there r hx.2 ⟨f, (look_iff hx.2 _ _).2 ⟨hfr, hp⟩⟩; unfold offE at ih; rw [List.filter_cons_of_pos (by rw [beqL]; simp [hxe]), List.length_cons, ih]; rfl
theorem nodup_len {es fs : List E} (h1 : es.Nodup) (h2 : fs.Nodup) (h : ∀ x, x ∈ es ↔ x ∈ fs) : es.length = fs.length :=
 ((List.perm_ext_iff_of_nodup h1 h2).2 h).length_eq
theorem rise_nodup {es : List E} (h : Rise es) : es.Nodup := h.imp (fun {a b} k q => by rw [q] at k; exact less_irrefl _ k)
theorem Mv.len {es : List E} {f t : ByteArray} (m : Mv es f t) : (movE es f t).length = es.length := by
 have : (es.map (movE1 f t)).Nodup := m.apart.imp (fun {a b} k q => k (by rw [q])); rw [nodup_len (rise_nodup m.rise) this (fun x => by rw [m.mem, List.mem_map]), List.length_map]
theorem Done.tr {es : List E} {q : O} (d : Done es q) : TrE (doE es q) ∧ (doE es q).length ≤ 16 := by
 rw [d.made]; have T := d.T; have hl := d.len; unfold madeE; rcases d.asks with ⟨h1, _, _, h4, h5, h6⟩ | ⟨h1, _, h3, h4, h5⟩ | ⟨h1, _, _, f, h4, h5⟩ | ⟨h1, _, _, h4, f, h5, h6⟩ | ⟨h1, h2, m⟩
 ·
  rw [h1, if_pos rfl]; refine ⟨tr_put (e := ⟨q.p, true, ⟨#[]⟩⟩) T d.path rfl (fun _ => rfl) (dir_isRoot d.path h5) h4, ?_⟩; rw [put_new_len es T.sort h5]; omega
 ·
  rw [h1, if_neg (by decide), if_pos rfl]
  have hd : dirE es q.p = false := by
   rcases h5 with ⟨h5, _⟩ | ⟨f, h5, h6⟩
   ·
    exact dir_isRoot d.path h5
   ·
    rw [dirE_look, h5, root_not_path d.path]; simp [h6]
  refine ⟨tr_put (e := ⟨q.p, false, q.x⟩) T d.path h3 (fun h => by cases h) hd h4, ?_⟩; rcases h5 with ⟨h5, _⟩ | ⟨f, h5, _⟩
  ·
   rw [put_new_len es T.sort h5]; omega
  ·
   rw [put_old_len es T.sort ⟨f, h5⟩]; omega
 ·
  rw [h1, if_neg (by decide), if_neg (by decide), if_neg (by decide)]; have hk : kidsE es q.p = [] := kids_file T (by rw [dirE_look, h4, root_not_path d.path]; simp [h5]); refine ⟨tr_off T (kids_nil hk), ?_⟩; have := off_len_there es T.sort ⟨f, h4⟩; omega
 ·
  rw [h1, if_neg (by decide), if_neg (by decide), if_neg (by decide)]; refine ⟨tr_off T (kids_nil h4), ?_⟩; have := off_len_there es T.sort ⟨f, h5⟩; omega
 ·
  rw [h1, if_neg (by decide), if_neg (by decide), if_pos rfl]; exact ⟨m.tr, by rw [m.len]; exact hl⟩
theorem do_tree {es : List E} {q : O} (h : treeE es = true) : treeE (doE es q) = true := by
 by_cases h0 : doC es q = 0
 ·
  obtain ⟨T, hl⟩ := ((done_iff es q).1 h0).tr; exact T.treeE hl
 ·
  rw [not_done h0, if_pos h]; exact h
end Go.Proofs.YtoaipphccjkphaaDoor
