/-
  Plain facts on trees as lists of entries: what is at a path, and what a right tree is.
-/
import Derived.Test.YtmfjdafkgkjidaaDoorHPureE
import Derived.Test.YtmfjdafkgkjidaaDoorHOrder
namespace Go.Proofs.YtmfjdafkgkjidaaDoor

/-- What is at a path. -/
def lookE (es : List E) (s : ByteArray) : Option E := es.find? (fun e => decide (e.p = s))
theorem look_mem {es : List E} {s : ByteArray} {e : E} (h : lookE es s = some e) : e ∈ es ∧ e.p = s :=
  ⟨List.mem_of_find?_eq_some h, by have := List.find?_some h; exact of_decide_eq_true this⟩
theorem look_none {es : List E} {s : ByteArray} : lookE es s = none ↔ ∀ e ∈ es, e.p ≠ s := by
  unfold lookE; rw [List.find?_eq_none]; simp
theorem beqL (a b : ByteArray) : (a.toList == b.toList) = decide (a = b) := by
  rw [Bool.eq_iff_iff, beq_iff_eq, decide_eq_true_iff]; exact ⟨toList_inj, fun h => by rw [h]⟩

theorem findL_look (s : ByteArray) : ∀ (es : List E) (k : Nat), (findL s es k = -1 ∧ lookE es s = none) ∨ ∃ (j : Nat) (h : j < es.length), findL s es k = ((k + j : Nat) : Int) ∧ lookE es s = some es[j]
  | [], _ => .inl ⟨rfl, rfl⟩
  | e :: r, k => by
    unfold findL lookE
    rw [beqL, List.find?_cons]
    by_cases h : e.p = s
    · right; refine ⟨0, by simp, ?_, ?_⟩ <;> simp [h]
    · rcases findL_look s r (k + 1) with ⟨h1, h2⟩ | ⟨j, hj, h1, h2⟩
      · left; unfold lookE at h2; simp [h, h1, h2]
      · right; unfold lookE at h2
        refine ⟨j + 1, by simp; omega, ?_, ?_⟩
        · simp [h, h1]; omega
        · simp [h, h2]
theorem getE_look {es : List E} {s : ByteArray} (h : isRoot s = false) : getE es s = ((lookE es s).getD noneE, (lookE es s).isSome) := by
  rcases findL_look s es 0 with ⟨h1, h2⟩ | ⟨j, hj, h1, h2⟩
  · rw [getE_no h h1, h2]; rfl
  · rw [getE_at h hj (by unfold findE; rw [h1]; simp), h2]; rfl
theorem dirE_look (es : List E) (s : ByteArray) : dirE es s = (isRoot s || ((lookE es s).map (·.d)).getD false) := by
  unfold dirE
  rcases findL_look s es 0 with ⟨h1, h2⟩ | ⟨j, hj, h1, h2⟩
  · rw [h2, show findE es s = -1 from h1]
    cases es[((-1 : Int)).toNat]? <;> simp
  · rw [h2, show findE es s = (j : Int) from by unfold findE; rw [h1]; simp]
    have : es[((j : Nat) : Int).toNat]? = some es[j] := by rw [show ((j : Nat) : Int).toNat = j from rfl, List.getElem?_eq_getElem hj]
    rw [this]; simp

/-! ### The order of the bytes -/
def less (a b : ByteArray) : Prop := Op.bytesLess a.toList b.toList = true
theorem less_L {a b : ByteArray} : less a b ↔ Op.bytesLess (L a) (L b) = true := by unfold less; rw [Lib.toList_data, Lib.toList_data]
theorem bless_irrefl : ∀ a : List UInt8, Op.bytesLess a a = false
  | [] => rfl
  | x :: a => by
    show (decide (x < x) || (x == x && Op.bytesLess a a)) = false
    rw [bless_irrefl a]; simp
theorem bless_trans : ∀ a b c : List UInt8, Op.bytesLess a b = true → Op.bytesLess b c = true → Op.bytesLess a c = true
  | [], [], _, h, _ => by cases h
  | [], _ :: _, [], _, h => by cases h
  | [], _ :: _, _ :: _, _, _ => rfl
  | _ :: _, [], _, h, _ => by cases h
  | _ :: _, _ :: _, [], _, h => by cases h
  | x :: a, y :: b, z :: c, h1, h2 => by
    have h1' : (decide (x < y) || (x == y && Op.bytesLess a b)) = true := h1
    have h2' : (decide (y < z) || (y == z && Op.bytesLess b c)) = true := h2
    show (decide (x < z) || (x == z && Op.bytesLess a c)) = true
    rw [Bool.or_eq_true, decide_eq_true_eq, Bool.and_eq_true, beq_iff_eq] at h1' h2' ⊢
    rw [UInt8.lt_iff_toNat_lt] at *
    rcases h1' with p | p
    · rcases h2' with q | q
      · left; omega
      · left; rw [← q.1]; exact p
    · rcases h2' with q | q
      · left; rw [p.1]; exact q
      · right; exact ⟨p.1.trans q.1, bless_trans a b c p.2 q.2⟩
theorem less_irrefl (a : ByteArray) : ¬ less a a := by unfold less; rw [bless_irrefl]; simp
theorem less_trans {a b c : ByteArray} (h : less a b) (k : less b c) : less a c := bless_trans _ _ _ h k
theorem less_or {a b : ByteArray} (h : a ≠ b) : less a b ∨ less b a := by
  by_cases k : less a b
  · exact .inl k
  · exact .inr (less_total _ _ (by unfold less at k; simpa using k) (fun e => h (toList_inj e)))

/-- Two rising lists with the same in them are one. -/
theorem rising_ext {α : Type} {r : α → α → Prop} (irr : ∀ a, ¬ r a a) (tr : ∀ {a b c}, r a b → r b c → r a c) : ∀ (xs ys : List α), xs.Pairwise r → ys.Pairwise r → (∀ a, a ∈ xs ↔ a ∈ ys) → xs = ys
  | [], [], _, _, _ => rfl
  | [], y :: ys, _, _, h => by have := (h y).2 List.mem_cons_self; cases this
  | x :: xs, [], _, _, h => by have := (h x).1 List.mem_cons_self; cases this
  | x :: xs, y :: ys, hx, hy, h => by
    obtain ⟨hx1, hx2⟩ := List.pairwise_cons.1 hx
    obtain ⟨hy1, hy2⟩ := List.pairwise_cons.1 hy
    have e : x = y := by
      rcases List.mem_cons.1 ((h x).1 List.mem_cons_self) with e | h1
      · exact e
      · rcases List.mem_cons.1 ((h y).2 List.mem_cons_self) with e | h2
        · exact e.symm
        · exact absurd (tr (hx1 y h2) (hy1 x h1)) (irr x)
    subst e
    refine congrArg (x :: ·) (rising_ext irr tr xs ys hx2 hy2 fun a => ?_)
    constructor
    · intro ha
      rcases List.mem_cons.1 ((h a).1 (List.mem_cons_of_mem _ ha)) with e | h1
      · subst e; exact absurd (hx1 a ha) (irr a)
      · exact h1
    · intro ha
      rcases List.mem_cons.1 ((h a).2 (List.mem_cons_of_mem _ ha)) with e | h1
      · subst e; exact absurd (hy1 a ha) (irr a)
      · exact h1

/-! ### A right tree -/
structure TrE (es : List E) : Prop where
  path : ∀ e ∈ es, pathB e.p = true
  sort : es.Pairwise (fun a b => less a.p b.p)
  up : ∀ e ∈ es, dirE es (upS e.p) = true
  data : ∀ e ∈ es, dataB e.x = true ∧ (e.d = true → e.x = ⟨#[]⟩)

theorem TrE.nil : TrE [] := ⟨by simp, by simp, by simp, by simp⟩
theorem look_self {es : List E} (h : es.Pairwise (fun a b => less a.p b.p)) {e : E} (he : e ∈ es) : lookE es e.p = some e := by
  cases hl : lookE es e.p with
  | none => exact absurd rfl (look_none.1 hl e he)
  | some f =>
    obtain ⟨hf, hp⟩ := look_mem hl
    by_cases hne : e = f
    · rw [hne]
    · exfalso
      have key : ∀ (l : List E), l.Pairwise (fun a b => less a.p b.p) → e ∈ l → f ∈ l → False := by
        intro l
        induction l with
        | nil => intro _ h; cases h
        | cons x r ih =>
          intro hl he hf
          obtain ⟨h1, h2⟩ := List.pairwise_cons.1 hl
          rcases List.mem_cons.1 he with e1 | e1
          · rcases List.mem_cons.1 hf with e2 | e2
            · exact hne (e1.trans e2.symm)
            · have := h1 f e2; rw [← e1, hp] at this; exact less_irrefl _ this
          · rcases List.mem_cons.1 hf with e2 | e2
            · have := h1 e e1; rw [← e2, hp] at this; exact less_irrefl _ this
            · exact ih h2 e1 e2
      exact key es h he hf
theorem look_iff {es : List E} (h : es.Pairwise (fun a b => less a.p b.p)) (s : ByteArray) (e : E) : lookE es s = some e ↔ e ∈ es ∧ e.p = s :=
  ⟨look_mem, fun ⟨h1, h2⟩ => by rw [← h2]; exact look_self h h1⟩

/-- Two right lists that tell the same of each path are one. -/
theorem look_ext {es fs : List E} (h : es.Pairwise (fun a b => less a.p b.p)) (k : fs.Pairwise (fun a b => less a.p b.p)) (hl : ∀ s, lookE es s = lookE fs s) : es = fs :=
  rising_ext (r := fun a b => less a.p b.p) (fun a => less_irrefl a.p) (fun {_ _ _} => less_trans) es fs h k fun a =>
    ⟨fun ha => (look_mem ((hl a.p).symm.trans (look_self h ha))).1, fun ha => (look_mem ((hl a.p).trans (look_self k ha))).1⟩

theorem dir_look {es : List E} {s : ByteArray} (h : dirE es s = true) : s = ⟨#[47]⟩ ∨ ∃ e, lookE es s = some e ∧ e.d = true := by
  rw [dirE_look, Bool.or_eq_true] at h
  rcases h with h | h
  · exact .inl ((isRoot_iff s).1 h)
  · cases hl : lookE es s with
    | none => rw [hl] at h; cases h
    | some e => rw [hl] at h; exact .inr ⟨e, rfl, h⟩
theorem look_dir {es : List E} {s : ByteArray} (h : s = ⟨#[47]⟩ ∨ ∃ e, lookE es s = some e ∧ e.d = true) : dirE es s = true := by
  rw [dirE_look, Bool.or_eq_true]
  rcases h with h | ⟨e, h, hd⟩
  · exact .inl ((isRoot_iff s).2 h)
  · exact .inr (by rw [h]; exact hd)
theorem TrE.dirOk {es : List E} (T : TrE es) {s : ByteArray} (h : dirE es s = true) : stemOk s = true := by
  rcases dir_look h with rfl | ⟨e, h, _⟩
  · unfold stemOk; rw [root_root]; rfl
  · obtain ⟨h1, h2⟩ := look_mem h
    exact stemOk_path (by rw [← h2]; exact T.path e h1)

theorem look_append (es fs : List E) (s : ByteArray) : lookE (es ++ fs) s = (lookE es s).or (lookE fs s) := by
  unfold lookE; rw [List.find?_append]
theorem dir_append {es fs : List E} {s : ByteArray} (h : dirE es s = true) : dirE (es ++ fs) s = true := by
  rcases dir_look h with e | ⟨e, h, hd⟩
  · exact look_dir (.inl e)
  · exact look_dir (.inr ⟨e, by rw [look_append, h]; rfl, hd⟩)

theorem notEmpty {x : ByteArray} : x.toList.isEmpty = true ↔ x = ⟨#[]⟩ := by
  rw [List.isEmpty_iff]
  exact ⟨fun h => toList_inj (h.trans (by rw [Lib.toList_data])), fun h => by rw [h, Lib.toList_data]⟩
/-- One entry more. -/
theorem tr_snoc {es : List E} {e : E} (T : TrE es) (h1 : pathB e.p = true) (h2 : dataB e.x = true) (h3 : e.d = true → e.x = ⟨#[]⟩) (h4 : ∀ f ∈ es, less f.p e.p) (h5 : dirE es (upS e.p) = true) : TrE (es ++ [e]) where
  path f hf := by
    rcases List.mem_append.1 hf with hf | hf
    · exact T.path f hf
    · rw [List.mem_singleton.1 hf]; exact h1
  sort := by
    rw [List.pairwise_append]
    exact ⟨T.sort, by simp, fun a ha b hb => by rw [List.mem_singleton.1 hb]; exact h4 a ha⟩
  up f hf := by
    rcases List.mem_append.1 hf with hf | hf
    · exact dir_append (T.up f hf)
    · rw [List.mem_singleton.1 hf]; exact dir_append h5
  data f hf := by
    rcases List.mem_append.1 hf with hf | hf
    · exact T.data f hf
    · rw [List.mem_singleton.1 hf]; exact ⟨h2, h3⟩

theorem last_less {es : List E} (h : es.Pairwise (fun a b => less a.p b.p)) {k : Nat} (hk : k < es.length) {s : ByteArray} (hl : es.length = k + 1) (hs : less es[k].p s) : ∀ f ∈ es, less f.p s := by
  intro f hf
  obtain ⟨i, hi, rfl⟩ := List.getElem_of_mem hf
  by_cases e : i = k
  · subst e; exact hs
  · exact less_trans (List.pairwise_iff_getElem.1 h i k hi hk (by omega)) hs

theorem okAt_parts {es : List E} {i : Nat} (hi : i < es.length) : okAt es i = true ↔ pathB es[i].p = true ∧ dataB es[i].x = true ∧ (es[i].d = true → es[i].x = ⟨#[]⟩) ∧ (i = 0 ∨ ∃ h : i - 1 < es.length, less es[i - 1].p es[i].p) ∧ dirE (es.take i) (upS es[i].p) = true := by
  rw [okAt_is hi]
  simp only [Bool.and_eq_true, Bool.or_eq_true, Bool.not_eq_true', Bool.and_eq_false_iff, beq_iff_eq]
  have hi1 : i - 1 < es.length := by omega
  rw [List.getElem?_eq_getElem hi1]
  refine ⟨fun ⟨a, b, c, d, e⟩ => ⟨a, b, fun hd => ?_, ?_, e⟩, fun ⟨a, b, c, d, e⟩ => ⟨a, b, ?_, ?_, e⟩⟩
  · rcases c with c | c
    · rw [hd] at c; cases c
    · exact notEmpty.1 (by simpa using c)
  · rcases d with d | d
    · exact .inl d
    · exact .inr ⟨hi1, d⟩
  · cases hd : es[i].d with
    | false => exact .inl rfl
    | true => exact .inr (by rw [notEmpty.2 (c hd)]; rfl)
  · rcases d with d | ⟨_, d⟩
    · exact .inl d
    · exact .inr d

theorem tr_take {es : List E} : ∀ k, k ≤ es.length → (List.range k).all (okAt es) = true → TrE (es.take k)
  | 0, _, _ => by rw [List.take_zero]; exact TrE.nil
  | k + 1, hk, h => by
    rw [List.range_succ, List.all_append, Bool.and_eq_true] at h
    have T := tr_take k (by omega) h.1
    have hk' : k < es.length := by omega
    obtain ⟨a, b, c, d, e⟩ := (okAt_parts hk').1 (by simpa using h.2)
    rw [List.take_succ_eq_append_getElem hk']
    refine tr_snoc T a b c ?_ e
    rcases d with d | ⟨d1, d⟩
    · subst d; intro f hf; rw [List.take_zero] at hf; cases hf
    · by_cases k0 : k = 0
      · subst k0; intro f hf; rw [List.take_zero] at hf; cases hf
      · exact last_less T.sort (k := k - 1) (by rw [List.length_take]; omega) (by rw [List.length_take]; omega) (by rw [List.getElem_take]; exact d)
theorem treeE_tr {es : List E} (h : treeE es = true) : TrE es ∧ es.length ≤ 16 := by
  unfold treeE at h
  rw [Bool.and_eq_true] at h
  refine ⟨?_, of_decide_eq_true h.1⟩
  have := tr_take es.length (Nat.le_refl _) h.2
  rwa [List.take_length] at this
theorem TrE.treeE {es : List E} (T : TrE es) (hl : es.length ≤ 16) : treeE es = true := by
  unfold Proofs.YtmfjdafkgkjidaaDoor.treeE
  rw [Bool.and_eq_true]
  refine ⟨decide_eq_true hl, ?_⟩
  rw [List.all_eq_true]
  intro i hi
  rw [List.mem_range] at hi
  have hm : es[i] ∈ es := List.getElem_mem hi
  refine (okAt_parts hi).2 ⟨T.path _ hm, (T.data _ hm).1, (T.data _ hm).2, ?_, ?_⟩
  · by_cases i0 : i = 0
    · exact .inl i0
    · exact .inr ⟨by omega, List.pairwise_iff_getElem.1 T.sort (i - 1) i (by omega) hi (by omega)⟩
  · rcases dir_look (T.up _ hm) with e | ⟨e, hl, hd⟩
    · exact look_dir (.inl e)
    · refine look_dir (.inr ⟨e, ?_, hd⟩)
      obtain ⟨he, hp⟩ := look_mem hl
      have hs := T.sort
      obtain ⟨j, hj, rfl⟩ := List.getElem_of_mem he
      have hji : j < i := by
        have hup : pathB (upS es[i].p) = true := by rw [← hp]; exact T.path _ he
        have h1 : less es[j].p es[i].p := by rw [hp]; exact order_up hup (up_under (T.path _ hm))
        rcases Nat.lt_trichotomy j i with h | h | h
        · exact h
        · subst h; exact absurd h1 (less_irrefl _)
        · exact absurd (less_trans h1 (List.pairwise_iff_getElem.1 hs i j hi hj h)) (less_irrefl _)
      rw [← hp]
      refine look_self (hs.sublist (List.take_sublist i es)) ?_
      rw [List.mem_take_iff_getElem]
      exact ⟨j, by omega, rfl⟩
end Go.Proofs.YtmfjdafkgkjidaaDoor
