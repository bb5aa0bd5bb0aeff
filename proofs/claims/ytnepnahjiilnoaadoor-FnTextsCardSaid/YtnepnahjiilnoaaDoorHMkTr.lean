/-
  Plain facts on right layers: what is at a path, and what is above it.
-/
import Derived.Test.YtnepnahjiilnoaaDoorHMkLay
import Derived.Test.YtnepnahjiilnoaaDoorHChain
namespace Go.Proofs.YtnepnahjiilnoaaDoor.Mk
open Go.Lib

def lookE (es : List E) (s : ByteArray) : Option E := es.find? (fun e => decide (e.p = s))
theorem look_mem {es : List E} {s : ByteArray} {e : E} (h : lookE es s = some e) : e ∈ es ∧ e.p = s :=
  ⟨List.mem_of_find?_eq_some h, by have := List.find?_some h; simpa using this⟩
theorem look_none {es : List E} {s : ByteArray} : lookE es s = none ↔ ∀ e ∈ es, e.p ≠ s := by
  unfold lookE; rw [List.find?_eq_none]; simp
theorem look_append (es fs : List E) (s : ByteArray) : lookE (es ++ fs) s = (lookE es s).or (lookE fs s) := by
  unfold lookE; rw [List.find?_append]
theorem findL_look (s : ByteArray) : ∀ (es : List E) (k : Nat), (findL s es k = -1 ∧ lookE es s = none) ∨ ∃ (j : Nat) (h : j < es.length), findL s es k = ((k + j : Nat) : Int) ∧ lookE es s = some es[j]
  | [], _ => .inl ⟨rfl, rfl⟩
  | e :: r, k => by
    unfold findL
    by_cases h : e.p = s
    · have : (e.p.toList == s.toList) = true := by rw [beqL]; exact decide_eq_true h
      rw [if_pos this]
      exact .inr ⟨0, Nat.succ_pos _, rfl, by unfold lookE; rw [List.find?_cons_of_pos (by simpa using h)]; rfl⟩
    · have : ¬ (e.p.toList == s.toList) = true := by rw [beqL]; simpa using h
      rw [if_neg this]
      have hl : lookE (e :: r) s = lookE r s := by unfold lookE; rw [List.find?_cons_of_neg (by simpa using h)]
      rw [hl]
      rcases findL_look s r (k + 1) with ⟨h1, h2⟩ | ⟨j, hj, h1, h2⟩
      · exact .inl ⟨h1, h2⟩
      · exact .inr ⟨j + 1, Nat.succ_lt_succ hj, by rw [h1]; omega, h2⟩
theorem kind_look (es : List E) (s : ByteArray) : kindM es s = ((lookE es s).map (·.d)).getD 0 := by
  rcases findL_look s es 0 with ⟨h1, h2⟩ | ⟨j, hj, h1, h2⟩
  · rw [kind_no h1, h2]; rfl
  · rw [kind_at hj (by unfold findE; rw [h1]; omega), h2]; rfl

/-- A mark that others may be in. -/
def dirK (d : Int) : Bool := (d == 2) || (d == 4)
structure TrM (es : List E) : Prop where
  path : ∀ e ∈ es, pathB e.p = true
  sort : es.Pairwise (fun a b => less a.p b.p)
  up : ∀ e ∈ es, upS e.p = ⟨#[47]⟩ ∨ ∃ f, lookE es (upS e.p) = some f ∧ dirK f.d = true
  kind : ∀ e ∈ es, 1 ≤ e.d ∧ e.d ≤ 4
theorem TrM.nil : TrM [] := ⟨by simp, by simp, by simp, by simp⟩
theorem look_self {es : List E} (h : es.Pairwise (fun a b => less a.p b.p)) {e : E} (he : e ∈ es) : lookE es e.p = some e := by
  cases hl : lookE es e.p with
  | none => exact absurd rfl (look_none.1 hl e he)
  | some f =>
    obtain ⟨hf, hp⟩ := look_mem hl
    by_cases hne : e = f
    · rw [hne]
    · exfalso
      have key : ∀ (l : List E), l.Pairwise (fun a b => less a.p b.p) → e ∈ l → f ∈ l → False := by
        intro l
        induction l with
        | nil => intro _ h; cases h
        | cons x r ih =>
          intro hl he hf
          obtain ⟨h1, h2⟩ := List.pairwise_cons.1 hl
          rcases List.mem_cons.1 he with e1 | e1
          · rcases List.mem_cons.1 hf with e2 | e2
            · exact hne (e1.trans e2.symm)
            · have := h1 f e2; rw [← e1, hp] at this; exact less_irrefl _ this
          · rcases List.mem_cons.1 hf with e2 | e2
            · have := h1 e e1; rw [← e2, hp] at this; exact less_irrefl _ this
            · exact ih h2 e1 e2
      exact key es h he hf
theorem look_path {es : List E} (T : TrM es) {s : ByteArray} {e : E} (h : lookE es s = some e) : pathB s = true := by
  obtain ⟨e1, e2⟩ := look_mem h
  rw [← e2]; exact T.path e e1
theorem look_bad {es : List E} (T : TrM es) {s : ByteArray} (h : pathB s = false) : lookE es s = none := by
  cases hl : lookE es s with
  | none => rfl
  | some e => rw [look_path T hl] at h; cases h
/-- Nothing is where its upper one isn't. -/
theorem look_up {es : List E} (T : TrM es) {s : ByteArray} (h : lookE es (upS s) = none) (hr : upS s ≠ ⟨#[47]⟩) : lookE es s = none := by
  cases hl : lookE es s with
  | none => rfl
  | some e =>
    obtain ⟨e1, e2⟩ := look_mem hl
    rcases T.up e e1 with q | ⟨f, q, _⟩
    · rw [e2] at q; exact absurd q hr
    · rw [e2, h] at q; cases q

theorem inM_look {es : List E} {s : ByteArray} : inM es s = true ↔ upS s = ⟨#[47]⟩ ∨ ∃ f, lookE es (upS s) = some f ∧ dirK f.d = true := by
  unfold inM
  rw [Bool.or_eq_true, isRoot_iff, kind_look]
  cases lookE es (upS s) with
  | none => simp
  | some f => simp [dirK]
theorem up_bad {s : ByteArray} (h : pathB s = false) : upS s = ⟨#[]⟩ := by unfold upS; rw [h]; rfl
theorem nil_bad : pathB ⟨#[]⟩ = false := by
  cases h : pathB ⟨#[]⟩ with
  | false => rfl
  | true =>
    have h1 := (pathB_head _ h).1
    have h2 : (⟨#[]⟩ : ByteArray).size = 0 := rfl
    omega
theorem inM_path {es : List E} (T : TrM es) {s : ByteArray} (h : inM es s = true) : pathB s = true := by
  cases hp : pathB s with
  | true => rfl
  | false =>
    exfalso
    have hu := up_bad hp
    rcases inM_look.1 h with q | ⟨f, q, _⟩
    · rw [hu] at q
      have := congrArg ByteArray.size q
      have h1 : (⟨#[]⟩ : ByteArray).size = 0 := rfl
      have h2 : (⟨#[47]⟩ : ByteArray).size = 1 := rfl
      omega
    · rw [hu, look_bad T nil_bad] at q; cases q

theorem tr_snoc {es : List E} {e : E} (T : TrM es) (h4 : ∀ f ∈ es, less f.p e.p) (h5 : inM es e.p = true) (h6 : 1 ≤ e.d ∧ e.d ≤ 4) : TrM (es ++ [e]) where
  path f hf := by
    rcases List.mem_append.1 hf with hf | hf
    · exact T.path f hf
    · rw [List.mem_singleton.1 hf]; exact inM_path T h5
  sort := by
    rw [List.pairwise_append]
    exact ⟨T.sort, by simp, fun a ha b hb => by rw [List.mem_singleton.1 hb]; exact h4 a ha⟩
  up f hf := by
    have key : ∀ s, (upS s = ⟨#[47]⟩ ∨ ∃ f, lookE es (upS s) = some f ∧ dirK f.d = true) → (upS s = ⟨#[47]⟩ ∨ ∃ f, lookE (es ++ [e]) (upS s) = some f ∧ dirK f.d = true) := fun s h =>
      h.imp id fun ⟨f, h1, h2⟩ => ⟨f, by rw [look_append, h1]; rfl, h2⟩
    rcases List.mem_append.1 hf with hf | hf
    · exact key _ (T.up f hf)
    · rw [List.mem_singleton.1 hf]; exact key _ (inM_look.1 h5)
  kind f hf := by
    rcases List.mem_append.1 hf with hf | hf
    · exact T.kind f hf
    · rw [List.mem_singleton.1 hf]; exact h6
theorem last_less {es : List E} (h : es.Pairwise (fun a b => less a.p b.p)) {k : Nat} (hk : k < es.length) {s : ByteArray} (hl : es.length = k + 1) (hs : less es[k].p s) : ∀ f ∈ es, less f.p s := by
  intro f hf
  obtain ⟨i, hi, rfl⟩ := List.getElem_of_mem hf
  by_cases e : i = k
  · subst e; exact hs
  · exact less_trans (List.pairwise_iff_getElem.1 h i k hi hk (by omega)) hs

/-- The path ahead of the place k. -/
def lastP (es : List E) (k : Nat) : ByteArray := match k with
  | 0 => ⟨#[]⟩
  | j + 1 => ((es[j]?).map (·.p)).getD ⟨#[]⟩
theorem lastP_succ {es : List E} {k : Nat} (h : k < es.length) : lastP es (k + 1) = es[k].p := by
  show ((es[k]?).map (·.p)).getD ⟨#[]⟩ = _
  rw [List.getElem?_eq_getElem h]; rfl
theorem take_less {es : List E} {k : Nat} (h : k < es.length) (T : TrM (es.take k)) (hl : less (lastP es k) es[k].p) : ∀ f ∈ es.take k, less f.p es[k].p := by
  cases k with
  | zero => intro f hf; rw [List.take_zero] at hf; cases hf
  | succ j =>
    rw [lastP_succ (by omega)] at hl
    exact last_less T.sort (k := j) (by rw [List.length_take]; omega) (by rw [List.length_take]; omega) (by rw [List.getElem_take]; exact hl)
/-- What a mark says by itself is right. -/
def signB (d : Int) (x : ByteArray) : Bool := if d = 1 then dataB x else ((d == 2) || ((d == 3) || (d == 4))) && (x.toList == [])
/-- A mark may stand at a path. -/
def takesM (es : List E) (p : ByteArray) (d : Int) : Bool := inM es p && (!bareM es p || decide (d ≤ 2))
theorem data_nil : dataB ⟨#[]⟩ = true := by
  unfold dataB; rfl
theorem okM_less {es : List E} {k : Nat} (h : k < es.length) (T : TrM (es.take k)) (hl : less (lastP es k) es[k].p) : okM es k = (signB es[k].d es[k].x && takesM (es.take k) es[k].p es[k].d) := by
  rw [okM_is h]
  have hord : (k == 0 || Op.bytesLess ((es[k - 1]?.map (·.p.toList)).getD []) es[k].p.toList) = true := by
    cases k with
    | zero => rfl
    | succ j =>
      rw [lastP_succ (by omega)] at hl
      have e1 : es[j + 1 - 1]? = some es[j] := by rw [show j + 1 - 1 = j from rfl, List.getElem?_eq_getElem (by omega)]
      rw [e1]
      rw [Bool.or_eq_true]; exact .inr hl
  rw [hord, Bool.true_and]
  unfold takesM
  cases hi : inM (es.take k) es[k].p with
  | false => simp
  | true =>
    rw [inM_path T hi]
    rw [Bool.true_and, Bool.true_and, Bool.true_and]
    obtain ⟨d, hd⟩ : ∃ d, es[k].d = d := ⟨_, rfl⟩
    obtain ⟨x, hx⟩ : ∃ x, es[k].x = x := ⟨_, rfl⟩
    rw [hd, hx]
    have hb : (!(decide (2 < d) && bareM (es.take k) es[k].p)) = (!bareM (es.take k) es[k].p || decide (d ≤ 2)) := by
      by_cases h2 : d ≤ 2
      · rw [decide_eq_true h2, decide_eq_false (by omega : ¬ 2 < d)]; simp
      · rw [decide_eq_false h2, decide_eq_true (by omega : 2 < d)]; simp
    rw [hb, ← Bool.and_assoc, ← Bool.and_assoc]
    congr 1
    unfold signB
    by_cases h1 : d = 1
    · subst h1; simp
    · rw [if_neg h1]
      have e1 : (d != 1) = true := by simpa using h1
      rw [e1, Bool.true_and, Bool.not_not]
      have e2 : ((d == 2) || ((d == 3) || (d == 4))) = decide (1 ≤ d ∧ d ≤ 4) := by
        rw [Bool.eq_iff_iff]
        simp only [Bool.or_eq_true, beq_iff_eq, decide_eq_true_eq]
        omega
      rw [e2]
      have e3 : (x.toList == []) = x.toList.isEmpty := by cases x.toList <;> rfl
      rw [e3]
      cases hx : x.toList.isEmpty with
      | false => simp
      | true => rw [notEmpty.1 hx, data_nil]; simp
theorem okM_not {es : List E} {k : Nat} (h : k < es.length) (hl : ¬ less (lastP es k) es[k].p) : okM es k = false := by
  cases ho : okM es k with
  | false => rfl
  | true =>
    exfalso
    rw [okM_is h] at ho
    simp only [Bool.and_eq_true] at ho
    obtain ⟨_, h1, _, _, h4, _⟩ := ho
    cases k with
    | zero =>
      have := pathB_head _ h1
      refine hl (less_L.2 ?_)
      show Op.bytesLess [] (L es[0].p) = true
      have hlen := L_len es[0].p
      cases hq : L es[0].p with
      | nil => rw [hq] at hlen; simp at hlen; omega
      | cons y r => rfl
    | succ j =>
      rw [Bool.or_eq_true] at h4
      have e1 : es[j + 1 - 1]? = some es[j] := by rw [show j + 1 - 1 = j from rfl, List.getElem?_eq_getElem (by omega)]
      rw [e1] at h4
      rcases h4 with h4 | h4
      · cases h4
      · rw [lastP_succ (by omega)] at hl; exact hl h4
theorem tr_take {es : List E} : ∀ k, k ≤ es.length → (List.range k).all (okM es) = true → TrM (es.take k)
  | 0, _, _ => by rw [List.take_zero]; exact TrM.nil
  | k + 1, hk, h => by
    rw [List.range_succ, List.all_append, Bool.and_eq_true] at h
    have T := tr_take k (by omega) h.1
    have hk' : k < es.length := by omega
    have ho : okM es k = true := by simpa using h.2
    have hl : less (lastP es k) es[k].p := Classical.byContradiction fun hn => by rw [okM_not hk' hn] at ho; cases ho
    rw [List.take_succ_eq_append_getElem hk']
    have hk1 := ho
    rw [okM_is hk'] at hk1
    simp only [Bool.and_eq_true, decide_eq_true_eq] at hk1
    exact tr_snoc T (take_less hk' T hl) hk1.2.2.2.2.2.1 hk1.1

/-! ### What is above a path -/
def upsF : Nat → ByteArray → List ByteArray
  | 0, _ => []
  | n + 1, s => if pathB s = true then s :: upsF n (upS s) else []
def ups (s : ByteArray) : List ByteArray := upsF (s.size + 1) s
theorem up_lt {s : ByteArray} (h : pathB s = true) : (upS s).size < s.size := by
  have h1 := up_size h
  rcases stemOk_is (up_facts h).1 with q | q
  · rw [q]
    have h2 := (pathB_head s h).1
    have h3 : (⟨#[47]⟩ : ByteArray).size = 1 := rfl
    omega
  · rw [stem_path q] at h1; exact h1
theorem upsF_more : ∀ (n m : Nat) (s : ByteArray), s.size < n → s.size < m → upsF n s = upsF m s
  | 0, _, _, h, _ => by omega
  | _ + 1, 0, _, _, h => by omega
  | n + 1, m + 1, s, h1, h2 => by
    unfold upsF
    by_cases hp : pathB s = true
    · rw [if_pos hp, if_pos hp, upsF_more n m (upS s) (by have := up_lt hp; omega) (by have := up_lt hp; omega)]
    · rw [if_neg hp, if_neg hp]
theorem ups_yes {s : ByteArray} (h : pathB s = true) : ups s = s :: ups (upS s) := by
  show (if pathB s = true then s :: upsF s.size (upS s) else []) = _
  rw [if_pos h]
  have := up_lt h
  rw [upsF_more s.size ((upS s).size + 1) (upS s) (by omega) (by omega)]
  rfl
theorem ups_no {s : ByteArray} (h : pathB s = false) : ups s = [] := by
  show (if pathB s = true then s :: upsF s.size (upS s) else []) = _
  rw [if_neg (by rw [h]; decide)]
theorem mem_ups : ∀ (N : Nat) (s b : ByteArray), s.size ≤ N → (b ∈ ups s ↔ pathB s = true ∧ pathB b = true ∧ (b = s ∨ underI s b = true))
  | N, s, b, hN => by
    cases hp : pathB s with
    | false => rw [ups_no hp]; simp
    | true =>
      rw [ups_yes hp, List.mem_cons]
      have hlt := up_lt hp
      match N, hN with
      | 0, hN => omega
      | N + 1, hN =>
        rw [mem_ups N (upS s) b (by omega)]
        constructor
        · rintro (rfl | ⟨h1, h2, h3⟩)
          · exact ⟨rfl, hp, .inl rfl⟩
          · exact ⟨rfl, h2, .inr ((under_up hp).2 h3)⟩
        · rintro ⟨_, h2, h3 | h3⟩
          · exact .inl h3
          · refine .inr ?_
            rcases (under_up hp).1 h3 with q | q
            · exact ⟨by rw [← q]; exact h2, h2, .inl q⟩
            · refine ⟨((underI_iff _ _).1 q).2.1, h2, .inr q⟩
theorem underL_I {s b : ByteArray} (hs : pathB s = true) (hb : pathB b = true) : underL s b = underI s b := by
  rw [underI_eq, hs, stemOk_path hb]; rfl
/-- What is told of the mark at a path, if there is one. -/
def tellM (es : List E) (f : Int → Bool) (q : ByteArray) : Bool := match lookE es q with
  | some e => f e.d
  | none => false
theorem tell_any {es : List E} (T : TrM es) (f : Int → Bool) (s : ByteArray) (P : E → Bool) (hP : ∀ e ∈ es, P e = true ↔ e.p ∈ ups s) : (ups s).any (tellM es f) = es.any (fun e => f e.d && P e) := by
  rw [Bool.eq_iff_iff, List.any_eq_true, List.any_eq_true]
  constructor
  · rintro ⟨q, hq, h⟩
    unfold tellM at h
    cases hl : lookE es q with
    | none => rw [hl] at h; cases h
    | some e =>
      rw [hl] at h
      obtain ⟨h1, h2⟩ := look_mem hl
      exact ⟨e, h1, by rw [Bool.and_eq_true]; exact ⟨h, (hP e h1).2 (by rw [h2]; exact hq)⟩⟩
  · rintro ⟨e, he, h⟩
    rw [Bool.and_eq_true] at h
    refine ⟨e.p, (hP e he).1 h.2, ?_⟩
    unfold tellM
    rw [look_self T.sort he]; exact h.1
theorem bares_is {es : List E} (T : TrM es) {s : ByteArray} (hs : pathB s = true) : (ups (upS s)).any (tellM es (fun d => d == 4)) = bareM es s := by
  rw [tell_any T (fun d => d == 4) (upS s) (fun e => underL s e.p)]
  · rfl
  · intro e he
    have hpe := T.path e he
    rw [underL_I hs hpe, under_up hs, mem_ups _ _ _ (Nat.le_refl _)]
    constructor
    · rintro (q | q)
      · exact ⟨by rw [← q]; exact hpe, hpe, .inl q⟩
      · exact ⟨((underI_iff _ _).1 q).2.1, hpe, .inr q⟩
    · rintro ⟨_, _, q⟩
      exact q
theorem hides_is {es : List E} (T : TrM es) (s : ByteArray) : (ups s).any (tellM es (fun d => d != 2)) = (pathB s && hidesM es s) := by
  cases hs : pathB s with
  | false => rw [ups_no hs]; rfl
  | true =>
    rw [tell_any T (fun d => d != 2) s (fun e => decide (e.p = s) || underL s e.p), Bool.true_and]
    · unfold hidesM
      congr 1
      funext e
      unfold hideM
      rw [beqL]
      cases h1 : decide (e.p = s) <;> cases h2 : (e.d != 2) <;> cases h3 : underL s e.p <;> rfl
    · intro e he
      have hpe := T.path e he
      rw [underL_I hs hpe, mem_ups _ _ _ (Nat.le_refl _), Bool.or_eq_true, decide_eq_true_eq]
      exact ⟨fun q => ⟨hs, hpe, q⟩, fun q => q.2.2⟩
end Go.Proofs.YtnepnahjiilnoaaDoor.Mk
