/-
  Plain facts on what is done to a tree: when it can be done, and what is made.
-/
import Derived.Test.YtocfbplaieonkaaGreatHDoP
namespace Go.Proofs.YtocfbplaieonkaaGreat
open Go.Lib

theorem get_no {es : List E} {s : ByteArray} (hp : pathB s = true) (h : lookE es s = none) : getE es s = (noneE, false) := by
  rw [getE_look (root_not_path hp), h]; rfl
theorem get_yes {es : List E} {s : ByteArray} (hp : pathB s = true) {f : E} (h : lookE es s = some f) : getE es s = (f, true) := by
  rw [getE_look (root_not_path hp), h]; rfl
theorem upC_cases (es : List E) (s : ByteArray) : (upC es s = 0 ∧ dirE es (upS s) = true) ∨ ((upC es s = 2 ∨ upC es s = 3) ∧ dirE es (upS s) = false) := by
  unfold upC
  rw [dirE_look]
  cases hr : isRoot (upS s) with
  | true => left; rw [getE_root hr]; exact ⟨rfl, rfl⟩
  | false =>
    rw [getE_look hr]
    cases hl : lookE es (upS s) with
    | none => right; exact ⟨.inl rfl, rfl⟩
    | some f =>
      cases hd : f.d with
      | true => left; simp [hd]
      | false => right; simp [hd]
theorem upC_zero {es : List E} {s : ByteArray} : upC es s = 0 ↔ dirE es (upS s) = true := by
  rcases upC_cases es s with ⟨h1, h2⟩ | ⟨h1, h2⟩
  · simp [h1, h2]
  · rcases h1 with h1 | h1 <;> simp [h1, h2]
theorem newC_cases (es : List E) {s : ByteArray} (hp : pathB s = true) :
    (newC es s = 0 ∧ dirE es (upS s) = true ∧ lookE es s = none ∧ es.length < 16) ∨
    (newC es s = 8 ∧ dirE es (upS s) = true ∧ lookE es s = none ∧ 16 ≤ es.length) ∨
    (newC es s = 4 ∧ dirE es (upS s) = true ∧ ∃ f, lookE es s = some f) ∨
    ((newC es s = 2 ∨ newC es s = 3) ∧ dirE es (upS s) = false ∧ newC es s = upC es s) := by
  rcases upC_cases es s with ⟨h1, h2⟩ | ⟨h1, h2⟩
  · cases hl : lookE es s with
    | none =>
      have : newC es s = if 16 ≤ es.length then 8 else 0 := by unfold newC; rw [h1, if_neg (by simp), get_no hp hl]; rfl
      by_cases h16 : 16 ≤ es.length
      · rw [if_pos h16] at this; exact .inr (.inl ⟨this, h2, rfl, h16⟩)
      · rw [if_neg h16] at this; exact .inl ⟨this, h2, rfl, by omega⟩
    | some f =>
      have : newC es s = 4 := by unfold newC; rw [h1, if_neg (by simp), get_yes hp hl]; rfl
      exact .inr (.inr (.inl ⟨this, h2, f, rfl⟩))
  · have : newC es s = upC es s := by unfold newC; rw [if_pos (by rcases h1 with h1 | h1 <;> rw [h1] <;> decide)]
    rw [this]; exact .inr (.inr (.inr ⟨h1, h2, rfl⟩))
theorem putC_cases (es : List E) {s : ByteArray} (hp : pathB s = true) :
    (putC es s = 0 ∧ dirE es (upS s) = true ∧ ((lookE es s = none ∧ es.length < 16) ∨ ∃ f, lookE es s = some f ∧ f.d = false)) ∨
    (putC es s = 8 ∧ dirE es (upS s) = true ∧ lookE es s = none ∧ 16 ≤ es.length) ∨
    (putC es s = 5 ∧ dirE es (upS s) = true ∧ ∃ f, lookE es s = some f ∧ f.d = true) ∨
    ((putC es s = 2 ∨ putC es s = 3) ∧ dirE es (upS s) = false ∧ putC es s = upC es s) := by
  rcases newC_cases es hp with ⟨h1, h2, h3, h4⟩ | ⟨h1, h2, h3, h4⟩ | ⟨h1, h2, f, h3⟩ | ⟨h1, h2, h3⟩
  · exact .inl ⟨by unfold putC; rw [h1]; rfl, h2, .inl ⟨h3, h4⟩⟩
  · exact .inr (.inl ⟨by unfold putC; rw [h1]; rfl, h2, h3, h4⟩)
  · have : putC es s = if f.d = true then 5 else 0 := by unfold putC; rw [h1, if_pos rfl, get_yes hp h3]
    cases hd : f.d with
    | true => rw [hd] at this; exact .inr (.inr (.inl ⟨this, h2, f, h3, hd⟩))
    | false => rw [hd] at this; exact .inl ⟨this, h2, .inr ⟨f, h3, hd⟩⟩
  · have : putC es s = newC es s := by unfold putC; rw [if_neg (by rcases h1 with h1 | h1 <;> rw [h1] <;> decide)]
    rw [this]; exact .inr (.inr (.inr ⟨h1, h2, h3⟩))
theorem offC_cases (es : List E) (k : Int) {s : ByteArray} (hp : pathB s = true) :
    (offC es k s = 2 ∧ lookE es s = none) ∨ ∃ f, lookE es s = some f ∧ ((offC es k s = 5 ∧ k = 3 ∧ f.d = true) ∨ (offC es k s = 3 ∧ k = 4 ∧ f.d = false) ∨ (¬ (k = 3 ∧ f.d = true) ∧ ¬ (k = 4 ∧ f.d = false) ∧ ((offC es k s = 6 ∧ kidsE es s ≠ []) ∨ (offC es k s = 0 ∧ kidsE es s = [])))) := by
  cases hl : lookE es s with
  | none => left; exact ⟨by unfold offC; rw [get_no hp hl]; rfl, rfl⟩
  | some f =>
    right
    refine ⟨f, rfl, ?_⟩
    unfold offC
    rw [get_yes hp hl, if_neg (by simp)]
    by_cases h1 : k = 3 ∧ f.d = true
    · rw [if_pos h1]; exact .inl ⟨rfl, h1⟩
    · rw [if_neg h1]
      by_cases h2 : k = 4 ∧ f.d = false
      · rw [if_pos h2]; exact .inr (.inl ⟨rfl, h2⟩)
      · rw [if_neg h2]
        refine .inr (.inr ⟨h1, h2, ?_⟩)
        by_cases h3 : 0 < (kidsE es s).length
        · rw [if_pos h3]; exact .inl ⟨rfl, fun q => by rw [q] at h3; exact absurd h3 (by simp)⟩
        · rw [if_neg h3]; exact .inr ⟨rfl, List.length_eq_zero_iff.1 (by omega)⟩
theorem underL_I {s d : ByteArray} (hs : pathB s = true) (hd : pathB d = true) : underL s d = underI s d := by
  rw [underI_eq, hs, stemOk_path hd]; rfl
theorem moveC_cases {es : List E} (T : TrE es) {f t : ByteArray} (hf : pathB f = true) (ht : pathB t = true) :
    (moveC es f t = 0 ∧ Mv es f t) ∨ (moveC es f t = 2 ∧ lookE es f = none) ∨
    ((moveC es f t = 2 ∨ moveC es f t = 3) ∧ dirE es (upS t) = false) ∨
    (moveC es f t = 4 ∧ ∃ e, lookE es t = some e) ∨ (moveC es f t = 7 ∧ underI t f = true) ∨ (moveC es f t = 8 ∧ fitE es f t = false) := by
  cases hl : lookE es f with
  | none => exact .inr (.inl ⟨by unfold moveC; rw [get_no hf hl]; rfl, rfl⟩)
  | some e =>
    unfold moveC
    rw [get_yes hf hl, if_neg (by simp)]
    rcases upC_cases es t with ⟨h1, h2⟩ | ⟨h1, h2⟩
    · rw [h1, if_neg (by simp)]
      cases hlt : lookE es t with
      | some g => rw [get_yes ht hlt, if_pos rfl]; exact .inr (.inr (.inr (.inl ⟨rfl, g, rfl⟩)))
      | none =>
        rw [get_no ht hlt, if_neg (by simp), underL_I ht hf]
        cases hu : underI t f with
        | true => rw [if_pos rfl]; exact .inr (.inr (.inr (.inr (.inl ⟨rfl, rfl⟩))))
        | false =>
          rw [if_neg (by simp)]
          cases hfi : fitE es f t with
          | true => rw [if_pos rfl]; exact .inl ⟨rfl, ⟨T, hf, ht, ⟨e, hl⟩, h2, hlt, hu, hfi⟩⟩
          | false => rw [if_neg (by simp)]; exact .inr (.inr (.inr (.inr (.inr ⟨rfl, rfl⟩))))
    · have hz : upC es t ≠ 0 := by rcases h1 with h1 | h1 <;> rw [h1] <;> decide
      rw [if_pos hz]; exact .inr (.inr (.inl ⟨h1, h2⟩))
theorem Mv.code {es : List E} {f t : ByteArray} (m : Mv es f t) : moveC es f t = 0 := by
  obtain ⟨e, hl⟩ := m.there
  unfold moveC
  rw [get_yes m.pf hl, if_neg (by simp), upC_zero.2 m.dir, if_neg (by simp), get_no m.pt m.free, if_neg (by simp), underL_I m.pt m.pf, m.out, if_neg (by simp), m.fit, if_pos rfl]

/-- WHAT IS ASKED FOR TO BE DONE. -/
def Asks (es : List E) (q : O) : Prop :=
  (q.k = 1 ∧ q.t = ⟨#[]⟩ ∧ q.x = ⟨#[]⟩ ∧ dirE es (upS q.p) = true ∧ lookE es q.p = none ∧ es.length < 16) ∨
  (q.k = 2 ∧ q.t = ⟨#[]⟩ ∧ dataB q.x = true ∧ dirE es (upS q.p) = true ∧ ((lookE es q.p = none ∧ es.length < 16) ∨ ∃ f, lookE es q.p = some f ∧ f.d = false)) ∨
  (q.k = 3 ∧ q.t = ⟨#[]⟩ ∧ q.x = ⟨#[]⟩ ∧ ∃ f, lookE es q.p = some f ∧ f.d = false) ∨
  (q.k = 4 ∧ q.t = ⟨#[]⟩ ∧ q.x = ⟨#[]⟩ ∧ kidsE es q.p = [] ∧ ∃ f, lookE es q.p = some f ∧ f.d = true) ∨
  (q.k = 5 ∧ q.x = ⟨#[]⟩ ∧ Mv es q.p q.t)
theorem emptyB_iff (s : ByteArray) : emptyB s = true ↔ s = ⟨#[]⟩ := notEmpty
theorem empty_emptyB : emptyB ⟨#[]⟩ = true := (emptyB_iff _).2 rfl
theorem opB_parts {q : O} (h : opB q = true) : pathB q.p = true ∧ ((q.k = 1 ∧ q.t = ⟨#[]⟩ ∧ q.x = ⟨#[]⟩) ∨ (q.k = 2 ∧ q.t = ⟨#[]⟩ ∧ dataB q.x = true) ∨ (q.k = 3 ∧ q.t = ⟨#[]⟩ ∧ q.x = ⟨#[]⟩) ∨ (q.k = 4 ∧ q.t = ⟨#[]⟩ ∧ q.x = ⟨#[]⟩) ∨ (q.k = 5 ∧ pathB q.t = true ∧ q.x = ⟨#[]⟩)) := by
  unfold opB at h
  rw [Bool.and_eq_true, Bool.and_eq_true, decide_eq_true_eq] at h
  obtain ⟨⟨⟨h1, h2⟩, h3⟩, h4⟩ := h
  refine ⟨h3, ?_⟩
  by_cases h5 : q.k = 5
  · rw [if_pos h5, Bool.and_eq_true, emptyB_iff] at h4
    exact .inr (.inr (.inr (.inr ⟨h5, h4⟩)))
  · rw [if_neg h5, Bool.and_eq_true, Bool.and_eq_true, Bool.or_eq_true, emptyB_iff, emptyB_iff, decide_eq_true_eq] at h4
    obtain ⟨⟨h6, h7⟩, h8⟩ := h4
    have hk : q.k = 1 ∨ q.k = 2 ∨ q.k = 3 ∨ q.k = 4 := by omega
    rcases hk with hk | hk | hk | hk
    · exact .inl ⟨hk, h6, by rcases h8 with h8 | h8; omega; exact h8⟩
    · exact .inr (.inl ⟨hk, h6, h7⟩)
    · exact .inr (.inr (.inl ⟨hk, h6, by rcases h8 with h8 | h8; omega; exact h8⟩))
    · exact .inr (.inr (.inr (.inl ⟨hk, h6, by rcases h8 with h8 | h8; omega; exact h8⟩)))
theorem dataB_none : dataB ⟨#[]⟩ = true := by decide
theorem opB_of {q : O} (hp : pathB q.p = true) (h : (q.k = 1 ∧ q.t = ⟨#[]⟩ ∧ q.x = ⟨#[]⟩) ∨ (q.k = 2 ∧ q.t = ⟨#[]⟩ ∧ dataB q.x = true) ∨ (q.k = 3 ∧ q.t = ⟨#[]⟩ ∧ q.x = ⟨#[]⟩) ∨ (q.k = 4 ∧ q.t = ⟨#[]⟩ ∧ q.x = ⟨#[]⟩) ∨ (q.k = 5 ∧ pathB q.t = true ∧ q.x = ⟨#[]⟩)) : opB q = true := by
  unfold opB
  rw [hp]
  rcases h with ⟨h1, h2, h3⟩ | ⟨h1, h2, h3⟩ | ⟨h1, h2, h3⟩ | ⟨h1, h2, h3⟩ | ⟨h1, h2, h3⟩
  · rw [h1, h2, h3, empty_emptyB, dataB_none]; decide
  · rw [h1, h2, h3, empty_emptyB]; simp
  · rw [h1, h2, h3, empty_emptyB, dataB_none]; decide
  · rw [h1, h2, h3, empty_emptyB, dataB_none]; decide
  · rw [h1, h2, h3, empty_emptyB]; simp

theorem code_asks {es : List E} (T : TrE es) {q : O} (ho : opB q = true) : codeC es q.k q.p q.t = 0 ↔ Asks es q := by
  obtain ⟨hp, h⟩ := opB_parts ho
  unfold codeC Asks
  rcases h with ⟨h1, h2, h3⟩ | ⟨h1, h2, h3⟩ | ⟨h1, h2, h3⟩ | ⟨h1, h2, h3⟩ | ⟨h1, h2, h3⟩
  · rw [h1, if_pos rfl]
    rcases newC_cases es hp with ⟨c, r⟩ | ⟨c, r1, r2, r3⟩ | ⟨c, r1, f, r2⟩ | ⟨c, r1, r2⟩
    · simp [c, r, h2, h3]
    · simp [c]; omega
    · simp [c, r2]
    · rcases c with c | c <;> simp [c, r1]
  · rw [h1, if_neg (by decide), if_pos rfl]
    rcases putC_cases es hp with ⟨c, r⟩ | ⟨c, r1, r2, r3⟩ | ⟨c, r1, f, r2, r3⟩ | ⟨c, r1, r2⟩
    · simp [c, r, h2, h3]
    · simp [c, r2]; omega
    · simp [c, r2, r3]
    · rcases c with c | c <;> simp [c, r1]
  · rw [h1, if_neg (by decide), if_neg (by decide), if_neg (by decide)]
    rcases offC_cases es 3 hp with ⟨c, r⟩ | ⟨f, r, ⟨c, _, d⟩ | ⟨_, d, _⟩ | ⟨d1, d2, ⟨c, d⟩ | ⟨c, d⟩⟩⟩
    · simp [c, r]
    · simp [c, r, d]
    · cases d
    · simp [c, r, h2, h3]
      cases hd : f.d with
      | true => rfl
      | false => exact absurd (kids_file T (by rw [dirE_look, r, root_not_path hp]; simp [hd])) d
    · simp [c, r, h2, h3]
      simpa using d1
  · rw [h1, if_neg (by decide), if_neg (by decide), if_neg (by decide)]
    rcases offC_cases es 4 hp with ⟨c, r⟩ | ⟨f, r, ⟨c, d, _⟩ | ⟨c, _, d⟩ | ⟨d1, d2, ⟨c, d⟩ | ⟨c, d⟩⟩⟩
    · simp [c, r]
    · cases d
    · simp [c, r, d]
    · simp [c, r, d]
    · simp [c, r, h2, h3, d]
      simpa using d2
  · rw [h1, if_neg (by decide), if_neg (by decide), if_pos rfl]
    rcases moveC_cases T hp h2 with ⟨c, m⟩ | ⟨c, r⟩ | ⟨c, r⟩ | ⟨c, e, r⟩ | ⟨c, r⟩ | ⟨c, r⟩
    · simp [c, m, h3]
    · simp [c]; intro _ m; obtain ⟨e, he⟩ := m.there; rw [r] at he; cases he
    · have hc : moveC es q.p q.t ≠ 0 := by rcases c with c | c <;> rw [c] <;> decide
      simp [hc]; intro _ m; have := m.dir; rw [r] at this; cases this
    · simp [c]; intro _ m; have := m.free; rw [r] at this; cases this
    · simp [c]; intro _ m; have := m.out; rw [r] at this; cases this
    · simp [c]; intro _ m; have := m.fit; rw [r] at this; cases this
theorem asks_op {es : List E} {q : O} (hp : pathB q.p = true) (h : Asks es q) : opB q = true := by
  refine opB_of hp ?_
  rcases h with ⟨h1, h2, h3, _⟩ | ⟨h1, h2, h3, _⟩ | ⟨h1, h2, h3, _⟩ | ⟨h1, h2, h3, _⟩ | ⟨h1, h2, h3⟩
  · exact .inl ⟨h1, h2, h3⟩
  · exact .inr (.inl ⟨h1, h2, h3⟩)
  · exact .inr (.inr (.inl ⟨h1, h2, h3⟩))
  · exact .inr (.inr (.inr (.inl ⟨h1, h2, h3⟩)))
  · exact .inr (.inr (.inr (.inr ⟨h1, h3.pt, h2⟩)))
structure Done (es : List E) (q : O) : Prop where
  T : TrE es
  len : es.length ≤ 16
  path : pathB q.p = true
  asks : Asks es q
theorem done_iff (es : List E) (q : O) : doC es q = 0 ↔ Done es q := by
  unfold doC
  cases ht : treeE es with
  | false =>
    rw [Bool.false_and, if_neg (by decide)]
    exact ⟨fun h => (by cases h), fun d => (by rw [d.T.treeE d.len] at ht; cases ht)⟩
  | true =>
    obtain ⟨T, hl⟩ := treeE_tr ht
    cases ho : opB q with
    | false =>
      rw [Bool.true_and, if_neg (by decide)]
      exact ⟨fun h => (by cases h), fun d => (by rw [asks_op d.path d.asks] at ho; cases ho)⟩
    | true =>
      rw [Bool.true_and, if_pos rfl, code_asks T ho]
      exact ⟨fun h => ⟨T, hl, (opB_parts ho).1, h⟩, fun d => d.asks⟩
theorem Done.code {es : List E} {q : O} (d : Done es q) : doC es q = 0 := (done_iff es q).2 d
theorem Done.tree {es : List E} {q : O} (d : Done es q) : treeE es = true := d.T.treeE d.len
theorem Done.made {es : List E} {q : O} (d : Done es q) : doE es q = madeE es q.k q.p q.t q.x := by
  unfold doE; rw [if_pos d.tree, if_pos d.code]
theorem not_done {es : List E} {q : O} (h : doC es q ≠ 0) : doE es q = if treeE es = true then es else [] := by
  unfold doE; rw [if_neg h]
theorem doC_no_tree {es : List E} {q : O} (h : treeE es = false) : doC es q = 1 := by unfold doC; rw [h]; rfl
theorem doC_no_op {es : List E} {q : O} (h : opB q = false) : doC es q = 1 := by unfold doC; rw [h, Bool.and_false]; rfl
theorem code_not_one {es : List E} (T : TrE es) {q : O} (ho : opB q = true) : codeC es q.k q.p q.t ≠ 1 := by
  obtain ⟨hp, h⟩ := opB_parts ho
  unfold codeC
  rcases h with ⟨h1, h2, h3⟩ | ⟨h1, h2, h3⟩ | ⟨h1, h2, h3⟩ | ⟨h1, h2, h3⟩ | ⟨h1, h2, h3⟩
  · rw [h1, if_pos rfl]
    rcases newC_cases es hp with ⟨c, _⟩ | ⟨c, _⟩ | ⟨c, _⟩ | ⟨c | c, _⟩ <;> rw [c] <;> decide
  · rw [h1, if_neg (by decide), if_pos rfl]
    rcases putC_cases es hp with ⟨c, _⟩ | ⟨c, _⟩ | ⟨c, _⟩ | ⟨c | c, _⟩ <;> rw [c] <;> decide
  · rw [h1, if_neg (by decide), if_neg (by decide), if_neg (by decide)]
    rcases offC_cases es 3 hp with ⟨c, _⟩ | ⟨f, _, ⟨c, _⟩ | ⟨c, _⟩ | ⟨_, _, ⟨c, _⟩ | ⟨c, _⟩⟩⟩ <;> rw [c] <;> decide
  · rw [h1, if_neg (by decide), if_neg (by decide), if_neg (by decide)]
    rcases offC_cases es 4 hp with ⟨c, _⟩ | ⟨f, _, ⟨c, _⟩ | ⟨c, _⟩ | ⟨_, _, ⟨c, _⟩ | ⟨c, _⟩⟩⟩ <;> rw [c] <;> decide
  · rw [h1, if_neg (by decide), if_neg (by decide), if_pos rfl]
    rcases moveC_cases T hp h2 with ⟨c, _⟩ | ⟨c, _⟩ | ⟨c | c, _⟩ | ⟨c, _⟩ | ⟨c, _⟩ | ⟨c, _⟩ <;> rw [c] <;> decide
theorem doC_one {es : List E} {q : O} (ht : treeE es = true) : doC es q = 1 ↔ opB q = false := by
  cases ho : opB q with
  | false => simp [doC_no_op ho]
  | true =>
    simp
    unfold doC
    rw [ht, ho]
    exact code_not_one (treeE_tr ht).1 ho

/-! ### What is made -/
theorem put_new_len {e : E} : ∀ (es : List E), Rise es → lookE es e.p = none → (putE es e).length = es.length + 1
  | [], _, _ => rfl
  | x :: r, h, hl => by
    have hn := look_none.1 hl
    rcases less_or (hn x (List.mem_cons_self ..)) with k | k
    · rw [put_cons_lt k, List.length_cons, put_new_len r (List.pairwise_cons.1 h).2 (look_none.2 fun y hy => hn y (List.mem_cons_of_mem _ hy))]; rfl
    · rw [put_cons_gt k]; rfl
theorem put_old_len {e : E} : ∀ (es : List E), Rise es → (∃ f, lookE es e.p = some f) → (putE es e).length = es.length
  | [], _, h => by obtain ⟨f, hf⟩ := h; cases hf
  | x :: r, h, hl => by
    obtain ⟨f, hf⟩ := hl
    obtain ⟨hm, hp⟩ := look_mem hf
    have hx := List.pairwise_cons.1 h
    by_cases hxe : x.p = e.p
    · rw [put_cons_eq hxe]; rfl
    · have hfr : f ∈ r := by
        rcases List.mem_cons.1 hm with q | q
        · rw [q] at hp; exact absurd hp hxe
        · exact q
      have k : less x.p e.p := hp ▸ hx.1 f hfr
      rw [put_cons_lt k, List.length_cons, List.length_cons, put_old_len r hx.2 ⟨f, (look_iff hx.2 _ _).2 ⟨hfr, hp⟩⟩]
theorem off_len_there {s : ByteArray} : ∀ (es : List E), Rise es → (∃ f, lookE es s = some f) → (offE es s).length + 1 = es.length
  | [], _, h => by obtain ⟨f, hf⟩ := h; cases hf
  | x :: r, h, hl => by
    obtain ⟨f, hf⟩ := hl
    obtain ⟨hm, hp⟩ := look_mem hf
    have hx := List.pairwise_cons.1 h
    unfold offE
    by_cases hxe : x.p = s
    · have hr : r.filter (fun e => !(e.p.toList == s.toList)) = r := by
        rw [List.filter_eq_self]
        intro y hy
        rw [beqL]
        have : y.p ≠ s := fun q => by
          have := hx.1 y hy
          rw [q, ← hxe] at this
          exact less_irrefl _ this
        simp [this]
      rw [List.filter_cons_of_neg (by rw [beqL]; simp [hxe]), hr]; rfl
    · have hfr : f ∈ r := by
        rcases List.mem_cons.1 hm with q | q
        · rw [q] at hp; exact absurd hp hxe
        · exact q
      have ih := off_len_there r hx.2 ⟨f, (look_iff hx.2 _ _).2 ⟨hfr, hp⟩⟩
      unfold offE at ih
      rw [List.filter_cons_of_pos (by rw [beqL]; simp [hxe]), List.length_cons, ih]; rfl
theorem nodup_len {es fs : List E} (h1 : es.Nodup) (h2 : fs.Nodup) (h : ∀ x, x ∈ es ↔ x ∈ fs) : es.length = fs.length :=
  ((List.perm_ext_iff_of_nodup h1 h2).2 h).length_eq
theorem rise_nodup {es : List E} (h : Rise es) : es.Nodup := h.imp (fun {a b} k q => by rw [q] at k; exact less_irrefl _ k)
theorem Mv.len {es : List E} {f t : ByteArray} (m : Mv es f t) : (movE es f t).length = es.length := by
  have : (es.map (movE1 f t)).Nodup := m.apart.imp (fun {a b} k q => k (by rw [q]))
  rw [nodup_len (rise_nodup m.rise) this (fun x => by rw [m.mem, List.mem_map]), List.length_map]
theorem Done.tr {es : List E} {q : O} (d : Done es q) : TrE (doE es q) ∧ (doE es q).length ≤ 16 := by
  rw [d.made]
  have T := d.T
  have hl := d.len
  unfold madeE
  rcases d.asks with ⟨h1, _, _, h4, h5, h6⟩ | ⟨h1, _, h3, h4, h5⟩ | ⟨h1, _, _, f, h4, h5⟩ | ⟨h1, _, _, h4, f, h5, h6⟩ | ⟨h1, h2, m⟩
  · rw [h1, if_pos rfl]
    refine ⟨tr_put (e := ⟨q.p, true, ⟨#[]⟩⟩) T d.path rfl (fun _ => rfl) (dir_isRoot d.path h5) h4, ?_⟩
    rw [put_new_len es T.sort h5]; omega
  · rw [h1, if_neg (by decide), if_pos rfl]
    have hd : dirE es q.p = false := by
      rcases h5 with ⟨h5, _⟩ | ⟨f, h5, h6⟩
      · exact dir_isRoot d.path h5
      · rw [dirE_look, h5, root_not_path d.path]; simp [h6]
    refine ⟨tr_put (e := ⟨q.p, false, q.x⟩) T d.path h3 (fun h => by cases h) hd h4, ?_⟩
    rcases h5 with ⟨h5, _⟩ | ⟨f, h5, _⟩
    · rw [put_new_len es T.sort h5]; omega
    · rw [put_old_len es T.sort ⟨f, h5⟩]; omega
  · rw [h1, if_neg (by decide), if_neg (by decide), if_neg (by decide)]
    have hk : kidsE es q.p = [] := kids_file T (by rw [dirE_look, h4, root_not_path d.path]; simp [h5])
    refine ⟨tr_off T (kids_nil hk), ?_⟩
    have := off_len_there es T.sort ⟨f, h4⟩; omega
  · rw [h1, if_neg (by decide), if_neg (by decide), if_neg (by decide)]
    refine ⟨tr_off T (kids_nil h4), ?_⟩
    have := off_len_there es T.sort ⟨f, h5⟩; omega
  · rw [h1, if_neg (by decide), if_neg (by decide), if_pos rfl]
    exact ⟨m.tr, by rw [m.len]; exact hl⟩
/-- What is done to a right tree leaves one. -/
theorem do_tree {es : List E} {q : O} (h : treeE es = true) : treeE (doE es q) = true := by
  by_cases h0 : doC es q = 0
  · obtain ⟨T, hl⟩ := ((done_iff es q).1 h0).tr
    exact T.treeE hl
  · rw [not_done h0, if_pos h]; exact h
end Go.Proofs.YtocfbplaieonkaaGreat
