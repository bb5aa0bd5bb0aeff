/-
  Plain facts on what is done to a tree, twice and back.
-/
import Derived.Test.YtbcogekeoklddaaDoorHPk06
namespace Go.Proofs.YtbcogekeoklddaaDoor
open Go.Lib

/-- What is done, by its kind, and what is made. -/
theorem Done.kinds {es : List E} {q : O} (d : Done es q) :
    (q.k = 1 ∧ q.t = ⟨#[]⟩ ∧ q.x = ⟨#[]⟩ ∧ dirE es (upS q.p) = true ∧ lookE es q.p = none ∧ es.length < 16 ∧ doE es q = putE es ⟨q.p, true, ⟨#[]⟩⟩) ∨
    (q.k = 2 ∧ q.t = ⟨#[]⟩ ∧ dataB q.x = true ∧ dirE es (upS q.p) = true ∧ ((lookE es q.p = none ∧ es.length < 16) ∨ ∃ f, lookE es q.p = some f ∧ f.d = false) ∧ doE es q = putE es ⟨q.p, false, q.x⟩) ∨
    (q.k = 3 ∧ q.t = ⟨#[]⟩ ∧ q.x = ⟨#[]⟩ ∧ (∃ f, lookE es q.p = some f ∧ f.d = false) ∧ doE es q = offE es q.p) ∨
    (q.k = 4 ∧ q.t = ⟨#[]⟩ ∧ q.x = ⟨#[]⟩ ∧ kidsE es q.p = [] ∧ (∃ f, lookE es q.p = some f ∧ f.d = true) ∧ doE es q = offE es q.p) ∨
    (q.k = 5 ∧ q.x = ⟨#[]⟩ ∧ Mv es q.p q.t ∧ doE es q = movE es q.p q.t) := by
  have hm := d.made
  unfold madeE at hm
  rcases d.asks with ⟨h1, h2, h3, h4, h5, h6⟩ | ⟨h1, h2, h3, h4, h5⟩ | ⟨h1, h2, h3, h4⟩ | ⟨h1, h2, h3, h4, h5⟩ | ⟨h1, h2, m⟩
  · rw [h1, if_pos rfl] at hm; exact .inl ⟨h1, h2, h3, h4, h5, h6, hm⟩
  · rw [h1, if_neg (by decide), if_pos rfl] at hm; exact .inr (.inl ⟨h1, h2, h3, h4, h5, hm⟩)
  · rw [h1, if_neg (by decide), if_neg (by decide), if_neg (by decide)] at hm; exact .inr (.inr (.inl ⟨h1, h2, h3, h4, hm⟩))
  · rw [h1, if_neg (by decide), if_neg (by decide), if_neg (by decide)] at hm; exact .inr (.inr (.inr (.inl ⟨h1, h2, h3, h4, h5, hm⟩)))
  · rw [h1, if_neg (by decide), if_neg (by decide), if_pos rfl] at hm; exact .inr (.inr (.inr (.inr ⟨h1, h2, m, hm⟩)))
theorem Done.kind {es : List E} {q : O} (d : Done es q) : q.k = 1 ∨ q.k = 2 ∨ q.k = 3 ∨ q.k = 4 ∨ q.k = 5 := by
  rcases d.kinds with ⟨h, _⟩ | ⟨h, _⟩ | ⟨h, _⟩ | ⟨h, _⟩ | ⟨h, _⟩ <;> omega

theorem tget_none {es : List E} (T : treeE es = true) {s : ByteArray} (hp : pathB s = true) (h : lookE es s = none) : tgetE es s = (noneE, false) := by
  unfold tgetE; rw [if_pos T, get_no hp h]
theorem tget_some {es : List E} (T : treeE es = true) {s : ByteArray} (hp : pathB s = true) {f : E} (h : lookE es s = some f) : tgetE es s = (f, true) := by
  unfold tgetE; rw [if_pos T, get_yes hp h]

/-! ### How many there are -/
theorem Done.many1 {es : List E} {q : O} (d : Done es q) (h : q.k = 1) : (doE es q).length = es.length + 1 := by
  rcases d.kinds with ⟨_, _, _, _, h5, _, hm⟩ | ⟨k, _⟩ | ⟨k, _⟩ | ⟨k, _⟩ | ⟨k, _⟩
  · rw [hm, put_new_len es d.T.sort h5]
  all_goals omega
theorem Done.many2 {es : List E} {q : O} (d : Done es q) (h : q.k = 2) : ((doE es q).length = es.length + 1 ∧ (tgetE es q.p).2 = false) ∨ ((doE es q).length = es.length ∧ (tgetE es q.p).2 = true) := by
  rcases d.kinds with ⟨k, _⟩ | ⟨_, _, _, _, h5, hm⟩ | ⟨k, _⟩ | ⟨k, _⟩ | ⟨k, _⟩
  · omega
  · rcases h5 with ⟨h5, _⟩ | ⟨f, h5, _⟩
    · left; exact ⟨by rw [hm, put_new_len es d.T.sort h5], by rw [tget_none d.tree d.path h5]⟩
    · right; exact ⟨by rw [hm, put_old_len es d.T.sort ⟨f, h5⟩], by rw [tget_some d.tree d.path h5]⟩
  all_goals omega
theorem Done.many5 {es : List E} {q : O} (d : Done es q) (h : q.k = 5) : (doE es q).length = es.length := by
  rcases d.kinds with ⟨k, _⟩ | ⟨k, _⟩ | ⟨k, _⟩ | ⟨k, _⟩ | ⟨_, _, m, hm⟩
  · omega
  · omega
  · omega
  · omega
  · rw [hm, m.len]
theorem Done.many34 {es : List E} {q : O} (d : Done es q) (h : q.k = 3 ∨ q.k = 4) : (doE es q).length + 1 = es.length := by
  rcases d.kinds with ⟨k, _⟩ | ⟨k, _⟩ | ⟨_, _, _, ⟨f, hf, _⟩, hm⟩ | ⟨_, _, _, _, ⟨f, hf, _⟩, hm⟩ | ⟨k, _⟩
  · omega
  · omega
  · rw [hm]; exact off_len_there es d.T.sort ⟨f, hf⟩
  · rw [hm]; exact off_len_there es d.T.sort ⟨f, hf⟩
  · omega

/-! ### Once more -/
theorem look_p {es : List E} {s : ByteArray} {f : E} (h : lookE es s = some f) : f.p = s := (look_mem h).2
theorem dir_put {es : List E} (T : TrE es) {e : E} (hp : pathB e.p = true) (h : dirE es (upS e.p) = true) : dirE (putE es e) (upS e.p) = true := by
  rw [dir_of_look (es := putE es e) (fs := es) (by rw [put_look T.sort, if_neg (up_ne hp)])]; exact h
theorem dir_off {es : List E} (T : TrE es) {s : ByteArray} (hp : pathB s = true) (h : dirE es (upS s) = true) : dirE (offE es s) (upS s) = true := by
  rw [dir_of_look (es := offE es s) (fs := es) (by rw [off_look T.sort, if_neg (up_ne hp)])]; exact h
theorem put_put {es : List E} (h : Rise es) (e : E) : putE (putE es e) e = putE es e :=
  look_ext (put_rise (put_rise h e) e) (put_rise h e) fun s => by
    rw [put_look (put_rise h e), put_look h]; split <;> rfl
theorem hit_self (s : ByteArray) : movHit s s = true := (hit_iff s s).2 (.inl rfl)
theorem Mv.from_free {es : List E} {f t : ByteArray} (m : Mv es f t) : movHit f t = false := by
  obtain ⟨e, he⟩ := m.there
  obtain ⟨h1, h2⟩ := look_mem he
  have := m.free' h1
  rwa [h2] at this
theorem Mv.gone {es : List E} {f t : ByteArray} (m : Mv es f t) : lookE (movE es f t) f = none := m.look_from m.from_free (hit_self f)

theorem Done.again {es : List E} {q : O} (d : Done es q) :
    (q.k = 2 ∧ doC (doE es q) q = 0 ∧ doE (doE es q) q = doE es q) ∨ (q.k = 1 ∧ doC (doE es q) q = 4 ∧ doE (doE es q) q = doE es q) ∨ (q.k ≠ 1 ∧ q.k ≠ 2 ∧ doC (doE es q) q = 2 ∧ doE (doE es q) q = doE es q) := by
  obtain ⟨T', hl'⟩ := d.tr
  have ht' : treeE (doE es q) = true := T'.treeE hl'
  have ho := asks_op d.path d.asks
  have T := d.T
  have hC : ∀ c : Int, c ≠ 0 → codeC (doE es q) q.k q.p q.t = c → doC (doE es q) q = c ∧ doE (doE es q) q = doE es q := fun c hc h => by
    have h1 : doC (doE es q) q = c := by
      unfold doC; rw [ht', ho]; exact h
    exact ⟨h1, by rw [not_done (by rw [h1]; exact hc), if_pos ht']⟩
  rcases d.kinds with ⟨h1, h2, h3, h4, h5, h6, hm⟩ | ⟨h1, h2, h3, h4, h5, hm⟩ | ⟨h1, _, _, _, hm⟩ | ⟨h1, _, _, _, _, hm⟩ | ⟨h1, h2, m, hm⟩
  · right; left
    refine ⟨h1, hC 4 (by decide) ?_⟩
    unfold codeC
    rw [h1, if_pos rfl]
    have hl : lookE (doE es q) q.p = some ⟨q.p, true, ⟨#[]⟩⟩ := by rw [hm, put_look T.sort, if_pos rfl]
    have hd : dirE (doE es q) (upS q.p) = true := by rw [hm]; exact dir_put T (e := ⟨q.p, true, ⟨#[]⟩⟩) d.path h4
    rcases newC_cases (doE es q) d.path with ⟨_, _, r, _⟩ | ⟨_, _, r, _⟩ | ⟨c, _⟩ | ⟨_, r, _⟩
    · rw [hl] at r; cases r
    · rw [hl] at r; cases r
    · exact c
    · rw [hd] at r; cases r
  · left
    have hl : lookE (doE es q) q.p = some ⟨q.p, false, q.x⟩ := by rw [hm, put_look T.sort, if_pos rfl]
    have hd : dirE (doE es q) (upS q.p) = true := by rw [hm]; exact dir_put T (e := ⟨q.p, false, q.x⟩) d.path h4
    have d2 : Done (doE es q) q := ⟨T', hl', d.path, .inr (.inl ⟨h1, h2, h3, hd, .inr ⟨_, hl, rfl⟩⟩)⟩
    refine ⟨h1, d2.code, ?_⟩
    rcases d2.kinds with ⟨k, _⟩ | ⟨_, _, _, _, _, hm2⟩ | ⟨k, _⟩ | ⟨k, _⟩ | ⟨k, _⟩
    · omega
    · rw [hm2, hm, put_put T.sort]
    all_goals omega
  · right; right
    refine ⟨by omega, by omega, hC 2 (by decide) ?_⟩
    unfold codeC
    rw [h1, if_neg (by decide), if_neg (by decide), if_neg (by decide)]
    have hl : lookE (doE es q) q.p = none := by rw [hm, off_look T.sort, if_pos rfl]
    rcases offC_cases (doE es q) 3 d.path with ⟨c, _⟩ | ⟨f, r, _⟩
    · exact c
    · rw [hl] at r; cases r
  · right; right
    refine ⟨by omega, by omega, hC 2 (by decide) ?_⟩
    unfold codeC
    rw [h1, if_neg (by decide), if_neg (by decide), if_neg (by decide)]
    have hl : lookE (doE es q) q.p = none := by rw [hm, off_look T.sort, if_pos rfl]
    rcases offC_cases (doE es q) 4 d.path with ⟨c, _⟩ | ⟨f, r, _⟩
    · exact c
    · rw [hl] at r; cases r
  · right; right
    refine ⟨by omega, by omega, hC 2 (by decide) ?_⟩
    unfold codeC
    rw [h1, if_neg (by decide), if_neg (by decide), if_pos rfl]
    have hl : lookE (doE es q) q.p = none := by rw [hm]; exact m.gone
    unfold moveC
    rw [get_no d.path hl]; rfl

/-! ### And back -/
def backO (es : List E) (q : O) : O :=
  if q.k = 4 then ⟨1, q.p, ⟨#[]⟩, ⟨#[]⟩⟩ else if q.k = 3 ∨ (q.k = 2 ∧ (tgetE es q.p).2 = true) then ⟨2, q.p, ⟨#[]⟩, (tgetE es q.p).1.x⟩ else if q.k = 2 then ⟨3, q.p, ⟨#[]⟩, ⟨#[]⟩⟩ else ⟨4, q.p, ⟨#[]⟩, ⟨#[]⟩⟩
theorem put_off {es : List E} (h : Rise es) {f : E} (hl : lookE es f.p = some f) : putE (offE es f.p) f = es :=
  look_ext (put_rise (off_rise h _) f) h fun s => by
    rw [put_look (off_rise h _), off_look h]
    by_cases hs : s = f.p
    · rw [if_pos hs, hs, hl]
    · rw [if_neg hs, if_neg hs]
theorem off_put {es : List E} (h : Rise es) {e : E} (hl : lookE es e.p = none) : offE (putE es e) e.p = es :=
  look_ext (off_rise (put_rise h e) _) h fun s => by
    rw [off_look (put_rise h e), put_look h]
    by_cases hs : s = e.p
    · rw [if_pos hs, hs, hl]
    · rw [if_neg hs, if_neg hs]
theorem put_put_back {es : List E} (h : Rise es) {e f : E} (he : f.p = e.p) (hl : lookE es f.p = some f) : putE (putE es e) f = es :=
  look_ext (put_rise (put_rise h e) f) h fun s => by
    rw [put_look (put_rise h e), put_look h]
    by_cases hs : s = f.p
    · rw [if_pos hs, hs, hl]
    · rw [if_neg hs, if_neg (he ▸ hs)]
theorem new_no_kids {es : List E} (T : TrE es) {e : E} (hp : pathB e.p = true) (hl : lookE es e.p = none) : kidsE (putE es e) e.p = [] := by
  unfold kidsE
  have : (putE es e).filter (kidB e.p) = [] := by
    rw [List.filter_eq_nil_iff]
    intro x hx hk
    rw [kid_iff] at hk
    rcases (put_mem T.sort e x).1 hx with rfl | ⟨hx, _⟩
    · exact up_ne hp hk
    · have := T.up x hx
      rw [hk, dir_isRoot hp hl] at this
      cases this
  rw [this]; rfl
theorem Done.back {es : List E} {q : O} (d : Done es q) (h5 : q.k ≠ 5) : doC (doE es q) (backO es q) = 0 ∧ doE (doE es q) (backO es q) = es := by
  obtain ⟨T', hl'⟩ := d.tr
  have T := d.T
  have key : ∀ (b : O), backO es q = b → b.p = q.p → Asks (doE es q) b → madeE (doE es q) b.k b.p b.t b.x = es → doC (doE es q) (backO es q) = 0 ∧ doE (doE es q) (backO es q) = es := fun b hb hbp ha hmm => by
    have d2 : Done (doE es q) b := ⟨T', hl', by rw [hbp]; exact d.path, ha⟩
    rw [hb]; exact ⟨d2.code, by rw [d2.made, hmm]⟩
  rcases d.kinds with ⟨h1, h2, h3, h4, h6, h7, hm⟩ | ⟨h1, h2, h3, h4, h6, hm⟩ | ⟨h1, _, _, ⟨f, hf, hfd⟩, hm⟩ | ⟨h1, _, _, hk, ⟨f, hf, hfd⟩, hm⟩ | ⟨h1, _⟩
  · refine key ⟨4, q.p, ⟨#[]⟩, ⟨#[]⟩⟩ (by unfold backO; rw [h1]; simp) rfl (.inr (.inr (.inr (.inl ⟨rfl, rfl, rfl, ?_, ⟨q.p, true, ⟨#[]⟩⟩, ?_, rfl⟩)))) ?_
    · rw [hm]; exact new_no_kids T (e := ⟨q.p, true, ⟨#[]⟩⟩) d.path h6
    · show lookE (doE es q) q.p = _; rw [hm, put_look T.sort, if_pos rfl]
    · show offE (doE es q) q.p = es
      rw [hm]; exact off_put T.sort (e := ⟨q.p, true, ⟨#[]⟩⟩) h6
  · rcases h6 with ⟨h6, h7⟩ | ⟨f, h6, h7⟩
    · refine key ⟨3, q.p, ⟨#[]⟩, ⟨#[]⟩⟩ (by unfold backO; rw [h1, tget_none d.tree d.path h6]; simp) rfl (.inr (.inr (.inl ⟨rfl, rfl, rfl, ⟨q.p, false, q.x⟩, ?_, rfl⟩))) ?_
      · show lookE (doE es q) q.p = _; rw [hm, put_look T.sort, if_pos rfl]
      · show offE (doE es q) q.p = es
        rw [hm]; exact off_put T.sort (e := ⟨q.p, false, q.x⟩) h6
    · have hfp := look_p h6
      refine key ⟨2, q.p, ⟨#[]⟩, f.x⟩ (by unfold backO; rw [h1, tget_some d.tree d.path h6]; simp) rfl (.inr (.inl ⟨rfl, rfl, (T.data f (look_mem h6).1).1, ?_, .inr ⟨⟨q.p, false, q.x⟩, ?_, rfl⟩⟩)) ?_
      · show dirE (doE es q) (upS q.p) = true; rw [hm]; exact dir_put T (e := ⟨q.p, false, q.x⟩) d.path h4
      · show lookE (doE es q) q.p = _; rw [hm, put_look T.sort, if_pos rfl]
      · show putE (doE es q) ⟨q.p, false, f.x⟩ = es
        have : (⟨q.p, false, f.x⟩ : E) = f := by rw [← hfp, ← h7]
        rw [this, hm]
        exact put_put_back T.sort (e := ⟨q.p, false, q.x⟩) (f := f) hfp (by rw [hfp]; exact h6)
  · have hfp := look_p hf
    have hup := T.up f (look_mem hf).1
    rw [hfp] at hup
    have hlen := d.many34 (.inl h1)
    have hle := d.len
    refine key ⟨2, q.p, ⟨#[]⟩, f.x⟩ (by unfold backO; rw [h1, tget_some d.tree d.path hf]; simp) rfl (.inr (.inl ⟨rfl, rfl, (T.data f (look_mem hf).1).1, ?_, .inl ⟨?_, by omega⟩⟩)) ?_
    · show dirE (doE es q) (upS q.p) = true; rw [hm]; exact dir_off T d.path hup
    · show lookE (doE es q) q.p = _; rw [hm, off_look T.sort, if_pos rfl]
    · show putE (doE es q) ⟨q.p, false, f.x⟩ = es
      have : (⟨q.p, false, f.x⟩ : E) = f := by rw [← hfp, ← hfd]
      rw [this, hm, ← hfp]
      exact put_off T.sort (by rw [hfp]; exact hf)
  · have hfp := look_p hf
    have hup := T.up f (look_mem hf).1
    rw [hfp] at hup
    have hlen := d.many34 (.inr h1)
    have hle := d.len
    refine key ⟨1, q.p, ⟨#[]⟩, ⟨#[]⟩⟩ (by unfold backO; rw [h1]; simp) rfl (.inl ⟨rfl, rfl, rfl, ?_, ?_, by omega⟩) ?_
    · show dirE (doE es q) (upS q.p) = true; rw [hm]; exact dir_off T d.path hup
    · show lookE (doE es q) q.p = _; rw [hm, off_look T.sort, if_pos rfl]
    · show putE (doE es q) ⟨q.p, true, ⟨#[]⟩⟩ = es
      have : (⟨q.p, true, ⟨#[]⟩⟩ : E) = f := by rw [← hfp, ← hfd, ← (T.data f (look_mem hf).1).2 hfd]
      rw [this, hm, ← hfp]
      exact put_off T.sort (by rw [hfp]; exact hf)
  · exact absurd h1 h5

/-! ### Moved back, and by way of another place -/
theorem Mv.look_up {es : List E} {f t : ByteArray} (m : Mv es f t) {s : ByteArray} (hd : dirE es s = true) (hn : movHit s f = false) : dirE (movE es f t) s = true := by
  have ht : movHit s t = false ∨ s = ⟨#[47]⟩ := by
    rcases dir_look hd with h | ⟨e, he, _⟩
    · exact .inr h
    · left
      obtain ⟨h1, h2⟩ := look_mem he
      have := m.free' h1
      rwa [h2] at this
  rcases ht with ht | ht
  · rw [dir_of_look (m.look_else ht hn)]; exact hd
  · exact look_dir (.inl ht)
theorem up_no_hit {p : ByteArray} (hp : pathB p = true) : movHit (upS p) p = false := by
  cases h : movHit (upS p) p with
  | false => rfl
  | true =>
    rcases (hit_iff _ _).1 h with q | q
    · exact absurd q (up_ne hp)
    · have h1 := up_pre hp
      have h2 := q.1
      have h3 := h1.1
      rcases stemOk_is (up_facts hp).1 with r | r
      · rw [r] at h2
        have := (pathB_head p hp).1
        have e : (⟨#[47]⟩ : ByteArray).size = 1 := rfl
        omega
      · rw [stem_path r] at h3; omega
theorem Mv.back {es : List E} {f t : ByteArray} (m : Mv es f t) : Mv (movE es f t) t f where
  T := m.tr
  pf := m.pt
  pt := m.pf
  there := by
    obtain ⟨e, he⟩ := m.there
    rw [m.look_to (hit_self t), movX_self, he]; exact ⟨_, rfl⟩
  dir := by
    obtain ⟨e, he⟩ := m.there
    obtain ⟨h1, h2⟩ := look_mem he
    have := m.T.up e h1
    rw [h2] at this
    exact m.look_up this (up_no_hit m.pf)
  free := m.gone
  out := by
    cases h : underI f t with
    | false => rfl
    | true =>
      have := m.from_free
      rw [(hitP m.pf m.pt).2 (.inr h)] at this
      cases this
  fit := by
    unfold fitE
    rw [List.all_eq_true]
    intro x hx
    obtain ⟨e, he, rfl⟩ := (m.mem x).1 hx
    cases hh : movHit e.p f with
    | true =>
      obtain ⟨h1, h2⟩ := m.hit he hh
      rw [h1]; exact (mov_back (m.ok he) hh).1
    | false =>
      rw [m.miss he hh]
      refine movOk_stay ?_ (m.free' he)
      unfold movAll; rw [m.T.path e he, m.pt, m.pf]; rfl
theorem Mv.returns {es : List E} {f t : ByteArray} (m : Mv es f t) : movE (movE es f t) t f = es :=
  look_ext m.back.rise m.T.sort fun s => by
    cases hf : movHit s f with
    | true =>
      rw [m.back.look_to hf, m.look_to (moved_hit hf), moved_back hf]
      cases hl : lookE es s with
      | none => rfl
      | some e =>
        obtain ⟨_, h2⟩ := look_mem hl
        simp only [Option.map_some]
        rw [← h2]
    | false =>
      cases ht : movHit s t with
      | true =>
        rw [m.back.look_from hf ht]
        symm
        rw [look_none]
        intro e he q
        have := m.free' he
        rw [q, ht] at this; cases this
      | false => rw [m.back.look_else hf ht, m.look_else ht hf]
theorem Mv.done {es : List E} {f t : ByteArray} (m : Mv es f t) (hl : es.length ≤ 16) : Done es ⟨5, f, t, ⟨#[]⟩⟩ := ⟨m.T, hl, m.pf, .inr (.inr (.inr (.inr ⟨rfl, rfl, m⟩)))⟩
theorem Mv.doE {es : List E} {f t : ByteArray} (m : Mv es f t) (hl : es.length ≤ 16) : doE es ⟨5, f, t, ⟨#[]⟩⟩ = movE es f t := by
  rw [(m.done hl).made]; rfl
/-- Each entry is where it was moved. -/
theorem Mv.at {es : List E} {f t : ByteArray} (m : Mv es f t) {e : E} (he : e ∈ es) : lookE (movE es f t) (movS e.p f t) = some ⟨movS e.p f t, e.d, e.x⟩ :=
  (look_iff m.rise _ _).2 ⟨(m.mem _).2 ⟨e, he, rfl⟩, rfl⟩
theorem Mv.at_path {es : List E} {f t : ByteArray} (m : Mv es f t) {e : E} (he : e ∈ es) : pathB (movS e.p f t) = true := by
  have := m.tr.path _ ((m.mem _).2 ⟨e, he, rfl⟩)
  exact this

/-- By way of another place. -/
theorem Mv.via {es : List E} {f t v : ByteArray} (m : Mv es f t) (k : Mv es f v) (hne : t ≠ v) : Mv (movE es f v) v t where
  T := k.tr
  pf := k.pt
  pt := m.pt
  there := by
    obtain ⟨e, he⟩ := m.there
    rw [k.look_to (hit_self v), movX_self, he]; exact ⟨_, rfl⟩
  dir := by
    refine k.look_up m.dir ?_
    cases h : movHit (upS t) f with
    | false => rfl
    | true =>
      have ho := m.out
      have hup : underI t f = true := by
        rw [under_up m.pt]
        rcases (hit_iff _ _).1 h with q | q
        · exact .inl q.symm
        · right
          rw [underI_iff]
          refine ⟨stemOk_path m.pf, ?_, by rw [stem_path m.pf]; exact q⟩
          rcases stemOk_is (up_facts m.pt).1 with r | r
          · rw [r] at q
            have h1 := q.1
            have h2 := (pathB_head f m.pf).1
            have e : (⟨#[47]⟩ : ByteArray).size = 1 := rfl
            omega
          · exact r
      rw [ho] at hup; cases hup
  free := by
    have hv : movHit t v = false := by
      cases h : movHit t v with
      | false => rfl
      | true =>
        rcases (hitP m.pt k.pt).1 h with q | q
        · exact absurd q hne
        · rcases (under_up m.pt).1 q with r | r
          · have := m.dir
            rw [← r, dir_isRoot k.pt k.free] at this; cases this
          · rcases dir_look m.dir with z | ⟨e, he, _⟩
            · rw [z] at r
              have := ((underI_iff _ _).1 r).2.1
              rw [root_no_path] at this; cases this
            · obtain ⟨h1, h2⟩ := look_mem he
              have := k.free' h1
              rw [h2, (hitP (by rw [← h2]; exact m.T.path e h1) k.pt).2 (.inr r)] at this
              cases this
    cases hf : movHit t f with
    | true => exact k.look_from hv hf
    | false => rw [k.look_else hv hf]; exact m.free
  out := by
    cases h : underI t v with
    | false => rfl
    | true =>
      rcases (under_up m.pt).1 h with r | r
      · have := m.dir
        rw [← r, dir_isRoot k.pt k.free] at this; cases this
      · rcases dir_look m.dir with z | ⟨e, he, _⟩
        · rw [z] at r
          have := ((underI_iff _ _).1 r).2.1
          rw [root_no_path] at this; cases this
        · obtain ⟨h1, h2⟩ := look_mem he
          have := k.free' h1
          rw [h2, (hitP (by rw [← h2]; exact m.T.path e h1) k.pt).2 (.inr r)] at this
          cases this
  fit := by
    unfold fitE
    rw [List.all_eq_true]
    intro x hx
    obtain ⟨e, he, rfl⟩ := (k.mem x).1 hx
    cases hh : movHit e.p f with
    | true =>
      obtain ⟨h1, h2⟩ := k.hit he hh
      rw [h1, (mov_via t (k.ok he) hh).1]
      exact m.ok he
    | false =>
      rw [k.miss he hh]
      refine movOk_stay ?_ (k.free' he)
      unfold movAll; rw [m.T.path e he, k.pt, m.pt]; rfl
theorem Mv.composed {es : List E} {f t v : ByteArray} (m : Mv es f t) (k : Mv es f v) (hne : t ≠ v) : movE (movE es f v) v t = movE es f t := by
  have n := m.via k hne
  refine rising_ext (r := fun a b : E => less a.p b.p) (fun a => less_irrefl _) (fun h k => less_trans h k) _ _ n.rise m.rise fun x => ?_
  rw [n.mem, m.mem]
  have key : ∀ e ∈ es, movE1 v t (movE1 f v e) = movE1 f t e := fun e he => by
    unfold movE1
    have : movS (movS e.p f v) v t = movS e.p f t := by
      cases hh : movHit e.p f with
      | true =>
        have h1 := (k.hit he hh).1
        have h1' : movS e.p f v = movX e.p f v := h1
        rw [h1', (mov_via t (k.ok he) hh).2]
      | false =>
        have h1 : movS e.p f v = e.p := k.miss he hh
        have h2 : movS e.p f t = e.p := m.miss he hh
        rw [h1, h2]
        refine movS_stay ?_ (k.free' he)
        unfold movAll; rw [m.T.path e he, k.pt, m.pt]; rfl
    rw [this]
  constructor
  · rintro ⟨y, hy, rfl⟩
    obtain ⟨e, he, rfl⟩ := (k.mem y).1 hy
    exact ⟨e, he, (key e he).symm⟩
  · rintro ⟨e, he, rfl⟩
    exact ⟨movE1 f v e, (k.mem _).2 ⟨e, he, rfl⟩, key e he⟩
end Go.Proofs.YtbcogekeoklddaaDoor
