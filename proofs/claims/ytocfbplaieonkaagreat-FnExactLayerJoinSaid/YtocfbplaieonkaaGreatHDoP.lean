/-
  Plain facts on what is done to a right tree: it is one again, and what is then at each path.
-/
import Derived.Test.YtocfbplaieonkaaGreatHPk09
namespace Go.Proofs.YtocfbplaieonkaaGreat

theorem up_ne {s : ByteArray} (h : pathB s = true) : upS s ≠ s := fun q => by
  have h1 := up_under h
  rw [q, under_self] at h1; cases h1
theorem dir_of_look {es fs : List E} {s : ByteArray} (h : lookE es s = lookE fs s) : dirE es s = dirE fs s := by
  rw [dirE_look, dirE_look, h]
theorem dir_isRoot {es : List E} {s : ByteArray} (hp : pathB s = true) (hl : lookE es s = none) : dirE es s = false := by
  rw [dirE_look, hl, root_not_path hp]; rfl
/-- An entry is put into a right tree. -/
theorem tr_put {es : List E} {e : E} (T : TrE es) (h1 : pathB e.p = true) (h2 : dataB e.x = true) (h3 : e.d = true → e.x = ⟨#[]⟩) (h4 : dirE es e.p = false) (h5 : dirE es (upS e.p) = true) : TrE (putE es e) where
  path f hf := by
    rcases (put_mem T.sort e f).1 hf with k | ⟨k, _⟩
    · rw [k]; exact h1
    · exact T.path f k
  sort := put_rise T.sort e
  up f hf := by
    rcases (put_mem T.sort e f).1 hf with k | ⟨k, _⟩
    · rw [k, dir_of_look (fs := es) (by rw [put_look T.sort, if_neg (up_ne h1)])]; exact h5
    · have hu := T.up f k
      have hne : upS f.p ≠ e.p := fun q => by rw [q, h4] at hu; cases hu
      rw [dir_of_look (fs := es) (by rw [put_look T.sort, if_neg hne])]; exact hu
  data f hf := by
    rcases (put_mem T.sort e f).1 hf with k | ⟨k, _⟩
    · rw [k]; exact ⟨h2, h3⟩
    · exact T.data f k
/-- Something in which nothing is is taken out of a right tree. -/
theorem tr_off {es : List E} {s : ByteArray} (T : TrE es) (h : ∀ e ∈ es, upS e.p ≠ s) : TrE (offE es s) where
  path f hf := T.path f ((off_mem es s f).1 hf).1
  sort := off_rise T.sort s
  up f hf := by
    obtain ⟨k, _⟩ := (off_mem es s f).1 hf
    rw [dir_of_look (fs := es) (by rw [off_look T.sort, if_neg (h f k)])]; exact T.up f k
  data f hf := T.data f ((off_mem es s f).1 hf).1
theorem kids_nil {es : List E} {s : ByteArray} (h : kidsE es s = []) : ∀ e ∈ es, upS e.p ≠ s := fun e he q => by
  unfold kidsE at h
  have h1 : es.filter (kidB s) = [] := List.map_eq_nil_iff.1 h
  have := List.mem_filter.2 ⟨he, (kid_iff s e).2 q⟩
  rw [h1] at this; cases this
theorem kids_file {es : List E} (T : TrE es) {s : ByteArray} (h : dirE es s = false) : kidsE es s = [] := by
  unfold kidsE
  rw [List.map_eq_nil_iff, List.filter_eq_nil_iff]
  intro e he hk
  have := T.up e he
  rw [(kid_iff s e).1 hk, h] at this; cases this

/-! ### What is moved -/
theorem both_mem : ∀ (gs es : List E), Rise es → gs.Pairwise (fun a b => a.p ≠ b.p) → ∀ x, x ∈ bothE es gs ↔ x ∈ gs ∨ (x ∈ es ∧ ∀ g ∈ gs, x.p ≠ g.p)
  | [], es, _, _, x => by simp [bothE]
  | g :: r, es, h, k, x => by
    obtain ⟨k1, k2⟩ := List.pairwise_cons.1 k
    show x ∈ bothE (putE es g) r ↔ _
    rw [both_mem r (putE es g) (put_rise h g) k2 x, put_mem h, List.mem_cons]
    constructor
    · rintro (m | ⟨m | ⟨m, q⟩, n⟩)
      · exact .inl (.inr m)
      · exact .inl (.inl m)
      · refine .inr ⟨m, fun y hy => ?_⟩
        rcases List.mem_cons.1 hy with e | e
        · rw [e]; exact q
        · exact n y e
    · rintro ((m | m) | ⟨m, n⟩)
      · exact .inr ⟨.inl m, fun y hy => by rw [m]; exact k1 y hy⟩
      · exact .inl m
      · exact .inr ⟨.inr ⟨m, n g (List.mem_cons_self ..)⟩, fun y hy => n y (List.mem_cons_of_mem _ hy)⟩
theorem mov_both (es : List E) (f t : ByteArray) : movE es f t = bothE [] (es.map (movE1 f t)) := by
  unfold movE bothE; rw [List.foldl_map]

theorem hitP {s f : ByteArray} (hs : pathB s = true) (hf : pathB f = true) : movHit s f = true ↔ (s = f ∨ underI s f = true) := by
  rw [hit_under hs hf, Bool.or_eq_true, beqL, decide_eq_true_iff]

/-- What a move asks for. -/
structure Mv (es : List E) (f t : ByteArray) : Prop where
  T : TrE es
  pf : pathB f = true
  pt : pathB t = true
  there : ∃ e, lookE es f = some e
  dir : dirE es (upS t) = true
  free : lookE es t = none
  out : underI t f = false
  fit : fitE es f t = true
theorem Mv.ok {es : List E} {f t : ByteArray} (m : Mv es f t) {e : E} (he : e ∈ es) : movOk e.p f t = true := by
  have := m.fit
  unfold fitE at this
  rw [List.all_eq_true] at this
  exact this e he
theorem Mv.free' {es : List E} {f t : ByteArray} (m : Mv es f t) {e : E} (he : e ∈ es) : movHit e.p t = false := by
  cases h : movHit e.p t with
  | false => rfl
  | true =>
    have h1 := gone_below m.T m.pt ((hitP (m.T.path e he) m.pt).1 h) m.free
    rw [look_self m.T.sort he] at h1; cases h1
theorem Mv.ne {es : List E} {f t : ByteArray} (m : Mv es f t) : t ≠ f := fun q => by
  obtain ⟨e, he⟩ := m.there
  rw [← q, m.free] at he; cases he
theorem Mv.hit {es : List E} {f t : ByteArray} (m : Mv es f t) {e : E} (he : e ∈ es) (h : movHit e.p f = true) : (movE1 f t e).p = movX e.p f t ∧ pathB (movX e.p f t) = true := movS_yes (m.ok he) h
theorem Mv.miss {es : List E} {f t : ByteArray} (m : Mv es f t) {e : E} (he : e ∈ es) (h : movHit e.p f = false) : (movE1 f t e).p = e.p := by
  obtain ⟨h1, _⟩ := movOk_parts (m.ok he)
  show movS e.p f t = _
  unfold movS; rw [h1, h]; rfl
theorem Mv.inj {es : List E} {f t : ByteArray} (m : Mv es f t) {a b : E} (ha : a ∈ es) (hb : b ∈ es) (h : (movE1 f t a).p = (movE1 f t b).p) : a.p = b.p := by
  cases h1 : movHit a.p f with
  | true =>
    cases h2 : movHit b.p f with
    | true =>
      rw [(m.hit ha h1).1, (m.hit hb h2).1] at h
      have : movX (movX a.p f t) t f = movX (movX b.p f t) t f := by rw [h]
      rwa [moved_back h1, moved_back h2] at this
    | false =>
      rw [(m.hit ha h1).1, m.miss hb h2] at h
      have := moved_hit (t := t) h1
      rw [h, m.free' hb] at this; cases this
  | false =>
    cases h2 : movHit b.p f with
    | true =>
      rw [m.miss ha h1, (m.hit hb h2).1] at h
      have := moved_hit (t := t) h2
      rw [← h, m.free' ha] at this; cases this
    | false => rwa [m.miss ha h1, m.miss hb h2] at h
theorem Mv.apart {es : List E} {f t : ByteArray} (m : Mv es f t) : (es.map (movE1 f t)).Pairwise (fun a b => a.p ≠ b.p) := by
  rw [List.pairwise_map]
  refine List.Pairwise.imp_of_mem ?_ m.T.sort
  intro a b ha hb hl q
  have := m.inj ha hb q
  rw [this] at hl
  exact less_irrefl _ hl
theorem Mv.mem {es : List E} {f t : ByteArray} (m : Mv es f t) (x : E) : x ∈ movE es f t ↔ ∃ e ∈ es, movE1 f t e = x := by
  rw [mov_both, both_mem _ _ (by simp [Rise]) m.apart]
  simp
theorem Mv.rise {es : List E} {f t : ByteArray} (_m : Mv es f t) : Rise (movE es f t) := by
  rw [mov_both]; exact both_rise _ _ (by simp [Rise])
theorem look_of {es : List E} {s : ByteArray} {o : Option E} (h : Rise es) (hs : ∀ e, o = some e → e ∈ es ∧ e.p = s) (hn : o = none → ∀ e ∈ es, e.p ≠ s) : lookE es s = o := by
  cases o with
  | none => exact look_none.2 (hn rfl)
  | some e => exact (look_iff h s e).2 (hs e rfl)
theorem Mv.look_to {es : List E} {f t : ByteArray} (m : Mv es f t) {s : ByteArray} (h : movHit s t = true) : lookE (movE es f t) s = (lookE es (movX s t f)).map (fun e => ⟨s, e.d, e.x⟩) := by
  refine look_of m.rise (fun e he => ?_) (fun hn e he q => ?_)
  · obtain ⟨g, hg, rfl⟩ := Option.map_eq_some_iff.1 he
    obtain ⟨g1, g2⟩ := look_mem hg
    have hh : movHit g.p f = true := by rw [g2]; exact moved_hit h
    have hp : (movE1 f t g).p = s := by rw [(m.hit g1 hh).1, g2]; exact moved_back h
    exact ⟨(m.mem _).2 ⟨g, g1, by rw [← hp]; rfl⟩, rfl⟩
  · obtain ⟨g, g1, rfl⟩ := (m.mem e).1 he
    cases h2 : movHit g.p f with
    | true =>
      rw [(m.hit g1 h2).1] at q
      have hb : g.p = movX s t f := by rw [← q]; exact (moved_back h2).symm
      have hl := look_self m.T.sort g1
      rw [hb] at hl
      rw [hl] at hn; cases hn
    | false =>
      rw [m.miss g1 h2] at q
      rw [← q, m.free' g1] at h; cases h
theorem Mv.look_from {es : List E} {f t : ByteArray} (m : Mv es f t) {s : ByteArray} (h : movHit s t = false) (k : movHit s f = true) : lookE (movE es f t) s = none := by
  refine look_none.2 fun e he q => ?_
  obtain ⟨g, g1, rfl⟩ := (m.mem e).1 he
  cases h2 : movHit g.p f with
  | true =>
    rw [(m.hit g1 h2).1] at q
    have := moved_hit (t := t) h2
    rw [q, h] at this; cases this
  | false =>
    rw [m.miss g1 h2] at q
    rw [q, k] at h2; cases h2
theorem Mv.look_else {es : List E} {f t : ByteArray} (m : Mv es f t) {s : ByteArray} (h : movHit s t = false) (k : movHit s f = false) : lookE (movE es f t) s = lookE es s := by
  refine look_of m.rise (fun e he => ?_) (fun hn e he q => ?_)
  · obtain ⟨e1, e2⟩ := look_mem he
    have hp := m.miss e1 (by rw [e2]; exact k)
    refine ⟨(m.mem e).2 ⟨e, e1, ?_⟩, e2⟩
    cases e; simp only [movE1, E.mk.injEq, and_true]; exact hp
  · obtain ⟨g, g1, rfl⟩ := (m.mem e).1 he
    cases h2 : movHit g.p f with
    | true =>
      rw [(m.hit g1 h2).1] at q
      have := moved_hit (t := t) h2
      rw [q, h] at this; cases this
    | false =>
      rw [m.miss g1 h2] at q
      exact look_none.1 hn g g1 q
theorem movX_join {s f t n : ByteArray} (hs : pathB s = true) (hx : pathB (movX s f t) = true) (h : movHit s f = true) : movX (joinI s n) f t = joinI (movX s f t) n := by
  obtain ⟨h1, _⟩ := hit_le h
  unfold joinI
  rw [stem_path hs, stem_path hx]
  apply L_inj
  unfold movX
  rw [L_app, L_app, L_app, L_app, L_ext, L_ext, L_app, L_app]
  have e1 : (s ++ ⟨#[47]⟩ ++ n).size - f.size = (s.size - f.size) + (1 + n.size) := by
    rw [ByteArray.size_append, ByteArray.size_append]
    have : (⟨#[47]⟩ : ByteArray).size = 1 := rfl
    omega
  have hl := L_len s
  rw [List.append_assoc, List.drop_append_of_le_length (by omega), List.take_of_length_le (by
    rw [e1, List.length_append, List.length_append, List.length_drop, L_len, L_len n]
    have : (L ⟨#[47]⟩).length = 1 := rfl
    omega), List.take_of_length_le (by rw [List.length_drop]; omega)]
  simp
theorem movX_self (f t : ByteArray) : movX f f t = t := by
  unfold movX
  exact app_empty _ _ (by rw [size_ext]; omega)
/-- A path that is moved, but what is moved itself, is in what its own is in, moved. -/
theorem movX_up {s f t : ByteArray} (hs : pathB s = true) (hf : pathB f = true) (hu : underI s f = true) (hx : pathB (movX (upS s) f t) = true) (hx' : pathB (movX s f t) = true) : upS (movX s f t) = movX (upS s) f t := by
  have hup : pathB (upS s) = true ∧ movHit (upS s) f = true := by
    rcases (under_up hs).1 hu with e | e
    · rw [← e]; exact ⟨hf, (hit_iff _ _).2 (.inl rfl)⟩
    · have h2 := ((underI_iff _ _).1 e).2.1
      exact ⟨h2, (hitP h2 hf).2 (.inr e)⟩
  have hj := movX_join (n := nmS s) hup.1 hx hup.2
  rw [up_join hs] at hj
  have := join_up (join_ok (stemOk_path hx) (up_facts hs).2.2.1 (by rw [← hj]; exact hx'))
  rw [hj]; exact this.1
theorem Mv.tr {es : List E} {f t : ByteArray} (m : Mv es f t) : TrE (movE es f t) where
  path x hx := by
    obtain ⟨e, he, rfl⟩ := (m.mem x).1 hx
    cases h : movHit e.p f with
    | true => rw [(m.hit he h).1]; exact (m.hit he h).2
    | false => rw [m.miss he h]; exact m.T.path e he
  sort := m.rise
  up x hx := by
    obtain ⟨e, he, rfl⟩ := (m.mem x).1 hx
    have hpe := m.T.path e he
    have hup := m.T.up e he
    cases h : movHit e.p f with
    | true =>
      rw [(m.hit he h).1]
      rcases (hitP hpe m.pf).1 h with q | q
      · rw [q, movX_self]
        have hnt : movHit (upS t) t = false := by
          cases hh : movHit (upS t) t with
          | false => rfl
          | true =>
            have := (hit_le hh).1
            rcases stemOk_is (m.T.dirOk m.dir) with k | k
            · rcases (hit_iff _ _).1 hh with k2 | k2
              · exact absurd k2 (up_ne m.pt)
              · have h3 := k2.1; rw [k] at h3
                have h4 := pathB_head _ m.pt
                have : (⟨#[47]⟩ : ByteArray).size = 1 := rfl
                omega
            · have := up_size m.pt
              rw [stem_path k] at this; omega
        have hnf : movHit (upS t) f = false := by
          cases hh : movHit (upS t) f with
          | false => rfl
          | true =>
            rcases stemOk_is (m.T.dirOk m.dir) with k | k
            · rcases (hit_iff _ _).1 hh with k2 | k2
              · have hpf := m.pf
                rw [← k2, k, root_no_path] at hpf; cases hpf
              · have h3 := k2.1; rw [k] at h3
                have h4 := pathB_head _ m.pf
                have : (⟨#[47]⟩ : ByteArray).size = 1 := rfl
                omega
            · have h1 : underI t f = true := (under_up m.pt).2 (by
                rcases (hitP k m.pf).1 hh with e1 | e1
                · exact .inl e1.symm
                · exact .inr e1)
              rw [m.out] at h1; cases h1
        rw [dir_of_look (m.look_else hnt hnf)]; exact m.dir
      · have hu2 : pathB (upS e.p) = true ∧ movHit (upS e.p) f = true := by
          rcases (under_up hpe).1 q with e1 | e1
          · rw [← e1]; exact ⟨m.pf, (hit_iff _ _).2 (.inl rfl)⟩
          · have h2 := ((underI_iff _ _).1 e1).2.1
            exact ⟨h2, (hitP h2 m.pf).2 (.inr e1)⟩
        rcases dir_look hup with k | ⟨g, hg, hd⟩
        · rw [k, root_no_path] at hu2; cases hu2.1
        · obtain ⟨g1, g2⟩ := look_mem hg
          have hgh : movHit g.p f = true := by rw [g2]; exact hu2.2
          have hgx := (m.hit g1 hgh).2
          rw [g2] at hgx
          rw [movX_up hpe m.pf q hgx (m.hit he h).2]
          refine look_dir (.inr ⟨⟨movX (upS e.p) f t, g.d, g.x⟩, ?_, hd⟩)
          rw [m.look_to (moved_hit hu2.2), moved_back hu2.2, hg]; rfl
    | false =>
      rw [m.miss he h]
      rcases dir_look hup with k | ⟨g, hg, hd⟩
      · exact look_dir (.inl k)
      · obtain ⟨g1, g2⟩ := look_mem hg
        have hpu : pathB (upS e.p) = true := by rw [← g2]; exact m.T.path g g1
        have hnt : movHit (upS e.p) t = false := by rw [← g2]; exact m.free' g1
        have hnf : movHit (upS e.p) f = false := by
          cases hh : movHit (upS e.p) f with
          | false => rfl
          | true =>
            have h1 : underI e.p f = true := (under_up hpe).2 (by
              rcases (hitP hpu m.pf).1 hh with e1 | e1
              · exact .inl e1.symm
              · exact .inr e1)
            rw [(hitP hpe m.pf).2 (.inr h1)] at h; cases h
        exact look_dir (.inr ⟨g, by rw [m.look_else hnt hnf]; exact hg, hd⟩)
  data x hx := by
    obtain ⟨e, he, rfl⟩ := (m.mem x).1 hx
    exact m.T.data e he
/-- What is told of what is moved are paths just if all fits. -/
theorem told_fit {es : List E} {f t : ByteArray} (T : TrE es) (pf : pathB f = true) (pt : pathB t = true) : (told es f t).all (fun y => pathB y.1) = fitE es f t := by
  unfold told fitE bel
  rw [Bool.eq_iff_iff, List.all_eq_true, List.all_eq_true]
  constructor
  · intro h e he
    have hpe := T.path e he
    have hall : movAll e.p f t = true := by unfold movAll; rw [hpe, pf, pt]; rfl
    unfold movOk
    rw [hall, Bool.true_and, Bool.or_eq_true, Bool.not_eq_true']
    cases hh : movHit e.p f with
    | false => exact .inl rfl
    | true =>
      right
      rcases (hitP hpe pf).1 hh with q | q
      · rw [q, movX_self]; exact pt
      · have := h _ (List.mem_map.2 ⟨e, List.mem_filter.2 ⟨he, q⟩, rfl⟩)
        unfold toldAt at this
        rw [stem_path pf] at this
        exact this
  · intro h y hy
    obtain ⟨e, he, rfl⟩ := List.mem_map.1 hy
    obtain ⟨he1, he2⟩ := List.mem_filter.1 he
    have hk := h e he1
    have hpe := T.path e he1
    have := (movS_yes hk ((hitP hpe pf).2 (.inr he2))).2
    unfold toldAt
    rw [stem_path pf]
    exact this
end Go.Proofs.YtocfbplaieonkaaGreat
