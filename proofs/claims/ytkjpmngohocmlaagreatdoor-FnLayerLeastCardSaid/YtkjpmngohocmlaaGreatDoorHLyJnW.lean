/-
  Plain facts on joined layers as the program makes them: the upper one's marks first, then the lower one's that it does not cover.
-/
import Derived.Test.YtkjpmngohocmlaaGreatDoorHLyJnQ
namespace Go.Proofs.YtkjpmngohocmlaaGreatDoor.Ly
open Go.Lib

def upA (b l : List Mk.E) : List Mk.E := l.foldl (fun o k => Mk.putE o (overM b k)) []
def loB (a b l : List Mk.E) : List Mk.E := l.foldl (fun o m => if freeM a m = true then Mk.putE o m else o) (upA b a)
theorem upA_snoc (b l : List Mk.E) (k : Mk.E) : upA b (l ++ [k]) = Mk.putE (upA b l) (overM b k) := by unfold upA; rw [List.foldl_append]; rfl
theorem loB_snoc (a b l : List Mk.E) (m : Mk.E) : loB a b (l ++ [m]) = if freeM a m = true then Mk.putE (loB a b l) m else loB a b l := by unfold loB; rw [List.foldl_append]; rfl
theorem upA_facts (b : List Mk.E) {l : List Mk.E} (h : Mk.Rise l) : Mk.Rise (upA b l) ∧ ∀ m, m ∈ upA b l ↔ ∃ k ∈ l, m = overM b k := by
  obtain ⟨h1, h2⟩ := put_fold (overM b) (fun _ => rfl) l [] (by simp) h
  refine ⟨h1, fun m => ?_⟩
  show m ∈ l.foldl (fun o k => Mk.putE o (overM b k)) [] ↔ _
  rw [h2]
  simp
theorem pre_rise {l a : List Mk.E} (h : l <+: a) (hs : Mk.Rise a) : Mk.Rise l := hs.sublist h.sublist
theorem pre_ahead {l a : List Mk.E} {k : Mk.E} (h : l ++ [k] <+: a) (hs : Mk.Rise a) {f : Mk.E} (hf : f ∈ a) (hl : less f.p k.p) : f ∈ l := by
  obtain ⟨r, rfl⟩ := h
  rcases List.mem_append.1 hf with q | q
  · rcases List.mem_append.1 q with q | q
    · exact q
    · rw [List.mem_singleton.1 q] at hl; exact absurd hl (less_irrefl _)
  · exfalso
    have := (List.pairwise_append.1 hs).2.2 k (by simp) f q
    exact less_irrefl _ (less_trans hl this)
theorem pre_above {l a : List Mk.E} {k : Mk.E} (h : l ++ [k] <+: a) (hs : Mk.Rise a) : ∀ f ∈ l, less f.p k.p := fun f hf => by
  have := pre_rise h hs
  exact (List.pairwise_append.1 this).2.2 f hf k (by simp)
theorem pre_in {l a : List Mk.E} {k : Mk.E} (h : l ++ [k] <+: a) : k ∈ a := h.subset (by simp)
/-- Where the next of the upper one's marks comes: its upper one is there, and it is not. -/
theorem upA_next {a : List Mk.E} (A : Mk.TrM a) (b : List Mk.E) {l : List Mk.E} {k : Mk.E} (h : l ++ [k] <+: a) :
    (upS k.p = ⟨#[47]⟩ ∨ ∃ f, Mk.lookE (upA b l) (upS k.p) = some f ∧ Mk.dirK f.d = true) ∧ Mk.lookE (upA b l) k.p = none := by
  have hl : l <+: a := (List.prefix_append l [k]).trans h
  obtain ⟨h1, h2⟩ := upA_facts b (pre_rise hl A.sort)
  have hk := pre_in h
  constructor
  · refine (A.up k hk).imp id fun ⟨f, g1, g2⟩ => ⟨overM b f, ?_, (both_dir _ _).trans g2⟩
    obtain ⟨f1, f2⟩ := Mk.look_mem g1
    have hu : underI k.p f.p = true := (under_up (A.path k hk)).2 (.inl f2)
    exact (Mk.look_iffM h1 _ _).2 ⟨(h2 _).2 ⟨f, pre_ahead h A.sort f1 (under_less (A.path f f1) hu), rfl⟩, f2⟩
  · rw [Mk.look_none]
    intro m hm hp
    obtain ⟨f, hf, rfl⟩ := (h2 m).1 hm
    have := pre_above h A.sort f hf
    have hp' : f.p = k.p := hp
    rw [hp'] at this
    exact less_irrefl _ this
theorem upA_tr {a : List Mk.E} (A : Mk.TrM a) (b : List Mk.E) {l : List Mk.E} (h : l <+: a) : Mk.TrM (upA b l) := by
  obtain ⟨h1, h2⟩ := upA_facts b (pre_rise h A.sort)
  refine ⟨fun m hm => ?_, h1, fun m hm => ?_, fun m hm => ?_⟩
  · obtain ⟨k, hk, rfl⟩ := (h2 m).1 hm
    exact A.path k (h.subset hk)
  · obtain ⟨k, hk, rfl⟩ := (h2 m).1 hm
    have hka := h.subset hk
    refine (A.up k hka).imp id fun ⟨f, g1, g2⟩ => ⟨overM b f, ?_, (both_dir _ _).trans g2⟩
    obtain ⟨f1, f2⟩ := Mk.look_mem g1
    have hu : underI k.p f.p = true := (under_up (A.path k hka)).2 (.inl f2)
    have hlt := under_less (A.path f f1) hu
    have hfl : f ∈ l := by
      obtain ⟨r, rfl⟩ := h
      rcases List.mem_append.1 f1 with q | q
      · exact q
      · exact absurd (less_trans hlt ((List.pairwise_append.1 A.sort).2.2 k hk f q)) (less_irrefl _)
    exact (Mk.look_iffM h1 _ _).2 ⟨(h2 _).2 ⟨f, hfl, rfl⟩, f2⟩
  · obtain ⟨k, hk, rfl⟩ := (h2 m).1 hm
    exact both_kind (A.kind k (h.subset hk)) _
theorem put_fold_if (p : Mk.E → Bool) (l out : List Mk.E) (h : Mk.Rise out) (hs : Mk.Rise l) : Mk.Rise (l.foldl (fun o m => if p m = true then Mk.putE o m else o) out) ∧
    ∀ m, m ∈ l.foldl (fun o m => if p m = true then Mk.putE o m else o) out ↔ (m ∈ l ∧ p m = true) ∨ (m ∈ out ∧ ∀ k ∈ l, p k = true → k.p ≠ m.p) := by
  rw [fold_filter]
  obtain ⟨h1, h2⟩ := put_fold id (fun _ => rfl) (l.filter p) out h (hs.filter _)
  refine ⟨h1, fun m => ?_⟩
  have := h2 m
  simp only [id_eq] at this
  rw [this]
  constructor
  · rintro (⟨k, hk, rfl⟩ | ⟨g1, g2⟩)
    · exact .inl (List.mem_filter.1 hk)
    · exact .inr ⟨g1, fun k hk hpk => g2 k (List.mem_filter.2 ⟨hk, hpk⟩)⟩
  · rintro (⟨g1, g2⟩ | ⟨g1, g2⟩)
    · exact .inl ⟨m, List.mem_filter.2 ⟨g1, g2⟩, rfl⟩
    · exact .inr ⟨g1, fun k hk => g2 k (List.mem_filter.1 hk).1 (List.mem_filter.1 hk).2⟩
theorem loB_facts {a b : List Mk.E} (A : Mk.TrM a) {l : List Mk.E} (hl : Mk.Rise l) : Mk.Rise (loB a b l) ∧ ∀ m, m ∈ loB a b l ↔ (∃ k ∈ a, m = overM b k) ∨ (m ∈ l ∧ freeM a m = true) := by
  obtain ⟨h1, h2⟩ := upA_facts b A.sort
  obtain ⟨g1, g2⟩ := put_fold_if (freeM a) l (upA b a) h1 hl
  refine ⟨g1, fun m => ?_⟩
  show m ∈ l.foldl (fun o m => if freeM a m = true then Mk.putE o m else o) (upA b a) ↔ _
  rw [g2, h2]
  constructor
  · rintro (h | ⟨h, _⟩)
    · exact .inr h
    · exact .inl h
  · rintro (⟨k, hk, rfl⟩ | h)
    · refine .inr ⟨⟨k, hk, rfl⟩, fun j _ hf q => ?_⟩
      have hn := ((free_iff A j).1 hf).2
      exact Mk.look_none.1 hn k hk q.symm
    · exact .inl h
theorem loB_join {a b : List Mk.E} (A : Mk.TrM a) (B : Mk.TrM b) : loB a b b = joinM a b := by
  obtain ⟨g1, g2⟩ := loB_facts (b := b) A B.sort
  refine Mk.look_extM g1 (join_rise A B) fun m => ?_
  rw [g2, join_mem A B]
  refine or_congr Iff.rfl ?_
  rw [free_iff A]
/-- Above a mark of the lower one that is not covered. -/
theorem free_up {a b : List Mk.E} (A : Mk.TrM a) (B : Mk.TrM b) {m f : Mk.E} (hm : m ∈ b) (hf : freeM a m = true) (hff : f ∈ b) (hu : f.p = upS m.p) :
    freeM a f = true ∨ ∃ k ∈ a, k.p = f.p ∧ Mk.dirK k.d = true := by
  have hmp := B.path m hm
  have hfp := B.path f hff
  have hup : underI m.p f.p = true := (under_up hmp).2 (.inl hu)
  obtain ⟨h1, h2⟩ := (free_iff A m).1 hf
  have hnh : Mk.hidesM a f.p = false := by
    cases q : Mk.hidesM a f.p with
    | false => rfl
    | true => rw [hides_up A hmp hfp hup q] at h1; cases h1
  cases hl : Mk.lookE a f.p with
  | none => exact .inl ((free_iff A f).2 ⟨hnh, hl⟩)
  | some k =>
    obtain ⟨k1, k2⟩ := Mk.look_mem hl
    refine .inr ⟨k, k1, k2, ?_⟩
    by_cases q : k.d = 2
    · rw [q]; rfl
    · have := mark_hides k1 q
      rw [k2, hnh] at this; cases this
theorem loB_at {a b : List Mk.E} (A : Mk.TrM a) (B : Mk.TrM b) {l : List Mk.E} (h : l <+: b) {m : Mk.E} (hm : m ∈ b) (hf : freeM a m = true) (hah : ∀ f ∈ b, less f.p m.p → f ∈ l) :
    upS m.p = ⟨#[47]⟩ ∨ ∃ f, Mk.lookE (loB a b l) (upS m.p) = some f ∧ Mk.dirK f.d = true := by
  obtain ⟨g1, g2⟩ := loB_facts (b := b) A (pre_rise h B.sort)
  refine (B.up m hm).imp id fun ⟨f, f1, f2⟩ => ?_
  obtain ⟨e1, e2⟩ := Mk.look_mem f1
  rcases free_up A B hm hf e1 e2 with q | ⟨k, k1, k2, k3⟩
  · have hu : underI m.p f.p = true := (under_up (B.path m hm)).2 (.inl e2)
    exact ⟨f, (Mk.look_iffM g1 _ _).2 ⟨(g2 _).2 (.inr ⟨hah f e1 (under_less (B.path f e1) hu), q⟩), e2⟩, f2⟩
  · exact ⟨overM b k, (Mk.look_iffM g1 _ _).2 ⟨(g2 _).2 (.inl ⟨k, k1, rfl⟩), k2.trans e2⟩, (both_dir _ _).trans k3⟩
theorem loB_next {a b : List Mk.E} (A : Mk.TrM a) (B : Mk.TrM b) {l : List Mk.E} {m : Mk.E} (h : l ++ [m] <+: b) (hf : freeM a m = true) :
    (upS m.p = ⟨#[47]⟩ ∨ ∃ f, Mk.lookE (loB a b l) (upS m.p) = some f ∧ Mk.dirK f.d = true) ∧ Mk.lookE (loB a b l) m.p = none := by
  have hl : l <+: b := (List.prefix_append l [m]).trans h
  obtain ⟨g1, g2⟩ := loB_facts (b := b) A (pre_rise hl B.sort)
  refine ⟨loB_at A B hl (pre_in h) hf (fun f hf hlt => pre_ahead h B.sort hf hlt), ?_⟩
  rw [Mk.look_none]
  intro k hk hp
  rcases (g2 k).1 hk with ⟨j, hj, rfl⟩ | ⟨q, _⟩
  · exact Mk.look_none.1 ((free_iff A m).1 hf).2 j hj hp
  · have := pre_above h B.sort k q
    rw [hp] at this
    exact less_irrefl _ this
theorem loB_tr {a b : List Mk.E} (A : Mk.TrM a) (B : Mk.TrM b) {l : List Mk.E} (h : l <+: b) : Mk.TrM (loB a b l) := by
  obtain ⟨g1, g2⟩ := loB_facts (b := b) A (pre_rise h B.sort)
  have hA := upA_tr A b (List.prefix_refl a)
  refine ⟨fun m hm => ?_, g1, fun m hm => ?_, fun m hm => ?_⟩
  · rcases (g2 m).1 hm with ⟨k, hk, rfl⟩ | ⟨q, _⟩
    · exact A.path k hk
    · exact B.path m (h.subset q)
  · rcases (g2 m).1 hm with ⟨k, hk, rfl⟩ | ⟨q, hf⟩
    · refine (A.up k hk).imp id fun ⟨f, e1, e2⟩ => ?_
      obtain ⟨f1, f2⟩ := Mk.look_mem e1
      exact ⟨overM b f, (Mk.look_iffM g1 _ _).2 ⟨(g2 _).2 (.inl ⟨f, f1, rfl⟩), f2⟩, (both_dir _ _).trans e2⟩
    · refine loB_at A B h (h.subset q) hf fun f hfb hlt => ?_
      obtain ⟨r, rfl⟩ := h
      rcases List.mem_append.1 hfb with z | z
      · exact z
      · exact absurd (less_trans hlt ((List.pairwise_append.1 B.sort).2.2 m q f z)) (less_irrefl _)
  · rcases (g2 m).1 hm with ⟨k, hk, rfl⟩ | ⟨q, _⟩
    · exact both_kind (A.kind k hk) _
    · exact B.kind m (h.subset q)
/-- What is kept of a layer behind some of its marks. -/
def leA (L l : List Mk.E) : List Mk.E := l.filterMap (leftM L)
theorem leA_snoc (L l : List Mk.E) (m : Mk.E) : leA L (l ++ [m]) = leA L l ++ (leftM L m).toList := by
  unfold leA; rw [List.filterMap_append]
  cases hk : leftM L m with
  | none => rw [List.filterMap_cons_none hk]; rfl
  | some k => rw [List.filterMap_cons_some hk]; rfl
theorem leA_next {L : List Mk.E} (T : Mk.TrM L) {l : List Mk.E} {m k : Mk.E} (h : l ++ [m] <+: L) (hk : leftM L m = some k) :
    (upS k.p = ⟨#[47]⟩ ∨ ∃ f, Mk.lookE (leA L l) (upS k.p) = some f ∧ Mk.dirK f.d = true) ∧ (∀ f ∈ leA L l, less f.p k.p) := by
  have hl : l <+: L := (List.prefix_append l [m]).trans h
  have habove : ∀ f ∈ leA L l, less f.p k.p := fun f hf => by
    obtain ⟨j, hj, e⟩ := List.mem_filterMap.1 hf
    rw [left_path e, left_path hk]
    exact pre_above h T.sort j hj
  refine ⟨?_, habove⟩
  rw [left_path hk]
  refine (T.up m (pre_in h)).imp id fun ⟨f, h1, h2⟩ => ?_
  obtain ⟨f1, f2⟩ := Mk.look_mem h1
  have hu : underI m.p f.p = true := (under_up (T.path m (pre_in h))).2 (.inl f2)
  have hfl := pre_ahead h T.sort f1 (under_less (T.path f f1) hu)
  have hd : f.d = 2 ∨ f.d = 4 := by unfold Mk.dirK at h2; rw [Bool.or_eq_true, beq_iff_eq, beq_iff_eq] at h2; exact h2
  have hs : Mk.Rise (leA L l) := by
    unfold leA
    rw [Mk.Rise, List.pairwise_filterMap]
    exact (pre_rise hl T.sort).imp fun {a b} g x hx y hy => by rw [left_path hx, left_path hy]; exact g
  have key : ∃ g, leftM L f = some g ∧ Mk.dirK g.d = true := by
    unfold leftM
    split
    · rw [if_neg (by omega)]
      split
      · exact ⟨_, rfl, rfl⟩
      · exact ⟨_, rfl, h2⟩
    · exact ⟨_, rfl, h2⟩
  obtain ⟨g, e1, e2⟩ := key
  exact ⟨g, (Mk.look_iffM hs _ _).2 ⟨List.mem_filterMap.2 ⟨f, hfl, e1⟩, (left_path e1).trans f2⟩, e2⟩
theorem leA_tr {L : List Mk.E} (T : Mk.TrM L) {l : List Mk.E} (h : l <+: L) : Mk.TrM (leA L l) where
  path k hk := by
    obtain ⟨m, hm, e⟩ := List.mem_filterMap.1 hk
    rw [left_path e]; exact T.path m (h.subset hm)
  sort := by
    unfold leA
    rw [List.pairwise_filterMap]
    exact (pre_rise h T.sort).imp fun {a b} g x hx y hy => by rw [left_path hx, left_path hy]; exact g
  up k hk := by
    obtain ⟨m, hm, e⟩ := List.mem_filterMap.1 hk
    have hs : Mk.Rise (leA L l) := by
      unfold leA
      rw [Mk.Rise, List.pairwise_filterMap]
      exact (pre_rise h T.sort).imp fun {a b} g x hx y hy => by rw [left_path hx, left_path hy]; exact g
    obtain ⟨l1, l2, rfl⟩ := List.append_of_mem hm
    have hp : l1 ++ [m] <+: L := (List.prefix_append_right_inj l1).2 ⟨l2, rfl⟩ |>.trans h
    rcases (leA_next T hp e).1 with q | ⟨f, h1, h2⟩
    · exact .inl q
    · obtain ⟨g1, g2⟩ := Mk.look_mem h1
      refine .inr ⟨f, (Mk.look_iffM hs _ _).2 ⟨?_, g2⟩, h2⟩
      obtain ⟨j, hj, ej⟩ := List.mem_filterMap.1 g1
      exact List.mem_filterMap.2 ⟨j, by simp [hj], ej⟩
  kind k hk := by
    obtain ⟨m, hm, e⟩ := List.mem_filterMap.1 hk
    have := T.kind m (h.subset hm)
    rcases left_kind e with q | ⟨_, q⟩ <;> omega
end Go.Proofs.YtkjpmngohocmlaaGreatDoor.Ly
