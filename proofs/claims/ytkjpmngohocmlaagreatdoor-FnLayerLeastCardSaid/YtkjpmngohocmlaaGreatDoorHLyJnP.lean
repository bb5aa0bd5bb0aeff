/-
  Plain facts on joined layers: what the model makes of two, what is hidden, and what they show on a tree.
-/
import Derived.Test.YtkjpmngohocmlaaGreatDoorHLyAt
import Derived.Test.YtkjpmngohocmlaaGreatDoorHPk05
namespace Go.Proofs.YtkjpmngohocmlaaGreatDoor.Ly
open Go.Lib

/-- A right layer. -/
structure RtM (l : List Mk.E) : Prop where
  tr : Mk.TrM l
  data : ∀ m ∈ l, dataB m.x = true
  plain : ∀ m ∈ l, m.d ≠ 1 → m.x = ⟨#[]⟩
  bare : ∀ m ∈ l, ∀ k ∈ l, k.d = 4 → underI m.p k.p = true → m.d ≤ 2
theorem bare_iff {l : List Mk.E} (T : Mk.TrM l) {s : ByteArray} (hs : pathB s = true) : Mk.bareM l s = true ↔ ∃ m ∈ l, m.d = 4 ∧ underI s m.p = true := by
  unfold Mk.bareM
  rw [List.any_eq_true]
  constructor
  · rintro ⟨m, hm, h⟩
    rw [Bool.and_eq_true, beq_iff_eq, Mk.underL_I hs (T.path m hm)] at h
    exact ⟨m, hm, h⟩
  · rintro ⟨m, hm, h⟩
    exact ⟨m, hm, by rw [Bool.and_eq_true, beq_iff_eq, Mk.underL_I hs (T.path m hm)]; exact h⟩
theorem take_mem {l : List Mk.E} (hs : Mk.Rise l) {i : Nat} (hi : i < l.length) {k : Mk.E} (hk : k ∈ l) (h : less k.p l[i].p) : k ∈ l.take i := by
  obtain ⟨j, hj, rfl⟩ := List.getElem_of_mem hk
  by_cases q : j < i
  · rw [List.mem_take_iff_getElem]
    exact ⟨j, by omega, rfl⟩
  · exfalso
    by_cases e : j = i
    · subst e; exact less_irrefl _ h
    · exact less_irrefl _ (less_trans h (List.pairwise_iff_getElem.1 hs i j hi hj (by omega)))
theorem under_less {a b : ByteArray} (hb : pathB b = true) (h : underI a b = true) : less b a := by
  obtain ⟨r, h1, h2⟩ := under_list hb (.inr h)
  have hne : a ≠ b := fun q => by rw [q] at h; have := under_lev b.size b b (Nat.le_refl _) h; omega
  rw [less_L, h1]
  cases r with
  | nil => rw [List.append_nil] at h1; exact absurd (L_inj h1) hne
  | cons y r =>
    have := bless_pre (L b) [] (y :: r)
    rw [List.append_nil] at this
    rw [this]; rfl
theorem lay_rt {l : List Mk.E} (h : Mk.layB l = true) : RtM l := by
  have T := lay_tr' h
  have key : ∀ (i : Nat) (hi : i < l.length), dataB l[i].x = true ∧ (l[i].d ≠ 1 → l[i].x = ⟨#[]⟩) ∧ (2 < l[i].d → Mk.bareM (l.take i) l[i].p = false) := fun i hi => by
    unfold Mk.layB at h
    rw [Bool.and_eq_true, List.all_eq_true] at h
    have := h.1 i (List.mem_range.2 hi)
    rw [Mk.okM_is hi] at this
    simp only [Bool.and_eq_true] at this
    obtain ⟨_, _, h1, h2, _, _, h3⟩ := this
    refine ⟨h1, fun hd => ?_, fun hd => ?_⟩
    · have e1 : (l[i].d != 1) = true := by simpa using hd
      rw [e1, Bool.true_and, Bool.not_not] at h2
      exact notEmpty.1 h2
    · rw [decide_eq_true hd, Bool.true_and] at h3
      simpa using h3
  refine ⟨T, lay_data h, fun m hm => ?_, fun m hm k hk h4 hu => ?_⟩
  · obtain ⟨i, hi, rfl⟩ := List.getElem_of_mem hm
    exact (key i hi).2.1
  · obtain ⟨i, hi, rfl⟩ := List.getElem_of_mem hm
    by_cases hd : 2 < l[i].d
    · exfalso
      have h3 := (key i hi).2.2 hd
      have hkt := take_mem T.sort hi hk (under_less (T.path k hk) hu)
      have : Mk.bareM (l.take i) l[i].p = true := by
        unfold Mk.bareM
        rw [List.any_eq_true]
        exact ⟨k, hkt, by rw [Bool.and_eq_true, beq_iff_eq, Mk.underL_I (T.path _ hm) (T.path k hk)]; exact ⟨h4, hu⟩⟩
      rw [h3] at this; cases this
    · omega
theorem rt_lay {l : List Mk.E} (R : RtM l) (hl : l.length ≤ 32) : Mk.layB l = true := by
  have T := R.tr
  unfold Mk.layB
  rw [Bool.and_eq_true, List.all_eq_true]
  refine ⟨fun i hi => ?_, decide_eq_true hl⟩
  have hi := List.mem_range.1 hi
  have hm := List.getElem_mem hi
  rw [Mk.okM_is hi]
  simp only [Bool.and_eq_true]
  refine ⟨decide_eq_true (T.kind _ hm), T.path _ hm, R.data _ hm, ?_, ?_, ?_, ?_⟩
  · by_cases h1 : l[i].d = 1
    · rw [h1]; rfl
    · rw [R.plain _ hm h1]; simp
  · cases i with
    | zero => rfl
    | succ j =>
      have h1 : l[j + 1 - 1]? = some l[j] := by rw [show j + 1 - 1 = j from rfl, List.getElem?_eq_getElem (by omega)]
      rw [h1]
      rw [Bool.or_eq_true]
      exact .inr (List.pairwise_iff_getElem.1 T.sort j (j + 1) (by omega) hi (by omega))
  · rw [Mk.inM_look]
    refine (T.up _ hm).imp id fun ⟨f, h1, h2⟩ => ⟨f, ?_, h2⟩
    obtain ⟨g1, g2⟩ := Mk.look_mem h1
    have hup : underI l[i].p f.p = true := (under_up (T.path _ hm)).2 (.inl g2)
    have hft := take_mem T.sort hi g1 (under_less (T.path f g1) hup)
    rw [← g2]
    exact Mk.look_self (T.sort.sublist (List.take_sublist i l)) hft
  · rw [Bool.not_eq_true', Bool.and_eq_false_iff]
    by_cases hd : 2 < l[i].d
    · right
      cases hb : Mk.bareM (l.take i) l[i].p with
      | false => rfl
      | true =>
        unfold Mk.bareM at hb
        rw [List.any_eq_true] at hb
        obtain ⟨k, hk, h⟩ := hb
        have hkl := List.mem_of_mem_take hk
        rw [Bool.and_eq_true, beq_iff_eq, Mk.underL_I (T.path _ hm) (T.path k hkl)] at h
        have := R.bare _ hm k hkl h.1 h.2
        omega
    · exact .inl (decide_eq_false hd)

/-! ### What two layers make, as they stand -/
def bothK (a b : Int) : Int := if a = 2 ∧ b ≠ 0 ∧ b ≠ 2 then 4 else a
theorem both_dir (a b : Int) : Mk.dirK (bothK a b) = Mk.dirK a := by
  unfold bothK
  split
  · rename_i h; rw [h.1]; rfl
  · rfl
theorem both_kind {a : Int} (h : 1 ≤ a ∧ a ≤ 4) (b : Int) : 1 ≤ bothK a b ∧ bothK a b ≤ 4 := by
  unfold bothK; split <;> omega
def overM (b : List Mk.E) (k : Mk.E) : Mk.E := ⟨k.p, bothK k.d (Mk.kindM b k.p), k.x⟩
def freeM (a : List Mk.E) (m : Mk.E) : Bool := !Mk.hidesM a m.p && (Mk.kindM a m.p == 0)
def joinM (a b : List Mk.E) : List Mk.E := a.foldl (fun o k => Mk.putE o (overM b k)) (b.foldl (fun o m => if freeM a m = true then Mk.putE o m else o) [])
theorem free_iff {a : List Mk.E} (T : Mk.TrM a) (m : Mk.E) : freeM a m = true ↔ Mk.hidesM a m.p = false ∧ Mk.lookE a m.p = none := by
  unfold freeM
  rw [Bool.and_eq_true, Bool.not_eq_true', beq_iff_eq, Mk.kind_look]
  refine and_congr Iff.rfl ?_
  cases hl : Mk.lookE a m.p with
  | none => simp
  | some k =>
    have := (T.kind k (Mk.look_mem hl).1).1
    show k.d = 0 ↔ _
    constructor
    · intro h; omega
    · intro h; cases h
theorem put_fold (f : Mk.E → Mk.E) (hf : ∀ m, (f m).p = m.p) : ∀ (l out : List Mk.E), Mk.Rise out → l.Pairwise (fun x y => less x.p y.p) →
    Mk.Rise (l.foldl (fun o m => Mk.putE o (f m)) out) ∧ ∀ m, m ∈ l.foldl (fun o m => Mk.putE o (f m)) out ↔ (∃ k ∈ l, m = f k) ∨ (m ∈ out ∧ ∀ k ∈ l, k.p ≠ m.p)
  | [], _, h, _ => ⟨h, fun m => by simp⟩
  | x :: r, out, h, hs => by
    obtain ⟨h1, h2⟩ := List.pairwise_cons.1 hs
    obtain ⟨i1, i2⟩ := put_fold f hf r (Mk.putE out (f x)) (Mk.put_rise h _) h2
    refine ⟨i1, fun m => ?_⟩
    show m ∈ r.foldl _ _ ↔ _
    rw [i2, Mk.put_memQ h, hf]
    constructor
    · rintro (⟨k, hk, e⟩ | ⟨e | ⟨g1, g2⟩, g3⟩)
      · exact .inl ⟨k, List.mem_cons_of_mem _ hk, e⟩
      · exact .inl ⟨x, List.mem_cons_self .., e⟩
      · refine .inr ⟨g1, fun k hk => ?_⟩
        rcases List.mem_cons.1 hk with rfl | hk
        · exact fun q => g2 q.symm
        · exact g3 k hk
    · rintro (⟨k, hk, e⟩ | ⟨g1, g2⟩)
      · rcases List.mem_cons.1 hk with rfl | hk
        · refine .inr ⟨.inl e, fun j hj q => ?_⟩
          have := h1 j hj
          rw [q, e, hf] at this
          exact less_irrefl _ this
        · exact .inl ⟨k, hk, e⟩
      · exact .inr ⟨.inr ⟨g1, fun q => g2 x (List.mem_cons_self ..) q.symm⟩, fun k hk => g2 k (List.mem_cons_of_mem _ hk)⟩
theorem fold_filter (p : Mk.E → Bool) : ∀ (l out : List Mk.E), l.foldl (fun o m => if p m = true then Mk.putE o m else o) out = (l.filter p).foldl (fun o m => Mk.putE o m) out
  | [], _ => rfl
  | x :: r, out => by
    rw [List.foldl_cons, fold_filter p r]
    by_cases h : p x = true
    · rw [List.filter_cons_of_pos h, if_pos h]; rfl
    · rw [List.filter_cons_of_neg h, if_neg h]
theorem join_rise {a b : List Mk.E} (A : Mk.TrM a) (B : Mk.TrM b) : Mk.Rise (joinM a b) := by
  unfold joinM
  rw [fold_filter]
  exact (put_fold (overM b) (fun _ => rfl) a _ (put_fold id (fun _ => rfl) _ [] (by simp) (B.sort.filter _)).1 A.sort).1
theorem join_mem {a b : List Mk.E} (A : Mk.TrM a) (B : Mk.TrM b) (m : Mk.E) : m ∈ joinM a b ↔ (∃ k ∈ a, m = overM b k) ∨ (m ∈ b ∧ Mk.hidesM a m.p = false ∧ Mk.lookE a m.p = none) := by
  have h0 := put_fold id (fun _ => rfl) (b.filter (freeM a)) [] (by simp) (B.sort.filter _)
  unfold joinM
  rw [fold_filter]
  have h9 := (put_fold (overM b) (fun _ => rfl) a _ h0.1 A.sort).2 m
  simp only [id_eq] at h9
  rw [h9]
  refine or_congr Iff.rfl ?_
  have h1 := h0.2 m
  simp only [id_eq] at h1
  rw [h1]
  constructor
  · rintro ⟨⟨k, hk, rfl⟩ | ⟨h, _⟩, h2⟩
    · rw [List.mem_filter, free_iff A] at hk
      exact hk
    · cases h
  · rintro ⟨g1, g2, g3⟩
    exact ⟨.inl ⟨m, List.mem_filter.2 ⟨g1, (free_iff A m).2 ⟨g2, g3⟩⟩, rfl⟩, fun k hk q => Mk.look_none.1 g3 k hk q⟩
theorem hides_up {l : List Mk.E} (T : Mk.TrM l) {s q : ByteArray} (hs : pathB s = true) (hq : pathB q = true) (hu : underI s q = true) (h : Mk.hidesM l q = true) : Mk.hidesM l s = true := by
  obtain ⟨m, hm, h1, h2⟩ := (hides_iff T hq).1 h
  refine (hides_iff T hs).2 ⟨m, hm, h1, .inr ?_⟩
  rcases h2 with h2 | h2
  · rw [h2]; exact hu
  · exact under_trans hu h2
theorem join_look {a b : List Mk.E} (A : Mk.TrM a) (B : Mk.TrM b) (s : ByteArray) : Mk.lookE (joinM a b) s = match Mk.lookE a s with
    | some k => some (overM b k)
    | none => if Mk.hidesM a s = true then none else Mk.lookE b s := by
  cases hl : Mk.lookE a s with
  | some k =>
    obtain ⟨h1, h2⟩ := Mk.look_mem hl
    exact (Mk.look_iffM (join_rise A B) s _).2 ⟨(join_mem A B _).2 (.inl ⟨k, h1, rfl⟩), h2⟩
  | none =>
    dsimp only
    have no : ∀ m ∈ joinM a b, m.p = s → m ∈ b ∧ Mk.hidesM a s = false := fun m hm hp => by
      rcases (join_mem A B m).1 hm with ⟨k, hk, rfl⟩ | ⟨h1, h2, _⟩
      · exact absurd hp (Mk.look_none.1 hl k hk)
      · rw [hp] at h2; exact ⟨h1, h2⟩
    cases hh : Mk.hidesM a s with
    | true =>
      rw [if_pos rfl, Mk.look_none]
      intro m hm hp
      have := (no m hm hp).2
      rw [hh] at this; cases this
    | false =>
      rw [if_neg (by simp)]
      cases hb : Mk.lookE b s with
      | some m =>
        obtain ⟨h1, h2⟩ := Mk.look_mem hb
        exact (Mk.look_iffM (join_rise A B) s _).2 ⟨(join_mem A B _).2 (.inr ⟨h1, by rw [h2]; exact hh, by rw [h2]; exact hl⟩), h2⟩
      | none =>
        rw [Mk.look_none]
        intro m hm hp
        exact Mk.look_none.1 hb m (no m hm hp).1 hp
theorem join_tr {a b : List Mk.E} (A : Mk.TrM a) (B : Mk.TrM b) : Mk.TrM (joinM a b) where
  path m hm := by
    rcases (join_mem A B m).1 hm with ⟨k, hk, rfl⟩ | ⟨h1, _⟩
    · exact A.path k hk
    · exact B.path m h1
  sort := join_rise A B
  up m hm := by
    rcases (join_mem A B m).1 hm with ⟨k, hk, rfl⟩ | ⟨h1, h2, h3⟩
    · refine (A.up k hk).imp id fun ⟨f, g1, g2⟩ => ⟨overM b f, ?_, (both_dir _ _).trans g2⟩
      show Mk.lookE (joinM a b) (upS k.p) = _
      rw [join_look A B, g1]
    · have hmp := B.path m h1
      rcases B.up m h1 with g | ⟨f, g1, g2⟩
      · exact .inl g
      · right
        obtain ⟨f1, f2⟩ := Mk.look_mem g1
        have hup : pathB (upS m.p) = true := by rw [← f2]; exact B.path f f1
        have hu : underI m.p (upS m.p) = true := (under_up hmp).2 (.inl rfl)
        have hnh : Mk.hidesM a (upS m.p) = false := by
          cases q : Mk.hidesM a (upS m.p) with
          | false => rfl
          | true => rw [hides_up A hmp hup hu q] at h2; cases h2
        rw [join_look A B]
        cases hl : Mk.lookE a (upS m.p) with
        | none => dsimp only; rw [hnh, if_neg (by simp), g1]; exact ⟨f, rfl, g2⟩
        | some k =>
          refine ⟨_, rfl, (both_dir _ _).trans ?_⟩
          obtain ⟨k1, k2⟩ := Mk.look_mem hl
          by_cases q : k.d = 2
          · rw [q]; rfl
          · have := mark_hides k1 q
            rw [k2, hnh] at this; cases this
  kind m hm := by
    rcases (join_mem A B m).1 hm with ⟨k, hk, rfl⟩ | ⟨h1, _⟩
    · exact both_kind (A.kind k hk) _
    · exact B.kind m h1
/-- What joined layers hide. -/
theorem join_hides {a b : List Mk.E} (A : Mk.TrM a) (B : Mk.TrM b) {s : ByteArray} (hs : pathB s = true) : Mk.hidesM (joinM a b) s = (Mk.hidesM a s || Mk.hidesM b s) := by
  have T := join_tr A B
  rw [Bool.eq_iff_iff, Bool.or_eq_true, hides_iff T hs]
  constructor
  · rintro ⟨m, hm, h1, h2⟩
    rcases (join_mem A B m).1 hm with ⟨k, hk, rfl⟩ | ⟨g1, _, _⟩
    · by_cases q : k.d = 2
      · right
        have hb : bothK k.d (Mk.kindM b k.p) ≠ 2 := h1
        unfold bothK at hb
        rw [q] at hb
        have hk2 : Mk.kindM b k.p ≠ 0 ∧ Mk.kindM b k.p ≠ 2 := by
          split at hb
          · rename_i hh; exact hh.2
          · exact absurd rfl hb
        rw [Mk.kind_look] at hk2
        cases hl : Mk.lookE b k.p with
        | none => rw [hl] at hk2; exact absurd rfl hk2.1
        | some m' =>
          rw [hl] at hk2
          obtain ⟨m1, m2⟩ := Mk.look_mem hl
          exact (hides_iff B hs).2 ⟨m', m1, hk2.2, by rw [m2]; exact h2⟩
      · exact .inl ((hides_iff A hs).2 ⟨k, hk, q, h2⟩)
    · exact .inr ((hides_iff B hs).2 ⟨m, g1, h1, h2⟩)
  · intro h
    cases ha : Mk.hidesM a s with
    | true =>
      obtain ⟨k, hk, h1, h2⟩ := (hides_iff A hs).1 ha
      exact ⟨overM b k, (join_mem A B _).2 (.inl ⟨k, hk, rfl⟩), by show bothK _ _ ≠ 2; unfold bothK; rw [if_neg (fun q => h1 q.1)]; exact h1, h2⟩
    | false =>
      rw [ha] at h
      obtain ⟨m, hm, h1, h2⟩ := (hides_iff B hs).1 (h.resolve_left (by simp))
      have hmp := B.path m hm
      have hnh : Mk.hidesM a m.p = false := by
        cases q : Mk.hidesM a m.p with
        | false => rfl
        | true =>
          exfalso
          rcases h2 with e | e
          · rw [e, ha] at q; cases q
          · rw [hides_up A hs hmp e q] at ha; cases ha
      cases hl : Mk.lookE a m.p with
      | none => exact ⟨m, (join_mem A B _).2 (.inr ⟨hm, hnh, hl⟩), h1, h2⟩
      | some k =>
        obtain ⟨k1, k2⟩ := Mk.look_mem hl
        refine ⟨overM b k, (join_mem A B _).2 (.inl ⟨k, k1, rfl⟩), ?_, by show k.p = s ∨ underI s k.p = true; rw [k2]; exact h2⟩
        have hkd : k.d = 2 := Classical.byContradiction fun q => by
          have := mark_hides k1 q
          rw [k2, hnh] at this; cases this
        show bothK k.d (Mk.kindM b k.p) ≠ 2
        have hkm : Mk.kindM b k.p = m.d := by rw [Mk.kind_look, k2, Mk.look_self B.sort hm]; rfl
        have := B.kind m hm
        unfold bothK
        rw [hkm, if_pos ⟨hkd, by omega, h1⟩]
        decide
end Go.Proofs.YtkjpmngohocmlaaGreatDoor.Ly
