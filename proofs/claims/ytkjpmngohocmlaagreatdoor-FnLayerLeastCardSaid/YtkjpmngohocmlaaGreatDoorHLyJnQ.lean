/-
  Plain facts on joined layers, tidied: what is left, what it hides, and that on a tree it is the one on the other.
-/
import Derived.Test.YtkjpmngohocmlaaGreatDoorHLyJnP
namespace Go.Proofs.YtkjpmngohocmlaaGreatDoor.Ly
open Go.Lib

def tidy1 (out : List Mk.E) (m : Mk.E) : List Mk.E := if Mk.bareM out m.p = true then (if m.d = 3 then out else out ++ [if m.d = 4 then ⟨m.p, 2, m.x⟩ else m]) else out ++ [m]
def tidyM (l : List Mk.E) : List Mk.E := l.foldl tidy1 []
/-- What is left of a mark. -/
def leftM (l : List Mk.E) (m : Mk.E) : Option Mk.E := if Mk.bareM l m.p = true then (if m.d = 3 then none else if m.d = 4 then some ⟨m.p, 2, m.x⟩ else some m) else some m
theorem left_path {l : List Mk.E} {m k : Mk.E} (h : leftM l m = some k) : k.p = m.p := by
  unfold leftM at h
  split at h
  · split at h
    · cases h
    · split at h
      · cases h; rfl
      · cases h; rfl
  · cases h; rfl
/-- Above what is below a bare one stands a bare one that is below none. -/
theorem bare_top {l : List Mk.E} (T : Mk.TrM l) : ∀ (n : Nat) (s : ByteArray), s.size ≤ n → pathB s = true → Mk.bareM l s = true → ∃ k ∈ l, k.d = 4 ∧ underI s k.p = true ∧ Mk.bareM l k.p = false
  | n, s, hn, hp, h => by
    obtain ⟨k, hk, h1, h2⟩ := (bare_iff T hp).1 h
    have hkp := T.path k hk
    have hlt : k.p.size < s.size := by
      obtain ⟨r, e1, e2⟩ := under_list hkp (.inr h2)
      have := congrArg List.length e1
      rw [List.length_append, L_len, L_len] at this
      have hne : r ≠ [] := fun q => by
        rw [q, List.append_nil] at e1
        have := L_inj e1
        rw [this] at h2
        have := under_lev k.p.size k.p k.p (Nat.le_refl _) h2
        omega
      have : 0 < r.length := List.length_pos_iff.2 hne
      omega
    cases hb : Mk.bareM l k.p with
    | false => exact ⟨k, hk, h1, h2, hb⟩
    | true =>
      match n, hn with
      | 0, hn => omega
      | n + 1, hn =>
        obtain ⟨j, g1, g2, g3, g4⟩ := bare_top T n k.p (by omega) hkp hb
        exact ⟨j, g1, g2, under_trans h2 g3, g4⟩
theorem left_self {l : List Mk.E} {m : Mk.E} (h : Mk.bareM l m.p = false) : leftM l m = some m := by
  unfold leftM; rw [h, if_neg (by simp)]
theorem left_kind {l : List Mk.E} {m k : Mk.E} (h : leftM l m = some k) : k.d = m.d ∨ (m.d = 4 ∧ k.d = 2) := by
  unfold leftM at h
  split at h
  · split at h
    · cases h
    · split at h
      · rename_i h4; cases h; exact .inr ⟨h4, rfl⟩
      · cases h; exact .inl rfl
  · cases h; exact .inl rfl
/-- Whether a path is below a bare one shows in what is left of what stands ahead of it. -/
theorem bare_left {l r : List Mk.E} {m : Mk.E} (T : Mk.TrM (l ++ m :: r)) : Mk.bareM (l.filterMap (leftM (l ++ m :: r))) m.p = Mk.bareM (l ++ m :: r) m.p := by
  have hm : m ∈ l ++ m :: r := by simp
  have hmp := T.path m hm
  have ahead : ∀ k ∈ l ++ m :: r, less k.p m.p → k ∈ l := fun k hk h => by
    rcases List.mem_append.1 hk with q | q
    · exact q
    · exfalso
      have hs := (List.pairwise_append.1 T.sort).2.1
      rcases List.mem_cons.1 q with q | q
      · rw [q] at h; exact less_irrefl _ h
      · exact less_irrefl _ (less_trans h ((List.pairwise_cons.1 hs).1 k q))
  rw [Bool.eq_iff_iff]
  constructor
  · intro h
    unfold Mk.bareM at h
    rw [List.any_eq_true] at h
    obtain ⟨k, hk, h⟩ := h
    obtain ⟨j, hj, e⟩ := List.mem_filterMap.1 hk
    rw [Bool.and_eq_true, beq_iff_eq] at h
    have hjl : j ∈ l ++ m :: r := List.mem_append_left _ hj
    have hjd : j.d = 4 := by
      rcases left_kind e with q | ⟨_, q⟩
      · rw [← q]; exact h.1
      · rw [q] at h; exact absurd h.1 (by decide)
    refine (bare_iff T hmp).2 ⟨j, hjl, hjd, ?_⟩
    rw [← Mk.underL_I hmp (T.path j hjl), ← left_path e]; exact h.2
  · intro h
    obtain ⟨k, hk, h1, h2, h3⟩ := bare_top T m.p.size m.p (Nat.le_refl _) hmp h
    unfold Mk.bareM
    rw [List.any_eq_true]
    refine ⟨k, List.mem_filterMap.2 ⟨k, ahead k hk (under_less (T.path k hk) h2), left_self h3⟩, ?_⟩
    rw [Bool.and_eq_true, beq_iff_eq, Mk.underL_I hmp (T.path k hk)]
    exact ⟨h1, h2⟩
theorem tidy_go {L : List Mk.E} (T : Mk.TrM L) : ∀ (r l : List Mk.E), L = l ++ r → r.foldl tidy1 (l.filterMap (leftM L)) = L.filterMap (leftM L)
  | [], l, h => by rw [h, List.append_nil]; rfl
  | m :: r, l, h => by
    have hb := bare_left (l := l) (m := m) (r := r) (by rw [← h]; exact T)
    rw [← h] at hb
    have e : tidy1 (l.filterMap (leftM L)) m = (l ++ [m]).filterMap (leftM L) := by
      rw [List.filterMap_append]
      unfold tidy1
      rw [hb]
      cases hq : Mk.bareM L m.p with
      | false => rw [if_neg (by simp), List.filterMap_cons_some (left_self hq)]; rfl
      | true =>
        rw [if_pos rfl]
        by_cases h3 : m.d = 3
        · have : leftM L m = none := by unfold leftM; rw [hq, if_pos rfl, if_pos h3]
          rw [if_pos h3, List.filterMap_cons_none this]; simp
        · have : leftM L m = some (if m.d = 4 then ⟨m.p, 2, m.x⟩ else m) := by
            unfold leftM; rw [hq, if_pos rfl, if_neg h3]; split <;> rfl
          rw [if_neg h3, List.filterMap_cons_some this]; rfl
    rw [List.foldl_cons, e]
    exact tidy_go T r (l ++ [m]) (by rw [h]; simp)
theorem tidy_is {l : List Mk.E} (T : Mk.TrM l) : tidyM l = l.filterMap (leftM l) := tidy_go T l [] rfl
theorem tidy_mem {l : List Mk.E} (T : Mk.TrM l) (k : Mk.E) : k ∈ tidyM l ↔ ∃ m ∈ l, leftM l m = some k := by rw [tidy_is T, List.mem_filterMap]
theorem tidy_rise {l : List Mk.E} (T : Mk.TrM l) : Mk.Rise (tidyM l) := by
  rw [tidy_is T, Mk.Rise, List.pairwise_filterMap]
  exact T.sort.imp fun {a b} h x hx y hy => by
    rw [left_path hx, left_path hy]; exact h
theorem tidy_look {l : List Mk.E} (T : Mk.TrM l) (s : ByteArray) : Mk.lookE (tidyM l) s = (Mk.lookE l s).bind (leftM l) := by
  cases hl : Mk.lookE l s with
  | none =>
    show _ = none
    rw [Mk.look_none]
    intro k hk hp
    obtain ⟨m, hm, e⟩ := (tidy_mem T k).1 hk
    exact Mk.look_none.1 hl m hm ((left_path e).symm.trans hp)
  | some m =>
    obtain ⟨h1, h2⟩ := Mk.look_mem hl
    show _ = leftM l m
    cases hk : leftM l m with
    | some k => exact (Mk.look_iffM (tidy_rise T) s k).2 ⟨(tidy_mem T k).2 ⟨m, h1, hk⟩, (left_path hk).trans h2⟩
    | none =>
      rw [Mk.look_none]
      intro k hk' hp
      obtain ⟨m', hm', e⟩ := (tidy_mem T k).1 hk'
      have : Mk.lookE l s = some m' := (Mk.look_iffM T.sort s m').2 ⟨hm', (left_path e).symm.trans hp⟩
      rw [hl] at this
      obtain rfl := Option.some.inj this
      rw [hk] at e; cases e
theorem tidy_tr {l : List Mk.E} (T : Mk.TrM l) : Mk.TrM (tidyM l) where
  path k hk := by
    obtain ⟨m, hm, e⟩ := (tidy_mem T k).1 hk
    rw [left_path e]; exact T.path m hm
  sort := tidy_rise T
  up k hk := by
    obtain ⟨m, hm, e⟩ := (tidy_mem T k).1 hk
    rw [left_path e]
    refine (T.up m hm).imp id fun ⟨f, h1, h2⟩ => ?_
    rw [tidy_look T, h1]
    have hd : f.d = 2 ∨ f.d = 4 := by unfold Mk.dirK at h2; rw [Bool.or_eq_true, beq_iff_eq, beq_iff_eq] at h2; exact h2
    show ∃ g, leftM l f = some g ∧ _
    unfold leftM
    split
    · rw [if_neg (by omega)]
      split
      · exact ⟨_, rfl, rfl⟩
      · exact ⟨_, rfl, h2⟩
    · exact ⟨_, rfl, h2⟩
  kind k hk := by
    obtain ⟨m, hm, e⟩ := (tidy_mem T k).1 hk
    have := T.kind m hm
    rcases left_kind e with q | ⟨_, q⟩ <;> omega
theorem tidy_hides {l : List Mk.E} (T : Mk.TrM l) {s : ByteArray} (hs : pathB s = true) : Mk.hidesM (tidyM l) s = Mk.hidesM l s := by
  rw [Bool.eq_iff_iff, hides_iff (tidy_tr T) hs, hides_iff T hs]
  constructor
  · rintro ⟨k, hk, h1, h2⟩
    obtain ⟨m, hm, e⟩ := (tidy_mem T k).1 hk
    refine ⟨m, hm, ?_, by rw [← left_path e]; exact h2⟩
    rcases left_kind e with q | ⟨_, q⟩
    · rw [← q]; exact h1
    · exact absurd q h1
  · rintro ⟨m, hm, h1, h2⟩
    cases hb : Mk.bareM l m.p with
    | false => exact ⟨m, (tidy_mem T m).2 ⟨m, hm, left_self hb⟩, h1, h2⟩
    | true =>
      obtain ⟨k, hk, g1, g2, g3⟩ := bare_top T m.p.size m.p (Nat.le_refl _) (T.path m hm) hb
      refine ⟨k, (tidy_mem T k).2 ⟨k, hk, left_self g3⟩, by omega, .inr ?_⟩
      rcases h2 with h2 | h2
      · rw [← h2]; exact g2
      · exact under_trans h2 g2
/-- What is joined and tidied of two right layers is a right layer. -/
theorem join_rt {a b : List Mk.E} (A : RtM a) (B : RtM b) : RtM (tidyM (joinM a b)) := by
  have T := join_tr A.tr B.tr
  have hx : ∀ m ∈ joinM a b, dataB m.x = true ∧ (m.d ≠ 1 → m.x = ⟨#[]⟩) := fun m hm => by
    rcases (join_mem A.tr B.tr m).1 hm with ⟨k, hk, rfl⟩ | ⟨h, _⟩
    · refine ⟨A.data k hk, fun h => A.plain k hk fun q => h ?_⟩
      show bothK k.d _ = 1
      unfold bothK; rw [if_neg (by omega)]; exact q
    · exact ⟨B.data m h, B.plain m h⟩
  have hl : ∀ {m k : Mk.E}, leftM (joinM a b) m = some k → k.x = m.x := fun {m k} e => by
    unfold leftM at e
    split at e
    · split at e
      · cases e
      · split at e
        · cases e; rfl
        · cases e; rfl
    · cases e; rfl
  refine ⟨tidy_tr T, fun k hk => ?_, fun k hk h => ?_, fun k hk j hj h4 hu => ?_⟩
  · obtain ⟨m, hm, e⟩ := (tidy_mem T k).1 hk
    rw [hl e]; exact (hx m hm).1
  · obtain ⟨m, hm, e⟩ := (tidy_mem T k).1 hk
    rw [hl e]
    refine (hx m hm).2 fun q => ?_
    rcases left_kind e with g | ⟨g, _⟩ <;> omega
  · obtain ⟨m, hm, e⟩ := (tidy_mem T k).1 hk
    obtain ⟨i, hi, e'⟩ := (tidy_mem T j).1 hj
    have hi4 : i.d = 4 := by
      rcases left_kind e' with g | ⟨_, g⟩ <;> omega
    have hb : Mk.bareM (joinM a b) m.p = true := (bare_iff T (T.path m hm)).2 ⟨i, hi, hi4, by rw [← left_path e', ← left_path e]; exact hu⟩
    have hk := T.kind m hm
    unfold leftM at e
    rw [hb, if_pos rfl] at e
    split at e
    · cases e
    · split at e
      · cases e; exact Int.le_refl _
      · cases e; omega
theorem ent_both (k : Mk.E) (b : Int) : entM ⟨k.p, bothK k.d b, k.x⟩ = entM k := by
  unfold bothK
  split
  · rename_i h
    unfold entM
    dsimp only
    rw [if_neg (by decide), if_pos (.inr rfl), if_neg (by omega), if_pos (.inl h.1)]
  · rfl
theorem ent_left {l : List Mk.E} {m k : Mk.E} (h : leftM l m = some k) : entM k = entM m := by
  unfold leftM at h
  split at h
  · split at h
    · cases h
    · split at h
      · rename_i h4
        cases h
        unfold entM
        dsimp only
        rw [if_neg (by decide), if_pos (.inl rfl), if_neg (by omega), if_pos (.inr h4)]
      · cases h; rfl
  · cases h; rfl
theorem ent_gone {l : List Mk.E} {m : Mk.E} (h : leftM l m = none) : entM m = none ∧ Mk.bareM l m.p = true := by
  unfold leftM at h
  split at h
  · rename_i hb
    split at h
    · rename_i h3; unfold entM; rw [h3]; exact ⟨rfl, hb⟩
    · split at h <;> cases h
  · cases h
/-- What a layer on a tree has at a path. -/
theorem on_look {l : List Mk.E} {t : List E} (T : Mk.TrM l) (U : TrE t) (s : ByteArray) : lookE (onM l t) s = match Mk.lookE l s with
    | some m => entM m
    | none => if Mk.hidesM l s = true then none else lookE t s := by
  cases hl : Mk.lookE l s with
  | some m =>
    obtain ⟨h1, h2⟩ := Mk.look_mem hl
    have := on_mark T U h1
    rw [h2] at this
    exact this
  | none =>
    dsimp only
    cases ht : lookE t s with
    | some e =>
      obtain ⟨h1, h2⟩ := look_mem ht
      have := on_other T U h1 (fun m hm q => Mk.look_none.1 hl m hm (q.trans h2))
      rw [h2] at this
      exact this
    | none =>
      have : lookE (onM l t) s = none := by
        rw [look_none]
        intro e he hp
        rcases (on_mem T U.sort e).1 he with ⟨m, hm, h⟩ | ⟨⟨h, _⟩, -⟩
        · exact Mk.look_none.1 hl m hm ((ent_path h).symm.trans hp)
        · exact look_none.1 ht e h hp
      rw [this]
      split <;> rfl
theorem bare_hides {l : List Mk.E} (T : Mk.TrM l) {s : ByteArray} (hs : pathB s = true) (h : Mk.bareM l s = true) : Mk.hidesM l s = true := by
  obtain ⟨k, hk, h1, h2⟩ := (bare_iff T hs).1 h
  exact (hides_iff T hs).2 ⟨k, hk, by omega, .inr h2⟩
/-- Joined layers on a tree are the one on the other on it. -/
theorem on_join {a b : List Mk.E} {t : List E} (A : RtM a) (B : RtM b) (U : TrE t) : onM (tidyM (joinM a b)) t = onM a (onM b t) := by
  have J := join_tr A.tr B.tr
  have R := join_rt A B
  have V := on_tr B.data B.tr U
  refine look_ext (on_rise U.sort) (on_rise V.sort) fun s => ?_
  cases hs : pathB s with
  | false =>
    rw [look_bad (on_tr R.data R.tr U) hs, look_bad (on_tr A.data A.tr V) hs]
  | true =>
    rw [on_look R.tr U s, on_look A.tr V s, on_look B.tr U s, tidy_look J, tidy_hides J hs, join_hides A.tr B.tr hs, join_look A.tr B.tr]
    have key : ∀ m, Mk.lookE (joinM a b) s = some m → (match (some m).bind (leftM (joinM a b)) with
        | some m => entM m
        | none => if (Mk.hidesM a s || Mk.hidesM b s) = true then none else lookE t s) = entM m := fun m hm => by
      obtain ⟨h1, h2⟩ := Mk.look_mem hm
      show (match leftM (joinM a b) m with
        | some m => entM m
        | none => if (Mk.hidesM a s || Mk.hidesM b s) = true then none else lookE t s) = entM m
      cases hk : leftM (joinM a b) m with
      | some k => exact ent_left hk
      | none =>
        obtain ⟨e1, e2⟩ := ent_gone hk
        rw [h2] at e2
        have := bare_hides J hs e2
        rw [join_hides A.tr B.tr hs] at this
        dsimp only
        rw [this, if_pos rfl, e1]
    cases ha : Mk.lookE a s with
    | some k =>
      have hj : Mk.lookE (joinM a b) s = some (overM b k) := by rw [join_look A.tr B.tr, ha]
      rw [key _ hj]
      exact ent_both k _
    | none =>
      dsimp only
      cases hh : Mk.hidesM a s with
      | true =>
        rw [if_pos rfl, Bool.true_or]
        rfl
      | false =>
        rw [Bool.false_or, if_neg (show ¬ (false = true) by decide), if_neg (show ¬ (false = true) by decide)]
        cases hb : Mk.lookE b s with
        | none => rfl
        | some m =>
          have hj : Mk.lookE (joinM a b) s = some m := by rw [join_look A.tr B.tr, ha]; dsimp only; rw [hh, if_neg (by simp)]; exact hb
          have := key _ hj
          rw [hh, Bool.false_or] at this
          exact this
end Go.Proofs.YtkjpmngohocmlaaGreatDoor.Ly
