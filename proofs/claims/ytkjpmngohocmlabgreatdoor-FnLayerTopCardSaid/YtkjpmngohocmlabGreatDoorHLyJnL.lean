/-
  Plain facts on what LayerJoin and LayerOn tell together.
-/
import Derived.Test.YtkjpmngohocmlabGreatDoorHPk35
import Derived.Test.YtkjpmngohocmlabGreatDoorHPk25
namespace Go.Proofs.YtkjpmngohocmlabGreatDoor.Ly
open Go.Lib

theorem jn_parts {a b : List Mk.E} (h : Mk.jnB a b = true) : Mk.layB a = true ∧ Mk.layB b = true ∧ Mk.jnE a b = tidyM (joinM a b) ∧ Mk.layB (tidyM (joinM a b)) = true := by
  have hq : Mk.jnE a b = tidyM (joinM a b) := by unfold Mk.jnE; rw [h]; rfl
  unfold Mk.jnB at h
  rw [Bool.and_eq_true, Bool.and_eq_true, decide_eq_true_eq] at h
  obtain ⟨⟨h1, h2⟩, h3⟩ := h
  exact ⟨h1, h2, hq, rt_lay (join_rt (lay_rt h1) (lay_rt h2)) h3⟩
theorem onB_is (l : List Mk.E) (t : List E) : onB l t = ((Mk.layB l && treeE t) && decide ((onM l t).length ≤ 16)) := rfl
theorem onE_yes {l : List Mk.E} {t : List E} (h : onB l t = true) : onE l t = onM l t := by unfold onE; rw [h]; rfl
theorem onE_no {l : List Mk.E} {t : List E} (h : onB l t = false) : onE l t = [] := by unfold onE; rw [h]; rfl
/-- Two layers that show the same on two trees tell the same. -/
theorem on_same {l l' : List Mk.E} {t t' : List E} (h1 : Mk.layB l = true) (h2 : Mk.layB l' = true) (h3 : treeE t = treeE t') (h4 : treeE t = true → onM l t = onM l' t') : onB l t = onB l' t' ∧ onE l t = onE l' t' := by
  have hb : onB l t = onB l' t' := by
    rw [onB_is, onB_is, h1, h2, ← h3]
    cases ht : treeE t with
    | false => rfl
    | true => rw [h4 ht]
  refine ⟨hb, ?_⟩
  cases ho : onB l t with
  | false => rw [onE_no ho, onE_no (hb.symm.trans ho)]
  | true =>
    rw [onE_yes ho, onE_yes (hb.symm.trans ho)]
    exact h4 (on_is ho).2.1
theorem on_tree {l : List Mk.E} {t : List E} (h : onB l t = true) : treeE (onE l t) = true ∧ TrE (onM l t) := by
  obtain ⟨h1, h2, h3, h4⟩ := on_is h
  have T := on_tr (lay_data h1) (lay_tr' h1) (treeE_tr h2).1
  rw [h4]
  exact ⟨T.treeE h3, T⟩
theorem jn_on {a b : List Mk.E} {t : List E} (h : Mk.jnB a b = true) (h2 : onB b t = true) : onB a (onE b t) = onB (Mk.jnE a b) t ∧ onE a (onE b t) = onE (Mk.jnE a b) t := by
  obtain ⟨g1, g2, g3, g4⟩ := jn_parts h
  obtain ⟨k1, k2, k3, k4⟩ := on_is h2
  refine on_same g1 (by rw [g3]; exact g4) (by rw [(on_tree h2).1, k2]) fun _ => ?_
  rw [k4, g3]
  exact (on_join (lay_rt g1) (lay_rt g2) (treeE_tr k2).1).symm
theorem jn_three {a b c : List Mk.E} {t : List E} (p : Mk.jnB a b = true) (q : Mk.jnB b c = true) (r : Mk.jnB (Mk.jnE a b) c = true) (s : Mk.jnB a (Mk.jnE b c) = true) :
    onB (Mk.jnE (Mk.jnE a b) c) t = onB (Mk.jnE a (Mk.jnE b c)) t ∧ onE (Mk.jnE (Mk.jnE a b) c) t = onE (Mk.jnE a (Mk.jnE b c)) t := by
  obtain ⟨p1, p2, p3, p4⟩ := jn_parts p
  obtain ⟨q1, q2, q3, q4⟩ := jn_parts q
  obtain ⟨r1, r2, r3, r4⟩ := jn_parts r
  obtain ⟨s1, s2, s3, s4⟩ := jn_parts s
  refine on_same (by rw [r3]; exact r4) (by rw [s3]; exact s4) rfl fun ht => ?_
  have U := (treeE_tr ht).1
  have V := on_tr (lay_data q2) (lay_tr' q2) U
  rw [r3, s3, on_join (lay_rt r1) (lay_rt r2) U, on_join (lay_rt s1) (lay_rt s2) U, p3, q3, on_join (lay_rt p1) (lay_rt p2) V, on_join (lay_rt q1) (lay_rt q2) U]
theorem fm_self (f : Mk.E → Option Mk.E) : ∀ l : List Mk.E, (∀ m ∈ l, f m = some m) → l.filterMap f = l
  | [], _ => rfl
  | x :: r, h => by rw [List.filterMap_cons_some (h x (List.mem_cons_self ..)), fm_self f r (fun m hm => h m (List.mem_cons_of_mem _ hm))]
theorem rise_nil_tidy {a : List Mk.E} (A : RtM a) : tidyM a = a := by
  rw [tidy_is A.tr]
  have key : ∀ m ∈ a, leftM a m = some m := fun m hm => by
    unfold leftM
    split
    · rename_i hb
      obtain ⟨k, hk, h1, h2⟩ := (bare_iff A.tr (A.tr.path m hm)).1 hb
      have := A.bare m hm k hk h1 h2
      rw [if_neg (by omega), if_neg (by omega)]
    · rfl
  exact fm_self _ a key
theorem jn_none {a : List Mk.E} (h : Mk.layB a = true) : Mk.jnB a [] = true ∧ Mk.jnE a [] = a ∧ Mk.jnB [] a = true ∧ Mk.jnE [] a = a := by
  have A := lay_rt h
  have hl := Mk.lay_len h
  have h0 : Mk.layB [] = true := rfl
  have e1 : joinM a [] = a := Mk.look_extM (join_rise A.tr Mk.TrM.nil) A.tr.sort fun m => by
    rw [join_mem A.tr Mk.TrM.nil]
    have ho : ∀ k : Mk.E, overM [] k = k := fun k => by
      unfold overM bothK
      have : Mk.kindM [] k.p = 0 := rfl
      rw [this, if_neg (fun q => q.2.1 rfl)]
    simp only [ho]
    constructor
    · rintro (⟨k, hk, rfl⟩ | ⟨h, _⟩)
      · exact hk
      · cases h
    · exact fun h => .inl ⟨m, h, rfl⟩
  have e2 : joinM [] a = a := Mk.look_extM (join_rise Mk.TrM.nil A.tr) A.tr.sort fun m => by
    rw [join_mem Mk.TrM.nil A.tr]
    constructor
    · rintro (⟨k, hk, _⟩ | ⟨h, _⟩)
      · cases hk
      · exact h
    · exact fun h => .inr ⟨h, rfl, rfl⟩
  have b1 : Mk.jnB a [] = true := by unfold Mk.jnB; rw [h, h0, e1, rise_nil_tidy A, decide_eq_true hl]; rfl
  have b2 : Mk.jnB [] a = true := by unfold Mk.jnB; rw [h, h0, e2, rise_nil_tidy A, decide_eq_true hl]; rfl
  refine ⟨b1, ?_, b2, ?_⟩
  · rw [(jn_parts b1).2.2.1, e1, rise_nil_tidy A]
  · rw [(jn_parts b2).2.2.1, e2, rise_nil_tidy A]
theorem jn_top {a b : List Mk.E} {t : List E} (h : Mk.jnB a b = true) (h1 : onB (Mk.jnE a b) t = true) (h2 : Mk.jnB a (Mk.jnE a b) = true) :
    onB (Mk.jnE a (Mk.jnE a b)) t = true ∧ onE (Mk.jnE a (Mk.jnE a b)) t = onE (Mk.jnE a b) t ∧ onB a (onE (Mk.jnE a b) t) = true ∧ onE a (onE (Mk.jnE a b) t) = onE (Mk.jnE a b) t := by
  obtain ⟨g1, g2, g3, g4⟩ := jn_parts h
  obtain ⟨k1, k2, k3, k4⟩ := jn_parts h2
  obtain ⟨n1, n2, n3, n4⟩ := on_is h1
  have U := (treeE_tr n2).1
  have V := on_tr (lay_data g2) (lay_tr' g2) U
  have hj : onM (Mk.jnE a b) t = onM a (onM b t) := by rw [g3]; exact on_join (lay_rt g1) (lay_rt g2) U
  have e1 : onM a (onM (Mk.jnE a b) t) = onM (Mk.jnE a b) t := by rw [hj]; exact on_twice (lay_tr' g1) V.sort
  have e2 : onM (Mk.jnE a (Mk.jnE a b)) t = onM (Mk.jnE a b) t := by
    rw [k3, on_join (lay_rt k1) (lay_rt k2) U]; exact e1
  obtain ⟨b1, b2⟩ := on_same (l := Mk.jnE a (Mk.jnE a b)) (l' := Mk.jnE a b) (t := t) (t' := t) (by rw [k3]; exact k4) n1 rfl (fun _ => e2)
  have b3 := on_same (l := a) (l' := Mk.jnE a b) (t := onE (Mk.jnE a b) t) (t' := t) g1 n1 (by rw [(on_tree h1).1, n2]) (fun _ => by rw [n4]; exact e1)
  exact ⟨b1.trans h1, b2, b3.1.trans h1, b3.2⟩
theorem jn_sz {a b : List Mk.E} (hz : ∀ e ∈ a, e.p.size ≤ 16777216 ∧ e.x.size ≤ 16777216) (hz' : ∀ e ∈ b, e.p.size ≤ 16777216 ∧ e.x.size ≤ 16777216) : (Mk.jnE a b).length ≤ 32 ∧ ∀ e ∈ Mk.jnE a b, e.p.size ≤ 16777216 ∧ e.x.size ≤ 16777216 := by
  cases h : Mk.jnB a b with
  | false =>
    have : Mk.jnE a b = [] := by unfold Mk.jnE; rw [h]; rfl
    rw [this]; exact ⟨Nat.zero_le _, fun e he => by cases he⟩
  | true =>
    obtain ⟨g1, g2, g3, g4⟩ := jn_parts h
    refine ⟨by rw [g3]; exact Mk.lay_len g4, fun e he => ?_⟩
    rw [g3] at he
    obtain ⟨m, hm, hl⟩ := (tidy_mem (join_tr (lay_tr' g1) (lay_tr' g2)) e).1 he
    have hmz := Mk.join_sz (lay_tr' g1) (lay_tr' g2) hz hz' m hm
    refine ⟨by rw [left_path hl]; exact hmz.1, ?_⟩
    unfold leftM at hl
    split at hl
    · split at hl
      · cases hl
      · split at hl
        · cases hl; exact hmz.2
        · cases hl; exact hmz.2
    · cases hl; exact hmz.2
theorem onE_sz {l : List Mk.E} {t : List E} (hz : ∀ e ∈ l, e.p.size ≤ 16777216 ∧ e.x.size ≤ 16777216) (hz' : ∀ e ∈ t, e.p.size ≤ 16777216 ∧ e.x.size ≤ 16777216) : (onE l t).length ≤ 16 ∧ ∀ e ∈ onE l t, e.p.size ≤ 16777216 ∧ e.x.size ≤ 16777216 := by
  cases h : onB l t with
  | false => rw [onE_no h]; exact ⟨Nat.zero_le _, fun e he => by cases he⟩
  | true =>
    obtain ⟨p1, p2, p3, p4⟩ := on_is h
    rw [p4]
    exact ⟨p3, on_sz (lay_tr' p1) (treeE_tr p2).1 hz hz'⟩
theorem jn_no {a b : List Mk.E} (h : Mk.jnB a b = false) : Mk.jnE a b = [] := by unfold Mk.jnE; rw [h]; rfl
end Go.Proofs.YtkjpmngohocmlabGreatDoor.Ly
