/-
  What FnLayerOn asks of the answers.
-/
import Derived.Test.YtkjpmngohocmlabGreatDoorHPk14
namespace Go.Proofs.YtkjpmngohocmlabGreatDoor.Ly
open Go.RowKit Go.Lib Go.Sort

theorem tgetO {es : List E} (h : treeE es = true) {s : ByteArray} (hr : isRoot s = false) : tgetE es s = ((lookE es s).getD noneE, (lookE es s).isSome) := by
  unfold tgetE; rw [if_pos h, getE_look hr]
theorem sameT_reO : ∀ es : List E, sameT es es = true
  | [] => rfl
  | e :: r => by
    show (sameT1 e e && sameT r r) = true
    rw [sameT_reO r, Bool.and_true]
    unfold sameT1; simp
def hasO (l : List Mk.E) (s : ByteArray) : Bool := l.any (fun m => m.p.toList == s.toList)
theorem hasO_succ {l : List Mk.E} {s : ByteArray} {j : Nat} (h : j < l.length) : hasO (l.take (j + 1)) s = (hasO (l.take j) s || (l[j].p.toList == s.toList)) := by
  unfold hasO; rw [List.take_succ_eq_append_getElem h, List.any_append]; simp
theorem hasO_not {l : List Mk.E} {s : ByteArray} : hasO l s = false ↔ ∀ m ∈ l, m.p ≠ s := by
  unfold hasO
  rw [List.any_eq_false]
  refine ⟨fun h m hm q => h m hm (by rw [q]; simp), fun h m hm q => h m hm ?_⟩
  rw [beqL, decide_eq_true_eq] at q
  exact q
theorem hasO_look {l : List Mk.E} {s : ByteArray} : (Mk.lookE l s).isSome = hasO l s := by
  cases hh : hasO l s with
  | false => rw [Mk.look_none.2 (hasO_not.1 hh)]; rfl
  | true =>
    cases hl : Mk.lookE l s with
    | some f => rfl
    | none => rw [hasO_not.2 (Mk.look_none.1 hl)] at hh; cases hh
theorem on_treeO {l : List Mk.E} {t : List E} (h : onB l t = true) : treeE (onM l t) = true := by
  obtain ⟨h1, h2, h3, h4⟩ := on_is h
  exact (on_tr (fun m hm => (lay_rt h1).data m hm) (lay_tr' h1) (treeE_tr h2).1).treeE h3
/-- At a mark. -/
theorem at_mark {l : List Mk.E} {t : List E} (h : onB l t = true) {m : Mk.E} (hm : m ∈ l) :
    (m.d = 3 ∧ (tgetE (onE l t) m.p).2 = false) ∨ ((m.d = 1 ∨ m.d = 2 ∨ m.d = 4) ∧ (tgetE (onE l t) m.p).2 = true ∧ (tgetE (onE l t) m.p).1.d = (m.d != 1) ∧ (tgetE (onE l t) m.p).1.x = m.x) := by
  have hT := on_treeO h
  obtain ⟨p1, p2, p3, p4⟩ := on_is h
  have R := lay_rt p1
  have T := lay_tr' p1
  have U := (treeE_tr p2).1
  obtain ⟨k1, k2⟩ := T.kind m hm
  rw [p4, tgetO hT (root_not_path (T.path m hm)), on_mark T U hm]
  unfold entM
  by_cases h1 : m.d = 1
  · refine .inr ⟨.inl h1, ?_, ?_, ?_⟩
    · rw [if_pos h1]; rfl
    · rw [if_pos h1, h1]; rfl
    · rw [if_pos h1]; rfl
  · by_cases h3 : m.d = 3
    · refine .inl ⟨h3, ?_⟩
      rw [if_neg h1, if_neg (by omega)]; rfl
    · have h24 : m.d = 2 ∨ m.d = 4 := by omega
      refine .inr ⟨.inr h24, ?_, ?_, ?_⟩
      · rw [if_neg h1, if_pos h24]; rfl
      · rw [if_neg h1, if_pos h24]
        have : (m.d != 1) = true := by simpa using h1
        rw [this]; rfl
      · rw [if_neg h1, if_pos h24]; exact (R.plain m hm h1).symm
/-- At what bears no mark. -/
theorem at_other {l : List Mk.E} {t : List E} (h : onB l t = true) {e : E} (he : e ∈ t) (hn : hasO l e.p = false) :
    ((tgetE (onE l t) e.p).2 = true ∧ (tgetE (onE l t) e.p).1 = e ∧ Mk.layHides l e.p = false ∧ covM l e.p = false) ∨ ((tgetE (onE l t) e.p).2 = false ∧ Mk.layHides l e.p = true ∧ covM l e.p = true) := by
  have hT := on_treeO h
  obtain ⟨p1, p2, p3, p4⟩ := on_is h
  have T := lay_tr' p1
  have U := (treeE_tr p2).1
  have hpp := U.path e he
  have hc : covM l e.p = Mk.hidesM l e.p := by unfold covM; rw [hasO_look, hn]; rfl
  have hl : Mk.layHides l e.p = Mk.hidesM l e.p := by unfold Mk.layHides; rw [p1, hpp]; rfl
  rw [p4, tgetO hT (root_not_path hpp), on_other T U he (hasO_not.1 hn), hc, hl]
  cases hh : Mk.hidesM l e.p with
  | false => exact .inl ⟨rfl, rfl, rfl, rfl⟩
  | true => exact .inr ⟨rfl, rfl, rfl⟩
theorem cov_has {l : List Mk.E} {s : ByteArray} (h : hasO l s = true) : covM l s = true := by
  unfold covM; rw [hasO_look, h]; rfl
theorem cntP_succ {α : Type} (P : α → Bool) (l : List α) (j : Nat) (h : j < l.length) : ((l.take (j + 1)).filter P).length = ((l.take j).filter P).length + (if P l[j] = true then 1 else 0) := by
  rw [List.take_succ_eq_append_getElem h, List.filter_append, List.length_append]
  by_cases hb : P l[j] = true
  · simp [hb]
  · simp [hb]
theorem cntP_le {α : Type} (P : α → Bool) (l : List α) (j : Nat) (h : j ≤ l.length) : ((l.take j).filter P).length ≤ j := by
  have := List.length_filter_le P (l.take j)
  rw [List.length_take] at this
  omega
theorem on_cnt {l : List Mk.E} {t : List E} (h : onB l t = true) : (t.filter (fun e => !covM l e.p)).length + (l.filter (fun m => m.d != 3)).length = (onE l t).length := by
  obtain ⟨p1, p2, p3, p4⟩ := on_is h
  rw [p4, on_count (lay_tr' p1) (treeE_tr p2).1]
end Go.Proofs.YtkjpmngohocmlabGreatDoor.Ly
