/-
  Plain facts: a right layer on a right tree is right; laid on a second time it changes nothing; no layer changes nothing.
-/
import Derived.Test.YtkjpmngohocmlaaGreatDoorHPk05
import Derived.Test.YtkjpmngohocmlaaGreatDoorHLySpec
namespace Go.Proofs.YtkjpmngohocmlaaGreatDoor.Ly
open Go.Lib

theorem hideM_iff {s : ByteArray} {m : Mk.E} (hs : pathB s = true) (hm : pathB m.p = true) : Mk.hideM s m = true ↔ m.d ≠ 2 ∧ (m.p = s ∨ underI s m.p = true) := by
  unfold Mk.hideM
  rw [Mk.underL_I hs hm, Bool.or_eq_true, Bool.and_eq_true, Bool.and_eq_true, bne_iff_ne, beq_iff_eq]
  constructor
  · rintro (⟨h1, h2⟩ | ⟨h1, h2⟩)
    · exact ⟨h2, .inl (toList_inj h1)⟩
    · exact ⟨h1, .inr h2⟩
  · rintro ⟨h1, h2 | h2⟩
    · exact .inl ⟨by rw [h2], h1⟩
    · exact .inr ⟨h1, h2⟩
theorem hides_iff {l : List Mk.E} (T : Mk.TrM l) {s : ByteArray} (hs : pathB s = true) : Mk.hidesM l s = true ↔ ∃ m ∈ l, m.d ≠ 2 ∧ (m.p = s ∨ underI s m.p = true) := by
  unfold Mk.hidesM
  rw [List.any_eq_true]
  exact ⟨fun ⟨m, hm, h⟩ => ⟨m, hm, (hideM_iff hs (T.path m hm)).1 h⟩, fun ⟨m, hm, h⟩ => ⟨m, hm, (hideM_iff hs (T.path m hm)).2 h⟩⟩
/-- The data of a mark that shows a file are data. -/
theorem lay_data {l : List Mk.E} (h : Mk.layB l = true) : ∀ m ∈ l, dataB m.x = true := fun m hm => by
  unfold Mk.layB at h
  rw [Bool.and_eq_true, List.all_eq_true] at h
  obtain ⟨i, hi, rfl⟩ := List.getElem_of_mem hm
  have := h.1 i (List.mem_range.2 hi)
  rw [Mk.okM_is hi] at this
  simp only [Bool.and_eq_true] at this
  exact this.2.2.1
theorem ent_dir {m : Mk.E} (h : Mk.dirK m.d = true) : entM m = some ⟨m.p, true, ⟨#[]⟩⟩ := by
  unfold Mk.dirK at h
  rw [Bool.or_eq_true, beq_iff_eq, beq_iff_eq] at h
  unfold entM
  rw [if_neg (by omega), if_pos h]
theorem on_tr {l : List Mk.E} {t : List E} (hx : ∀ m ∈ l, dataB m.x = true) (T : Mk.TrM l) (U : TrE t) : TrE (onM l t) where
  path := fun e he => by
    rcases (on_mem T U.sort e).1 he with ⟨m, hm, h⟩ | ⟨⟨h, -⟩, -⟩
    · rw [ent_path h]; exact T.path m hm
    · exact U.path e h
  sort := on_rise U.sort
  data := fun e he => by
    rcases (on_mem T U.sort e).1 he with ⟨m, hm, h⟩ | ⟨⟨h, -⟩, -⟩
    · unfold entM at h
      split at h
      · cases h; exact ⟨hx m hm, fun q => by cases q⟩
      · split at h
        · cases h; exact ⟨Mk.data_nil, fun _ => rfl⟩
        · cases h
    · exact U.data e h
  up := fun e he => by
    rcases (on_mem T U.sort e).1 he with ⟨m, hm, h⟩ | ⟨⟨h, hh⟩, hn⟩
    · rw [ent_path h]
      rcases T.up m hm with q | ⟨f, hf, hd⟩
      · exact look_dir (.inl q)
      · obtain ⟨hf1, hf2⟩ := Mk.look_mem hf
        refine look_dir (.inr ⟨⟨f.p, true, ⟨#[]⟩⟩, ?_, rfl⟩)
        rw [← hf2]
        exact look_self (on_rise U.sort) ((on_mem T U.sort _).2 (.inl ⟨f, hf1, ent_dir hd⟩))
    · have hp := U.path e h
      rcases dir_look (U.up e h) with q | ⟨f, hf, hd⟩
      · exact look_dir (.inl q)
      · obtain ⟨hf1, hf2⟩ := look_mem hf
        have hu : pathB (upS e.p) = true := by rw [← hf2]; exact U.path f hf1
        have hno : ∀ m ∈ l, m.p = upS e.p → m.d = 2 := fun m hm q => Classical.byContradiction fun h2 => by
          have : Mk.hidesM l e.p = true := (hides_iff T hp).2 ⟨m, hm, h2, .inr (by rw [q]; exact up_under hp)⟩
          rw [hh] at this; cases this
        have hfh : Mk.hidesM l f.p = false := by
          cases hc : Mk.hidesM l f.p with
          | false => rfl
          | true =>
            exfalso
            obtain ⟨m, hm, h2, h3⟩ := (hides_iff T (U.path f hf1)).1 hc
            have : Mk.hidesM l e.p = true := (hides_iff T hp).2 ⟨m, hm, h2, .inr (by
              rcases h3 with h3 | h3
              · rw [h3, hf2]; exact up_under hp
              · exact under_trans (up_under hp) (by rw [← hf2]; exact h3))⟩
            rw [hh] at this; cases this
        cases hl : Mk.lookE l (upS e.p) with
        | some m =>
          obtain ⟨hm1, hm2⟩ := Mk.look_mem hl
          have h2 := hno m hm1 hm2
          refine look_dir (.inr ⟨⟨m.p, true, ⟨#[]⟩⟩, ?_, rfl⟩)
          rw [← hm2]
          exact look_self (on_rise U.sort) ((on_mem T U.sort _).2 (.inl ⟨m, hm1, ent_dir (by rw [h2]; rfl)⟩))
        | none =>
          refine look_dir (.inr ⟨f, ?_, hd⟩)
          rw [← hf2]
          refine look_self (on_rise U.sort) ((on_mem T U.sort _).2 (.inr ⟨⟨hf1, hfh⟩, fun m hm _ q => ?_⟩))
          exact Mk.look_none.1 hl m hm (q.trans hf2)
/-- Laid on a second time, a layer changes nothing. -/
theorem on_twice {l : List Mk.E} {t : List E} (T : Mk.TrM l) (ht : Rise t) : onM l (onM l t) = onM l t :=
  rising_ext (r := fun a b => less a.p b.p) (fun a => less_irrefl a.p) (fun {_ _ _} => less_trans) _ _ (on_rise (on_rise ht)) (on_rise ht) fun e => by
    rw [on_mem T (on_rise ht)]
    constructor
    · rintro (h | ⟨⟨h, -⟩, -⟩)
      · exact (on_mem T ht e).2 (.inl h)
      · exact h
    · intro h
      rcases (on_mem T ht e).1 h with q | ⟨⟨_, q1⟩, q2⟩
      · exact .inl q
      · exact .inr ⟨⟨h, q1⟩, q2⟩
/-- No layer changes nothing. -/
theorem on_nil (t : List E) : onM [] t = t := by
  unfold onM thruE
  rw [List.foldl_nil, List.filter_eq_self]
  intro e _
  rfl
theorem on_is {l : List Mk.E} {t : List E} (h : onB l t = true) : Mk.layB l = true ∧ treeE t = true ∧ (onM l t).length ≤ 16 ∧ onE l t = onM l t := by
  have hE : onE l t = onM l t := by unfold onE; rw [h]; rfl
  unfold onB at h
  rw [Bool.and_eq_true, Bool.and_eq_true] at h
  exact ⟨h.1.1, h.1.2, of_decide_eq_true h.2, hE⟩
theorem onB_of {l : List Mk.E} {t : List E} (h1 : Mk.layB l = true) (h2 : treeE t = true) (h3 : (onM l t).length ≤ 16) : onB l t = true := by
  unfold onB; rw [h1, h2, decide_eq_true h3]; rfl
theorem lay_tr' {l : List Mk.E} (h : Mk.layB l = true) : Mk.TrM l := by
  unfold Mk.layB at h
  rw [Bool.and_eq_true] at h
  have := Mk.tr_take l.length (Nat.le_refl _) h.1
  rwa [List.take_length] at this
/-- What FnLayerTwice asks of the answers. -/
theorem twice_on {l : List Mk.E} {t : List E} (h : onB l t = true) : onB l (onE l t) = true ∧ onE l (onE l t) = onE l t ∧ onB [] t = true ∧ onE [] t = t := by
  obtain ⟨h1, h2, h3, h4⟩ := on_is h
  obtain ⟨U, hU⟩ := treeE_tr h2
  have T := lay_tr' h1
  have V := on_tr (lay_data h1) T U
  have e := on_twice T U.sort
  have a1 : onB l (onM l t) = true := onB_of h1 (V.treeE h3) (by rw [e]; exact h3)
  have a2 : onB [] t = true := onB_of (by decide) h2 (by rw [on_nil]; exact hU)
  rw [h4]
  exact ⟨a1, (on_is a1).2.2.2.trans e, a2, (on_is a2).2.2.2.trans (on_nil t)⟩
end Go.Proofs.YtkjpmngohocmlaaGreatDoor.Ly
