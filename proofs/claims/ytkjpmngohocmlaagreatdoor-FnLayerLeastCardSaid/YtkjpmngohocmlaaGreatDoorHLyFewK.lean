/-
  What FnLayerFew and FnLayerLeast ask of the answers.
-/
import Derived.Test.YtkjpmngohocmlaaGreatDoorHLyDfK
import Derived.Test.YtkjpmngohocmlaaGreatDoorHLyAt
namespace Go.Proofs.YtkjpmngohocmlaaGreatDoor.Ly
open Go.RowKit Go.Lib

theorem kept_is {b : List E} (U : TrE b) (s : ByteArray) : kept b s = dirE b (upS s) := by
  cases h : kept b s with
  | true => exact (kept_up U h).symm
  | false =>
    unfold kept at h
    rw [Bool.or_eq_false_iff] at h
    exact h.2.symm
def inL (ls : List ByteArray) (s : ByteArray) : Bool := ls.any (fun y => y.toList == s.toList)
theorem inL_iff {ls : List ByteArray} {s : ByteArray} : inL ls s = true ↔ s ∈ ls := by
  unfold inL
  rw [List.any_eq_true]
  refine ⟨fun ⟨y, hy, q⟩ => ?_, fun h => ⟨s, h, by simp⟩⟩
  rw [beqL, decide_eq_true_eq] at q
  exact q ▸ hy
theorem DfP.turn_ks {a b : List E} {s : ByteArray} (h : s ∈ ksD a b) : s ∈ turnE a b := (List.mem_filter.1 h).1
theorem DfP.few_marks {a b : List E} (P : DfP a b) {m : Mk.E} (hm : m ∈ diffM a b) : m.d ≠ 4 ∧ (m.p ∈ turnE a b ∨ ((∃ s ∈ turnE a b, underI s m.p = true) ∧ m.d = 2)) := by
  obtain ⟨⟨s, hs, g⟩, hd⟩ := (P.isD.mem m).1 hm
  have hk := P.ks_ok s hs
  refine ⟨by rw [hd]; rcases dm_three b m.p with h | h | h <;> omega, ?_⟩
  rcases g with g | ⟨g1, g2⟩
  · exact .inl (g ▸ DfP.turn_ks hs)
  · obtain ⟨e, he, hed⟩ := above_dir P.U s.size (Nat.le_refl _) hk.1 (kept_up P.U hk.2) g1 g2
    exact .inr ⟨⟨s, DfP.turn_ks hs, g2⟩, by rw [hd, dm_dir P.U he hed]⟩
theorem less_nodup {ls : List ByteArray} (h : ls.Pairwise less) : ls.Nodup := h.imp fun {x y} h e => by rw [e] at h; exact less_irrefl _ h
theorem DfP.few_count {a b : List E} (P : DfP a b) : ((diffM a b).filter (fun m => inL (turnE a b) m.p)).length = ((turnE a b).filter (fun s => dirE b (upS s))).length := by
  have e : (turnE a b).filter (fun s => dirE b (upS s)) = ksD a b := by
    unfold ksD
    exact List.filter_congr fun s _ => (kept_is P.U s).symm
  rw [e, show ((diffM a b).filter (fun m => inL (turnE a b) m.p)).length = (((diffM a b).filter (fun m => inL (turnE a b) m.p)).map (fun m : Mk.E => m.p)).length from (List.length_map _).symm]
  have n1 : (((diffM a b).filter (fun m => inL (turnE a b) m.p)).map (fun m : Mk.E => m.p)).Nodup := by
    have hs := P.isD.sort.filter (fun m => inL (turnE a b) m.p)
    exact less_nodup (List.pairwise_map.2 hs)
  have n2 : (ksD a b).Nodup := less_nodup ((turnE_rise P.T).filter _)
  refine Nat.le_antisymm (nodup_sub _ _ n1 fun x hx => ?_) (nodup_sub _ _ n2 fun s hs => ?_)
  · obtain ⟨m, hm, rfl⟩ := List.mem_map.1 hx
    obtain ⟨hm, hi⟩ := List.mem_filter.1 hm
    have ht := inL_iff.1 hi
    obtain ⟨⟨s, hs, g⟩, hd⟩ := (P.isD.mem m).1 hm
    rcases g with g | ⟨g1, g2⟩
    · exact g ▸ hs
    · have hk := P.ks_ok s hs
      obtain ⟨e, he, -⟩ := above_dir P.U s.size (Nat.le_refl _) hk.1 (kept_up P.U hk.2) g1 g2
      exact (P.ks_mem _).2 ⟨(turnE_mem P.T P.U _).1 ht, by unfold kept; rw [he]; rfl⟩
  · have hp := dm_p b s
    refine List.mem_map.2 ⟨dm b s, List.mem_filter.2 ⟨(P.isD.mem _).2 ⟨⟨s, hs, .inl hp⟩, by rw [hp]⟩, ?_⟩, hp⟩
    rw [hp]
    exact inL_iff.2 (DfP.turn_ks hs)
theorem DfP.least_dir {a b : List E} (P : DfP a b) {m q : Mk.E} (hm : m ∈ diffM a b) (hq : q ∈ diffM a b) (hu : underI m.p q.p = true) : q.d = 2 := by
  obtain ⟨⟨s, hs, g⟩, -⟩ := (P.isD.mem m).1 hm
  obtain ⟨-, hd⟩ := (P.isD.mem q).1 hq
  have hk := P.ks_ok s hs
  have hpq : pathB q.p = true := P.rt.tr.path q hq
  have hsq : underI s q.p = true := by
    rcases g with g | ⟨g1, g2⟩
    · rw [g] at hu; exact hu
    · exact under_trans g2 hu
  obtain ⟨e, he, hed⟩ := above_dir P.U s.size (Nat.le_refl _) hk.1 (kept_up P.U hk.2) hpq hsq
  rw [hd, dm_dir P.U he hed]
/-- Without a mark that has none below it the layer turns the tree into another. -/
theorem DfP.least {a b : List E} (P : DfP a b) {q : Mk.E} {r : List Mk.E} (hq : q ∈ diffM a b) (hn : ∀ m ∈ diffM a b, underI m.p q.p = false) (hr : ∀ m ∈ r, m ∈ diffM a b ∧ m.p ≠ q.p) (ho : onB r a = true) : onE r a ≠ b := by
  obtain ⟨p1, p2, p3, p4⟩ := on_is ho
  have T := lay_tr' p1
  rw [p4]
  intro hb
  have hpq : pathB q.p = true := P.rt.tr.path q hq
  have hks : q.p ∈ ksD a b := by
    obtain ⟨⟨s, hs, g⟩, -⟩ := (P.isD.mem q).1 hq
    rcases g with g | ⟨g1, g2⟩
    · exact g ▸ hs
    · have hp := dm_p b s
      have := hn (dm b s) ((P.isD.mem _).2 ⟨⟨s, hs, .inl hp⟩, by rw [hp]⟩)
      rw [hp, g2] at this
      cases this
  have hdf : lookE a q.p ≠ lookE b q.p := ((P.ks_mem _).1 hks).1
  have hnh : Mk.hidesM r q.p = false := by
    unfold Mk.hidesM
    rw [List.any_eq_false]
    intro m hm h
    obtain ⟨h1, h2⟩ := hr m hm
    unfold Mk.hideM at h
    rw [Bool.or_eq_true, Bool.and_eq_true, Bool.and_eq_true, bne_iff_ne, Mk.underL_I hpq (P.rt.tr.path m h1), beqL, decide_eq_true_eq] at h
    rcases h with ⟨h, -⟩ | ⟨h, hu⟩
    · exact h2 h
    · exact h (P.least_dir hq h1 hu)
  apply hdf
  rw [← hb]
  cases hl : lookE a q.p with
  | some e =>
    obtain ⟨he, hep⟩ := look_mem hl
    have := on_other T P.T he (fun m hm => by rw [hep]; exact (hr m hm).2)
    rw [hep, hnh] at this
    rw [this]; rfl
  | none =>
    refine (look_none.2 fun e he hep => ?_).symm
    rcases (on_mem T P.T.sort e).1 he with ⟨m, hm, h⟩ | ⟨⟨h, -⟩, -⟩
    · exact (hr m hm).2 (by rw [← ent_path h, hep])
    · exact look_none.1 hl e h hep
end Go.Proofs.YtkjpmngohocmlaaGreatDoor.Ly
