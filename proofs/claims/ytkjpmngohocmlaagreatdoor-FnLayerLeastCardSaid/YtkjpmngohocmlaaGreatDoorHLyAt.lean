/-
  Plain facts: what a layer on a tree has at the path of a mark, and at the path of an entry that has no mark of its own.
-/
import Derived.Test.YtkjpmngohocmlaaGreatDoorHPk25
namespace Go.Proofs.YtkjpmngohocmlaaGreatDoor.Ly
open Go.Lib

theorem mark_hides {l : List Mk.E} {m : Mk.E} (hm : m ∈ l) (h2 : m.d ≠ 2) : Mk.hidesM l m.p = true := by
  unfold Mk.hidesM
  rw [List.any_eq_true]
  refine ⟨m, hm, ?_⟩
  unfold Mk.hideM
  rw [Bool.or_eq_true, Bool.and_eq_true]
  exact .inl ⟨by simp, by rw [bne_iff_ne]; exact h2⟩
theorem on_mark {l : List Mk.E} {t : List E} (T : Mk.TrM l) (U : TrE t) {m : Mk.E} (hm : m ∈ l) : lookE (onM l t) m.p = entM m := by
  cases he : entM m with
  | some e =>
    have hp := ent_path he
    rw [← hp]
    exact look_self (on_rise U.sort) ((on_mem T U.sort e).2 (.inl ⟨m, hm, he⟩))
  | none =>
    rw [look_none]
    intro e hx hp
    rcases (on_mem T U.sort e).1 hx with ⟨k, hk, h⟩ | ⟨⟨h, hh⟩, -⟩
    · have h1 := ent_path h
      have h2 := Mk.look_self T.sort hk
      rw [← h1, hp, Mk.look_self T.sort hm] at h2
      obtain rfl := Option.some.inj h2
      rw [he] at h; cases h
    · have h2 : m.d ≠ 2 := fun q => by
        rw [ent_dir (by rw [q]; rfl)] at he; cases he
      have := mark_hides hm h2
      rw [← hp, hh] at this; cases this
theorem on_other {l : List Mk.E} {t : List E} (T : Mk.TrM l) (U : TrE t) {e : E} (he : e ∈ t) (hn : ∀ m ∈ l, m.p ≠ e.p) : lookE (onM l t) e.p = if Mk.hidesM l e.p = true then none else some e := by
  cases hh : Mk.hidesM l e.p with
  | false =>
    rw [if_neg (by simp)]
    exact look_self (on_rise U.sort) ((on_mem T U.sort e).2 (.inr ⟨⟨he, hh⟩, fun m hm _ => hn m hm⟩))
  | true =>
    rw [if_pos rfl, look_none]
    intro f hf hp
    rcases (on_mem T U.sort f).1 hf with ⟨k, hk, h⟩ | ⟨⟨_, h⟩, -⟩
    · exact hn k hk ((ent_path h).symm.trans hp)
    · rw [hp, hh] at h; cases h
theorem shown_count : ∀ (l : List Mk.E), (∀ m ∈ l, 1 ≤ m.d ∧ m.d ≤ 4) → (l.filterMap entM).length = (l.filter (fun m => m.d != 3)).length
  | [], _ => rfl
  | m :: r, h => by
    have ih := shown_count r (fun k hk => h k (List.mem_cons_of_mem _ hk))
    obtain ⟨h1, h2⟩ := h m (List.mem_cons_self ..)
    by_cases h3 : m.d = 3
    · have hn : entM m = none := by unfold entM; rw [h3]; rfl
      rw [List.filterMap_cons_none hn, List.filter_cons_of_neg (by simp [h3]), ih]
    · have hs : (entM m).isSome = true := by
        unfold entM
        by_cases q : m.d = 1
        · rw [if_pos q]; rfl
        · rw [if_neg q, if_pos (by omega)]; rfl
      obtain ⟨e, he⟩ := Option.isSome_iff_exists.1 hs
      rw [List.filterMap_cons_some he, List.filter_cons_of_pos (by simp [h3]), List.length_cons, List.length_cons, ih]
theorem on_count {l : List Mk.E} {t : List E} (T : Mk.TrM l) (U : TrE t) : (onM l t).length = (t.filter (fun e => !covM l e.p)).length + (l.filter (fun m => m.d != 3)).length := by
  rw [← view_len T U.sort]
  unfold viewL
  rw [List.length_append, shown_count l T.kind]
end Go.Proofs.YtkjpmngohocmlaaGreatDoor.Ly
