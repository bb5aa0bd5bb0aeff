/-
  Plain facts: what a layer shows beneath one of its marks that is no plain directory's.
-/
import Derived.Test.YtkjpmngohocmlaaGreatDoorHLyTw
namespace Go.Proofs.YtkjpmngohocmlaaGreatDoor.Ly
open Go.Lib

theorem root_bad : pathB ⟨#[47]⟩ = false := by decide
/-- A mark that another lies beneath is a directory's, or a bare one's. -/
theorem mark_chain {l : List Mk.E} (T : Mk.TrM l) {m : Mk.E} (hm : m ∈ l) : ∀ (n : Nat) (k : Mk.E), k.p.size ≤ n → k ∈ l → underI k.p m.p = true → Mk.dirK m.d = true
  | 0, k, hn, hk, _ => by
    have h1 := T.path k hk
    have h2 := Mk.up_lt h1
    omega
  | n + 1, k, hn, hk, hu => by
    have h1 := T.path k hk
    have h2 := Mk.up_lt h1
    have hmp := T.path m hm
    have hroot : upS k.p = ⟨#[47]⟩ → False := fun e => by
      rcases (under_up h1).1 hu with q | q
      · rw [e] at q; rw [q, root_bad] at hmp; cases hmp
      · rw [e] at q
        have := ((underI_iff _ _).1 q).2.1
        rw [root_bad] at this; cases this
    rcases T.up k hk with e | ⟨f, hf, hd⟩
    · exact (hroot e).elim
    · obtain ⟨hf1, hf2⟩ := Mk.look_mem hf
      rcases (under_up h1).1 hu with q | q
      · have := Mk.look_self T.sort hm
        rw [q, hf] at this
        obtain rfl := Option.some.inj this
        exact hd
      · exact mark_chain T hm n f (by rw [hf2]; omega) hf1 (by rw [hf2]; exact q)
/-- What FnLayerBare asks. -/
theorem bare_on {l : List Mk.E} {t : List E} (T : Mk.TrM l) (U : TrE t) {e : E} (he : e ∈ onM l t) {m : Mk.E} (hm : m ∈ l) (h2 : m.d ≠ 2) (hu : underI e.p m.p = true) : m.d = 4 ∧ ∃ k ∈ l, k.p = e.p := by
  rcases (on_mem T U.sort e).1 he with ⟨k, hk, h⟩ | ⟨⟨h, hh⟩, -⟩
  · have hp := ent_path h
    rw [hp] at hu
    have := mark_chain T hm k.p.size k (Nat.le_refl _) hk hu
    unfold Mk.dirK at this
    rw [Bool.or_eq_true, beq_iff_eq, beq_iff_eq] at this
    exact ⟨this.resolve_left h2, k, hk, hp.symm⟩
  · have : Mk.hidesM l e.p = true := (hides_iff T (U.path e h)).2 ⟨m, hm, h2, .inr hu⟩
    rw [hh] at this; cases this
end Go.Proofs.YtkjpmngohocmlaaGreatDoor.Ly
