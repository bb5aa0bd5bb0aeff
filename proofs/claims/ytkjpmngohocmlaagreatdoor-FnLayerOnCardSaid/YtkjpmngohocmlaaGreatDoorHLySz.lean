/-
  Plain facts: what is on a tree behind a layer is no greater than what was there.
-/
import Derived.Test.YtkjpmngohocmlaaGreatDoorHLyTw
namespace Go.Proofs.YtkjpmngohocmlaaGreatDoor.Ly
open Go.Lib

theorem on_sz {l : List Mk.E} {t : List E} (T : Mk.TrM l) (U : TrE t) (h1 : ∀ e ∈ l, e.p.size ≤ 16777216 ∧ e.x.size ≤ 16777216) (h2 : ∀ e ∈ t, e.p.size ≤ 16777216 ∧ e.x.size ≤ 16777216) : ∀ e ∈ onM l t, e.p.size ≤ 16777216 ∧ e.x.size ≤ 16777216 := fun e he => by
  rcases (on_mem T U.sort e).1 he with ⟨m, hm, h⟩ | ⟨⟨h, -⟩, -⟩
  · unfold entM at h
    split at h
    · cases h; exact h1 m hm
    · split at h
      · cases h; exact ⟨(h1 m hm).1, Nat.zero_le _⟩
      · cases h
  · exact h2 e h

end Go.Proofs.YtkjpmngohocmlaaGreatDoor.Ly
