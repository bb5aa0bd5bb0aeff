/-
  Plain facts on moves by way of another place.
-/
import Derived.Test.YtbcogekeoklddaaGreatDoorHPk07
import Derived.Test.YtbcogekeoklddaaGreatDoorHDoSz
namespace Go.Proofs.YtbcogekeoklddaaGreatDoor
open Go.Lib

def viaS (n : Nat) : ByteArray := ⟨#[47]⟩ ++ ⟨#[UInt8.ofNat (107 + n % 5)]⟩
theorem via_facts (n : Nat) : pathB (viaS n) = true ∧ upS (viaS n) = ⟨#[47]⟩ ∧ viaB (viaS n) = true ∧ (viaS n).size = 2 := by
  have h : n % 5 = 0 ∨ n % 5 = 1 ∨ n % 5 = 2 ∨ n % 5 = 3 ∨ n % 5 = 4 := by omega
  unfold viaS
  rcases h with h | h | h | h | h <;> rw [h] <;> decide +kernel
theorem okS_not_via {t : ByteArray} (h : okS t = true) (n : Nat) : t ≠ viaS n := fun q => by
  unfold okS at h
  rw [q, (via_facts n).2.2.1] at h
  simp at h
theorem via_code {es : List E} {f t v : ByteArray} (m : Mv es f t) (hl : es.length ≤ 16) (hv : pathB v = true) (hu : upS v = ⟨#[47]⟩) :
    doC es ⟨5, f, v, ⟨#[]⟩⟩ = 4 ∨ doC es ⟨5, f, v, ⟨#[]⟩⟩ = 8 ∨ (doC es ⟨5, f, v, ⟨#[]⟩⟩ = 0 ∧ Mv es f v) := by
  have ho : opB ⟨5, f, v, ⟨#[]⟩⟩ = true := opB_of m.pf (.inr (.inr (.inr (.inr ⟨rfl, hv, rfl⟩))))
  have hc : doC es ⟨5, f, v, ⟨#[]⟩⟩ = moveC es f v := by rw [codeC_do (m.T.treeE hl) ho]; rfl
  rw [hc]
  rcases moveC_cases m.T m.pf hv with ⟨c, k⟩ | ⟨_, r⟩ | ⟨_, r⟩ | ⟨c, _⟩ | ⟨_, r⟩ | ⟨c, _⟩
  · exact .inr (.inr ⟨c, k⟩)
  · obtain ⟨e, he⟩ := m.there; rw [r] at he; cases he
  · rw [hu] at r
    have : dirE es ⟨#[47]⟩ = true := look_dir (.inl rfl)
    rw [r] at this; cases this
  · exact .inl c
  · rcases (under_up hv).1 r with q | q
    · rw [hu] at q
      have := m.pf
      rw [q, root_no_path] at this; cases this
    · rw [hu] at q
      have := ((underI_iff _ _).1 q).2.1
      rw [root_no_path] at this; cases this
  · exact .inr (.inl c)
theorem via_done {es : List E} {f t v : ByteArray} (m : Mv es f t) (k : Mv es f v) (hl : es.length ≤ 16) (hne : t ≠ v) :
    doE es ⟨5, f, v, ⟨#[]⟩⟩ = movE es f v ∧ doC (movE es f v) ⟨5, v, t, ⟨#[]⟩⟩ = 0 ∧ doE (movE es f v) ⟨5, v, t, ⟨#[]⟩⟩ = movE es f t := by
  have n := m.via k hne
  have hl2 : (movE es f v).length ≤ 16 := by rw [k.len]; exact hl
  exact ⟨k.doE hl, (n.done hl2).code, by rw [n.doE hl2, m.composed k hne]⟩
end Go.Proofs.YtbcogekeoklddaaGreatDoor
