/-
  What can be read, as the program and as the model ask it.
-/
import Derived.Test.YtgkfhcpegdlejaaDoorHPk11
namespace Go.Proofs.YtgkfhcpegdlejaaDoor
open Go.RowKit Go.Lib

theorem fit_op (k : Int) (p t x : ByteArray) : (pathB p && fitB k t x) = opB ⟨k, p, t, x⟩ := by
  have hem : ∀ s : ByteArray, emB s = true → dataB s = true := fun s h => by
    have : s = ⟨#[]⟩ := toList_inj ((emB_yes h).trans (by rw [Lib.toList_data]))
    rw [this]; rfl
  have hex : ∀ s, emptyB s = emB s := fun _ => rfl
  unfold opB fitB
  simp only [hex]
  by_cases h1 : k = 1
  · subst h1
    cases hx : emB x with
    | false => simp
    | true => simp [hem x hx]
  · by_cases h2 : k = 2
    · subst h2; simp
    · by_cases h3 : k = 3
      · subst h3
        cases hx : emB x with
        | false => simp
        | true => simp [hem x hx]
      · by_cases h4 : k = 4
        · subst h4
          cases hx : emB x with
          | false => simp
          | true => simp [hem x hx]
        · by_cases h5 : k = 5
          · subst h5; simp
          · have : ¬ (1 ≤ k ∧ k ≤ 5) := by omega
            simp only [h1, h2, h3, h4, h5, if_false, Bool.and_false]
            rw [decide_eq_false this]; rfl
end Go.Proofs.YtgkfhcpegdlejaaDoor
