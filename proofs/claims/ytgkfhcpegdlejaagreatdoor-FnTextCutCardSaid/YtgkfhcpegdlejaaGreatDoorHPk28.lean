/-
  Plain facts on layers read from their texts.
-/
import Derived.Test.YtgkfhcpegdlejaaGreatDoorHPk21
import Derived.Test.YtgkfhcpegdlejaaGreatDoorHRdLayI
import Derived.Test.YtgkfhcpegdlejaaGreatDoorHPk25
import Derived.Test.YtgkfhcpegdlejaaGreatDoorHPk14
namespace Go.Proofs.YtgkfhcpegdlejaaGreatDoor.Mk
open Go.RowKit Go.Lib

theorem same1_iff (e f : E) : sameT1 e f = true ↔ e = f := by
  constructor
  · intro h
    obtain ⟨p, d, x⟩ := e
    obtain ⟨q, c, y⟩ := f
    unfold sameT1 at h
    simp only [Bool.and_eq_true, beq_iff_eq] at h
    obtain ⟨⟨h1, h2⟩, h3⟩ := h
    have e1 := lb_inj (s := p) (t := q) (by rw [Lib.toList_data, Lib.toList_data] at h1; exact h1)
    have e3 := lb_inj (s := x) (t := y) (by rw [Lib.toList_data, Lib.toList_data] at h3; exact h3)
    rw [e1, h2, e3]
  · rintro rfl
    unfold sameT1
    simp
theorem sameT_iff : ∀ (es fs : List E), sameT es fs = true ↔ es = fs
  | [], [] => ⟨fun _ => rfl, fun _ => rfl⟩
  | [], _ :: _ => ⟨fun h => (by cases h), fun h => (by cases h)⟩
  | _ :: _, [] => ⟨fun h => (by cases h), fun h => (by cases h)⟩
  | e :: r, f :: q => by
    show (sameT1 e f && sameT r q) = true ↔ _
    rw [Bool.and_eq_true, same1_iff, sameT_iff r q]
    constructor
    · rintro ⟨rfl, rfl⟩; rfl
    · intro h; injection h with h1 h2; exact ⟨h1, h2⟩
theorem sameT_self (es : List E) : sameT es es = true := (sameT_iff es es).2 rfl
theorem lay_back {es : List E} (h : layB es = true) : progLay (layT es) = some es := (prog_lay _ _).2 ⟨h, by unfold layT; rw [if_pos h, linesM_T]⟩
theorem prog_text {s : ByteArray} {es : List E} (h : progLay s = some es) : layB es = true ∧ layT es = s := by
  obtain ⟨h1, h2⟩ := (prog_lay _ _).1 h
  exact ⟨h1, by unfold layT; rw [if_pos h1, ← linesM_T, h2]⟩
theorem lay_no {es : List E} (h : layB es = false) : layT es = ⟨#[]⟩ := by unfold layT; rw [if_neg (by simp [h])]
theorem prog_small (s : ByteArray) (hs : s.size ≤ 16777216) : ((progLay s).getD []).length ≤ 32 ∧ ∀ e ∈ (progLay s).getD [], e.p.size ≤ 16777216 ∧ e.x.size ≤ 16777216 := by
  cases h : progLay s with
  | none => exact ⟨Nat.zero_le _, fun _ h => by simp at h⟩
  | some es =>
    refine ⟨lay_len (prog_text h).1, ?_⟩
    unfold progLay at h
    cases hs2 : scanL 32 (LB s) [] [] [] with
    | none => rw [hs2] at h; cases h
    | some R =>
      rw [hs2] at h
      dsimp only at h
      split at h
      · obtain rfl := Option.some.inj h
        obtain ⟨h1, _⟩ := scan_le hs2
        intro e he
        obtain ⟨ws, hw, rfl⟩ := List.mem_map.1 he
        exact ⟨Nat.le_trans (h1 ws hw 1) hs, Nat.le_trans (h1 ws hw 2) hs⟩
      · cases h
/-- Two layers' texts are one just if they are. -/
theorem text_same {s : ByteArray} {es fs : List E} (h : progLay s = some fs) (ht : layB es = true) : sameT fs es = (s.toList == (layT es).toList) := by
  by_cases he : fs = es
  · have := (prog_text h).2
    rw [he] at this
    rw [he, sameT_self, this]; simp
  · have hs : ¬ s = layT es := fun q => by
      rw [q, lay_back ht] at h
      exact he (Option.some.inj h).symm
    rw [(str_no hs).1]
    cases hb : sameT fs es with
    | false => rfl
    | true => exact absurd ((sameT_iff _ _).1 hb) he
end Go.Proofs.YtgkfhcpegdlejaaGreatDoor.Mk

/-
  Plain facts on layers' texts that are cut behind a line.
-/
namespace Go.Proofs.YtgkfhcpegdlejaaGreatDoor.Mk
open Go.RowKit Go.Lib

theorem okM_take (es : List E) (j i : Nat) (h : i < j) : okM (es.take j) i = okM es i := by
  unfold okM
  rw [List.getElem?_take_of_lt h, List.getElem?_take_of_lt (show i - 1 < j by omega), List.take_take, Nat.min_eq_left (by omega)]
theorem lay_take {es : List E} (h : layB es = true) (j : Nat) : layB (es.take j) = true := by
  unfold layB at h ⊢
  rw [Bool.and_eq_true] at h ⊢
  obtain ⟨h2, h1⟩ := h
  have h1 := of_decide_eq_true h1
  refine ⟨List.all_eq_true.2 fun i hi => ?_, decide_eq_true (by rw [List.length_take]; omega)⟩
  have hi := List.mem_range.1 hi
  rw [List.length_take] at hi
  rw [okM_take es j i (by omega)]
  exact List.all_eq_true.1 h2 i (List.mem_range.2 (by omega))
theorem text_cut {es : List E} (h : layB es = true) {i : Nat} (hi : i < (layT es).size) (hc : (layT es)[i] = 10) : ∃ j, j ≤ es.length ∧ progLay ((layT es).extract 0 (i + 1)) = some (es.take j) := by
  have hf := fit_lay h
  have hT : layT es = linesM es := by unfold layT; rw [if_pos h, linesM_T]
  obtain ⟨h1, h2⟩ := lines_wsM es hf
  have hg : (LB (layT es))[i]? = some 10 := by
    show (layT es).data.toList[i]? = some 10
    rw [Array.getElem?_toList]
    exact Array.getElem?_eq_some_iff.2 ⟨hi, hc⟩
  rw [hT, h1] at hg
  obtain ⟨j, hj, e⟩ := lines_cut _ i h2 hg
  rw [List.length_map] at hj
  refine ⟨j, hj, (prog_lay _ _).2 ⟨lay_take h j, lb_inj ?_⟩⟩
  have hf' := fit_lay (lay_take h j)
  rw [(lines_wsM _ hf').1, lb_extract _ _ _ (by omega), List.drop_zero, hT, h1, e, List.map_take]
theorem lay_pos {es : List E} (h : 0 < (layT es).size) : layB es = true ∧ 0 < es.length := by
  cases ht : layB es with
  | false => rw [lay_no ht] at h; exact absurd h (by decide)
  | true =>
    refine ⟨rfl, ?_⟩
    cases es with
    | nil => exact absurd h (by decide)
    | cons _ _ => simp
end Go.Proofs.YtgkfhcpegdlejaaGreatDoor.Mk
