/-
  Sizes of drawn trees' texts and of what is done.
-/
import Derived.Test.YtgkfhcpegdlejaaGreatDoorHPk24
import Derived.Test.YtgkfhcpegdlejaaGreatDoorHPk18
import Derived.Test.YtgkfhcpegdlejaaGreatDoorHPk01
import Derived.Test.YtgkfhcpegdlejaaGreatDoorHPk21
import Derived.Test.YtgkfhcpegdlejaaGreatDoorHPk02
import Derived.Test.YtgkfhcpegdlejaaGreatDoorHPk14
namespace Go.Proofs.YtgkfhcpegdlejaaGreatDoor
open Go.RowKit Go.Lib

theorem lines_le16 : ∀ (es : List E), (∀ e ∈ es, e.p.size ≤ 16 ∧ e.x.size ≤ 16) → (linesT es).size ≤ es.length * 36
  | [], _ => by show 0 ≤ _; omega
  | e :: r, h => by
    have h1 := lines_le16 r (fun x hx => h x (List.mem_cons_of_mem _ hx))
    have h2 := h e List.mem_cons_self
    have h3 := entT_le e
    show (entT e ++ ⟨#[10]⟩ ++ linesT r).size ≤ (r.length + 1) * 36
    rw [ByteArray.size_append, ByteArray.size_append, Nat.add_mul]
    show (entT e).size + 1 + _ ≤ _
    omega
theorem tree_le16 {es : List E} {n : Nat} (h : Small n es) : (treeT es).size ≤ n * 36 := by
  unfold treeT
  split
  · have := lines_le16 es (fun e he => ⟨by have := (h.2 e he).1; omega, by have := (h.2 e he).2; omega⟩)
    have h2 := Nat.mul_le_mul_right 36 h.1
    omega
  · exact Nat.zero_le _
theorem op_le16 {k : Int} {p t x : ByteArray} (hp : p.size ≤ 16) (ht : t.size ≤ 16) (hx : x.size ≤ 16) : (opT ⟨k, p, t, x⟩).size ≤ 100 := by
  unfold opT
  split
  · show (opW k ++ ⟨#[32]⟩ ++ p ++ restT [t, x]).size ≤ 100
    have h1 := restT_le [t, x] 16 (fun m hm => by
      simp only [List.mem_cons, List.not_mem_nil, or_false] at hm
      rcases hm with rfl | rfl
      · exact ht
      · exact hx)
    have h5 : (opW k).size ≤ 5 := by
      unfold opW
      split
      · decide
      · split
        · decide
        · split
          · decide
          · split <;> decide
    have h6 : (⟨#[32]⟩ : ByteArray).size = 1 := rfl
    rw [ByteArray.size_append, ByteArray.size_append, ByteArray.size_append, h6]
    simp only [List.length_cons, List.length_nil] at h1
    omega
  · exact Nat.zero_le _
end Go.Proofs.YtgkfhcpegdlejaaGreatDoor

/-
  Plain facts on trees read from their texts.
-/
namespace Go.Proofs.YtgkfhcpegdlejaaGreatDoor
open Go.RowKit Go.Lib

theorem same1_iff (e f : E) : sameT1 e f = true ↔ e = f := by
  constructor
  · intro h
    obtain ⟨p, d, x⟩ := e
    obtain ⟨q, c, y⟩ := f
    unfold sameT1 at h
    simp only [Bool.and_eq_true, beq_iff_eq] at h
    obtain ⟨⟨h1, h2⟩, h3⟩ := h
    have e1 := lb_inj (s := p) (t := q) (by rw [Lib.toList_data, Lib.toList_data] at h1; exact h1)
    have e3 := lb_inj (s := x) (t := y) (by rw [Lib.toList_data, Lib.toList_data] at h3; exact h3)
    rw [e1, h2, e3]
  · rintro rfl
    unfold sameT1
    simp
theorem sameT_iff : ∀ (es fs : List E), sameT es fs = true ↔ es = fs
  | [], [] => ⟨fun _ => rfl, fun _ => rfl⟩
  | [], _ :: _ => ⟨fun h => (by cases h), fun h => (by cases h)⟩
  | _ :: _, [] => ⟨fun h => (by cases h), fun h => (by cases h)⟩
  | e :: r, f :: q => by
    show (sameT1 e f && sameT r q) = true ↔ _
    rw [Bool.and_eq_true, same1_iff, sameT_iff r q]
    constructor
    · rintro ⟨rfl, rfl⟩; rfl
    · intro h; injection h with h1 h2; exact ⟨h1, h2⟩
theorem sameT_self (es : List E) : sameT es es = true := (sameT_iff es es).2 rfl
theorem tree_back {es : List E} (h : treeE es = true) : progTree (treeT es) = some es := (prog_tree _ _).2 ⟨h, by unfold treeT; rw [if_pos h, linesE_T]⟩
theorem prog_text {s : ByteArray} {es : List E} (h : progTree s = some es) : treeE es = true ∧ treeT es = s := by
  obtain ⟨h1, h2⟩ := (prog_tree _ _).1 h
  exact ⟨h1, by unfold treeT; rw [if_pos h1, ← linesE_T, h2]⟩
theorem tree_no {es : List E} (h : treeE es = false) : treeT es = ⟨#[]⟩ := by unfold treeT; rw [if_neg (by simp [h])]
theorem prog_small (s : ByteArray) : Small 16 ((progTree s).getD []) := by
  cases h : progTree s with
  | none => exact ⟨Nat.zero_le _, fun _ h => by simp at h⟩
  | some es => exact tree_sizes (prog_text h).1
/-- Two trees' texts are one just if they are. -/
theorem text_same {s : ByteArray} {es fs : List E} (h : progTree s = some fs) (ht : treeE es = true) : sameT fs es = (s.toList == (treeT es).toList) := by
  by_cases he : fs = es
  · have := (prog_text h).2
    rw [he] at this
    rw [he, sameT_self, this]; simp
  · have hs : ¬ s = treeT es := fun q => by
      rw [q, tree_back ht] at h
      exact he (Option.some.inj h).symm
    rw [(str_no hs).1]
    cases hb : sameT fs es with
    | false => rfl
    | true => exact absurd ((sameT_iff _ _).1 hb) he
end Go.Proofs.YtgkfhcpegdlejaaGreatDoor

/-
  Plain facts on trees' texts that are cut behind a line.
-/
namespace Go.Proofs.YtgkfhcpegdlejaaGreatDoor
open Go.RowKit Go.Lib

theorem linesL_cons (ws : List (List UInt8)) (R : List (List (List UInt8))) : linesL (ws :: R) = joinL ws ++ 10 :: linesL R := by simp [linesL]
theorem lines_cut : ∀ (R : List (List (List UInt8))) (i : Nat), (∀ x ∈ R, lineOk x) → (linesL R)[i]? = some 10 → ∃ j, j ≤ R.length ∧ (linesL R).take (i + 1) = linesL (R.take j)
  | [], i, _, h => by simp [linesL] at h
  | ws :: R, i, hok, h => by
    rw [linesL_cons] at h ⊢
    have hno := join_no10 ws (hok ws List.mem_cons_self).2.2
    rcases Nat.lt_trichotomy i (joinL ws).length with hlt | heq | hgt
    · rw [List.getElem?_append_left hlt, List.getElem?_eq_getElem hlt] at h
      exact absurd (Option.some.inj h) (hno _ (List.getElem_mem hlt))
    · refine ⟨1, by simp, ?_⟩
      rw [show (ws :: R).take 1 = [ws] from rfl, linesL_cons, heq, List.take_append, List.take_of_length_le (by omega), Nat.add_sub_cancel_left]
      simp [linesL]
    · rw [List.getElem?_append_right (by omega)] at h
      obtain ⟨m, hm⟩ : ∃ m, i - (joinL ws).length = m + 1 := ⟨i - (joinL ws).length - 1, by omega⟩
      rw [hm, List.getElem?_cons_succ] at h
      obtain ⟨j, hj, e⟩ := lines_cut R m (fun x hx => hok x (List.mem_cons_of_mem _ hx)) h
      refine ⟨j + 1, by simpa using hj, ?_⟩
      rw [List.take_succ_cons, linesL_cons, ← e, List.take_append, List.take_of_length_le (by omega), show i + 1 - (joinL ws).length = (m + 1) + 1 from by omega, List.take_succ_cons]
theorem okAt_take (es : List E) (j i : Nat) (h : i < j) : okAt (es.take j) i = okAt es i := by
  unfold okAt
  rw [List.getElem?_take_of_lt h, List.getElem?_take_of_lt (show i - 1 < j by omega), List.take_take, Nat.min_eq_left (by omega)]
theorem tree_take {es : List E} (h : treeE es = true) (j : Nat) : treeE (es.take j) = true := by
  unfold treeE at h ⊢
  rw [Bool.and_eq_true] at h ⊢
  obtain ⟨h1, h2⟩ := h
  have h1 := of_decide_eq_true h1
  refine ⟨decide_eq_true (by rw [List.length_take]; omega), List.all_eq_true.2 fun i hi => ?_⟩
  have hi := List.mem_range.1 hi
  rw [List.length_take] at hi
  rw [okAt_take es j i (by omega)]
  exact List.all_eq_true.1 h2 i (List.mem_range.2 (by omega))
theorem text_cut {es : List E} (h : treeE es = true) {i : Nat} (hi : i < (treeT es).size) (hc : (treeT es)[i] = 10) : ∃ j, j ≤ es.length ∧ progTree ((treeT es).extract 0 (i + 1)) = some (es.take j) := by
  have hf := fit_tree h
  have hT : treeT es = linesE es := by unfold treeT; rw [if_pos h, linesE_T]
  obtain ⟨h1, h2⟩ := lines_ws es hf
  have hg : (LB (treeT es))[i]? = some 10 := by
    show (treeT es).data.toList[i]? = some 10
    rw [Array.getElem?_toList]
    exact Array.getElem?_eq_some_iff.2 ⟨hi, hc⟩
  rw [hT, h1] at hg
  obtain ⟨j, hj, e⟩ := lines_cut _ i h2 hg
  rw [List.length_map] at hj
  refine ⟨j, hj, (prog_tree _ _).2 ⟨tree_take h j, lb_inj ?_⟩⟩
  have hf' := fit_tree (tree_take h j)
  rw [(lines_ws _ hf').1, lb_extract _ _ _ (by omega), List.drop_zero, hT, h1, e, List.map_take]
theorem tree_len {es : List E} (h : 0 < (treeT es).size) : treeE es = true ∧ 0 < es.length := by
  cases ht : treeE es with
  | false => rw [tree_no ht] at h; exact absurd h (by decide)
  | true =>
    refine ⟨rfl, ?_⟩
    cases es with
    | nil => exact absurd h (by decide)
    | cons _ _ => simp
end Go.Proofs.YtgkfhcpegdlejaaGreatDoor

/-
  Sizes of drawn layers' texts.
-/
namespace Go.Proofs.YtgkfhcpegdlejaaGreatDoor
open Go.RowKit Go.Lib

theorem Mk.lines_le16 : ∀ (es : List Mk.E), (∀ e ∈ es, e.p.size ≤ 16 ∧ e.x.size ≤ 16) → (Mk.linesT es).size ≤ es.length * 36
  | [], _ => by show 0 ≤ _; omega
  | e :: r, h => by
    have h1 := Mk.lines_le16 r (fun x hx => h x (List.mem_cons_of_mem _ hx))
    have h2 := h e List.mem_cons_self
    have h3 := Mk.markT_le e
    show (Mk.markT e ++ ⟨#[10]⟩ ++ Mk.linesT r).size ≤ (r.length + 1) * 36
    rw [ByteArray.size_append, ByteArray.size_append, Nat.add_mul]
    show (Mk.markT e).size + 1 + _ ≤ _
    omega
theorem Mk.lay_le16 {es : List Mk.E} {n : Nat} (h : Mk.Drn n es) : (Mk.layT es).size ≤ n * 36 := by
  unfold Mk.layT
  split
  · have := Mk.lines_le16 es (fun e he => ⟨Mk.okP_size (h.2 e he).1, (h.2 e he).2⟩)
    have h2 := Nat.mul_le_mul_right 36 h.1
    omega
  · exact Nat.zero_le _

end Go.Proofs.YtgkfhcpegdlejaaGreatDoor
