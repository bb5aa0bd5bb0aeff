/-
  Plain facts on rows of marks, and on putting one into a list.
-/
import Derived.Test.YtlobdnnhpaklgaaGreatDoorHPk00
namespace Go.Proofs.YtlobdnnhpaklgaaGreatDoor.Mk
open Go.Lib

def cellsE (e : E) : List Value := [.string e.p, .int .i64 e.d, .string e.x]
def rowE (es : List E) : List Value := es.flatMap cellsE
theorem rowE_len : ∀ es : List E, (rowE es).length = es.length * 3
  | [] => rfl
  | e :: r => by
    show (cellsE e ++ rowE r).length = _
    rw [List.length_append, rowE_len r, List.length_cons]
    show 3 + _ = _; omega
def ltP (e : E) (f : E) : Bool := Op.bytesLess f.p.toList e.p.toList
def restE (e : E) : List E → List E
  | f :: r => if (f.p.toList == e.p.toList) = true then r else f :: r
  | [] => []
/-- A mark is put into a list, in the place of what is there. -/
def putE (es : List E) (e : E) : List E := es.takeWhile (ltP e) ++ [e] ++ restE e (es.dropWhile (ltP e))
theorem span_at {q : E → Bool} : ∀ (es : List E) (k : Nat), k ≤ es.length → (es.take k).all q = true → (∀ h : k < es.length, q es[k] = false) → es.takeWhile q = es.take k ∧ es.dropWhile q = es.drop k
  | [], 0, _, _, _ => ⟨rfl, rfl⟩
  | e :: r, 0, _, _, h => by
    have := h (by simp)
    simp only [List.getElem_cons_zero] at this
    simp [this]
  | e :: r, k + 1, hk, ha, h => by
    simp only [List.take_succ_cons, List.all_cons, Bool.and_eq_true] at ha
    obtain ⟨h1, h2⟩ := span_at r k (by simpa using hk) ha.2 (fun hh => by have := h (by simpa using hh); simpa using this)
    simp [ha.1, h1, h2]
theorem rest_len (e : E) (es : List E) : (restE e es).length ≤ es.length := by
  cases es with
  | nil => exact Nat.le_refl _
  | cons f r =>
    show (if (f.p.toList == e.p.toList) = true then r else f :: r).length ≤ _
    split
    · simp
    · exact Nat.le_refl _
end Go.Proofs.YtlobdnnhpaklgaaGreatDoor.Mk
