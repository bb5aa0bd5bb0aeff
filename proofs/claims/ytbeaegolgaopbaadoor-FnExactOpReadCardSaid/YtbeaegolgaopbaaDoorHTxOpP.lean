/-
  The text of what is done.
-/
import Derived.Test.YtbeaegolgaopbaaDoorHTxP
import Derived.Test.YtbeaegolgaopbaaDoorHPureE
namespace Go.Proofs.YtbeaegolgaopbaaDoor
open Go.RowKit Go.Lib

def oW1 : ByteArray := ⟨#[109, 97, 107, 101]⟩
def oW2 : ByteArray := ⟨#[112, 117, 116]⟩
def oW3 : ByteArray := ⟨#[114, 109]⟩
def oW4 : ByteArray := ⟨#[114, 109, 100, 105, 114]⟩
def oW5 : ByteArray := ⟨#[109, 111, 118, 101]⟩
def opW (k : Int) : ByteArray := if k = 1 then oW1 else if k = 2 then oW2 else if k = 3 then oW3 else if k = 4 then oW4 else oW5
/-- The text of what is done. -/
def opT (o : O) : ByteArray := if opB o = true then lineT (opW o.k) o.p [o.t, o.x] else ⟨#[]⟩
theorem empty_size {s : ByteArray} (h : emptyB s = true) : s.size = 0 := by
  unfold emptyB at h
  have : s.toList = [] := by simpa using h
  rw [Lib.toList_data] at this
  show s.data.size = 0
  rw [← Array.length_toList, this]; rfl
theorem opT_no {k : Int} {p t x : ByteArray} (h : opB ⟨k, p, t, x⟩ = false) : opT ⟨k, p, t, x⟩ = ⟨#[]⟩ := by unfold opT; rw [if_neg (by simp [h])]
theorem op_kind {k : Int} {p t x : ByteArray} (h : opB ⟨k, p, t, x⟩ = true) : k = 1 ∨ k = 2 ∨ k = 3 ∨ k = 4 ∨ k = 5 := by
  unfold opB at h
  simp only [Bool.and_eq_true, decide_eq_true_eq] at h
  omega
theorem op_other {k : Int} {p t x : ByteArray} (h : opB ⟨k, p, t, x⟩ = true) (hk : k ≠ 5) : t.size = 0 := by
  unfold opB at h
  simp only [Bool.and_eq_true] at h
  rw [if_neg hk] at h
  simp only [Bool.and_eq_true] at h
  exact empty_size h.2.1.1
theorem op_move {p t x : ByteArray} (h : opB ⟨5, p, t, x⟩ = true) : ¬ t.size = 0 ∧ x.size = 0 := by
  unfold opB at h
  rw [if_pos rfl] at h
  simp only [Bool.and_eq_true] at h
  exact ⟨by have := (pathB_head t h.2.1).1; omega, empty_size h.2.2⟩
theorem opT_move {p t x : ByteArray} (h : opB ⟨5, p, t, x⟩ = true) : opT ⟨5, p, t, x⟩ = oW5 ++ ⟨#[32]⟩ ++ p ++ ⟨#[32]⟩ ++ t := by
  obtain ⟨h1, h2⟩ := op_move h
  unfold opT; rw [if_pos h]; show lineT oW5 p [t, x] = _
  unfold lineT restT
  rw [restT_one, if_neg h1, if_pos h2, app_nil, ← app_assoc]
theorem opT_bare {k : Int} {p t x : ByteArray} (h : opB ⟨k, p, t, x⟩ = true) (hk : k ≠ 5) (h0 : x.size = 0) : opT ⟨k, p, t, x⟩ = opW k ++ ⟨#[32]⟩ ++ p := by
  unfold opT; rw [if_pos h]
  unfold lineT restT
  rw [restT_one, if_pos (op_other h hk), if_pos h0, app_nil, app_nil]
theorem opT_data {k : Int} {p t x : ByteArray} (h : opB ⟨k, p, t, x⟩ = true) (hk : k ≠ 5) (h0 : ¬ x.size = 0) : opT ⟨k, p, t, x⟩ = opW k ++ ⟨#[32]⟩ ++ p ++ ⟨#[32]⟩ ++ x := by
  unfold opT; rw [if_pos h]
  unfold lineT restT
  rw [restT_one, if_pos (op_other h hk), if_neg h0, nil_app, ← app_assoc]

end Go.Proofs.YtbeaegolgaopbaaDoor
