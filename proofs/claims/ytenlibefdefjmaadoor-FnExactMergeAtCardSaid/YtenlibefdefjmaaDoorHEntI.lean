/-
  The walk of the program's own: a node as an entry.
-/
import Derived.Test.YtenlibefdefjmaaDoorHTreeOf
namespace Go.Proofs.YtenlibefdefjmaaDoor
open Go.RowKit Go.Shelf Go.Lib

attribute [local go_sem] Oper.semAt_some

theorem strClone_any (s : ByteArray) (hs : s.size ≤ 281474976710656) (w : World) :
    Calls Tryd.prog 29 #[.string s] w fun e w' => e = .returned (.string s) ∧ Below w.heap.size w w' := by
  go_enter Tryd.func29, Tryd.ntmps29
  go_wp2_with (go_at_call 37; refine (sClone_any _ _ hs).mono ?_; rintro e w' ⟨rfl, hB⟩)
  go_ret
  exact ⟨rfl, hB⟩

theorem ent_any (d : Bool) (x : ByteArray) (m : Option Nat) (s : ByteArray) (w : World) :
    Calls Tryd.prog 28 #[.agg #[.bool d, .string x, .map m], .string s] w fun e w' => e = .returned (.agg #[.string s, .bool d, .string x]) ∧ Below w.heap.size w w' := by
  go_enter Tryd.func28, Tryd.ntmps28
  go_wp2
  exact bodyPost_ret (v := .agg #[.string s, .bool d, .string x]) (by simp [results, Tryd.results28, go_sem]) rfl ⟨rfl, ((Below.refl _ w).alloc (Nat.le_refl _) _).alloc (by simp) _⟩

theorem tget_at {es : List E} {s : ByteArray} (h : treeE es = true) :
    ((∀ A, atE es A s = (zeroN, false)) ∧ tgetE es s = (noneE, false)) ∨ ∃ d x, (∀ A, ∃ m, atE es A s = (.agg #[.bool d, .string x, .map m], true)) ∧ tgetE es s = (⟨s, d, x⟩, true) := by
  unfold tgetE
  rw [if_pos h]
  by_cases hr : isRoot s = true
  · right
    have hs := (isRoot_iff s).1 hr
    refine ⟨true, ⟨#[]⟩, fun A => ⟨some (A ⟨#[47]⟩), by unfold atE; rw [if_pos hr]⟩, ?_⟩
    rw [getE_root hr, hs]; rfl
  · have hr' : isRoot s = false := by simpa using hr
    rw [getE_look hr']
    cases hl : lookE es s with
    | none => left; exact ⟨fun A => by unfold atE; rw [hr', hl]; rfl, rfl⟩
    | some e =>
      right
      obtain ⟨_, h2⟩ := look_mem hl
      exact ⟨e.d, e.x, fun A => ⟨optV e.d (A s), by unfold atE; rw [hr', hl]; rfl⟩, by rw [← h2]; rfl⟩
/-- A box of three cells, carried over what leaves it. -/
theorem boxKept {W w1 : World} (hB : Below W.heap.size W w1) {b : Nat} {p q r : Value} (h : W.cell? ⟨b, 0, none⟩ = some p ∧ W.cell? ⟨b, 1, none⟩ = some q ∧ W.cell? ⟨b, 2, none⟩ = some r)
    (f : W.frozen? ⟨b, 0, none⟩ = false ∧ W.frozen? ⟨b, 1, none⟩ = false ∧ W.frozen? ⟨b, 2, none⟩ = false) :
    (w1.cell? ⟨b, 0, none⟩ = some p ∧ w1.cell? ⟨b, 1, none⟩ = some q ∧ w1.cell? ⟨b, 2, none⟩ = some r) ∧
    (∀ o, (w1.alloc o).cell? ⟨b, 0, none⟩ = some p) ∧ (∀ o, (w1.alloc o).cell? ⟨b, 1, none⟩ = some q) ∧ (∀ o, (w1.alloc o).cell? ⟨b, 2, none⟩ = some r) ∧
    (∀ o, (w1.alloc o).frozen? ⟨b, 0, none⟩ = false) ∧ (∀ o, (w1.alloc o).frozen? ⟨b, 1, none⟩ = false) ∧ (∀ o, (w1.alloc o).frozen? ⟨b, 2, none⟩ = false) ∧
    (w1.frozen? ⟨b, 0, none⟩ = false ∧ w1.frozen? ⟨b, 1, none⟩ = false ∧ w1.frozen? ⟨b, 2, none⟩ = false) := by
  have c0 := below_cell hB h.1
  have c1 := below_cell hB h.2.1
  have c2 := below_cell hB h.2.2
  have f0 := below_frozen hB h.1 f.1
  have f1 := below_frozen hB h.2.1 f.2.1
  have f2 := below_frozen hB h.2.2 f.2.2
  exact ⟨⟨c0, c1, c2⟩, fun o => cellOn o c0, fun o => cellOn o c1, fun o => cellOn o c2, fun o => frozenOn o c0 f0, fun o => frozenOn o c1 f1, fun o => frozenOn o c2 f2, f0, f1, f2⟩
end Go.Proofs.YtenlibefdefjmaaDoor
