/-
  What the row's step tells of a list of entries that came in.
-/
import Derived.Deep.Slices
import Derived.Deep.Strs
import Derived.Test.YtkjpmngohocmlaaGreatDoorHPk21
namespace Go.Proofs.YtkjpmngohocmlaaGreatDoor
open Go.RowKit Go.Lib Go.Deep

theorem Tryz.cells9 : Tryz.prog.cellsOf 9 = 1 := by kernel_rfl
theorem Tryz.cells4 : Tryz.prog.cellsOf 4 = 1 := by kernel_rfl

theorem addr_add (b off k : Nat) : (⟨b, off, none⟩ : Addr).add k = ⟨b, off + k, none⟩ := by
  by_cases h : k = 0
  · subst h; simp [Addr.add]
  · simp [Addr.add, h]

/-- A list of entries lies there. -/
def EntSl (w : World) (a : Option Addr) (len cap : Nat) (es : List E) : Prop := es.length = len ∧ len ≤ cap ∧ len ≤ maxLen ∧ (∀ e ∈ es, e.p.size ≤ maxLen ∧ e.x.size ≤ maxLen) ∧ ∃ g o, (0 < es.length → a = some ⟨g, o, none⟩) ∧ Ents w g o es

end Go.Proofs.YtkjpmngohocmlaaGreatDoor

/-
  What the exact laws have in common.
-/
namespace Go.Proofs.YtkjpmngohocmlaaGreatDoor
open Go.RowKit Go.Lib

theorem sameES_self (es : List E) : sameES es es = true := by
  unfold sameES
  rw [decide_eq_true rfl, Bool.true_and, List.all_eq_true]
  intro i hi
  rw [List.getElem?_eq_getElem (List.mem_range.1 hi)]
  exact (sameE_iff _ _).2 rfl

theorem B3E {a b c : World} (h : Below a.heap.size a b) (k : Below b.heap.size b c) : Below a.heap.size a c := h.trans (k.mono h.size)

end Go.Proofs.YtkjpmngohocmlaaGreatDoor
