/-
  The walk of the model's draw of a tree and a text, for lists.
-/
import Derived.Test.YtbcogekeoklddaaGreatDoorHDrawGet
namespace Go.Proofs.YtbcogekeoklddaaGreatDoor
open Go.RowKit Go.Lib

theorem DrawTreeList_any (w : World) (a : Option Addr) (len cap : Nat) (hl : len ≤ 1048576) (h : Cod w a len cap) :
    Calls Tryz.prog 18 #[.slice a len cap] w fun e w' => ∃ (v : Value) (es : List E) (s : ByteArray), e = .returned (.tuple #[v, .string s]) ∧ LieB w' w.heap.size v es ∧ Small 17 es ∧ s.size ≤ 16 ∧ Below w.heap.size w w' := by
  have HC := hidR h
  clear h
  go_enter Tryz.func18, Tryz.ntmps18
  go_wp2_with fail
  refine (DrawTreeGet_any _ a len cap hl HC.out).mono ?_
  rintro e w1 ⟨v, es, s, rfl, hL, hS, hs, hB⟩
  have HL := hidR hL
  have HB := hidR hB
  have HS := hidR hS
  clear hL hB hS
  go_wp2
  go_ret2
  exact ⟨v, es, s, rfl, HL.out, HS.out, hs, HB.out⟩
end Go.Proofs.YtbcogekeoklddaaGreatDoor
