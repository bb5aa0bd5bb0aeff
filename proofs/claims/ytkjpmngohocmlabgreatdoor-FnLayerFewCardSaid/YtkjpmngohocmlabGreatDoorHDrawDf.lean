/-
  The walk of the model's draw of two trees (for layers), whatever the code.
-/
import Derived.Test.YtkjpmngohocmlabGreatDoorHDrawTurn
namespace Go.Proofs.YtkjpmngohocmlabGreatDoor.Ly
open Go.RowKit Go.Lib

set_option maxHeartbeats 1000000 in
set_option maxRecDepth 100000 in
theorem DrawLayerDiff_any (w : World) (a : Option Addr) (len cap : Nat) (hl : len ≤ 1048576) (h : Cod w a len cap) :
    Calls Tryz.prog 7 #[.slice a len cap] w fun e w' => ∃ (v v' : Value) (es fs : List E), e = .returned (.tuple #[v, v']) ∧ LieB w' w.heap.size v es ∧ LieB w' w.heap.size v' fs ∧ Small 17 es ∧ Small 17 fs ∧ Below w.heap.size w w' := by
  go_enter Tryz.func7, Tryz.ntmps7
  go_wp2_with fail
  refine (DrawTreeTurned_any _ a len cap hl h).mono ?_
  rintro e w1 ⟨v, v', es, fs, rfl, h1, h3, h2, h4, hB⟩
  go_wp2
  go_ret2
  exact ⟨v, v', es, fs, rfl, h1, h2, h3, h4, hB⟩
end Go.Proofs.YtkjpmngohocmlabGreatDoor.Ly
