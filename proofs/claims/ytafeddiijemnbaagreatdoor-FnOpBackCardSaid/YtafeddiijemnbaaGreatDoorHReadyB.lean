import Derived.Stop.RegionWithIn
import Derived.OwnWalkIn
namespace Go.Proofs.YtafeddiijemnbaaGreatDoor
open Go.RowKit
theorem ready_append {F : Fence} {n : Nat} {P : Program} {md : Region.Mode} {ops : Array Oper} {Q : Exit → Act → World → Prop} {fuel : Nat} {listed : Array Bool} {a : Act} {w w' : World} {v' : Value} {i : Nat} {o : Oper}
  (s x : Operand) (t u : TypeId) (ho : ops[i]? = some o) (hw : Region.wanted o (yielded ops a.tmps) = true) (hop : o.op = .call { callee := .builtin .append, args := #[s, x], argTypes := #[t, u] })
  (hrun : (Builtin.append_ #[t, u] o.type #[a.eval s, a.eval x]).run P w = .ok v' w') (h : wpAnyIn F n P md ops Q fuel (listed.setIfInBounds i true) (a.put o.dst v') w') :
  AllReadyIn F n P md ops Q fuel listed a w [i] := by
 refine AllReadyIn.cons ho (fun K hK => ?_) AllReadyIn.nil; rw [if_pos hw]; unfold Oper.wpIn; refine ⟨by simp [Oper.about, hop, resolve, Target.leads, Sem.run_pure], ?_⟩; rw [Oper.semAt_plain F _ _ (by rw [hop]; intro c hc'; cases hc')]; simp [execOp, hop, resolve, invoke, builtin, hrun, Result.andThen]; exact hK _ _ h
theorem ready_delete0 {P : Program} {md : Region.Mode} {ops : Array Oper} {Q : Exit → Act → World → Prop} {fuel : Nat} {listed : Array Bool} {a : Act} {w w' : World} {v' : Value} {i : Nat} {o : Oper}
  (s x : Operand) (t u : TypeId) (ho : ops[i]? = some o) (hw : Region.wanted o (yielded ops a.tmps) = true) (hop : o.op = .call { callee := .builtin .delete, args := #[s, x], argTypes := #[t, u] })
  (hrun : (Builtin.delete_ #[t, u] o.type #[a.eval s, a.eval x]).run P w = .ok v' w') (h : wpAny P md ops Q fuel (listed.setIfInBounds i true) (a.put o.dst v') w') :
  AllReady P md ops Q fuel listed a w [i] := by
 refine AllReady.cons ho (fun K hK => ?_) AllReady.nil; rw [if_pos hw]; unfold Oper.wp; simp [execOp, hop, resolve, invoke, builtin, hrun, Result.andThen, Oper.upon]; exact hK _ _ h
end Go.Proofs.YtafeddiijemnbaaGreatDoor
