/-
  The walk of the program's own: a line laid behind a buffer.
-/
import Derived.Test.YtfbfmckfmdodlaaDoorHTxBuf
import Derived.Test.YtfbfmckfmdodlaaDoorHPk01
import Derived.Test.YtfbfmckfmdodlaaDoorHPk04
import Derived.Test.YtfbfmckfmdodlaaDoorHTxRet
namespace Go.Proofs.YtfbfmckfmdodlaaDoor
open Go.RowKit Go.Lib

theorem Tryd.infoU8 : (Tryd.prog.info? 5).map (fun i => (i.zero, i.size, i.bytes)) = some (some (.int .u8 0), 1, 1) := by kernel_rfl

theorem bufT {ops : Array Oper} {rest : List Oper} {o : Oper} {a : Act} {Q : Exit → Act → World → Prop} {w : World} (hgd : o.guard = none) (sl x : Operand)
    (ho : o.op = .call { callee := .builtin .append, args := #[sl, x], argTypes := #[83, 9] })
    (B : Nat) (v : Value) (s : ByteArray) (hs : a.eval sl = v) (W : World) (hb : BufB B 5 v s W w) (m : ByteArray) (hx : a.eval x = .string m) (hlen : s.size + m.size ≤ 140737488355328)
    (h : ∀ v' w', BufB B 5 v' (s ++ m) W w' → wpList Tryd.prog ops Q rest (a.put o.dst v') w') : wpList Tryd.prog ops Q (o :: rest) a w := by
  obtain ⟨i0, hi, hx0⟩ := Option.map_eq_some_iff.1 Tryd.infoU8
  simp only [Prod.mk.injEq] at hx0
  obtain ⟨hz0, hz1, hz2⟩ := hx0
  exact wpList_buf_text hgd sl x 83 9 ho B 5 i0 Tryd.underlying83 Tryd.underlying9 hi hz0 hz1 hz2 v s hs W hb m hx hlen h
theorem bufC {ops : Array Oper} {rest : List Oper} {o : Oper} {a : Act} {Q : Exit → Act → World → Prop} {w0 : World} (hgd : o.guard = none) (sl x : Operand)
    (ho : o.op = .call { callee := .builtin .append, args := #[sl, x], argTypes := #[83, 83] })
    (B : Nat) (v : Value) (s : ByteArray) (hs : a.eval sl = v) (W : World) (c : UInt8) (ci : Int) (hc : ci = (c.toNat : Int)) (hb : BufB B 5 v s W w0)
    (hx : a.eval x = .slice (some ⟨w0.heap.size, 0, none⟩) 1 1) (hlen : s.size + 1 ≤ 140737488355328)
    (h : ∀ v' w', BufB B 5 v' (s ++ ⟨#[c]⟩) W w' → wpList Tryd.prog ops Q rest (a.put o.dst v') w') : wpList Tryd.prog ops Q (o :: rest) a (w0.alloc (.cells #[.int .u8 ci] 5)) := by
  obtain ⟨i0, hi, hx0⟩ := Option.map_eq_some_iff.1 Tryd.infoU8
  simp only [Prod.mk.injEq] at hx0
  obtain ⟨hz0, hz1, hz2⟩ := hx0
  exact wpList_buf_byte hgd sl x 83 ho B 5 i0 Tryd.underlying83 hi hz0 hz1 hz2 v s hs W w0 c ci hc hb hx hlen h

theorem not_bytes {cs : Array Value} {fz : Nat × Nat} : ∀ cs' fz', Obj.cells cs 9 fz ≠ Obj.cells cs' 5 fz' := fun _ _ h => by injection h with _ h _; exact absurd h (by decide)

end Go.Proofs.YtfbfmckfmdodlaaDoor
