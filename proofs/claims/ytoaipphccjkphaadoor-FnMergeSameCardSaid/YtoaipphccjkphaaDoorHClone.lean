import Derived.Shelf.Pu.Clone
import Derived.KernelRfl
import Derived.Test.YtoaipphccjkphaaDoorProg
namespace Go.Proofs.YtoaipphccjkphaaDoor
open Go.RowKit Go.Shelf
def renC : Ren where
 f := fun n => if n = 25 then 58 else n
 t := fun n => if n = 37 then 22 else if n = 47 then 117 else n
 g := fun n => n
theorem laysC : LaysPu.n25 Tryd.prog renC where
 mixed := by kernel_rfl
 f25 := by kernel_rfl
 t0 := by kernel_rfl
 a0 := fun _ => by kernel_rfl
 z0 := fun _ => by kernel_rfl
 v0 := fun _ => by kernel_rfl
 i0 := by kernel_rfl
 t3 := by kernel_rfl
 a3 := fun _ => by kernel_rfl
 z3 := fun _ => by kernel_rfl
 v3 := fun _ => by kernel_rfl
 i3 := by kernel_rfl
 t4 := by kernel_rfl
 a4 := fun _ => by kernel_rfl
 z4 := fun _ => by kernel_rfl
 v4 := fun _ => by kernel_rfl
 i4 := by kernel_rfl
 t5 := by kernel_rfl
 a5 := fun _ => by kernel_rfl
 z5 := fun _ => by kernel_rfl
 v5 := fun _ => by kernel_rfl
 i5 := by kernel_rfl
 t9 := by kernel_rfl
 a9 := fun _ => by kernel_rfl
 z9 := fun _ => by kernel_rfl
 v9 := fun _ => by kernel_rfl
 i9 := by kernel_rfl
 t37 := by kernel_rfl
 a37 := fun _ => by kernel_rfl
 z37 := fun _ => by kernel_rfl
 v37 := fun _ => by kernel_rfl
 i37 := by kernel_rfl
 t47 := by kernel_rfl
 a47 := fun _ => by kernel_rfl
 z47 := fun _ => by kernel_rfl
 v47 := fun _ => by kernel_rfl
 i47 := by kernel_rfl
theorem sClone_any (s : ByteArray) (w : World) (h : s.size ≤ 281474976710656) :
  Calls Tryd.prog 58 #[.string s] w fun e w' => e = .returned (.string s) ∧ Below w.heap.size w w' :=
 AnyPu.stringslite_Clone laysC s w h
end Go.Proofs.YtoaipphccjkphaaDoor
