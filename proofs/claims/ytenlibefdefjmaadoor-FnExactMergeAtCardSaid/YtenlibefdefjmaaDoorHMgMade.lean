/-
  The walk of the program's made: what two make of a path.
-/
import Derived.Laws.StructEq
import Derived.Laws.Small
import Derived.KernelRfl
import Derived.Deep.RegionHeld3
import Derived.Test.YtenlibefdefjmaaDoorHMgTold
import Derived.Test.YtenlibefdefjmaaDoorHMgSet4
namespace Go.Proofs.YtenlibefdefjmaaDoor.Mg
open Go.RowKit Go.Lib

theorem eq_entN (a b c a' b' c' : _) (w : World) : (Op.equalIn 9999 25 (.agg #[.string a, .bool b, .string c]) (.agg #[.string a', .bool b', .string c'])).run Tryd.prog w = .ok ((a.toList == a'.toList) && (b == b') && (c.toList == c'.toList)) w := by
  have u9 := Tryd.underlying9
  have u4 := Tryd.underlying4
  have a9 := Tryd.isAgg9
  have a4 := Tryd.isAgg4
  have z9 := Tryd.sizeOf9
  have z4 := Tryd.sizeOf4
  have hS : Tryd.prog.underlying 25 = some (.struct (Tryd.prog.fieldsOf 25)) := by kernel_rfl
  have hp : Tryd.prog.stoodInHeld 25 = false := by kernel_rfl
  rw [show (9999 : Nat) = 9998 + 1 from rfl, run_equalIn_agg w 9998 25 _ _ hS hp]
  simp only [Program.fieldsOf, Tryd.underlying25]
  go_simp
  cases h1 : (a.toList == a'.toList) <;> cases h2 : (b == b') <;> cases h3 : (c.toList == c'.toList) <;> simp_all
theorem eq_told (p : ByteArray) (d : Bool) (x : ByteArray) (b : Bool) (p' : ByteArray) (d' : Bool) (x' : ByteArray) (b' : Bool) (w : World) : (Op.equalIn 10000 39 (.agg #[.string p, .bool d, .string x, .bool b]) (.agg #[.string p', .bool d', .string x', .bool b'])).run Tryd.prog w = .ok (eqT (⟨p, d, x⟩, b) (⟨p', d', x'⟩, b')) w := by
  have u4 := Tryd.underlying4
  have a4 := Tryd.isAgg4
  have z4 := Tryd.sizeOf4
  have ue := Tryd.underlying25
  have ae := Tryd.isAgg25
  have ze := Tryd.sizeOf25
  have hS : Tryd.prog.underlying 39 = some (.struct (Tryd.prog.fieldsOf 39)) := by kernel_rfl
  have hp : Tryd.prog.stoodInHeld 39 = false := by kernel_rfl
  have hq := eq_entN p d x p' d' x' w
  rw [show (10000 : Nat) = 9999 + 1 from rfl, run_equalIn_agg w 9999 39 _ _ hS hp]
  simp only [Program.fieldsOf, Tryd.underlying39]
  go_simp
  unfold eqT sameT1
  dsimp only
  cases h1 : (p.toList == p'.toList) <;> cases h2 : (d == d') <;> cases h3 : (x.toList == x'.toList) <;> cases h4 : (b == b') <;> simp_all
theorem guard_told (op : BinOp) (x y : Operand) (xs ys : Array Value) (w : World) : (eqGuard op 39 x y (.agg xs) (.agg ys)).run Tryd.prog w = .ok () w := run_eqGuard_agg w op 39 x y xs ys (by kernel_rfl)
attribute [local go_sem high] eq_told guard_told

/-- What the three have at a path, as the program writes it. -/
def encA (s : ByteArray) (x y z : E × Bool) : Value := .agg #[.string s, .string x.1.p, .bool x.1.d, .string x.1.x, .bool x.2, .string y.1.p, .bool y.1.d, .string y.1.x, .bool y.2, .string z.1.p, .bool z.1.d, .string z.1.x, .bool z.2]
/-- The error that names a path at which the two are at odds. -/
def errA (s : ByteArray) (ok : Bool) : Value := if ok = true then .nilIface else .iface 52 (.agg #[.string s])

set_option maxHeartbeats 4000000 in
set_option maxRecDepth 100000 in
theorem made_any (w : World) (s : ByteArray) (x y z : E × Bool) :
    Calls Tryd.prog 16 #[encA s x y z] w fun r w' => r = .returned (.tuple #[encT ((at3 x y z).1, (at3 x y z).2.1), errA s (at3 x y z).2.2]) ∧ Below w.heap.size w w' := by
  obtain ⟨⟨xp, xd, xx⟩, xb⟩ := x
  obtain ⟨⟨yp, yd, yx⟩, yb⟩ := y
  obtain ⟨⟨zp, zd, zx⟩, zb⟩ := z
  unfold encA
  dsimp only
  cases h1 : eqT (⟨yp, yd, yx⟩, yb) (⟨xp, xd, xx⟩, xb) with
  | true =>
    have hq : at3 (⟨xp, xd, xx⟩, xb) (⟨yp, yd, yx⟩, yb) (⟨zp, zd, zx⟩, zb) = (⟨zp, zd, zx⟩, zb, true) := by unfold at3; rw [h1]; rfl
    rw [hq]
    go_enter Tryd.func16, Tryd.ntmps16
    go_wp2
    exact bodyPost_ret (v := .tuple #[.agg #[.string zp, .bool zd, .string zx, .bool zb], .nilIface]) (by simp [results, Tryd.f16, go_sem]) rfl ⟨rfl, ((Below.refl _ w).alloc (Nat.le_refl _) _).alloc (by simp) _⟩
  | false =>
    cases h2 : eqT (⟨zp, zd, zx⟩, zb) (⟨xp, xd, xx⟩, xb) with
    | true =>
      have hq : at3 (⟨xp, xd, xx⟩, xb) (⟨yp, yd, yx⟩, yb) (⟨zp, zd, zx⟩, zb) = (⟨yp, yd, yx⟩, yb, true) := by unfold at3; rw [h1, h2]; rfl
      rw [hq]
      go_enter Tryd.func16, Tryd.ntmps16
      go_wp2
      exact bodyPost_ret (v := .tuple #[.agg #[.string yp, .bool yd, .string yx, .bool yb], .nilIface]) (by simp [results, Tryd.f16, go_sem]) rfl ⟨rfl, ((Below.refl _ w).alloc (Nat.le_refl _) _).alloc (by simp) _⟩
    | false =>
      cases h3 : eqT (⟨yp, yd, yx⟩, yb) (⟨zp, zd, zx⟩, zb) with
      | true =>
        have hq : at3 (⟨xp, xd, xx⟩, xb) (⟨yp, yd, yx⟩, yb) (⟨zp, zd, zx⟩, zb) = (⟨yp, yd, yx⟩, yb, true) := by unfold at3; rw [h1, h2, h3]; rfl
        rw [hq]
        go_enter Tryd.func16, Tryd.ntmps16
        go_wp2
        exact bodyPost_ret (v := .tuple #[.agg #[.string yp, .bool yd, .string yx, .bool yb], .nilIface]) (by simp [results, Tryd.f16, go_sem]) rfl ⟨rfl, ((Below.refl _ w).alloc (Nat.le_refl _) _).alloc (by simp) _⟩
      | false =>
        have hq : at3 (⟨xp, xd, xx⟩, xb) (⟨yp, yd, yx⟩, yb) (⟨zp, zd, zx⟩, zb) = (noneE, false, false) := by unfold at3; rw [h1, h2, h3]; rfl
        rw [hq]
        go_enter Tryd.func16, Tryd.ntmps16
        go_wp2
        go_region_with (fail)
        all_goals go_wp2
        all_goals exact bodyPost_ret (v := .tuple #[.agg #[.string ⟨#[]⟩, .bool false, .string ⟨#[]⟩, .bool false], .iface 52 (.agg #[.string s])]) (by simp [results, Tryd.f16, go_sem]) rfl ⟨rfl, Below.drew (((Below.refl _ w).alloc (Nat.le_refl _) _).alloc (by simp) _)⟩
end Go.Proofs.YtenlibefdefjmaaDoor.Mg
