/-
  What the listed variables give the walks.
-/
import Derived.Test.YtfbhkcfecdbdeaaDoorRows
import Derived.Test.YtfbhkcfecdbdeaaDoorPk07
import Derived.ProofKit
import Derived.LaidMore
import Derived.Stop.LaidErr
import Derived.Stop.LaidTwo
import Derived.MakeChecks
import Derived.OpenVars
import Derived.WalkKit
import Derived.OwnWalk
import Derived.Outline
import Derived.Below
import Derived.Test.YtfbhkcfecdbdeaaDoorPk03
namespace Go.Proofs.YtfbhkcfecdbdeaaDoor
open Go.ChangeShapes Go.WideShapes Go.ChangeAt Go.RowKit

theorem own : ownKnob Tryd.prog.godebug = none := by kernel_rfl
theorem laidOut : laidOutB Tryd.prog = true := by kernel_rfl
theorem gN : Tryd.prog.globalNamed "loop.example/pargeting/impl.errNone" = some 0 := by kernel_rfl
theorem gD : Tryd.prog.globalNamed "loop.example/pargeting/impl.errNotDir" = some 1 := by kernel_rfl
theorem gNt : (Tryd.prog.globals[0]?).map (·.type) = some 61 := by kernel_rfl
theorem gDt : (Tryd.prog.globals[1]?).map (·.type) = some 61 := by kernel_rfl
theorem cellsEs : Tryd.prog.cellsOf 161 = 1 := by kernel_rfl
theorem cellsStr : Tryd.prog.cellsOf 9 = 1 := by kernel_rfl
theorem star : "*" ++ "errors.errorString" = "*errors.errorString" := by decide
theorem rowEs (u : TypeId) (h : Tryd.prog.typeName? 3 u = some "*errors.errorString") : u = 138 :=
  typeName_ptr_named (nm := "errors.errorString") (by rw [star]; kernel_rfl) (by kernel_rfl) (by decide) u (by rw [star]; exact h)

abbrev laidL : List (String × DataW Unit) := [("loop.example/pargeting/impl.errNone", Rows.laid_loop_example_pargeting_impl_errNone), ("loop.example/pargeting/impl.errNotDir", Rows.laid_loop_example_pargeting_impl_errNotDir)]
theorem door_met (os : Os) (args : Array Value) : laidMetH Tryd.prog laidL ((World.doorLaid Tryd.prog 400 os).forCall (fun _ _ => 0) ⟨#[], args, []⟩).memory :=
  laidMetH_of_parts3 (fuel := 8) (laidMet_of_run' 8 (by kernel_rfl) (by kernel_rfl)) (by kernel_rfl) (by kernel_rfl)
theorem errs_of_laid {W : World} (h : laidMetH Tryd.prog laidL W) : ∃ ae, Errs2 W ae := by
  rw [MakeChecks.laidMetH_plain _ _ _ (by kernel_rfl)] at h
  obtain ⟨a0, a1, s0, s1, c0, c1, t0, t1, hv0, hv1, _⟩ := laid_sentinels2 h gN gNt gD gDt Tryd.underlying61 rowEs Tryd.underlying138 Tryd.underlying161 rfl rfl Tryd.underlying9 cellsEs cellsStr
  exact ⟨fun c => if c = 2 then a0 else a1, by simpa using World.var?_cell gN hv0 0, by simpa using World.var?_cell gD hv1 0⟩
end Go.Proofs.YtfbhkcfecdbdeaaDoor

/-
  Entries in memory.
-/
namespace Go.Proofs.YtfbhkcfecdbdeaaDoor
open Go.RowKit Go.Lib

abbrev encE (e : E) : Value := .agg #[.string e.p, .bool e.d, .string e.x]
/-- The entries lie in the block g, from the cell o on. -/
def Ents (w : World) (g o : Nat) (es : List E) : Prop :=
  ∀ i (h : i < es.length), w.cell? ⟨g, o + i * 3, none⟩ = some (.string es[i].p) ∧ w.cell? ⟨g, o + i * 3 + 1, none⟩ = some (.bool es[i].d) ∧ w.cell? ⟨g, o + i * 3 + 2, none⟩ = some (.string es[i].x)
theorem hidE {p : Prop} (h : p) : Hid p := h
theorem ret_bE {a b : Bool} (h : a = b) : Ending.returned (.bool a) = .returned (.bool b) := by rw [h]
theorem ret_iE {k : IntKind} {a b : Int} (h : a = b) : Ending.returned (.int k a) = .returned (.int k b) := by rw [h]

theorem Ents.take {w : World} {g o : Nat} {es : List E} (h : Ents w g o es) (k : Nat) : Ents w g o (es.take k) := by
  intro i hi
  rw [List.length_take] at hi
  have := h i (by omega)
  rw [List.getElem_take]; exact this
theorem Ents.below {w w' : World} {g o : Nat} {es : List E} (h : Ents w g o es) (hb : Below w.heap.size w w') : Ents w' g o es := by
  intro i hi
  obtain ⟨c0, c1, c2⟩ := h i hi
  have hg : g < w.heap.size := World.block_lt_of_cell? w ⟨g, _, none⟩ c0
  exact ⟨(hb.cell (p := ⟨g, _, none⟩) hg).trans c0, (hb.cell (p := ⟨g, _, none⟩) hg).trans c1, (hb.cell (p := ⟨g, _, none⟩) hg).trans c2⟩

end Go.Proofs.YtfbhkcfecdbdeaaDoor
