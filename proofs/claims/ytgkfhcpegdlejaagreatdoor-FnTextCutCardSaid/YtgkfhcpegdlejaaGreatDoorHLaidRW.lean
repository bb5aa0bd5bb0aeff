/-
  What the listed variables give the walks: the two errors, and the words of marks.
-/
import Derived.Test.YtgkfhcpegdlejaaGreatDoorRows
import Derived.Test.YtgkfhcpegdlejaaGreatDoorHTxTab
import Derived.Test.YtgkfhcpegdlejaaGreatDoorHPk04
import Derived.Test.YtgkfhcpegdlejaaGreatDoorHPk10
import Derived.ProofKit
import Derived.LaidMore
import Derived.Stop.LaidErr
import Derived.Stop.LaidTwo
import Derived.MakeChecks
import Derived.OpenVars
namespace Go.Proofs.YtgkfhcpegdlejaaGreatDoor
open Go.ChangeShapes Go.WideShapes Go.ChangeAt Go.RowKit

theorem own : ownKnob Tryz.prog.godebug = none := by kernel_rfl
theorem laidOut : laidOutB Tryz.prog = true := by kernel_rfl
theorem gN : Tryz.prog.globalNamed "loop.example/pargeting/impl.errNone" = some 3 := by kernel_rfl
theorem gD : Tryz.prog.globalNamed "loop.example/pargeting/impl.errNotDir" = some 4 := by kernel_rfl
theorem gNt : (Tryz.prog.globals[3]?).map (·.type) = some 93 := by kernel_rfl
theorem gDt : (Tryz.prog.globals[4]?).map (·.type) = some 93 := by kernel_rfl
theorem cellsEs : Tryz.prog.cellsOf 263 = 1 := by kernel_rfl
theorem cellsStr : Tryz.prog.cellsOf 9 = 1 := by kernel_rfl
theorem star : "*" ++ "errors.errorString" = "*errors.errorString" := by decide
theorem rowEs (u : TypeId) (h : Tryz.prog.typeName? 3 u = some "*errors.errorString") : u = 235 :=
  typeName_ptr_named (nm := "errors.errorString") (by rw [star]; kernel_rfl) (by kernel_rfl) (by decide) u (by rw [star]; exact h)
theorem gW : Tryz.prog.globalNamed "loop.example/pargeting/impl.markWords" = some 1 := by kernel_rfl
theorem gWt : (Tryz.prog.globals[1]?).map (·.type) = some 101 := by kernel_rfl
theorem cellsW : Tryz.prog.cellsOf 101 = 5 := by kernel_rfl

abbrev laidL : List (String × DataW Unit) := [("loop.example/pargeting/impl.errNone", Rows.laid_loop_example_pargeting_impl_errNone), ("loop.example/pargeting/impl.errNotDir", Rows.laid_loop_example_pargeting_impl_errNotDir), ("loop.example/pargeting/impl.markWords", Rows.laid_loop_example_pargeting_impl_markWords)]
theorem door_met (os : Os) (args : Array Value) : laidMetH Tryz.prog laidL ((World.doorLaid Tryz.prog 400 os).forCall (fun _ _ => 0) ⟨#[], args, []⟩).memory :=
  laidMetH_of_parts3 (fuel := 8) (laidMet_of_run' 8 (by kernel_rfl) (by kernel_rfl)) (by kernel_rfl) (by kernel_rfl)
theorem words_of_laid {W : World} (h : laidMetH Tryz.prog laidL W) : ∃ ae, Errs2 W ae ∧ MarkTab W := by
  rw [MakeChecks.laidMetH_plain _ _ _ (by kernel_rfl)] at h
  obtain ⟨a0, a1, s0, s1, c0, c1, t0, t1, hv0, hv1, _⟩ := laid_sentinels2 h gN gNt gD gDt Tryz.underlying93 rowEs Tryz.underlying235 Tryz.underlying263 rfl rfl Tryz.underlying9 cellsEs cellsStr
  refine ⟨fun c => if c = 2 then a0 else a1, ⟨by simpa using World.var?_cell gN hv0 0, by simpa using World.var?_cell gD hv1 0⟩, ?_⟩
  obtain ⟨ps, ⟨_, _, _, _, _, _, _, _, _, _, ⟨_, _, _, _, _, _, _, _, _, _, ⟨g', t', cs, fuel, p, q, hg', ht', hv, hd, _, _⟩, _⟩, _⟩, _⟩ := h
  obtain rfl := Option.some.inj (gW.symm.trans hg')
  obtain rfl := Option.some.inj (gWt.symm.trans ht')
  have hc := cells_of_strs (zs := [[], [102], [100], [120], [98]]) Tryz.underlying101 Tryz.underlying9 cellsStr cellsW hd
  have hcs : cs = #[.string ⟨#[]⟩, .string ⟨#[102]⟩, .string ⟨#[100]⟩, .string ⟨#[120]⟩, .string ⟨#[98]⟩] := by
    cases cs with | mk l => dsimp only at hc; subst hc; rfl
  subst hcs
  exact ⟨(World.var?_cell gW hv 0).trans rfl, (World.var?_cell gW hv 1).trans rfl, (World.var?_cell gW hv 2).trans rfl, (World.var?_cell gW hv 3).trans rfl, (World.var?_cell gW hv 4).trans rfl⟩

theorem trodVars_three {H : Type} {enc : TypeId × Value → H} {P : Program} {w : World} {spare : Nat → Bool} {n0 n1 n2 : String} {gs : List (DataW H)} {ps : List MemPlace} (h : DataW.TrodVars enc P w spare [n0, n1, n2] gs ps) :
    ∃ d0 d1 d2, gs = [d0, d1, d2] := by
  match gs, h with
  | [], h => simp [DataW.TrodVars] at h
  | d0 :: r0, h =>
    obtain ⟨_, _, _, _, _, _, _, _, _, _, h1, _⟩ := h
    match r0, h1 with
    | [], h1 => simp [DataW.TrodVars] at h1
    | d1 :: r1, h1 =>
      obtain ⟨_, _, _, _, _, _, _, _, _, _, h2, _⟩ := h1
      match r1, h2 with
      | [], h2 => simp [DataW.TrodVars] at h2
      | d2 :: r2, h2 =>
        obtain ⟨_, _, _, _, _, _, _, _, _, _, h3, _⟩ := h2
        obtain ⟨rfl, _⟩ := trodVars_none h3
        exact ⟨d0, d1, d2, rfl⟩
end Go.Proofs.YtgkfhcpegdlejaaGreatDoor
