/-
  DERIVED. GIVEN WITH THE SEED: THE PROGRAM's TIES (one call each: nine closed facts by the kernel) AND EACH ROW's TIE, after the 31st guide's Derived/Test/Toyas{Tie, Card}.lean. No idea stands in it: it is a product of the set-up. Laid BY PROGRAM, IN A SANDBOX (cutbox-door.mjs). By AI agents, Wed Nov 11 2026. No macro, syntax, notation, axiom, sorry.
-/
import Derived.Test.YtgkfhcpegdlejaaGreatDoorRows
import Derived.LaidByTextLater
import Derived.SevenTiedAt
import Derived.LaidSub
import Derived.LaidOnce
namespace Go.Proofs.YtgkfhcpegdlejaaGreatDoor
open Go
set_option maxRecDepth 100000
theorem seatTie1 : Tryz.prog.laidByTextLater [("loop.example/pargeting/impl.errBad", Rows.laid_loop_example_pargeting_impl_errBad), ("loop.example/pargeting/impl.errNone", Rows.laid_loop_example_pargeting_impl_errNone), ("loop.example/pargeting/impl.errNotDir", Rows.laid_loop_example_pargeting_impl_errNotDir), ("loop.example/pargeting/impl.errThere", Rows.laid_loop_example_pargeting_impl_errThere), ("loop.example/pargeting/impl.errIsDir", Rows.laid_loop_example_pargeting_impl_errIsDir), ("loop.example/pargeting/impl.errKept", Rows.laid_loop_example_pargeting_impl_errKept), ("loop.example/pargeting/impl.errUnder", Rows.laid_loop_example_pargeting_impl_errUnder), ("loop.example/pargeting/impl.errRoom", Rows.laid_loop_example_pargeting_impl_errRoom), ("loop.example/pargeting/impl.opWords", Rows.laid_loop_example_pargeting_impl_opWords), ("loop.example/pargeting/impl.markWords", Rows.laid_loop_example_pargeting_impl_markWords)] [.sentinel, .sentinel, .sentinel, .sentinel, .sentinel, .sentinel, .sentinel, .sentinel, .data, .data] true :=
  Program.laidByTextLater_by_one 171 8 7 (by kernel_rfl) (by kernel_rfl) (by kernel_rfl) (by kernel_rfl) (by kernel_rfl) (by kernel_rfl) (fun _ _ => by kernel_rfl)
theorem noOwnUnsafe : Tryz.pinned.checked.prog.headLifts.contains "ownunsafe" = false := by kernel_rfl
theorem tie : Tryz.prog.laidByTextLater [("loop.example/pargeting/impl.errNone", Rows.laid_loop_example_pargeting_impl_errNone), ("loop.example/pargeting/impl.errNotDir", Rows.laid_loop_example_pargeting_impl_errNotDir), ("loop.example/pargeting/impl.markWords", Rows.laid_loop_example_pargeting_impl_markWords)] [.sentinel, .sentinel, .data] true :=
  Program.laidByTextLater.sub seatTie1 ["loop.example/pargeting/impl.errNone", "loop.example/pargeting/impl.errNotDir", "loop.example/pargeting/impl.markWords"] (by kernel_rfl) (by kernel_rfl)
theorem fnTextCut_row_tie : Rows.fnTextCutRow.laidByTextAt .later Tryz.pinned [.sentinel, .sentinel, .data] true :=
  OpenClaim.laidByTextAt_later rfl rfl tie noOwnUnsafe
theorem tie2 : Tryz.prog.laidByTextLater [("loop.example/pargeting/impl.errBad", Rows.laid_loop_example_pargeting_impl_errBad), ("loop.example/pargeting/impl.errNone", Rows.laid_loop_example_pargeting_impl_errNone), ("loop.example/pargeting/impl.errNotDir", Rows.laid_loop_example_pargeting_impl_errNotDir), ("loop.example/pargeting/impl.errThere", Rows.laid_loop_example_pargeting_impl_errThere), ("loop.example/pargeting/impl.errIsDir", Rows.laid_loop_example_pargeting_impl_errIsDir), ("loop.example/pargeting/impl.errKept", Rows.laid_loop_example_pargeting_impl_errKept), ("loop.example/pargeting/impl.errUnder", Rows.laid_loop_example_pargeting_impl_errUnder), ("loop.example/pargeting/impl.errRoom", Rows.laid_loop_example_pargeting_impl_errRoom), ("loop.example/pargeting/impl.opWords", Rows.laid_loop_example_pargeting_impl_opWords), ("loop.example/pargeting/impl.markWords", Rows.laid_loop_example_pargeting_impl_markWords)] [.sentinel, .sentinel, .sentinel, .sentinel, .sentinel, .sentinel, .sentinel, .sentinel, .data, .data] true :=
  Program.laidByTextLater.sub seatTie1 ["loop.example/pargeting/impl.errBad", "loop.example/pargeting/impl.errNone", "loop.example/pargeting/impl.errNotDir", "loop.example/pargeting/impl.errThere", "loop.example/pargeting/impl.errIsDir", "loop.example/pargeting/impl.errKept", "loop.example/pargeting/impl.errUnder", "loop.example/pargeting/impl.errRoom", "loop.example/pargeting/impl.opWords", "loop.example/pargeting/impl.markWords"] (by kernel_rfl) (by kernel_rfl)
theorem fnTextDo_row_tie : Rows.fnTextDoRow.laidByTextAt .later Tryz.pinned [.sentinel, .sentinel, .sentinel, .sentinel, .sentinel, .sentinel, .sentinel, .sentinel, .data, .data] true :=
  OpenClaim.laidByTextAt_later rfl rfl tie2 noOwnUnsafe
theorem fnTextCutUpto_row_tie : Rows.fnTextCutUptoRow.laidByTextAt .later Tryz.pinned [.sentinel, .sentinel, .data] true :=
  OpenClaim.laidByTextAt_later rfl rfl tie noOwnUnsafe
theorem fnTextDoUpto_row_tie : Rows.fnTextDoUptoRow.laidByTextAt .later Tryz.pinned [.sentinel, .sentinel, .sentinel, .sentinel, .sentinel, .sentinel, .sentinel, .sentinel, .data, .data] true :=
  OpenClaim.laidByTextAt_later rfl rfl tie2 noOwnUnsafe
end Go.Proofs.YtgkfhcpegdlejaaGreatDoor
