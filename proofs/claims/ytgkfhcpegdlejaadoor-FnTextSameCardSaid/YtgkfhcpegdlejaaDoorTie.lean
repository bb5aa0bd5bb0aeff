/-
  DERIVED. GIVEN WITH THE SEED: THE PROGRAM's TIES (one call each: nine closed facts by the kernel) AND EACH ROW's TIE, after the 31st guide's Derived/Test/Toyas{Tie, Card}.lean. No idea stands in it: it is a product of the set-up. Laid BY PROGRAM, IN A SANDBOX (cutbox-door.mjs). By AI agents, Wed Nov 11 2026. No macro, syntax, notation, axiom, sorry.
-/
import Derived.Test.YtgkfhcpegdlejaaDoorRows
import Derived.LaidByTextLater
import Derived.SevenTiedAt
import Derived.LaidSub
import Derived.LaidOnce
namespace Go.Proofs.YtgkfhcpegdlejaaDoor
open Go
set_option maxRecDepth 100000
theorem seatTie1 : Tryd.prog.laidByTextLater [("loop.example/pargeting/impl.errNone", Rows.laid_loop_example_pargeting_impl_errNone), ("loop.example/pargeting/impl.errNotDir", Rows.laid_loop_example_pargeting_impl_errNotDir), ("loop.example/pargeting/impl.opWords", Rows.laid_loop_example_pargeting_impl_opWords), ("loop.example/pargeting/impl.markWords", Rows.laid_loop_example_pargeting_impl_markWords)] [.sentinel, .sentinel, .data, .data] true :=
  Program.laidByTextLater_by_one 57 8 7 (by kernel_rfl) (by kernel_rfl) (by kernel_rfl) (by kernel_rfl) (by kernel_rfl) (by kernel_rfl) (fun _ _ => by kernel_rfl)
theorem noOwnUnsafe : Tryd.pinned.checked.prog.headLifts.contains "ownunsafe" = false := by kernel_rfl
theorem tie : Tryd.prog.laidByTextLater [("loop.example/pargeting/impl.errNone", Rows.laid_loop_example_pargeting_impl_errNone), ("loop.example/pargeting/impl.errNotDir", Rows.laid_loop_example_pargeting_impl_errNotDir), ("loop.example/pargeting/impl.markWords", Rows.laid_loop_example_pargeting_impl_markWords)] [.sentinel, .sentinel, .data] true :=
  Program.laidByTextLater.sub seatTie1 ["loop.example/pargeting/impl.errNone", "loop.example/pargeting/impl.errNotDir", "loop.example/pargeting/impl.markWords"] (by kernel_rfl) (by kernel_rfl)
theorem fnTreeText_row_tie : Rows.fnTreeTextRow.laidByTextAt .later Tryd.pinned [.sentinel, .sentinel, .data] true :=
  OpenClaim.laidByTextAt_later rfl rfl tie noOwnUnsafe
theorem tie2 : Tryd.prog.laidByTextLater [("loop.example/pargeting/impl.markWords", Rows.laid_loop_example_pargeting_impl_markWords)] [.data] true :=
  Program.laidByTextLater.sub seatTie1 ["loop.example/pargeting/impl.markWords"] (by kernel_rfl) (by kernel_rfl)
theorem fnLayerText_row_tie : Rows.fnLayerTextRow.laidByTextAt .later Tryd.pinned [.data] true :=
  OpenClaim.laidByTextAt_later rfl rfl tie2 noOwnUnsafe
theorem tie3 : Tryd.prog.laidByTextLater [("loop.example/pargeting/impl.opWords", Rows.laid_loop_example_pargeting_impl_opWords)] [.data] true :=
  Program.laidByTextLater.sub seatTie1 ["loop.example/pargeting/impl.opWords"] (by kernel_rfl) (by kernel_rfl)
theorem fnOpText_row_tie : Rows.fnOpTextRow.laidByTextAt .later Tryd.pinned [.data] true :=
  OpenClaim.laidByTextAt_later rfl rfl tie3 noOwnUnsafe
theorem tie4 : Tryd.prog.laidByTextLater [("loop.example/pargeting/impl.opWords", Rows.laid_loop_example_pargeting_impl_opWords), ("loop.example/pargeting/impl.markWords", Rows.laid_loop_example_pargeting_impl_markWords)] [.data, .data] true :=
  Program.laidByTextLater.sub seatTie1 ["loop.example/pargeting/impl.opWords", "loop.example/pargeting/impl.markWords"] (by kernel_rfl) (by kernel_rfl)
theorem fnTextSame_row_tie : Rows.fnTextSameRow.laidByTextAt .later Tryd.pinned [.data, .data] true :=
  OpenClaim.laidByTextAt_later rfl rfl tie4 noOwnUnsafe
theorem fnTreeTextUpto_row_tie : Rows.fnTreeTextUptoRow.laidByTextAt .later Tryd.pinned [.sentinel, .sentinel, .data] true :=
  OpenClaim.laidByTextAt_later rfl rfl tie noOwnUnsafe
theorem fnLayerTextUpto_row_tie : Rows.fnLayerTextUptoRow.laidByTextAt .later Tryd.pinned [.data] true :=
  OpenClaim.laidByTextAt_later rfl rfl tie2 noOwnUnsafe
theorem fnOpTextUpto_row_tie : Rows.fnOpTextUptoRow.laidByTextAt .later Tryd.pinned [.data] true :=
  OpenClaim.laidByTextAt_later rfl rfl tie3 noOwnUnsafe
theorem fnTextSameUpto_row_tie : Rows.fnTextSameUptoRow.laidByTextAt .later Tryd.pinned [.data, .data] true :=
  OpenClaim.laidByTextAt_later rfl rfl tie4 noOwnUnsafe
end Go.Proofs.YtgkfhcpegdlejaaDoor
