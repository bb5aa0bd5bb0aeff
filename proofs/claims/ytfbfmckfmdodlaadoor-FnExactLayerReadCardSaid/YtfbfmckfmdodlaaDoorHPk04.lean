/-
  What the walks over lists of entries stand on.
-/
import Derived.WalkKit
import Derived.OwnWalk
import Derived.WalkSpells
import Derived.WalkLawsBesides
import Derived.Laws.Pointers
import Derived.Deep.QuietTactic
import Derived.BigQuiet
import Derived.Outline
import Derived.Below
import Derived.Lib.QuietBelow
import Derived.Test.YtfbfmckfmdodlaaDoorProg
import Derived.Test.YtfbfmckfmdodlaaDoorHPk03
import Derived.Test.YtfbfmckfmdodlaaDoorHPk01
import Derived.Test.YtfbfmckfmdodlaaDoorHPk02
import Derived.Laws.MakeOwn
import Derived.Laws.ResultCell
import Derived.Maps.AppendAt
import Derived.Laws.Tables
import Derived.Lib.FrozenHead


/-
  The walk of the program's own: the kind of a word.
-/
namespace Go.Proofs.YtfbfmckfmdodlaaDoor
open Go.RowKit Go.Lib

theorem str_yes {a b : ByteArray} (h : a = b) : (a.toList == b.toList) = true ∧ a.toList = b.toList := by rw [h]; simp
theorem str_no {a b : ByteArray} (h : ¬ a = b) : (a.toList == b.toList) = false ∧ ¬ a.toList = b.toList := by
  have : ¬ a.toList = b.toList := fun e => h (lb_inj (by rw [Lib.toList_data, Lib.toList_data] at e; exact e))
  exact ⟨by simpa using this, this⟩
/-- The table lies where it is laid. -/
structure OpTab (w : World) : Prop where
  c0 : w.cell? ⟨1, 0, none⟩ = some (.string ⟨#[]⟩)
  c1 : w.cell? ⟨1, 1, none⟩ = some (.string oW1)
  c2 : w.cell? ⟨1, 2, none⟩ = some (.string oW2)
  c3 : w.cell? ⟨1, 3, none⟩ = some (.string oW3)
  c4 : w.cell? ⟨1, 4, none⟩ = some (.string oW4)
  c5 : w.cell? ⟨1, 5, none⟩ = some (.string oW5)
theorem OpTab.below {w w' : World} (h : OpTab w) (hb : Below w.heap.size w w') : OpTab w' := by
  have hB : 1 < w.heap.size := World.block_lt_of_cell? w ⟨1, 1, none⟩ h.c1
  exact ⟨(hb.cell (p := ⟨1, _, none⟩) hB).trans h.c0, (hb.cell (p := ⟨1, _, none⟩) hB).trans h.c1, (hb.cell (p := ⟨1, _, none⟩) hB).trans h.c2, (hb.cell (p := ⟨1, _, none⟩) hB).trans h.c3, (hb.cell (p := ⟨1, _, none⟩) hB).trans h.c4, (hb.cell (p := ⟨1, _, none⟩) hB).trans h.c5⟩
set_option maxHeartbeats 1600000 in
set_option maxRecDepth 100000 in
theorem opKind_any (s : ByteArray) (w : World) (hw : OpTab w) :
    Calls Tryd.prog 59 #[.string s] w fun r w' => r = .returned (.int .i64 (findK [⟨#[]⟩, oW1, oW2, oW3, oW4, oW5] 0 s)) ∧ Below w.heap.size w w' := by
  obtain ⟨c0, c1, c2, c3, c4, c5⟩ := hw
  go_enter Tryd.func59, Tryd.ntmps59
  go_wp2
  clear c0 c1 c2 c3 c4 c5
  go_loopw [6] (fun iv wl => ∃ j : Nat, j ≤ 6 ∧ iv = .int .i64 j ∧ Hid (findK ([⟨#[]⟩, oW1, oW2, oW3, oW4, oW5].drop j) j s = findK [⟨#[]⟩, oW1, oW2, oW3, oW4, oW5] 0 s) ∧ Hid (Below w.heap.size w wl)) (fun iv _ => 6 - (RowKit.intOf iv).toNat)
  case atStart => exact ⟨0, Nat.zero_le _, rfl, rfl, Below.refl _ _⟩
  case round =>
    obtain ⟨j, hj, rfl, HK, HB⟩ := hrel
    match j, hj with
    | 0, _ =>
      by_cases he : (⟨#[]⟩ : ByteArray) = s
      · have HR : Hid (findK [⟨#[]⟩, oW1, oW2, oW3, oW4, oW5] 0 s = 0) := by show _ = _; rw [← HK.out]; show (if (⟨#[]⟩ : ByteArray) = s then (0 : Int) else _) = 0; rw [if_pos he]
        obtain ⟨e1, e2⟩ := str_yes he
        clear HK he
        rw [show ((0 : Nat) : Int) = (0 : Int) from rfl]
        have hix : ∀ W, (Instr.index 114 (.agg #[.string ⟨#[]⟩, .string oW1, .string oW2, .string oW3, .string oW4, .string oW5]) (.int .i64 0)).run Tryd.prog W = .ok (.string ⟨#[]⟩) W := fun _ => by kernel_rfl
        go_wp2
        go_ret
        exact ⟨ret_iE HR.out.symm, HB.out⟩
      · have HR : Hid (findK ([⟨#[]⟩, oW1, oW2, oW3, oW4, oW5].drop (0 + 1)) ((0 + 1 : Nat) : Int) s = findK [⟨#[]⟩, oW1, oW2, oW3, oW4, oW5] 0 s) := by show _ = _; rw [← HK.out]; show _ = (if (⟨#[]⟩ : ByteArray) = s then (0 : Int) else _); rw [if_neg he]; rfl
        obtain ⟨e1, e2⟩ := str_no he
        have e3 : (([] : List UInt8) == s.toList) = false := by rw [Lib.toList_data] at e1; exact e1
        have e4 : ¬ ([] : List UInt8) = s.toList := by rw [Lib.toList_data] at e2; exact e2
        clear HK he
        rw [show ((0 : Nat) : Int) = (0 : Int) from rfl]
        have hix : ∀ W, (Instr.index 114 (.agg #[.string ⟨#[]⟩, .string oW1, .string oW2, .string oW3, .string oW4, .string oW5]) (.int .i64 0)).run Tryd.prog W = .ok (.string ⟨#[]⟩) W := fun _ => by kernel_rfl
        go_wp2
        go_roundw
        case rel => exact ⟨1, by omega, by go_num, HR, HB⟩
        case measure => simp [RowKit.intOf]
    | 1, _ =>
      by_cases he : (oW1 : ByteArray) = s
      · have HR : Hid (findK [⟨#[]⟩, oW1, oW2, oW3, oW4, oW5] 0 s = 1) := by show _ = _; rw [← HK.out]; show (if (oW1 : ByteArray) = s then (1 : Int) else _) = 1; rw [if_pos he]
        obtain ⟨e1, e2⟩ := str_yes he
        clear HK he
        rw [show ((1 : Nat) : Int) = (1 : Int) from rfl]
        have hix : ∀ W, (Instr.index 114 (.agg #[.string ⟨#[]⟩, .string oW1, .string oW2, .string oW3, .string oW4, .string oW5]) (.int .i64 1)).run Tryd.prog W = .ok (.string oW1) W := fun _ => by kernel_rfl
        go_wp2
        go_ret
        exact ⟨ret_iE HR.out.symm, HB.out⟩
      · have HR : Hid (findK ([⟨#[]⟩, oW1, oW2, oW3, oW4, oW5].drop (1 + 1)) ((1 + 1 : Nat) : Int) s = findK [⟨#[]⟩, oW1, oW2, oW3, oW4, oW5] 0 s) := by show _ = _; rw [← HK.out]; show _ = (if (oW1 : ByteArray) = s then (1 : Int) else _); rw [if_neg he]; rfl
        obtain ⟨e1, e2⟩ := str_no he
        clear HK he
        rw [show ((1 : Nat) : Int) = (1 : Int) from rfl]
        have hix : ∀ W, (Instr.index 114 (.agg #[.string ⟨#[]⟩, .string oW1, .string oW2, .string oW3, .string oW4, .string oW5]) (.int .i64 1)).run Tryd.prog W = .ok (.string oW1) W := fun _ => by kernel_rfl
        go_wp2
        go_roundw
        case rel => exact ⟨2, by omega, by go_num, HR, HB⟩
        case measure => simp [RowKit.intOf]
    | 2, _ =>
      by_cases he : (oW2 : ByteArray) = s
      · have HR : Hid (findK [⟨#[]⟩, oW1, oW2, oW3, oW4, oW5] 0 s = 2) := by show _ = _; rw [← HK.out]; show (if (oW2 : ByteArray) = s then (2 : Int) else _) = 2; rw [if_pos he]
        obtain ⟨e1, e2⟩ := str_yes he
        clear HK he
        rw [show ((2 : Nat) : Int) = (2 : Int) from rfl]
        have hix : ∀ W, (Instr.index 114 (.agg #[.string ⟨#[]⟩, .string oW1, .string oW2, .string oW3, .string oW4, .string oW5]) (.int .i64 2)).run Tryd.prog W = .ok (.string oW2) W := fun _ => by kernel_rfl
        go_wp2
        go_ret
        exact ⟨ret_iE HR.out.symm, HB.out⟩
      · have HR : Hid (findK ([⟨#[]⟩, oW1, oW2, oW3, oW4, oW5].drop (2 + 1)) ((2 + 1 : Nat) : Int) s = findK [⟨#[]⟩, oW1, oW2, oW3, oW4, oW5] 0 s) := by show _ = _; rw [← HK.out]; show _ = (if (oW2 : ByteArray) = s then (2 : Int) else _); rw [if_neg he]; rfl
        obtain ⟨e1, e2⟩ := str_no he
        clear HK he
        rw [show ((2 : Nat) : Int) = (2 : Int) from rfl]
        have hix : ∀ W, (Instr.index 114 (.agg #[.string ⟨#[]⟩, .string oW1, .string oW2, .string oW3, .string oW4, .string oW5]) (.int .i64 2)).run Tryd.prog W = .ok (.string oW2) W := fun _ => by kernel_rfl
        go_wp2
        go_roundw
        case rel => exact ⟨3, by omega, by go_num, HR, HB⟩
        case measure => simp [RowKit.intOf]
    | 3, _ =>
      by_cases he : (oW3 : ByteArray) = s
      · have HR : Hid (findK [⟨#[]⟩, oW1, oW2, oW3, oW4, oW5] 0 s = 3) := by show _ = _; rw [← HK.out]; show (if (oW3 : ByteArray) = s then (3 : Int) else _) = 3; rw [if_pos he]
        obtain ⟨e1, e2⟩ := str_yes he
        clear HK he
        rw [show ((3 : Nat) : Int) = (3 : Int) from rfl]
        have hix : ∀ W, (Instr.index 114 (.agg #[.string ⟨#[]⟩, .string oW1, .string oW2, .string oW3, .string oW4, .string oW5]) (.int .i64 3)).run Tryd.prog W = .ok (.string oW3) W := fun _ => by kernel_rfl
        go_wp2
        go_ret
        exact ⟨ret_iE HR.out.symm, HB.out⟩
      · have HR : Hid (findK ([⟨#[]⟩, oW1, oW2, oW3, oW4, oW5].drop (3 + 1)) ((3 + 1 : Nat) : Int) s = findK [⟨#[]⟩, oW1, oW2, oW3, oW4, oW5] 0 s) := by show _ = _; rw [← HK.out]; show _ = (if (oW3 : ByteArray) = s then (3 : Int) else _); rw [if_neg he]; rfl
        obtain ⟨e1, e2⟩ := str_no he
        clear HK he
        rw [show ((3 : Nat) : Int) = (3 : Int) from rfl]
        have hix : ∀ W, (Instr.index 114 (.agg #[.string ⟨#[]⟩, .string oW1, .string oW2, .string oW3, .string oW4, .string oW5]) (.int .i64 3)).run Tryd.prog W = .ok (.string oW3) W := fun _ => by kernel_rfl
        go_wp2
        go_roundw
        case rel => exact ⟨4, by omega, by go_num, HR, HB⟩
        case measure => simp [RowKit.intOf]
    | 4, _ =>
      by_cases he : (oW4 : ByteArray) = s
      · have HR : Hid (findK [⟨#[]⟩, oW1, oW2, oW3, oW4, oW5] 0 s = 4) := by show _ = _; rw [← HK.out]; show (if (oW4 : ByteArray) = s then (4 : Int) else _) = 4; rw [if_pos he]
        obtain ⟨e1, e2⟩ := str_yes he
        clear HK he
        rw [show ((4 : Nat) : Int) = (4 : Int) from rfl]
        have hix : ∀ W, (Instr.index 114 (.agg #[.string ⟨#[]⟩, .string oW1, .string oW2, .string oW3, .string oW4, .string oW5]) (.int .i64 4)).run Tryd.prog W = .ok (.string oW4) W := fun _ => by kernel_rfl
        go_wp2
        go_ret
        exact ⟨ret_iE HR.out.symm, HB.out⟩
      · have HR : Hid (findK ([⟨#[]⟩, oW1, oW2, oW3, oW4, oW5].drop (4 + 1)) ((4 + 1 : Nat) : Int) s = findK [⟨#[]⟩, oW1, oW2, oW3, oW4, oW5] 0 s) := by show _ = _; rw [← HK.out]; show _ = (if (oW4 : ByteArray) = s then (4 : Int) else _); rw [if_neg he]; rfl
        obtain ⟨e1, e2⟩ := str_no he
        clear HK he
        rw [show ((4 : Nat) : Int) = (4 : Int) from rfl]
        have hix : ∀ W, (Instr.index 114 (.agg #[.string ⟨#[]⟩, .string oW1, .string oW2, .string oW3, .string oW4, .string oW5]) (.int .i64 4)).run Tryd.prog W = .ok (.string oW4) W := fun _ => by kernel_rfl
        go_wp2
        go_roundw
        case rel => exact ⟨5, by omega, by go_num, HR, HB⟩
        case measure => simp [RowKit.intOf]
    | 5, _ =>
      by_cases he : (oW5 : ByteArray) = s
      · have HR : Hid (findK [⟨#[]⟩, oW1, oW2, oW3, oW4, oW5] 0 s = 5) := by show _ = _; rw [← HK.out]; show (if (oW5 : ByteArray) = s then (5 : Int) else _) = 5; rw [if_pos he]
        obtain ⟨e1, e2⟩ := str_yes he
        clear HK he
        rw [show ((5 : Nat) : Int) = (5 : Int) from rfl]
        have hix : ∀ W, (Instr.index 114 (.agg #[.string ⟨#[]⟩, .string oW1, .string oW2, .string oW3, .string oW4, .string oW5]) (.int .i64 5)).run Tryd.prog W = .ok (.string oW5) W := fun _ => by kernel_rfl
        go_wp2
        go_ret
        exact ⟨ret_iE HR.out.symm, HB.out⟩
      · have HR : Hid (findK ([⟨#[]⟩, oW1, oW2, oW3, oW4, oW5].drop (5 + 1)) ((5 + 1 : Nat) : Int) s = findK [⟨#[]⟩, oW1, oW2, oW3, oW4, oW5] 0 s) := by show _ = _; rw [← HK.out]; show _ = (if (oW5 : ByteArray) = s then (5 : Int) else _); rw [if_neg he]; rfl
        obtain ⟨e1, e2⟩ := str_no he
        clear HK he
        rw [show ((5 : Nat) : Int) = (5 : Int) from rfl]
        have hix : ∀ W, (Instr.index 114 (.agg #[.string ⟨#[]⟩, .string oW1, .string oW2, .string oW3, .string oW4, .string oW5]) (.int .i64 5)).run Tryd.prog W = .ok (.string oW5) W := fun _ => by kernel_rfl
        go_wp2
        go_roundw
        case rel => exact ⟨6, by omega, by go_num, HR, HB⟩
        case measure => simp [RowKit.intOf]
    | 6, _ =>
      have HR : Hid (findK [⟨#[]⟩, oW1, oW2, oW3, oW4, oW5] 0 s = 0) := by show _ = _; rw [← HK.out]; rfl
      clear HK
      rw [show ((6 : Nat) : Int) = (6 : Int) from rfl]
      go_wp2
      go_ret
      exact ⟨ret_iE HR.out.symm, HB.out⟩
end Go.Proofs.YtfbfmckfmdodlaaDoor

/-
  The walk of the program's own: the kind of a word.
-/
namespace Go.Proofs.YtfbfmckfmdodlaaDoor
open Go.RowKit Go.Lib

/-- The table lies where it is laid. -/
structure MarkTab (w : World) : Prop where
  c0 : w.cell? ⟨0, 0, none⟩ = some (.string ⟨#[]⟩)
  c1 : w.cell? ⟨0, 1, none⟩ = some (.string wF)
  c2 : w.cell? ⟨0, 2, none⟩ = some (.string wD)
  c3 : w.cell? ⟨0, 3, none⟩ = some (.string wX)
  c4 : w.cell? ⟨0, 4, none⟩ = some (.string wB)
theorem MarkTab.below {w w' : World} (h : MarkTab w) (hb : Below w.heap.size w w') : MarkTab w' := by
  have hB : 0 < w.heap.size := World.block_lt_of_cell? w ⟨0, 1, none⟩ h.c1
  exact ⟨(hb.cell (p := ⟨0, _, none⟩) hB).trans h.c0, (hb.cell (p := ⟨0, _, none⟩) hB).trans h.c1, (hb.cell (p := ⟨0, _, none⟩) hB).trans h.c2, (hb.cell (p := ⟨0, _, none⟩) hB).trans h.c3, (hb.cell (p := ⟨0, _, none⟩) hB).trans h.c4⟩
set_option maxHeartbeats 1600000 in
set_option maxRecDepth 100000 in
theorem markKind_any (s : ByteArray) (w : World) (hw : MarkTab w) :
    Calls Tryd.prog 49 #[.string s] w fun r w' => r = .returned (.int .i64 (findK [⟨#[]⟩, wF, wD, wX, wB] 0 s)) ∧ Below w.heap.size w w' := by
  obtain ⟨c0, c1, c2, c3, c4⟩ := hw
  go_enter Tryd.func49, Tryd.ntmps49
  go_wp2
  clear c0 c1 c2 c3 c4
  go_loopw [6] (fun iv wl => ∃ j : Nat, j ≤ 5 ∧ iv = .int .i64 j ∧ Hid (findK ([⟨#[]⟩, wF, wD, wX, wB].drop j) j s = findK [⟨#[]⟩, wF, wD, wX, wB] 0 s) ∧ Hid (Below w.heap.size w wl)) (fun iv _ => 5 - (RowKit.intOf iv).toNat)
  case atStart => exact ⟨0, Nat.zero_le _, rfl, rfl, Below.refl _ _⟩
  case round =>
    obtain ⟨j, hj, rfl, HK, HB⟩ := hrel
    match j, hj with
    | 0, _ =>
      by_cases he : (⟨#[]⟩ : ByteArray) = s
      · have HR : Hid (findK [⟨#[]⟩, wF, wD, wX, wB] 0 s = 0) := by show _ = _; rw [← HK.out]; show (if (⟨#[]⟩ : ByteArray) = s then (0 : Int) else _) = 0; rw [if_pos he]
        obtain ⟨e1, e2⟩ := str_yes he
        clear HK he
        rw [show ((0 : Nat) : Int) = (0 : Int) from rfl]
        have hix : ∀ W, (Instr.index 104 (.agg #[.string ⟨#[]⟩, .string wF, .string wD, .string wX, .string wB]) (.int .i64 0)).run Tryd.prog W = .ok (.string ⟨#[]⟩) W := fun _ => by kernel_rfl
        go_wp2
        go_ret
        exact ⟨ret_iE HR.out.symm, HB.out⟩
      · have HR : Hid (findK ([⟨#[]⟩, wF, wD, wX, wB].drop (0 + 1)) ((0 + 1 : Nat) : Int) s = findK [⟨#[]⟩, wF, wD, wX, wB] 0 s) := by show _ = _; rw [← HK.out]; show _ = (if (⟨#[]⟩ : ByteArray) = s then (0 : Int) else _); rw [if_neg he]; rfl
        obtain ⟨e1, e2⟩ := str_no he
        have e3 : (([] : List UInt8) == s.toList) = false := by rw [Lib.toList_data] at e1; exact e1
        have e4 : ¬ ([] : List UInt8) = s.toList := by rw [Lib.toList_data] at e2; exact e2
        clear HK he
        rw [show ((0 : Nat) : Int) = (0 : Int) from rfl]
        have hix : ∀ W, (Instr.index 104 (.agg #[.string ⟨#[]⟩, .string wF, .string wD, .string wX, .string wB]) (.int .i64 0)).run Tryd.prog W = .ok (.string ⟨#[]⟩) W := fun _ => by kernel_rfl
        go_wp2
        go_roundw
        case rel => exact ⟨1, by omega, by go_num, HR, HB⟩
        case measure => simp [RowKit.intOf]
    | 1, _ =>
      by_cases he : (wF : ByteArray) = s
      · have HR : Hid (findK [⟨#[]⟩, wF, wD, wX, wB] 0 s = 1) := by show _ = _; rw [← HK.out]; show (if (wF : ByteArray) = s then (1 : Int) else _) = 1; rw [if_pos he]
        obtain ⟨e1, e2⟩ := str_yes he
        clear HK he
        rw [show ((1 : Nat) : Int) = (1 : Int) from rfl]
        have hix : ∀ W, (Instr.index 104 (.agg #[.string ⟨#[]⟩, .string wF, .string wD, .string wX, .string wB]) (.int .i64 1)).run Tryd.prog W = .ok (.string wF) W := fun _ => by kernel_rfl
        go_wp2
        go_ret
        exact ⟨ret_iE HR.out.symm, HB.out⟩
      · have HR : Hid (findK ([⟨#[]⟩, wF, wD, wX, wB].drop (1 + 1)) ((1 + 1 : Nat) : Int) s = findK [⟨#[]⟩, wF, wD, wX, wB] 0 s) := by show _ = _; rw [← HK.out]; show _ = (if (wF : ByteArray) = s then (1 : Int) else _); rw [if_neg he]; rfl
        obtain ⟨e1, e2⟩ := str_no he
        clear HK he
        rw [show ((1 : Nat) : Int) = (1 : Int) from rfl]
        have hix : ∀ W, (Instr.index 104 (.agg #[.string ⟨#[]⟩, .string wF, .string wD, .string wX, .string wB]) (.int .i64 1)).run Tryd.prog W = .ok (.string wF) W := fun _ => by kernel_rfl
        go_wp2
        go_roundw
        case rel => exact ⟨2, by omega, by go_num, HR, HB⟩
        case measure => simp [RowKit.intOf]
    | 2, _ =>
      by_cases he : (wD : ByteArray) = s
      · have HR : Hid (findK [⟨#[]⟩, wF, wD, wX, wB] 0 s = 2) := by show _ = _; rw [← HK.out]; show (if (wD : ByteArray) = s then (2 : Int) else _) = 2; rw [if_pos he]
        obtain ⟨e1, e2⟩ := str_yes he
        clear HK he
        rw [show ((2 : Nat) : Int) = (2 : Int) from rfl]
        have hix : ∀ W, (Instr.index 104 (.agg #[.string ⟨#[]⟩, .string wF, .string wD, .string wX, .string wB]) (.int .i64 2)).run Tryd.prog W = .ok (.string wD) W := fun _ => by kernel_rfl
        go_wp2
        go_ret
        exact ⟨ret_iE HR.out.symm, HB.out⟩
      · have HR : Hid (findK ([⟨#[]⟩, wF, wD, wX, wB].drop (2 + 1)) ((2 + 1 : Nat) : Int) s = findK [⟨#[]⟩, wF, wD, wX, wB] 0 s) := by show _ = _; rw [← HK.out]; show _ = (if (wD : ByteArray) = s then (2 : Int) else _); rw [if_neg he]; rfl
        obtain ⟨e1, e2⟩ := str_no he
        clear HK he
        rw [show ((2 : Nat) : Int) = (2 : Int) from rfl]
        have hix : ∀ W, (Instr.index 104 (.agg #[.string ⟨#[]⟩, .string wF, .string wD, .string wX, .string wB]) (.int .i64 2)).run Tryd.prog W = .ok (.string wD) W := fun _ => by kernel_rfl
        go_wp2
        go_roundw
        case rel => exact ⟨3, by omega, by go_num, HR, HB⟩
        case measure => simp [RowKit.intOf]
    | 3, _ =>
      by_cases he : (wX : ByteArray) = s
      · have HR : Hid (findK [⟨#[]⟩, wF, wD, wX, wB] 0 s = 3) := by show _ = _; rw [← HK.out]; show (if (wX : ByteArray) = s then (3 : Int) else _) = 3; rw [if_pos he]
        obtain ⟨e1, e2⟩ := str_yes he
        clear HK he
        rw [show ((3 : Nat) : Int) = (3 : Int) from rfl]
        have hix : ∀ W, (Instr.index 104 (.agg #[.string ⟨#[]⟩, .string wF, .string wD, .string wX, .string wB]) (.int .i64 3)).run Tryd.prog W = .ok (.string wX) W := fun _ => by kernel_rfl
        go_wp2
        go_ret
        exact ⟨ret_iE HR.out.symm, HB.out⟩
      · have HR : Hid (findK ([⟨#[]⟩, wF, wD, wX, wB].drop (3 + 1)) ((3 + 1 : Nat) : Int) s = findK [⟨#[]⟩, wF, wD, wX, wB] 0 s) := by show _ = _; rw [← HK.out]; show _ = (if (wX : ByteArray) = s then (3 : Int) else _); rw [if_neg he]; rfl
        obtain ⟨e1, e2⟩ := str_no he
        clear HK he
        rw [show ((3 : Nat) : Int) = (3 : Int) from rfl]
        have hix : ∀ W, (Instr.index 104 (.agg #[.string ⟨#[]⟩, .string wF, .string wD, .string wX, .string wB]) (.int .i64 3)).run Tryd.prog W = .ok (.string wX) W := fun _ => by kernel_rfl
        go_wp2
        go_roundw
        case rel => exact ⟨4, by omega, by go_num, HR, HB⟩
        case measure => simp [RowKit.intOf]
    | 4, _ =>
      by_cases he : (wB : ByteArray) = s
      · have HR : Hid (findK [⟨#[]⟩, wF, wD, wX, wB] 0 s = 4) := by show _ = _; rw [← HK.out]; show (if (wB : ByteArray) = s then (4 : Int) else _) = 4; rw [if_pos he]
        obtain ⟨e1, e2⟩ := str_yes he
        clear HK he
        rw [show ((4 : Nat) : Int) = (4 : Int) from rfl]
        have hix : ∀ W, (Instr.index 104 (.agg #[.string ⟨#[]⟩, .string wF, .string wD, .string wX, .string wB]) (.int .i64 4)).run Tryd.prog W = .ok (.string wB) W := fun _ => by kernel_rfl
        go_wp2
        go_ret
        exact ⟨ret_iE HR.out.symm, HB.out⟩
      · have HR : Hid (findK ([⟨#[]⟩, wF, wD, wX, wB].drop (4 + 1)) ((4 + 1 : Nat) : Int) s = findK [⟨#[]⟩, wF, wD, wX, wB] 0 s) := by show _ = _; rw [← HK.out]; show _ = (if (wB : ByteArray) = s then (4 : Int) else _); rw [if_neg he]; rfl
        obtain ⟨e1, e2⟩ := str_no he
        clear HK he
        rw [show ((4 : Nat) : Int) = (4 : Int) from rfl]
        have hix : ∀ W, (Instr.index 104 (.agg #[.string ⟨#[]⟩, .string wF, .string wD, .string wX, .string wB]) (.int .i64 4)).run Tryd.prog W = .ok (.string wB) W := fun _ => by kernel_rfl
        go_wp2
        go_roundw
        case rel => exact ⟨5, by omega, by go_num, HR, HB⟩
        case measure => simp [RowKit.intOf]
    | 5, _ =>
      have HR : Hid (findK [⟨#[]⟩, wF, wD, wX, wB] 0 s = 0) := by show _ = _; rw [← HK.out]; rfl
      clear HK
      rw [show ((5 : Nat) : Int) = (5 : Int) from rfl]
      go_wp2
      go_ret
      exact ⟨ret_iE HR.out.symm, HB.out⟩
end Go.Proofs.YtfbfmckfmdodlaaDoor

/-
  What the walks over lists of marks stand on.
-/

/-
  The walks of what the exact laws do with lists of marks: their sizes, a copy of the other type, and whether two are the same.
-/
namespace Go.Proofs.YtfbfmckfmdodlaaDoor.Mk
open Go.RowKit Go.Lib Go.Sort

theorem Tryd.infoE : (Tryd.prog.info? 61).map (fun i => (i.zero, i.size, i.bytes)) = some (some (.agg #[.string ByteArray.empty, .int .i64 0, .string ByteArray.empty]), 3, 40) := by kernel_rfl

/-- There is room for so many cells in a block. -/
def Room (w : World) (g n : Nat) : Prop := ∀ i, i < n → (∃ v, w.cell? ⟨g, i, none⟩ = some v) ∧ w.frozen? ⟨g, i, none⟩ = false
theorem Room.below {w w' : World} {g n : Nat} (h : Room w g n) (hb : Below w.heap.size w w') : Room w' g n := fun i hi => by
  obtain ⟨⟨v, hv⟩, hf⟩ := h i hi
  have lt : g < w.heap.size := World.block_lt_of_cell? w ⟨g, i, none⟩ hv
  exact ⟨⟨v, (hb.cell (p := ⟨g, i, none⟩) lt).trans hv⟩, (hb.frozen (p := ⟨g, i, none⟩) lt).trans hf⟩
theorem Room.set {w : World} {g n : Nat} (h : Room w g n) (b j : Nat) (v : Value) : Room (w.setCell ⟨b, j, none⟩ v) g n := fun i hi => by
  obtain ⟨⟨u, hu⟩, hf⟩ := h i hi
  obtain ⟨u', hu'⟩ := cell?_setCell_some (w := w) (p := ⟨b, j, none⟩) (x := v) (q := ⟨g, i, none⟩) (v := u) hu
  exact ⟨⟨u', hu'⟩, by rw [World.frozen?_setCell]; exact hf⟩

theorem cell_ne (w : World) (g i j : Nat) (v : Value) (h : i ≠ j) : (w.setCell ⟨g, i, none⟩ v).cell? ⟨g, j, none⟩ = w.cell? ⟨g, j, none⟩ := World.cell?_setCell_other _ _ _ _ (fun q => by have e := congrArg Addr.off q; dsimp only at e; omega)
theorem cell_eq {w : World} {g i : Nat} {u : Value} (v : Value) (h : w.cell? ⟨g, i, none⟩ = some u) : (w.setCell ⟨g, i, none⟩ v).cell? ⟨g, i, none⟩ = some v := World.cell?_setCell_same' _ _ _ (by rw [h]; rfl)
/-- One mark more is written behind those that lie there. -/
theorem Ents.put {w : World} {g k : Nat} {es : List E} (hk : k < es.length) (h : Ents w g 0 (es.take k)) {v0 v1 v2 : Value} (e0 : w.cell? ⟨g, k * 3, none⟩ = some v0) (e1 : w.cell? ⟨g, k * 3 + 1, none⟩ = some v1) (e2 : w.cell? ⟨g, k * 3 + 2, none⟩ = some v2) :
    Ents (((w.setCell ⟨g, k * 3, none⟩ (.string es[k].p)).setCell ⟨g, k * 3 + 1, none⟩ (.int .i64 es[k].d)).setCell ⟨g, k * 3 + 2, none⟩ (.string es[k].x)) g 0 (es.take (k + 1)) := by
  intro i hi
  rw [List.length_take] at hi
  rw [List.getElem_take]
  by_cases e : i = k
  · subst e
    refine ⟨?_, ?_, ?_⟩
    · rw [Nat.zero_add, cell_ne _ _ _ _ _ (by omega), cell_ne _ _ _ _ _ (by omega)]; exact cell_eq _ e0
    · rw [Nat.zero_add, cell_ne _ _ _ _ _ (by omega)]; exact cell_eq _ ((cell_ne _ _ _ _ _ (by omega)).trans e1)
    · rw [Nat.zero_add]; exact cell_eq _ ((cell_ne _ _ _ _ _ (by omega)).trans ((cell_ne _ _ _ _ _ (by omega)).trans e2))
  · have hlt : i < k := by omega
    obtain ⟨q0, q1, q2⟩ := h i (by rw [List.length_take]; omega)
    rw [List.getElem_take] at q0 q1 q2
    rw [Nat.zero_add] at *
    refine ⟨?_, ?_, ?_⟩
    · rw [cell_ne _ _ _ _ _ (by omega), cell_ne _ _ _ _ _ (by omega), cell_ne _ _ _ _ _ (by omega)]; exact q0
    · rw [cell_ne _ _ _ _ _ (by omega), cell_ne _ _ _ _ _ (by omega), cell_ne _ _ _ _ _ (by omega)]; exact q1
    · rw [cell_ne _ _ _ _ _ (by omega), cell_ne _ _ _ _ _ (by omega), cell_ne _ _ _ _ _ (by omega)]; exact q2

def sameE (e f : E) : Bool := (e.p.toList == f.p.toList) && ((e.d == f.d) && (e.x.toList == f.x.toList))
def sameES (es fs : List E) : Bool := decide (es.length = fs.length) && (List.range es.length).all (fun i => match es[i]?, fs[i]? with | some e, some f => sameE e f | _, _ => true)
theorem sameE_iff (e f : E) : sameE e f = true ↔ e = f := by
  unfold sameE
  rw [Bool.and_eq_true, Bool.and_eq_true, beq_iff_eq, beq_iff_eq, beq_iff_eq]
  constructor
  · rintro ⟨h1, h2, h3⟩
    cases e; cases f
    simp only [E.mk.injEq]
    exact ⟨toList_inj h1, h2, toList_inj h3⟩
  · rintro rfl; exact ⟨rfl, rfl, rfl⟩

set_option maxHeartbeats 400000 in
theorem eqEnt_any (w : World) (e f : E) :
    Calls Tryd.prog 36 #[encE e, encE f] w fun r w' => r = .returned (.bool (sameE e f)) ∧ Below w.heap.size w w' := by
  obtain ⟨p, d, x⟩ := e
  obtain ⟨p', d', x'⟩ := f
  have hB : ∀ t t', Below w.heap.size w ((w.alloc (.cells #[.string p, .int .i64 d, .string x] t)).alloc (.cells #[.string p', .int .i64 d', .string x'] t')) := fun _ _ => ((Below.refl _ w).alloc (Nat.le_refl _) _).alloc (by simp) _
  have HB := hidE hB
  clear hB
  cases h1 : (p.toList == p'.toList) with
  | false =>
    have n1 : ¬ p.toList = p'.toList := fun q => by rw [q, beq_self_eq_true] at h1; cases h1
    go_enter Tryd.func36, Tryd.ntmps36
    go_wp2
    go_ret
    exact ⟨ret_bE (by unfold sameE; rw [h1]; rfl), HB.out _ _⟩
  | true =>
    have n1 : p.toList = p'.toList := beq_iff_eq.1 h1
    cases h2 : (d == d') with
    | false =>
      go_enter Tryd.func36, Tryd.ntmps36
      go_wp2
      go_ret
      exact ⟨ret_bE (by unfold sameE; rw [h1, h2]; rfl), HB.out _ _⟩
    | true =>
      obtain rfl : d = d' := beq_iff_eq.1 h2
      cases h3 : (x.toList == x'.toList) with
      | false =>
        have n3 : ¬ x.toList = x'.toList := fun q => by rw [q, beq_self_eq_true] at h3; cases h3
        go_enter Tryd.func36, Tryd.ntmps36
        go_wp2
        go_ret
        exact ⟨ret_bE (by unfold sameE; rw [h1, h2, h3]; rfl), HB.out _ _⟩
      | true =>
        have n3 : x.toList = x'.toList := beq_iff_eq.1 h3
        go_enter Tryd.func36, Tryd.ntmps36
        go_wp2
        go_ret
        exact ⟨ret_bE (by unfold sameE; rw [h1, h2, h3]; rfl), HB.out _ _⟩

/-- The contract, in every world that has grown out of W0. -/
theorem cEq (W0 : World) (e f : E) (b : Bool) (h : sameE e f = b) : ∀ d os, Calls Tryd.prog 36 #[encE e, encE f] (grow (redrawn W0 d) os) fun r w'' => r = .returned (.bool b) ∧ ∃ p : Regrown, w'' = grow (redrawn W0 p.d) p.os :=
  fun _ _ => Calls.regrown_of (by rw [← h]; exact eqEnt_any _ e f)
theorem sameES_no {es fs : List E} {i : Nat} (hl : es.length = fs.length) (h : i < es.length) (hb : sameE es[i] (fs[i]'(by omega)) = false) : false = sameES es fs := by
  unfold sameES
  have : (List.range es.length).all (fun i => match es[i]?, fs[i]? with | some e, some f => sameE e f | _, _ => true) = false := by
    rw [List.all_eq_false]
    refine ⟨i, List.mem_range.2 h, ?_⟩
    rw [List.getElem?_eq_getElem h, List.getElem?_eq_getElem (by omega)]
    simp [hb]
  rw [this, Bool.and_false]

set_option maxHeartbeats 800000 in
set_option maxRecDepth 100000 in
theorem eqEntS_any (w : World) (a a' : Option Addr) (g o cap g' o' cap' : Nat) (es fs : List E) (hn : es.length ≤ 16777216) (_hn' : fs.length ≤ 16777216) (ha : 0 < es.length → a = some ⟨g, o, none⟩) (ha' : 0 < fs.length → a' = some ⟨g', o', none⟩) (hE : Ents w g o es) (hE' : Ents w g' o' fs) :
    Calls Tryd.prog 13 #[.slice a es.length cap, .slice a' fs.length cap'] w fun r w' => r = .returned (.bool (sameES es fs)) ∧ Below w.heap.size w w' := by
  have HE := hidE hE
  have HE' := hidE hE'
  clear hE hE'
  by_cases hlen : es.length = fs.length
  · have HL := hidE hlen
    have hb : ((es.length : Int) != (fs.length : Int)) = false := by rw [hlen]; simp
    have hle : fs.length ≤ es.length := by omega
    have hge : es.length ≤ fs.length := by omega
    clear hlen
    go_enter Tryd.func13, Tryd.ntmps13
    go_wp2
    go_loopw [5] (fun iv wl => ∃ k : Nat, k ≤ es.length ∧ iv = .int .i64 k ∧ Hid (Below w.heap.size w wl) ∧ Hid ((List.range k).all (fun i => match es[i]?, fs[i]? with | some e, some f => sameE e f | _, _ => true) = true)) (fun iv _ => es.length - (RowKit.intOf iv).toNat)
    case atStart => exact ⟨0, Nat.zero_le _, rfl, Below.refl _ _, rfl⟩
    case round =>
      obtain ⟨k, hk, rfl, HB, HA⟩ := hrel
      by_cases hlt : k < es.length
      · have hlt' : k < fs.length := by omega
        obtain rfl := ha (by omega)
        obtain rfl := ha' (by omega)
        obtain ⟨c0, c1, c2⟩ := (HE.out.below HB.out) k hlt
        obtain ⟨d0, d1, d2⟩ := (HE'.out.below HB.out) k hlt'
        have k0 := cell_regrown c0
        have k1 := cell_regrown c1
        have k2 := cell_regrown c2
        have q0 := cell_regrown d0
        have q1 := cell_regrown d1
        have q2 := cell_regrown d2
        clear c0 c1 c2 d0 d1 d2
        cases hs : sameE es[k] fs[k] with
        | true =>
          have a1 := cEq wr es[k] fs[k] true hs
          have HA2 := hidE (all_range_succ _ k HA.out (by rw [List.getElem?_eq_getElem hlt, List.getElem?_eq_getElem hlt']; exact hs))
          go_wp2
          refine wp_region_quiet_below (by kernel_rfl) (by kernel_rfl) ?_
          repeat (go_big_quiet_step (first | exact a1 _ _))
          refine wpQuiet_nil ?_
          intro _ hw'
          obtain ⟨⟨dq, osq⟩, hw''⟩ := hw'
          subst hw''
          have HBq := hidE (HB.out.trans ((below_regrown wr dq osq).mono HB.out.size))
          clear HB k0 k1 k2 q0 q1 q2 a1
          go_wp2
          go_roundw
          case rel => exact ⟨k + 1, by omega, by go_num, HBq, HA2⟩
          case measure => simp [RowKit.intOf]; omega
        | false =>
          have a1 := cEq wr es[k] fs[k] false hs
          have HN := hidE (sameES_no HL.out hlt hs)
          go_wp2
          refine wp_region_quiet_below (by kernel_rfl) (by kernel_rfl) ?_
          repeat (go_big_quiet_step (first | exact a1 _ _))
          refine wpQuiet_nil ?_
          intro _ hw'
          obtain ⟨⟨dq, osq⟩, hw''⟩ := hw'
          subst hw''
          have HBq := hidE (HB.out.trans ((below_regrown wr dq osq).mono HB.out.size))
          clear HB k0 k1 k2 q0 q1 q2 a1
          go_wp2
          go_ret
          exact ⟨ret_bE HN.out, HBq.out⟩
      · go_wp2
        go_ret
        have HT : sameES es fs = true := by
          unfold sameES
          have := HA.out
          rw [show k = es.length from by omega] at this
          rw [decide_eq_true HL.out, this]; rfl
        exact ⟨ret_bE HT.symm, HB.out⟩
  · have hb : ((es.length : Int) == (fs.length : Int)) = false := by rw [beq_eq_false_iff_ne]; omega
    go_enter Tryd.func13, Tryd.ntmps13
    go_wp2
    go_ret
    exact ⟨ret_bE (by unfold sameES; rw [decide_eq_false hlen]; rfl), Below.refl _ _⟩
end Go.Proofs.YtfbfmckfmdodlaaDoor.Mk

/-
  Rows of marks that a function makes itself.
-/
namespace Go.Proofs.YtfbfmckfmdodlaaDoor.Mk
open Go.RowKit Go.Lib

theorem rowE_append (es fs : List E) : rowE (es ++ fs) = rowE es ++ rowE fs := by unfold rowE; exact List.flatMap_append
theorem rowE_one (e : E) : rowE [e] = cellsE e := by unfold rowE; simp
theorem rowE_at : ∀ (es : List E) (i : Nat) (h : i < es.length), (rowE es)[i * 3]? = some (.string es[i].p) ∧ (rowE es)[i * 3 + 1]? = some (.int .i64 es[i].d) ∧ (rowE es)[i * 3 + 2]? = some (.string es[i].x)
  | e :: r, 0, _ => ⟨rfl, rfl, rfl⟩
  | e :: r, i + 1, h => by
    obtain ⟨q0, q1, q2⟩ := rowE_at r i (by simpa using h)
    have hd : ∀ j, (rowE (e :: r))[3 + j]? = (rowE r)[j]? := fun j => by
      show (cellsE e ++ rowE r)[3 + j]? = _
      rw [List.getElem?_append_right (by show 3 ≤ _; omega)]
      show (rowE r)[3 + j - 3]? = _
      rw [Nat.add_sub_cancel_left]
    refine ⟨?_, ?_, ?_⟩
    · rw [show (i + 1) * 3 = 3 + i * 3 from by omega, hd]; exact q0
    · rw [show (i + 1) * 3 + 1 = 3 + (i * 3 + 1) from by omega, hd]; exact q1
    · rw [show (i + 1) * 3 + 2 = 3 + (i * 3 + 2) from by omega, hd]; exact q2
theorem rowE_one' {e : E} : ∀ u ∈ cellsE e, u.oneCell' = true := by
  intro u hu; simp [cellsE] at hu; rcases hu with rfl | rfl | rfl <;> rfl

/-- A list of marks that lies in a block of its own, at base or behind. -/
abbrev OwnE (w : World) (base : Nat) (v : Value) (es : List E) : Prop := w.ownsRow base 61 3 v es.length (rowE es)
theorem add0 (g j : Nat) : (⟨g, 0, none⟩ : Addr).add j = ⟨g, 0 + j, none⟩ := by
  cases j with
  | zero => rfl
  | succ j => simp [Addr.add]
theorem OwnE.ents {w : World} {base : Nat} {v : Value} {es : List E} (h : OwnE w base v es) :
    ∃ a g cap, v = .slice a es.length cap ∧ (0 < es.length → a = some ⟨g, 0, none⟩) ∧ Ents w g 0 es ∧ es.length ≤ cap := by
  have hc := fun (g : Nat) (hg : v.ownBlock = some g) => World.ownsRow.cells h hg
  obtain ⟨_, ⟨rfl, e0⟩ | ⟨g, cap, cur, rfl, _, _, hcap, _⟩⟩ := h
  · exact ⟨none, 0, 0, by rw [e0], fun h => by omega, fun i hi => by omega, by omega⟩
  · refine ⟨_, g, cap, rfl, fun _ => rfl, fun i hi => ?_, hcap⟩
    obtain ⟨q0, q1, q2⟩ := rowE_at es i hi
    refine ⟨?_, ?_, ?_⟩
    · have := hc g rfl _ _ q0; rw [add0] at this; exact this
    · have := hc g rfl _ _ q1; rw [add0, ← Nat.add_assoc] at this; exact this
    · have := hc g rfl _ _ q2; rw [add0, ← Nat.add_assoc] at this; exact this
theorem OwnE.below {w w' : World} {base : Nat} {v : Value} {es : List E} (h : OwnE w base v es) (hb : Below w.heap.size w w') : OwnE w' base v es :=
  World.ownsRow.kept (row := none) h ⟨hb.os, hb.tape, hb.output, hb.size, fun b hb' _ => hb.block b hb'⟩ (by
    cases hob : v.ownBlock with
    | none => exact .inl rfl
    | some q => exact .inr (by simp))
theorem OwnE.lower {w : World} {base base' : Nat} {v : Value} {es : List E} (h : OwnE w base v es) (hb : base' ≤ base) : OwnE w base' v es := by
  obtain ⟨h1, h2 | ⟨g, cap, cur, e1, e2, e3⟩⟩ := h
  · exact ⟨h1, .inl h2⟩
  · exact ⟨h1, .inr ⟨g, cap, cur, e1, Nat.le_trans hb e2, e3⟩⟩
theorem OwnE.made (w : World) {base : Nat} (hb : base ≤ w.heap.size) : OwnE (w.alloc (.cells #[] 61)) base (.slice (some ⟨w.heap.size, 0, none⟩) 0 0) [] := World.ownsRow_made w #[] 0 hb (Nat.zero_le _) rfl
theorem OwnE.push {w : World} {base : Nat} {v : Value} {es : List E} {e : E} (h : w.ownsRow base 61 3 v (es.length + 1) (rowE es ++ cellsE e)) : OwnE w base v (es ++ [e]) := by
  show World.ownsRow w base 61 3 v (es ++ [e]).length (rowE (es ++ [e]))
  rw [rowE_append, rowE_one, List.length_append]; exact h

theorem Tryd.infoE' : (Tryd.prog.info? 61).map (fun i => (i.zero, i.size, i.bytes)) = some (some (.agg #[.string ByteArray.empty, .int .i64 0, .string ByteArray.empty]), 3, 40) := by kernel_rfl
theorem cells_new (w : World) (e : E) : ∀ j u, (cellsE e)[j]? = some u → (w.alloc (.cells #[.string e.p, .int .i64 e.d, .string e.x] 61)).cell? ((⟨w.heap.size, 0, none⟩ : Addr).add j) = some u := by
  intro j u hj
  match j, hj with
  | 0, hj => simp [cellsE] at hj; subst hj; simp [Addr.add]
  | 1, hj => simp [cellsE] at hj; subst hj; simp [Addr.add]
  | 2, hj => simp [cellsE] at hj; subst hj; simp [Addr.add]
  | j + 3, hj => simp [cellsE] at hj

end Go.Proofs.YtfbfmckfmdodlaaDoor.Mk

/-
  Stores of a whole struct of three cells into a box.
-/
namespace Go.Proofs.YtfbfmckfmdodlaaDoor
open Go.RowKit Go.Lib

/-- The block b alone is turned. -/
structure OnlyB3 (b : Nat) (w w' : World) : Prop where
  os : w'.os = w.os
  tape : w'.tape = w.tape
  output : w'.output = w.output
  size : w'.heap.size = w.heap.size
  block : ∀ k, k ≠ b → w'.heap[k]? = w.heap[k]?
theorem OnlyB3.trans {b : Nat} {x y z : World} (h : OnlyB3 b x y) (k : OnlyB3 b y z) : OnlyB3 b x z :=
  ⟨k.os.trans h.os, k.tape.trans h.tape, k.output.trans h.output, k.size.trans h.size, fun i hi => (k.block i hi).trans (h.block i hi)⟩
theorem OnlyB3.setRow (b : Nat) (w : World) (cs : Array Value) : OnlyB3 b w (w.setRow b cs) := ⟨rfl, rfl, rfl, setRow_size _ _ _, fun k hk => setRow_other w b k cs hk⟩
theorem OnlyB3.below {b n : Nat} {x y z : World} (k : OnlyB3 b y z) (h : Below n x y) (hb : n ≤ b) : Below n x z :=
  ⟨k.os.trans h.os, k.tape.trans h.tape, k.output.trans h.output, by rw [k.size]; exact h.size, fun i hi => (k.block i (by omega)).trans (h.block i hi)⟩
theorem cell_off3 (w : World) (b i j : Nat) (v : Value) (h : i ≠ j) : (w.setCell ⟨b, i, none⟩ v).cell? ⟨b, j, none⟩ = w.cell? ⟨b, j, none⟩ := World.cell?_setCell_other _ _ _ _ (fun q => by have e := congrArg Addr.off q; dsimp only at e; omega)
theorem set3_rules {w : World} {b : Nat} {c0 c1 c2 : Value} {T : TypeId} (h : w.heap[b]? = some (.cells #[c0, c1, c2] T (0, 0))) :
    (w.cell? ⟨b, 0, none⟩ = some c0 ∧ w.frozen? ⟨b, 0, none⟩ = false) ∧ (∀ u, (w.setCell ⟨b, 0, none⟩ u).cell? ⟨b, 1, none⟩ = some c1 ∧ (w.setCell ⟨b, 0, none⟩ u).frozen? ⟨b, 1, none⟩ = false) ∧
    (∀ u x, ((w.setCell ⟨b, 0, none⟩ u).setCell ⟨b, 1, none⟩ x).cell? ⟨b, 2, none⟩ = some c2 ∧ ((w.setCell ⟨b, 0, none⟩ u).setCell ⟨b, 1, none⟩ x).frozen? ⟨b, 2, none⟩ = false) := by
  have hf : ∀ j, w.frozen? ⟨b, j, none⟩ = false := fun j => by simp [World.frozen?, h]
  have hc : ∀ j, w.cell? ⟨b, j, none⟩ = #[c0, c1, c2][j]? := fun j => cell_of_row w b j _ _ _ h
  refine ⟨⟨hc 0, hf 0⟩, fun u => ⟨?_, ?_⟩, fun u x => ⟨?_, ?_⟩⟩
  · rw [cell_off3 _ _ _ _ _ (by omega)]; exact hc 1
  · rw [World.frozen?_setCell]; exact hf 1
  · rw [cell_off3 _ _ _ _ _ (by omega), cell_off3 _ _ _ _ _ (by omega)]; exact hc 2
  · rw [World.frozen?_setCell, World.frozen?_setCell]; exact hf 2
theorem set3_is {w : World} {b : Nat} {c0 c1 c2 : Value} {T : TypeId} (h : w.heap[b]? = some (.cells #[c0, c1, c2] T (0, 0))) (u x y : Value) :
    OnlyB3 b w (((w.setCell ⟨b, 0, none⟩ u).setCell ⟨b, 1, none⟩ x).setCell ⟨b, 2, none⟩ y) ∧ (((w.setCell ⟨b, 0, none⟩ u).setCell ⟨b, 1, none⟩ x).setCell ⟨b, 2, none⟩ y).heap[b]? = some (.cells #[u, x, y] T (0, 0)) := by
  rw [setCell_eq_setRow w b 0 _ T (0, 0) u h]
  have h1 := setRow_heap w b _ (#[c0, c1, c2].setIfInBounds 0 u) T (0, 0) h
  rw [setCell_eq_setRow _ b 1 _ T (0, 0) x h1]
  have h2 := setRow_heap _ b _ ((#[c0, c1, c2].setIfInBounds 0 u).setIfInBounds 1 x) T (0, 0) h1
  rw [setCell_eq_setRow _ b 2 _ T (0, 0) y h2]
  exact ⟨((OnlyB3.setRow b w _).trans (OnlyB3.setRow b _ _)).trans (OnlyB3.setRow b _ _), setRow_heap _ b _ _ T (0, 0) h2⟩
end Go.Proofs.YtfbfmckfmdodlaaDoor

/-
  Two endings with the same text.
-/
namespace Go.Proofs.YtfbfmckfmdodlaaDoor
open Go.RowKit Go.Lib

theorem retS {a b : ByteArray} (h : a = b) : Ending.returned (.string a) = .returned (.string b) := by rw [h]
end Go.Proofs.YtfbfmckfmdodlaaDoor
