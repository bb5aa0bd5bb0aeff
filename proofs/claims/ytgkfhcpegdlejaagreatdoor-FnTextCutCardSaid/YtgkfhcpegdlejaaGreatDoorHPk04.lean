/-
  What the walks over lists of entries stand on.
-/
import Derived.WalkKit
import Derived.OwnWalk
import Derived.WalkSpells
import Derived.WalkLawsBesides
import Derived.Laws.Pointers
import Derived.Deep.QuietTactic
import Derived.BigQuiet
import Derived.Outline
import Derived.Below
import Derived.Lib.QuietBelow
import Derived.Test.YtgkfhcpegdlejaaGreatDoorProg
import Derived.Test.YtgkfhcpegdlejaaGreatDoorHPk03
import Derived.Test.YtgkfhcpegdlejaaGreatDoorHPk01
import Derived.Test.YtgkfhcpegdlejaaGreatDoorHPk02
import Derived.Laws.Tables
import Derived.Lib.FrozenHead
import Derived.Laws.MakeOwn
import Derived.Laws.ResultCell
import Derived.Maps.AppendAt


/-
  The walk of the program's own: the kind of a word.
-/
namespace Go.Proofs.YtgkfhcpegdlejaaGreatDoor
open Go.RowKit Go.Lib

theorem str_yes {a b : ByteArray} (h : a = b) : (a.toList == b.toList) = true ∧ a.toList = b.toList := by rw [h]; simp
theorem str_no {a b : ByteArray} (h : ¬ a = b) : (a.toList == b.toList) = false ∧ ¬ a.toList = b.toList := by
  have : ¬ a.toList = b.toList := fun e => h (lb_inj (by rw [Lib.toList_data, Lib.toList_data] at e; exact e))
  exact ⟨by simpa using this, this⟩
/-- The table lies where it is laid. -/
structure OpTab (w : World) : Prop where
  c0 : w.cell? ⟨0, 0, none⟩ = some (.string ⟨#[]⟩)
  c1 : w.cell? ⟨0, 1, none⟩ = some (.string oW1)
  c2 : w.cell? ⟨0, 2, none⟩ = some (.string oW2)
  c3 : w.cell? ⟨0, 3, none⟩ = some (.string oW3)
  c4 : w.cell? ⟨0, 4, none⟩ = some (.string oW4)
  c5 : w.cell? ⟨0, 5, none⟩ = some (.string oW5)
theorem OpTab.below {w w' : World} (h : OpTab w) (hb : Below w.heap.size w w') : OpTab w' := by
  have hB : 0 < w.heap.size := World.block_lt_of_cell? w ⟨0, 1, none⟩ h.c1
  exact ⟨(hb.cell (p := ⟨0, _, none⟩) hB).trans h.c0, (hb.cell (p := ⟨0, _, none⟩) hB).trans h.c1, (hb.cell (p := ⟨0, _, none⟩) hB).trans h.c2, (hb.cell (p := ⟨0, _, none⟩) hB).trans h.c3, (hb.cell (p := ⟨0, _, none⟩) hB).trans h.c4, (hb.cell (p := ⟨0, _, none⟩) hB).trans h.c5⟩
set_option maxHeartbeats 1600000 in
set_option maxRecDepth 100000 in
theorem opKind_any (s : ByteArray) (w : World) (hw : OpTab w) :
    Calls Tryz.prog 82 #[.string s] w fun r w' => r = .returned (.int .i64 (findK [⟨#[]⟩, oW1, oW2, oW3, oW4, oW5] 0 s)) ∧ Below w.heap.size w w' := by
  obtain ⟨c0, c1, c2, c3, c4, c5⟩ := hw
  go_enter Tryz.func82, Tryz.ntmps82
  go_wp2
  clear c0 c1 c2 c3 c4 c5
  go_loopw [6] (fun iv wl => ∃ j : Nat, j ≤ 6 ∧ iv = .int .i64 j ∧ Hid (findK ([⟨#[]⟩, oW1, oW2, oW3, oW4, oW5].drop j) j s = findK [⟨#[]⟩, oW1, oW2, oW3, oW4, oW5] 0 s) ∧ Hid (Below w.heap.size w wl)) (fun iv _ => 6 - (RowKit.intOf iv).toNat)
  case atStart => exact ⟨0, Nat.zero_le _, rfl, rfl, Below.refl _ _⟩
  case round =>
    obtain ⟨j, hj, rfl, HK, HB⟩ := hrel
    match j, hj with
    | 0, _ =>
      by_cases he : (⟨#[]⟩ : ByteArray) = s
      · have HR : Hid (findK [⟨#[]⟩, oW1, oW2, oW3, oW4, oW5] 0 s = 0) := by show _ = _; rw [← HK.out]; show (if (⟨#[]⟩ : ByteArray) = s then (0 : Int) else _) = 0; rw [if_pos he]
        obtain ⟨e1, e2⟩ := str_yes he
        clear HK he
        rw [show ((0 : Nat) : Int) = (0 : Int) from rfl]
        have hix : ∀ W, (Instr.index 77 (.agg #[.string ⟨#[]⟩, .string oW1, .string oW2, .string oW3, .string oW4, .string oW5]) (.int .i64 0)).run Tryz.prog W = .ok (.string ⟨#[]⟩) W := fun _ => by kernel_rfl
        go_wp2
        go_ret
        exact ⟨ret_iE HR.out.symm, HB.out⟩
      · have HR : Hid (findK ([⟨#[]⟩, oW1, oW2, oW3, oW4, oW5].drop (0 + 1)) ((0 + 1 : Nat) : Int) s = findK [⟨#[]⟩, oW1, oW2, oW3, oW4, oW5] 0 s) := by show _ = _; rw [← HK.out]; show _ = (if (⟨#[]⟩ : ByteArray) = s then (0 : Int) else _); rw [if_neg he]; rfl
        obtain ⟨e1, e2⟩ := str_no he
        have e3 : (([] : List UInt8) == s.toList) = false := by rw [Lib.toList_data] at e1; exact e1
        have e4 : ¬ ([] : List UInt8) = s.toList := by rw [Lib.toList_data] at e2; exact e2
        clear HK he
        rw [show ((0 : Nat) : Int) = (0 : Int) from rfl]
        have hix : ∀ W, (Instr.index 77 (.agg #[.string ⟨#[]⟩, .string oW1, .string oW2, .string oW3, .string oW4, .string oW5]) (.int .i64 0)).run Tryz.prog W = .ok (.string ⟨#[]⟩) W := fun _ => by kernel_rfl
        go_wp2
        go_roundw
        case rel => exact ⟨1, by omega, by go_num, HR, HB⟩
        case measure => simp [RowKit.intOf]
    | 1, _ =>
      by_cases he : (oW1 : ByteArray) = s
      · have HR : Hid (findK [⟨#[]⟩, oW1, oW2, oW3, oW4, oW5] 0 s = 1) := by show _ = _; rw [← HK.out]; show (if (oW1 : ByteArray) = s then (1 : Int) else _) = 1; rw [if_pos he]
        obtain ⟨e1, e2⟩ := str_yes he
        clear HK he
        rw [show ((1 : Nat) : Int) = (1 : Int) from rfl]
        have hix : ∀ W, (Instr.index 77 (.agg #[.string ⟨#[]⟩, .string oW1, .string oW2, .string oW3, .string oW4, .string oW5]) (.int .i64 1)).run Tryz.prog W = .ok (.string oW1) W := fun _ => by kernel_rfl
        go_wp2
        go_ret
        exact ⟨ret_iE HR.out.symm, HB.out⟩
      · have HR : Hid (findK ([⟨#[]⟩, oW1, oW2, oW3, oW4, oW5].drop (1 + 1)) ((1 + 1 : Nat) : Int) s = findK [⟨#[]⟩, oW1, oW2, oW3, oW4, oW5] 0 s) := by show _ = _; rw [← HK.out]; show _ = (if (oW1 : ByteArray) = s then (1 : Int) else _); rw [if_neg he]; rfl
        obtain ⟨e1, e2⟩ := str_no he
        clear HK he
        rw [show ((1 : Nat) : Int) = (1 : Int) from rfl]
        have hix : ∀ W, (Instr.index 77 (.agg #[.string ⟨#[]⟩, .string oW1, .string oW2, .string oW3, .string oW4, .string oW5]) (.int .i64 1)).run Tryz.prog W = .ok (.string oW1) W := fun _ => by kernel_rfl
        go_wp2
        go_roundw
        case rel => exact ⟨2, by omega, by go_num, HR, HB⟩
        case measure => simp [RowKit.intOf]
    | 2, _ =>
      by_cases he : (oW2 : ByteArray) = s
      · have HR : Hid (findK [⟨#[]⟩, oW1, oW2, oW3, oW4, oW5] 0 s = 2) := by show _ = _; rw [← HK.out]; show (if (oW2 : ByteArray) = s then (2 : Int) else _) = 2; rw [if_pos he]
        obtain ⟨e1, e2⟩ := str_yes he
        clear HK he
        rw [show ((2 : Nat) : Int) = (2 : Int) from rfl]
        have hix : ∀ W, (Instr.index 77 (.agg #[.string ⟨#[]⟩, .string oW1, .string oW2, .string oW3, .string oW4, .string oW5]) (.int .i64 2)).run Tryz.prog W = .ok (.string oW2) W := fun _ => by kernel_rfl
        go_wp2
        go_ret
        exact ⟨ret_iE HR.out.symm, HB.out⟩
      · have HR : Hid (findK ([⟨#[]⟩, oW1, oW2, oW3, oW4, oW5].drop (2 + 1)) ((2 + 1 : Nat) : Int) s = findK [⟨#[]⟩, oW1, oW2, oW3, oW4, oW5] 0 s) := by show _ = _; rw [← HK.out]; show _ = (if (oW2 : ByteArray) = s then (2 : Int) else _); rw [if_neg he]; rfl
        obtain ⟨e1, e2⟩ := str_no he
        clear HK he
        rw [show ((2 : Nat) : Int) = (2 : Int) from rfl]
        have hix : ∀ W, (Instr.index 77 (.agg #[.string ⟨#[]⟩, .string oW1, .string oW2, .string oW3, .string oW4, .string oW5]) (.int .i64 2)).run Tryz.prog W = .ok (.string oW2) W := fun _ => by kernel_rfl
        go_wp2
        go_roundw
        case rel => exact ⟨3, by omega, by go_num, HR, HB⟩
        case measure => simp [RowKit.intOf]
    | 3, _ =>
      by_cases he : (oW3 : ByteArray) = s
      · have HR : Hid (findK [⟨#[]⟩, oW1, oW2, oW3, oW4, oW5] 0 s = 3) := by show _ = _; rw [← HK.out]; show (if (oW3 : ByteArray) = s then (3 : Int) else _) = 3; rw [if_pos he]
        obtain ⟨e1, e2⟩ := str_yes he
        clear HK he
        rw [show ((3 : Nat) : Int) = (3 : Int) from rfl]
        have hix : ∀ W, (Instr.index 77 (.agg #[.string ⟨#[]⟩, .string oW1, .string oW2, .string oW3, .string oW4, .string oW5]) (.int .i64 3)).run Tryz.prog W = .ok (.string oW3) W := fun _ => by kernel_rfl
        go_wp2
        go_ret
        exact ⟨ret_iE HR.out.symm, HB.out⟩
      · have HR : Hid (findK ([⟨#[]⟩, oW1, oW2, oW3, oW4, oW5].drop (3 + 1)) ((3 + 1 : Nat) : Int) s = findK [⟨#[]⟩, oW1, oW2, oW3, oW4, oW5] 0 s) := by show _ = _; rw [← HK.out]; show _ = (if (oW3 : ByteArray) = s then (3 : Int) else _); rw [if_neg he]; rfl
        obtain ⟨e1, e2⟩ := str_no he
        clear HK he
        rw [show ((3 : Nat) : Int) = (3 : Int) from rfl]
        have hix : ∀ W, (Instr.index 77 (.agg #[.string ⟨#[]⟩, .string oW1, .string oW2, .string oW3, .string oW4, .string oW5]) (.int .i64 3)).run Tryz.prog W = .ok (.string oW3) W := fun _ => by kernel_rfl
        go_wp2
        go_roundw
        case rel => exact ⟨4, by omega, by go_num, HR, HB⟩
        case measure => simp [RowKit.intOf]
    | 4, _ =>
      by_cases he : (oW4 : ByteArray) = s
      · have HR : Hid (findK [⟨#[]⟩, oW1, oW2, oW3, oW4, oW5] 0 s = 4) := by show _ = _; rw [← HK.out]; show (if (oW4 : ByteArray) = s then (4 : Int) else _) = 4; rw [if_pos he]
        obtain ⟨e1, e2⟩ := str_yes he
        clear HK he
        rw [show ((4 : Nat) : Int) = (4 : Int) from rfl]
        have hix : ∀ W, (Instr.index 77 (.agg #[.string ⟨#[]⟩, .string oW1, .string oW2, .string oW3, .string oW4, .string oW5]) (.int .i64 4)).run Tryz.prog W = .ok (.string oW4) W := fun _ => by kernel_rfl
        go_wp2
        go_ret
        exact ⟨ret_iE HR.out.symm, HB.out⟩
      · have HR : Hid (findK ([⟨#[]⟩, oW1, oW2, oW3, oW4, oW5].drop (4 + 1)) ((4 + 1 : Nat) : Int) s = findK [⟨#[]⟩, oW1, oW2, oW3, oW4, oW5] 0 s) := by show _ = _; rw [← HK.out]; show _ = (if (oW4 : ByteArray) = s then (4 : Int) else _); rw [if_neg he]; rfl
        obtain ⟨e1, e2⟩ := str_no he
        clear HK he
        rw [show ((4 : Nat) : Int) = (4 : Int) from rfl]
        have hix : ∀ W, (Instr.index 77 (.agg #[.string ⟨#[]⟩, .string oW1, .string oW2, .string oW3, .string oW4, .string oW5]) (.int .i64 4)).run Tryz.prog W = .ok (.string oW4) W := fun _ => by kernel_rfl
        go_wp2
        go_roundw
        case rel => exact ⟨5, by omega, by go_num, HR, HB⟩
        case measure => simp [RowKit.intOf]
    | 5, _ =>
      by_cases he : (oW5 : ByteArray) = s
      · have HR : Hid (findK [⟨#[]⟩, oW1, oW2, oW3, oW4, oW5] 0 s = 5) := by show _ = _; rw [← HK.out]; show (if (oW5 : ByteArray) = s then (5 : Int) else _) = 5; rw [if_pos he]
        obtain ⟨e1, e2⟩ := str_yes he
        clear HK he
        rw [show ((5 : Nat) : Int) = (5 : Int) from rfl]
        have hix : ∀ W, (Instr.index 77 (.agg #[.string ⟨#[]⟩, .string oW1, .string oW2, .string oW3, .string oW4, .string oW5]) (.int .i64 5)).run Tryz.prog W = .ok (.string oW5) W := fun _ => by kernel_rfl
        go_wp2
        go_ret
        exact ⟨ret_iE HR.out.symm, HB.out⟩
      · have HR : Hid (findK ([⟨#[]⟩, oW1, oW2, oW3, oW4, oW5].drop (5 + 1)) ((5 + 1 : Nat) : Int) s = findK [⟨#[]⟩, oW1, oW2, oW3, oW4, oW5] 0 s) := by show _ = _; rw [← HK.out]; show _ = (if (oW5 : ByteArray) = s then (5 : Int) else _); rw [if_neg he]; rfl
        obtain ⟨e1, e2⟩ := str_no he
        clear HK he
        rw [show ((5 : Nat) : Int) = (5 : Int) from rfl]
        have hix : ∀ W, (Instr.index 77 (.agg #[.string ⟨#[]⟩, .string oW1, .string oW2, .string oW3, .string oW4, .string oW5]) (.int .i64 5)).run Tryz.prog W = .ok (.string oW5) W := fun _ => by kernel_rfl
        go_wp2
        go_roundw
        case rel => exact ⟨6, by omega, by go_num, HR, HB⟩
        case measure => simp [RowKit.intOf]
    | 6, _ =>
      have HR : Hid (findK [⟨#[]⟩, oW1, oW2, oW3, oW4, oW5] 0 s = 0) := by show _ = _; rw [← HK.out]; rfl
      clear HK
      rw [show ((6 : Nat) : Int) = (6 : Int) from rfl]
      go_wp2
      go_ret
      exact ⟨ret_iE HR.out.symm, HB.out⟩
end Go.Proofs.YtgkfhcpegdlejaaGreatDoor

/-
  The walk of the program's own: the kind of a word.
-/
namespace Go.Proofs.YtgkfhcpegdlejaaGreatDoor
open Go.RowKit Go.Lib

/-- The table lies where it is laid. -/
structure MarkTab (w : World) : Prop where
  c0 : w.cell? ⟨1, 0, none⟩ = some (.string ⟨#[]⟩)
  c1 : w.cell? ⟨1, 1, none⟩ = some (.string wF)
  c2 : w.cell? ⟨1, 2, none⟩ = some (.string wD)
  c3 : w.cell? ⟨1, 3, none⟩ = some (.string wX)
  c4 : w.cell? ⟨1, 4, none⟩ = some (.string wB)
theorem MarkTab.below {w w' : World} (h : MarkTab w) (hb : Below w.heap.size w w') : MarkTab w' := by
  have hB : 1 < w.heap.size := World.block_lt_of_cell? w ⟨1, 1, none⟩ h.c1
  exact ⟨(hb.cell (p := ⟨1, _, none⟩) hB).trans h.c0, (hb.cell (p := ⟨1, _, none⟩) hB).trans h.c1, (hb.cell (p := ⟨1, _, none⟩) hB).trans h.c2, (hb.cell (p := ⟨1, _, none⟩) hB).trans h.c3, (hb.cell (p := ⟨1, _, none⟩) hB).trans h.c4⟩
set_option maxHeartbeats 1600000 in
set_option maxRecDepth 100000 in
theorem markKind_any (s : ByteArray) (w : World) (hw : MarkTab w) :
    Calls Tryz.prog 67 #[.string s] w fun r w' => r = .returned (.int .i64 (findK [⟨#[]⟩, wF, wD, wX, wB] 0 s)) ∧ Below w.heap.size w w' := by
  obtain ⟨c0, c1, c2, c3, c4⟩ := hw
  go_enter Tryz.func67, Tryz.ntmps67
  go_wp2
  clear c0 c1 c2 c3 c4
  go_loopw [6] (fun iv wl => ∃ j : Nat, j ≤ 5 ∧ iv = .int .i64 j ∧ Hid (findK ([⟨#[]⟩, wF, wD, wX, wB].drop j) j s = findK [⟨#[]⟩, wF, wD, wX, wB] 0 s) ∧ Hid (Below w.heap.size w wl)) (fun iv _ => 5 - (RowKit.intOf iv).toNat)
  case atStart => exact ⟨0, Nat.zero_le _, rfl, rfl, Below.refl _ _⟩
  case round =>
    obtain ⟨j, hj, rfl, HK, HB⟩ := hrel
    match j, hj with
    | 0, _ =>
      by_cases he : (⟨#[]⟩ : ByteArray) = s
      · have HR : Hid (findK [⟨#[]⟩, wF, wD, wX, wB] 0 s = 0) := by show _ = _; rw [← HK.out]; show (if (⟨#[]⟩ : ByteArray) = s then (0 : Int) else _) = 0; rw [if_pos he]
        obtain ⟨e1, e2⟩ := str_yes he
        clear HK he
        rw [show ((0 : Nat) : Int) = (0 : Int) from rfl]
        have hix : ∀ W, (Instr.index 101 (.agg #[.string ⟨#[]⟩, .string wF, .string wD, .string wX, .string wB]) (.int .i64 0)).run Tryz.prog W = .ok (.string ⟨#[]⟩) W := fun _ => by kernel_rfl
        go_wp2
        go_ret
        exact ⟨ret_iE HR.out.symm, HB.out⟩
      · have HR : Hid (findK ([⟨#[]⟩, wF, wD, wX, wB].drop (0 + 1)) ((0 + 1 : Nat) : Int) s = findK [⟨#[]⟩, wF, wD, wX, wB] 0 s) := by show _ = _; rw [← HK.out]; show _ = (if (⟨#[]⟩ : ByteArray) = s then (0 : Int) else _); rw [if_neg he]; rfl
        obtain ⟨e1, e2⟩ := str_no he
        have e3 : (([] : List UInt8) == s.toList) = false := by rw [Lib.toList_data] at e1; exact e1
        have e4 : ¬ ([] : List UInt8) = s.toList := by rw [Lib.toList_data] at e2; exact e2
        clear HK he
        rw [show ((0 : Nat) : Int) = (0 : Int) from rfl]
        have hix : ∀ W, (Instr.index 101 (.agg #[.string ⟨#[]⟩, .string wF, .string wD, .string wX, .string wB]) (.int .i64 0)).run Tryz.prog W = .ok (.string ⟨#[]⟩) W := fun _ => by kernel_rfl
        go_wp2
        go_roundw
        case rel => exact ⟨1, by omega, by go_num, HR, HB⟩
        case measure => simp [RowKit.intOf]
    | 1, _ =>
      by_cases he : (wF : ByteArray) = s
      · have HR : Hid (findK [⟨#[]⟩, wF, wD, wX, wB] 0 s = 1) := by show _ = _; rw [← HK.out]; show (if (wF : ByteArray) = s then (1 : Int) else _) = 1; rw [if_pos he]
        obtain ⟨e1, e2⟩ := str_yes he
        clear HK he
        rw [show ((1 : Nat) : Int) = (1 : Int) from rfl]
        have hix : ∀ W, (Instr.index 101 (.agg #[.string ⟨#[]⟩, .string wF, .string wD, .string wX, .string wB]) (.int .i64 1)).run Tryz.prog W = .ok (.string wF) W := fun _ => by kernel_rfl
        go_wp2
        go_ret
        exact ⟨ret_iE HR.out.symm, HB.out⟩
      · have HR : Hid (findK ([⟨#[]⟩, wF, wD, wX, wB].drop (1 + 1)) ((1 + 1 : Nat) : Int) s = findK [⟨#[]⟩, wF, wD, wX, wB] 0 s) := by show _ = _; rw [← HK.out]; show _ = (if (wF : ByteArray) = s then (1 : Int) else _); rw [if_neg he]; rfl
        obtain ⟨e1, e2⟩ := str_no he
        clear HK he
        rw [show ((1 : Nat) : Int) = (1 : Int) from rfl]
        have hix : ∀ W, (Instr.index 101 (.agg #[.string ⟨#[]⟩, .string wF, .string wD, .string wX, .string wB]) (.int .i64 1)).run Tryz.prog W = .ok (.string wF) W := fun _ => by kernel_rfl
        go_wp2
        go_roundw
        case rel => exact ⟨2, by omega, by go_num, HR, HB⟩
        case measure => simp [RowKit.intOf]
    | 2, _ =>
      by_cases he : (wD : ByteArray) = s
      · have HR : Hid (findK [⟨#[]⟩, wF, wD, wX, wB] 0 s = 2) := by show _ = _; rw [← HK.out]; show (if (wD : ByteArray) = s then (2 : Int) else _) = 2; rw [if_pos he]
        obtain ⟨e1, e2⟩ := str_yes he
        clear HK he
        rw [show ((2 : Nat) : Int) = (2 : Int) from rfl]
        have hix : ∀ W, (Instr.index 101 (.agg #[.string ⟨#[]⟩, .string wF, .string wD, .string wX, .string wB]) (.int .i64 2)).run Tryz.prog W = .ok (.string wD) W := fun _ => by kernel_rfl
        go_wp2
        go_ret
        exact ⟨ret_iE HR.out.symm, HB.out⟩
      · have HR : Hid (findK ([⟨#[]⟩, wF, wD, wX, wB].drop (2 + 1)) ((2 + 1 : Nat) : Int) s = findK [⟨#[]⟩, wF, wD, wX, wB] 0 s) := by show _ = _; rw [← HK.out]; show _ = (if (wD : ByteArray) = s then (2 : Int) else _); rw [if_neg he]; rfl
        obtain ⟨e1, e2⟩ := str_no he
        clear HK he
        rw [show ((2 : Nat) : Int) = (2 : Int) from rfl]
        have hix : ∀ W, (Instr.index 101 (.agg #[.string ⟨#[]⟩, .string wF, .string wD, .string wX, .string wB]) (.int .i64 2)).run Tryz.prog W = .ok (.string wD) W := fun _ => by kernel_rfl
        go_wp2
        go_roundw
        case rel => exact ⟨3, by omega, by go_num, HR, HB⟩
        case measure => simp [RowKit.intOf]
    | 3, _ =>
      by_cases he : (wX : ByteArray) = s
      · have HR : Hid (findK [⟨#[]⟩, wF, wD, wX, wB] 0 s = 3) := by show _ = _; rw [← HK.out]; show (if (wX : ByteArray) = s then (3 : Int) else _) = 3; rw [if_pos he]
        obtain ⟨e1, e2⟩ := str_yes he
        clear HK he
        rw [show ((3 : Nat) : Int) = (3 : Int) from rfl]
        have hix : ∀ W, (Instr.index 101 (.agg #[.string ⟨#[]⟩, .string wF, .string wD, .string wX, .string wB]) (.int .i64 3)).run Tryz.prog W = .ok (.string wX) W := fun _ => by kernel_rfl
        go_wp2
        go_ret
        exact ⟨ret_iE HR.out.symm, HB.out⟩
      · have HR : Hid (findK ([⟨#[]⟩, wF, wD, wX, wB].drop (3 + 1)) ((3 + 1 : Nat) : Int) s = findK [⟨#[]⟩, wF, wD, wX, wB] 0 s) := by show _ = _; rw [← HK.out]; show _ = (if (wX : ByteArray) = s then (3 : Int) else _); rw [if_neg he]; rfl
        obtain ⟨e1, e2⟩ := str_no he
        clear HK he
        rw [show ((3 : Nat) : Int) = (3 : Int) from rfl]
        have hix : ∀ W, (Instr.index 101 (.agg #[.string ⟨#[]⟩, .string wF, .string wD, .string wX, .string wB]) (.int .i64 3)).run Tryz.prog W = .ok (.string wX) W := fun _ => by kernel_rfl
        go_wp2
        go_roundw
        case rel => exact ⟨4, by omega, by go_num, HR, HB⟩
        case measure => simp [RowKit.intOf]
    | 4, _ =>
      by_cases he : (wB : ByteArray) = s
      · have HR : Hid (findK [⟨#[]⟩, wF, wD, wX, wB] 0 s = 4) := by show _ = _; rw [← HK.out]; show (if (wB : ByteArray) = s then (4 : Int) else _) = 4; rw [if_pos he]
        obtain ⟨e1, e2⟩ := str_yes he
        clear HK he
        rw [show ((4 : Nat) : Int) = (4 : Int) from rfl]
        have hix : ∀ W, (Instr.index 101 (.agg #[.string ⟨#[]⟩, .string wF, .string wD, .string wX, .string wB]) (.int .i64 4)).run Tryz.prog W = .ok (.string wB) W := fun _ => by kernel_rfl
        go_wp2
        go_ret
        exact ⟨ret_iE HR.out.symm, HB.out⟩
      · have HR : Hid (findK ([⟨#[]⟩, wF, wD, wX, wB].drop (4 + 1)) ((4 + 1 : Nat) : Int) s = findK [⟨#[]⟩, wF, wD, wX, wB] 0 s) := by show _ = _; rw [← HK.out]; show _ = (if (wB : ByteArray) = s then (4 : Int) else _); rw [if_neg he]; rfl
        obtain ⟨e1, e2⟩ := str_no he
        clear HK he
        rw [show ((4 : Nat) : Int) = (4 : Int) from rfl]
        have hix : ∀ W, (Instr.index 101 (.agg #[.string ⟨#[]⟩, .string wF, .string wD, .string wX, .string wB]) (.int .i64 4)).run Tryz.prog W = .ok (.string wB) W := fun _ => by kernel_rfl
        go_wp2
        go_roundw
        case rel => exact ⟨5, by omega, by go_num, HR, HB⟩
        case measure => simp [RowKit.intOf]
    | 5, _ =>
      have HR : Hid (findK [⟨#[]⟩, wF, wD, wX, wB] 0 s = 0) := by show _ = _; rw [← HK.out]; rfl
      clear HK
      rw [show ((5 : Nat) : Int) = (5 : Int) from rfl]
      go_wp2
      go_ret
      exact ⟨ret_iE HR.out.symm, HB.out⟩
end Go.Proofs.YtgkfhcpegdlejaaGreatDoor

/-
  Two endings with the same text.
-/
namespace Go.Proofs.YtgkfhcpegdlejaaGreatDoor
open Go.RowKit Go.Lib

theorem retS {a b : ByteArray} (h : a = b) : Ending.returned (.string a) = .returned (.string b) := by rw [h]
end Go.Proofs.YtgkfhcpegdlejaaGreatDoor

/-
  Stores of a whole struct of three cells into a box.
-/
namespace Go.Proofs.YtgkfhcpegdlejaaGreatDoor
open Go.RowKit Go.Lib

/-- The block b alone is turned. -/
structure OnlyB3 (b : Nat) (w w' : World) : Prop where
  os : w'.os = w.os
  tape : w'.tape = w.tape
  output : w'.output = w.output
  size : w'.heap.size = w.heap.size
  block : ∀ k, k ≠ b → w'.heap[k]? = w.heap[k]?
theorem OnlyB3.trans {b : Nat} {x y z : World} (h : OnlyB3 b x y) (k : OnlyB3 b y z) : OnlyB3 b x z :=
  ⟨k.os.trans h.os, k.tape.trans h.tape, k.output.trans h.output, k.size.trans h.size, fun i hi => (k.block i hi).trans (h.block i hi)⟩
theorem OnlyB3.setRow (b : Nat) (w : World) (cs : Array Value) : OnlyB3 b w (w.setRow b cs) := ⟨rfl, rfl, rfl, setRow_size _ _ _, fun k hk => setRow_other w b k cs hk⟩
theorem OnlyB3.below {b n : Nat} {x y z : World} (k : OnlyB3 b y z) (h : Below n x y) (hb : n ≤ b) : Below n x z :=
  ⟨k.os.trans h.os, k.tape.trans h.tape, k.output.trans h.output, by rw [k.size]; exact h.size, fun i hi => (k.block i (by omega)).trans (h.block i hi)⟩
theorem cell_off3 (w : World) (b i j : Nat) (v : Value) (h : i ≠ j) : (w.setCell ⟨b, i, none⟩ v).cell? ⟨b, j, none⟩ = w.cell? ⟨b, j, none⟩ := World.cell?_setCell_other _ _ _ _ (fun q => by have e := congrArg Addr.off q; dsimp only at e; omega)
theorem set3_rules {w : World} {b : Nat} {c0 c1 c2 : Value} {T : TypeId} (h : w.heap[b]? = some (.cells #[c0, c1, c2] T (0, 0))) :
    (w.cell? ⟨b, 0, none⟩ = some c0 ∧ w.frozen? ⟨b, 0, none⟩ = false) ∧ (∀ u, (w.setCell ⟨b, 0, none⟩ u).cell? ⟨b, 1, none⟩ = some c1 ∧ (w.setCell ⟨b, 0, none⟩ u).frozen? ⟨b, 1, none⟩ = false) ∧
    (∀ u x, ((w.setCell ⟨b, 0, none⟩ u).setCell ⟨b, 1, none⟩ x).cell? ⟨b, 2, none⟩ = some c2 ∧ ((w.setCell ⟨b, 0, none⟩ u).setCell ⟨b, 1, none⟩ x).frozen? ⟨b, 2, none⟩ = false) := by
  have hf : ∀ j, w.frozen? ⟨b, j, none⟩ = false := fun j => by simp [World.frozen?, h]
  have hc : ∀ j, w.cell? ⟨b, j, none⟩ = #[c0, c1, c2][j]? := fun j => cell_of_row w b j _ _ _ h
  refine ⟨⟨hc 0, hf 0⟩, fun u => ⟨?_, ?_⟩, fun u x => ⟨?_, ?_⟩⟩
  · rw [cell_off3 _ _ _ _ _ (by omega)]; exact hc 1
  · rw [World.frozen?_setCell]; exact hf 1
  · rw [cell_off3 _ _ _ _ _ (by omega), cell_off3 _ _ _ _ _ (by omega)]; exact hc 2
  · rw [World.frozen?_setCell, World.frozen?_setCell]; exact hf 2
theorem set3_is {w : World} {b : Nat} {c0 c1 c2 : Value} {T : TypeId} (h : w.heap[b]? = some (.cells #[c0, c1, c2] T (0, 0))) (u x y : Value) :
    OnlyB3 b w (((w.setCell ⟨b, 0, none⟩ u).setCell ⟨b, 1, none⟩ x).setCell ⟨b, 2, none⟩ y) ∧ (((w.setCell ⟨b, 0, none⟩ u).setCell ⟨b, 1, none⟩ x).setCell ⟨b, 2, none⟩ y).heap[b]? = some (.cells #[u, x, y] T (0, 0)) := by
  rw [setCell_eq_setRow w b 0 _ T (0, 0) u h]
  have h1 := setRow_heap w b _ (#[c0, c1, c2].setIfInBounds 0 u) T (0, 0) h
  rw [setCell_eq_setRow _ b 1 _ T (0, 0) x h1]
  have h2 := setRow_heap _ b _ ((#[c0, c1, c2].setIfInBounds 0 u).setIfInBounds 1 x) T (0, 0) h1
  rw [setCell_eq_setRow _ b 2 _ T (0, 0) y h2]
  exact ⟨((OnlyB3.setRow b w _).trans (OnlyB3.setRow b _ _)).trans (OnlyB3.setRow b _ _), setRow_heap _ b _ _ T (0, 0) h2⟩
end Go.Proofs.YtgkfhcpegdlejaaGreatDoor

/-
  The walks of what the exact laws do with lists of entries: their sizes, a copy of the other type, and whether two are the same.
-/
namespace Go.Proofs.YtgkfhcpegdlejaaGreatDoor
open Go.RowKit Go.Lib Go.Sort

theorem Tryz.infoE : (Tryz.prog.info? 50).map (fun i => (i.zero, i.size, i.bytes)) = some (some (.agg #[.string ByteArray.empty, .bool false, .string ByteArray.empty]), 3, 40) := by kernel_rfl

/-- There is room for so many cells in a block. -/
def Room (w : World) (g n : Nat) : Prop := ∀ i, i < n → (∃ v, w.cell? ⟨g, i, none⟩ = some v) ∧ w.frozen? ⟨g, i, none⟩ = false
theorem Room.below {w w' : World} {g n : Nat} (h : Room w g n) (hb : Below w.heap.size w w') : Room w' g n := fun i hi => by
  obtain ⟨⟨v, hv⟩, hf⟩ := h i hi
  have lt : g < w.heap.size := World.block_lt_of_cell? w ⟨g, i, none⟩ hv
  exact ⟨⟨v, (hb.cell (p := ⟨g, i, none⟩) lt).trans hv⟩, (hb.frozen (p := ⟨g, i, none⟩) lt).trans hf⟩
theorem Room.set {w : World} {g n : Nat} (h : Room w g n) (b j : Nat) (v : Value) : Room (w.setCell ⟨b, j, none⟩ v) g n := fun i hi => by
  obtain ⟨⟨u, hu⟩, hf⟩ := h i hi
  obtain ⟨u', hu'⟩ := cell?_setCell_some (w := w) (p := ⟨b, j, none⟩) (x := v) (q := ⟨g, i, none⟩) (v := u) hu
  exact ⟨⟨u', hu'⟩, by rw [World.frozen?_setCell]; exact hf⟩

theorem cell_ne (w : World) (g i j : Nat) (v : Value) (h : i ≠ j) : (w.setCell ⟨g, i, none⟩ v).cell? ⟨g, j, none⟩ = w.cell? ⟨g, j, none⟩ := World.cell?_setCell_other _ _ _ _ (fun q => by have e := congrArg Addr.off q; dsimp only at e; omega)
theorem cell_eq {w : World} {g i : Nat} {u : Value} (v : Value) (h : w.cell? ⟨g, i, none⟩ = some u) : (w.setCell ⟨g, i, none⟩ v).cell? ⟨g, i, none⟩ = some v := World.cell?_setCell_same' _ _ _ (by rw [h]; rfl)
/-- One entry more is written behind those that lie there. -/
theorem Ents.put {w : World} {g k : Nat} {es : List E} (hk : k < es.length) (h : Ents w g 0 (es.take k)) {v0 v1 v2 : Value} (e0 : w.cell? ⟨g, k * 3, none⟩ = some v0) (e1 : w.cell? ⟨g, k * 3 + 1, none⟩ = some v1) (e2 : w.cell? ⟨g, k * 3 + 2, none⟩ = some v2) :
    Ents (((w.setCell ⟨g, k * 3, none⟩ (.string es[k].p)).setCell ⟨g, k * 3 + 1, none⟩ (.bool es[k].d)).setCell ⟨g, k * 3 + 2, none⟩ (.string es[k].x)) g 0 (es.take (k + 1)) := by
  intro i hi
  rw [List.length_take] at hi
  rw [List.getElem_take]
  by_cases e : i = k
  · subst e
    refine ⟨?_, ?_, ?_⟩
    · rw [Nat.zero_add, cell_ne _ _ _ _ _ (by omega), cell_ne _ _ _ _ _ (by omega)]; exact cell_eq _ e0
    · rw [Nat.zero_add, cell_ne _ _ _ _ _ (by omega)]; exact cell_eq _ ((cell_ne _ _ _ _ _ (by omega)).trans e1)
    · rw [Nat.zero_add]; exact cell_eq _ ((cell_ne _ _ _ _ _ (by omega)).trans ((cell_ne _ _ _ _ _ (by omega)).trans e2))
  · have hlt : i < k := by omega
    obtain ⟨q0, q1, q2⟩ := h i (by rw [List.length_take]; omega)
    rw [List.getElem_take] at q0 q1 q2
    rw [Nat.zero_add] at *
    refine ⟨?_, ?_, ?_⟩
    · rw [cell_ne _ _ _ _ _ (by omega), cell_ne _ _ _ _ _ (by omega), cell_ne _ _ _ _ _ (by omega)]; exact q0
    · rw [cell_ne _ _ _ _ _ (by omega), cell_ne _ _ _ _ _ (by omega), cell_ne _ _ _ _ _ (by omega)]; exact q1
    · rw [cell_ne _ _ _ _ _ (by omega), cell_ne _ _ _ _ _ (by omega), cell_ne _ _ _ _ _ (by omega)]; exact q2

def sameE (e f : E) : Bool := (e.p.toList == f.p.toList) && ((e.d == f.d) && (e.x.toList == f.x.toList))
def sameES (es fs : List E) : Bool := decide (es.length = fs.length) && (List.range es.length).all (fun i => match es[i]?, fs[i]? with | some e, some f => sameE e f | _, _ => true)
theorem sameE_iff (e f : E) : sameE e f = true ↔ e = f := by
  unfold sameE
  rw [Bool.and_eq_true, Bool.and_eq_true, beq_iff_eq, beq_iff_eq, beq_iff_eq]
  constructor
  · rintro ⟨h1, h2, h3⟩
    cases e; cases f
    simp only [E.mk.injEq]
    exact ⟨toList_inj h1, h2, toList_inj h3⟩
  · rintro rfl; exact ⟨rfl, rfl, rfl⟩

theorem sameES_no {es fs : List E} {i : Nat} (hl : es.length = fs.length) (h : i < es.length) (hb : sameE es[i] (fs[i]'(by omega)) = false) : false = sameES es fs := by
  unfold sameES
  have : (List.range es.length).all (fun i => match es[i]?, fs[i]? with | some e, some f => sameE e f | _, _ => true) = false := by
    rw [List.all_eq_false]
    refine ⟨i, List.mem_range.2 h, ?_⟩
    rw [List.getElem?_eq_getElem h, List.getElem?_eq_getElem (by omega)]
    simp [hb]
  rw [this, Bool.and_false]

end Go.Proofs.YtgkfhcpegdlejaaGreatDoor

/-
  What the walks over lists of marks stand on.
-/

/-
  The walks of what the exact laws do with lists of marks: their sizes, a copy of the other type, and whether two are the same.
-/
namespace Go.Proofs.YtgkfhcpegdlejaaGreatDoor.Mk
open Go.RowKit Go.Lib Go.Sort

theorem Tryz.infoE : (Tryz.prog.info? 55).map (fun i => (i.zero, i.size, i.bytes)) = some (some (.agg #[.string ByteArray.empty, .int .i64 0, .string ByteArray.empty]), 3, 40) := by kernel_rfl

/-- There is room for so many cells in a block. -/
def Room (w : World) (g n : Nat) : Prop := ∀ i, i < n → (∃ v, w.cell? ⟨g, i, none⟩ = some v) ∧ w.frozen? ⟨g, i, none⟩ = false
theorem Room.below {w w' : World} {g n : Nat} (h : Room w g n) (hb : Below w.heap.size w w') : Room w' g n := fun i hi => by
  obtain ⟨⟨v, hv⟩, hf⟩ := h i hi
  have lt : g < w.heap.size := World.block_lt_of_cell? w ⟨g, i, none⟩ hv
  exact ⟨⟨v, (hb.cell (p := ⟨g, i, none⟩) lt).trans hv⟩, (hb.frozen (p := ⟨g, i, none⟩) lt).trans hf⟩
theorem Room.set {w : World} {g n : Nat} (h : Room w g n) (b j : Nat) (v : Value) : Room (w.setCell ⟨b, j, none⟩ v) g n := fun i hi => by
  obtain ⟨⟨u, hu⟩, hf⟩ := h i hi
  obtain ⟨u', hu'⟩ := cell?_setCell_some (w := w) (p := ⟨b, j, none⟩) (x := v) (q := ⟨g, i, none⟩) (v := u) hu
  exact ⟨⟨u', hu'⟩, by rw [World.frozen?_setCell]; exact hf⟩

theorem cell_ne (w : World) (g i j : Nat) (v : Value) (h : i ≠ j) : (w.setCell ⟨g, i, none⟩ v).cell? ⟨g, j, none⟩ = w.cell? ⟨g, j, none⟩ := World.cell?_setCell_other _ _ _ _ (fun q => by have e := congrArg Addr.off q; dsimp only at e; omega)
theorem cell_eq {w : World} {g i : Nat} {u : Value} (v : Value) (h : w.cell? ⟨g, i, none⟩ = some u) : (w.setCell ⟨g, i, none⟩ v).cell? ⟨g, i, none⟩ = some v := World.cell?_setCell_same' _ _ _ (by rw [h]; rfl)
/-- One mark more is written behind those that lie there. -/
theorem Ents.put {w : World} {g k : Nat} {es : List E} (hk : k < es.length) (h : Ents w g 0 (es.take k)) {v0 v1 v2 : Value} (e0 : w.cell? ⟨g, k * 3, none⟩ = some v0) (e1 : w.cell? ⟨g, k * 3 + 1, none⟩ = some v1) (e2 : w.cell? ⟨g, k * 3 + 2, none⟩ = some v2) :
    Ents (((w.setCell ⟨g, k * 3, none⟩ (.string es[k].p)).setCell ⟨g, k * 3 + 1, none⟩ (.int .i64 es[k].d)).setCell ⟨g, k * 3 + 2, none⟩ (.string es[k].x)) g 0 (es.take (k + 1)) := by
  intro i hi
  rw [List.length_take] at hi
  rw [List.getElem_take]
  by_cases e : i = k
  · subst e
    refine ⟨?_, ?_, ?_⟩
    · rw [Nat.zero_add, cell_ne _ _ _ _ _ (by omega), cell_ne _ _ _ _ _ (by omega)]; exact cell_eq _ e0
    · rw [Nat.zero_add, cell_ne _ _ _ _ _ (by omega)]; exact cell_eq _ ((cell_ne _ _ _ _ _ (by omega)).trans e1)
    · rw [Nat.zero_add]; exact cell_eq _ ((cell_ne _ _ _ _ _ (by omega)).trans ((cell_ne _ _ _ _ _ (by omega)).trans e2))
  · have hlt : i < k := by omega
    obtain ⟨q0, q1, q2⟩ := h i (by rw [List.length_take]; omega)
    rw [List.getElem_take] at q0 q1 q2
    rw [Nat.zero_add] at *
    refine ⟨?_, ?_, ?_⟩
    · rw [cell_ne _ _ _ _ _ (by omega), cell_ne _ _ _ _ _ (by omega), cell_ne _ _ _ _ _ (by omega)]; exact q0
    · rw [cell_ne _ _ _ _ _ (by omega), cell_ne _ _ _ _ _ (by omega), cell_ne _ _ _ _ _ (by omega)]; exact q1
    · rw [cell_ne _ _ _ _ _ (by omega), cell_ne _ _ _ _ _ (by omega), cell_ne _ _ _ _ _ (by omega)]; exact q2

def sameE (e f : E) : Bool := (e.p.toList == f.p.toList) && ((e.d == f.d) && (e.x.toList == f.x.toList))
def sameES (es fs : List E) : Bool := decide (es.length = fs.length) && (List.range es.length).all (fun i => match es[i]?, fs[i]? with | some e, some f => sameE e f | _, _ => true)
theorem sameE_iff (e f : E) : sameE e f = true ↔ e = f := by
  unfold sameE
  rw [Bool.and_eq_true, Bool.and_eq_true, beq_iff_eq, beq_iff_eq, beq_iff_eq]
  constructor
  · rintro ⟨h1, h2, h3⟩
    cases e; cases f
    simp only [E.mk.injEq]
    exact ⟨toList_inj h1, h2, toList_inj h3⟩
  · rintro rfl; exact ⟨rfl, rfl, rfl⟩

theorem sameES_no {es fs : List E} {i : Nat} (hl : es.length = fs.length) (h : i < es.length) (hb : sameE es[i] (fs[i]'(by omega)) = false) : false = sameES es fs := by
  unfold sameES
  have : (List.range es.length).all (fun i => match es[i]?, fs[i]? with | some e, some f => sameE e f | _, _ => true) = false := by
    rw [List.all_eq_false]
    refine ⟨i, List.mem_range.2 h, ?_⟩
    rw [List.getElem?_eq_getElem h, List.getElem?_eq_getElem (by omega)]
    simp [hb]
  rw [this, Bool.and_false]

end Go.Proofs.YtgkfhcpegdlejaaGreatDoor.Mk

/-
  Rows of marks that a function makes itself.
-/
namespace Go.Proofs.YtgkfhcpegdlejaaGreatDoor.Mk
open Go.RowKit Go.Lib

theorem rowE_append (es fs : List E) : rowE (es ++ fs) = rowE es ++ rowE fs := by unfold rowE; exact List.flatMap_append
theorem rowE_one (e : E) : rowE [e] = cellsE e := by unfold rowE; simp
theorem rowE_at : ∀ (es : List E) (i : Nat) (h : i < es.length), (rowE es)[i * 3]? = some (.string es[i].p) ∧ (rowE es)[i * 3 + 1]? = some (.int .i64 es[i].d) ∧ (rowE es)[i * 3 + 2]? = some (.string es[i].x)
  | e :: r, 0, _ => ⟨rfl, rfl, rfl⟩
  | e :: r, i + 1, h => by
    obtain ⟨q0, q1, q2⟩ := rowE_at r i (by simpa using h)
    have hd : ∀ j, (rowE (e :: r))[3 + j]? = (rowE r)[j]? := fun j => by
      show (cellsE e ++ rowE r)[3 + j]? = _
      rw [List.getElem?_append_right (by show 3 ≤ _; omega)]
      show (rowE r)[3 + j - 3]? = _
      rw [Nat.add_sub_cancel_left]
    refine ⟨?_, ?_, ?_⟩
    · rw [show (i + 1) * 3 = 3 + i * 3 from by omega, hd]; exact q0
    · rw [show (i + 1) * 3 + 1 = 3 + (i * 3 + 1) from by omega, hd]; exact q1
    · rw [show (i + 1) * 3 + 2 = 3 + (i * 3 + 2) from by omega, hd]; exact q2
theorem rowE_one' {e : E} : ∀ u ∈ cellsE e, u.oneCell' = true := by
  intro u hu; simp [cellsE] at hu; rcases hu with rfl | rfl | rfl <;> rfl

/-- A list of marks that lies in a block of its own, at base or behind. -/
abbrev OwnE (w : World) (base : Nat) (v : Value) (es : List E) : Prop := w.ownsRow base 55 3 v es.length (rowE es)
theorem add0 (g j : Nat) : (⟨g, 0, none⟩ : Addr).add j = ⟨g, 0 + j, none⟩ := by
  cases j with
  | zero => rfl
  | succ j => simp [Addr.add]
theorem OwnE.ents {w : World} {base : Nat} {v : Value} {es : List E} (h : OwnE w base v es) :
    ∃ a g cap, v = .slice a es.length cap ∧ (0 < es.length → a = some ⟨g, 0, none⟩) ∧ Ents w g 0 es ∧ es.length ≤ cap := by
  have hc := fun (g : Nat) (hg : v.ownBlock = some g) => World.ownsRow.cells h hg
  obtain ⟨_, ⟨rfl, e0⟩ | ⟨g, cap, cur, rfl, _, _, hcap, _⟩⟩ := h
  · exact ⟨none, 0, 0, by rw [e0], fun h => by omega, fun i hi => by omega, by omega⟩
  · refine ⟨_, g, cap, rfl, fun _ => rfl, fun i hi => ?_, hcap⟩
    obtain ⟨q0, q1, q2⟩ := rowE_at es i hi
    refine ⟨?_, ?_, ?_⟩
    · have := hc g rfl _ _ q0; rw [add0] at this; exact this
    · have := hc g rfl _ _ q1; rw [add0, ← Nat.add_assoc] at this; exact this
    · have := hc g rfl _ _ q2; rw [add0, ← Nat.add_assoc] at this; exact this
theorem OwnE.below {w w' : World} {base : Nat} {v : Value} {es : List E} (h : OwnE w base v es) (hb : Below w.heap.size w w') : OwnE w' base v es :=
  World.ownsRow.kept (row := none) h ⟨hb.os, hb.tape, hb.output, hb.size, fun b hb' _ => hb.block b hb'⟩ (by
    cases hob : v.ownBlock with
    | none => exact .inl rfl
    | some q => exact .inr (by simp))
theorem OwnE.lower {w : World} {base base' : Nat} {v : Value} {es : List E} (h : OwnE w base v es) (hb : base' ≤ base) : OwnE w base' v es := by
  obtain ⟨h1, h2 | ⟨g, cap, cur, e1, e2, e3⟩⟩ := h
  · exact ⟨h1, .inl h2⟩
  · exact ⟨h1, .inr ⟨g, cap, cur, e1, Nat.le_trans hb e2, e3⟩⟩
theorem OwnE.made (w : World) {base : Nat} (hb : base ≤ w.heap.size) : OwnE (w.alloc (.cells #[] 55)) base (.slice (some ⟨w.heap.size, 0, none⟩) 0 0) [] := World.ownsRow_made w #[] 0 hb (Nat.zero_le _) rfl
theorem OwnE.push {w : World} {base : Nat} {v : Value} {es : List E} {e : E} (h : w.ownsRow base 55 3 v (es.length + 1) (rowE es ++ cellsE e)) : OwnE w base v (es ++ [e]) := by
  show World.ownsRow w base 55 3 v (es ++ [e]).length (rowE (es ++ [e]))
  rw [rowE_append, rowE_one, List.length_append]; exact h

theorem Tryz.infoE' : (Tryz.prog.info? 55).map (fun i => (i.zero, i.size, i.bytes)) = some (some (.agg #[.string ByteArray.empty, .int .i64 0, .string ByteArray.empty]), 3, 40) := by kernel_rfl
theorem cells_new (w : World) (e : E) : ∀ j u, (cellsE e)[j]? = some u → (w.alloc (.cells #[.string e.p, .int .i64 e.d, .string e.x] 55)).cell? ((⟨w.heap.size, 0, none⟩ : Addr).add j) = some u := by
  intro j u hj
  match j, hj with
  | 0, hj => simp [cellsE] at hj; subst hj; simp [Addr.add]
  | 1, hj => simp [cellsE] at hj; subst hj; simp [Addr.add]
  | 2, hj => simp [cellsE] at hj; subst hj; simp [Addr.add]
  | j + 3, hj => simp [cellsE] at hj

end Go.Proofs.YtgkfhcpegdlejaaGreatDoor.Mk

/-
  The walk of the model's Put.
-/
namespace Go.Proofs.YtgkfhcpegdlejaaGreatDoor.Mk
open Go.RowKit Go.Lib

theorem run_append_no (w : World) (i0 : TypeInfo) (hi : Tryz.prog.info? 55 = some i0) (ty : TypeId) (base : Option Addr) (n cap : Nat) (hle : n ≤ cap) (ax : Option Addr) (c : Nat) :
    (Builtin.append_ #[25, 25] ty #[.slice base n cap, .slice ax 0 c]).run Tryz.prog w = .ok (.slice base n cap) w := by
  cases base <;> cases ax <;> simp [Builtin.append_, run_underlying Tryz.underlying25, sizeOf, typeInfo, hi, Builtin.lenOf, hle, Builtin.firstCells, loadCells, loadCellsFrom, storeCells]

theorem rowE_oneCell {es : List E} : ∀ u ∈ rowE es, u.oneCell' = true := by
  intro u hu
  unfold rowE at hu
  obtain ⟨e, _, h⟩ := List.mem_flatMap.1 hu
  exact rowE_one' u h
theorem rowE_cells {w : World} {g o : Nat} {fs : List E} (hF : Ents w g o fs) : ∀ j u, (rowE fs)[j]? = some u → w.cell? ((⟨g, o, none⟩ : Addr).add j) = some u := by
  intro j u hj
  have hlt : j < fs.length * 3 := by rw [← rowE_len]; exact (List.getElem?_eq_some_iff.1 hj).1
  have hq : j / 3 < fs.length := by omega
  obtain ⟨q0, q1, q2⟩ := rowE_at fs (j / 3) hq
  obtain ⟨c0, c1, c2⟩ := hF (j / 3) hq
  have ad : (⟨g, o, none⟩ : Addr).add j = ⟨g, o + j, none⟩ := by
    cases j with
    | zero => rfl
    | succ j => simp [Addr.add]
  rw [ad]
  have h3 : j = j / 3 * 3 ∨ j = j / 3 * 3 + 1 ∨ j = j / 3 * 3 + 2 := by omega
  rcases h3 with h | h | h
  · rw [← h] at q0 c0; rw [q0] at hj; rw [c0, ← hj]
  · rw [← h] at q1; rw [Nat.add_assoc, ← h] at c1; rw [q1] at hj; rw [c1, ← hj]
  · rw [← h] at q2; rw [Nat.add_assoc, ← h] at c2; rw [q2] at hj; rw [c2, ← hj]

/-- A list of marks is appended to one that lies by itself. -/
theorem wpE_append {w : World} {ops : Array Oper} {rest : List Oper} {o : Oper} {a : Act} {Q : Exit → Act → World → Prop} (hgd : o.guard = none) (s x : Operand)
    (ho : o.op = .call { callee := .builtin .append, args := #[s, x], argTypes := #[25, 25] })
    (base : Nat) (v : Value) (es : List E) (hs : a.eval s = v) (hown : OwnE w base v es)
    (ax : Option Addr) (c g of : Nat) (fs : List E) (m : Nat) (hm : fs.length = m) (hx : a.eval x = .slice ax m c) (hax : 0 < fs.length → ax = some ⟨g, of, none⟩) (hF : Ents w g of fs)
    (hl : es.length + fs.length ≤ 2097152) (hbase : base ≤ w.heap.size)
    (h : ∀ v' w', OwnE w' base v' (es ++ fs) → w.grownBy w' v.ownBlock → wpList Tryz.prog ops Q rest (a.put o.dst v') w') : wpList Tryz.prog ops Q (o :: rest) a w := by
  obtain ⟨i0, hi, hz0, hz1, hz2⟩ := info_parts Tryz.infoE'
  subst hm
  by_cases hm : 0 < fs.length
  · obtain rfl := hax hm
    refine wpList_append_own _ hgd s x 25 ho base 55 i0 _ 3 40 Tryz.underlying25 hi hz0 hz1 hz2 rfl (by decide) v es.length (rowE es) hs hown _ _ _ (rowE fs) hx (rowE_len fs) (rowE_cells hF) rowE_oneCell (by unfold maxLen; omega) (by omega) hbase ?_
    intro v' w' ho' hg _
    refine h v' w' ?_ hg
    show World.ownsRow w' base 55 3 v' (es ++ fs).length (rowE (es ++ fs))
    rw [rowE_append, List.length_append]; exact ho'
  · have h0 : fs = [] := List.length_eq_zero_iff.1 (by omega)
    subst h0
    refine wpList_plain hgd fun K hK => ?_
    unfold Oper.wp execOp
    have hv : ∃ b n cap, v = .slice b n cap ∧ n ≤ cap := by
      obtain ⟨_, ⟨rfl, _⟩ | ⟨g, cap, cur, rfl, _, _, hcap, _⟩⟩ := hown
      · exact ⟨_, _, _, rfl, Nat.le_refl _⟩
      · exact ⟨_, _, _, rfl, hcap⟩
    obtain ⟨b, n, cap, rfl, hle⟩ := hv
    have hr := run_append_no w i0 hi o.type b n cap hle ax c
    have hx' : a.eval x = .slice ax 0 c := hx
    simp only [ho, resolve, invoke, builtin, Sem.run_bind, Sem.run_pure, Result.andThen_ok, List.map_toArray, List.map_cons, List.map_nil, hs, hx', hr]
    exact hK _ _ (h _ _ (by rw [List.append_nil]; exact hown) ⟨rfl, rfl, rfl, Nat.le_refl _, fun _ _ _ => rfl⟩)

theorem ents_drop {w : World} {g o : Nat} {es : List E} (h : Ents w g o es) (o' j : Nat) (hj : o' = o + j * 3 ∨ es.length ≤ j) : Ents w g o' (es.drop j) := by
  intro i hi
  rw [List.length_drop] at hi
  rcases hj with rfl | hj
  · rw [List.getElem_drop]
    have := h (j + i) (by omega)
    rw [show o + (j + i) * 3 = o + j * 3 + i * 3 from by omega] at this
    exact this
  · omega
theorem ents_new (w : World) (f : E) : Ents (w.alloc (.cells #[.string f.p, .int .i64 f.d, .string f.x] 55)) w.heap.size 0 [f] := by
  intro i hi
  have : i = 0 := by simpa using hi
  subst this
  exact ⟨by simp, by simp, by simp⟩
theorem below_draws2 {B : Nat} {a w : World} (h : Below B a w) (n : Nat) : Below B a (w.drewN n) := h.trans ⟨rfl, rfl, rfl, Nat.le_refl _, fun _ _ => rfl⟩
theorem OwnE.drew {w : World} {base : Nat} {v : Value} {es : List E} (h : OwnE w base v es) (n : Nat) : OwnE (w.drewN n) base v es := h.below (below_draws2 (Below.refl _ w) n)
theorem box3 {w w' : World} {a b c : Value} {T : TypeId} (h : Below (w.alloc (.cells #[a, b, c] T)).heap.size (w.alloc (.cells #[a, b, c] T)) w') :
    w'.cell? ⟨w.heap.size, 0, none⟩ = some a ∧ w'.cell? ⟨w.heap.size, 1, none⟩ = some b ∧ w'.cell? ⟨w.heap.size, 2, none⟩ = some c := by
  have lt : w.heap.size < (w.alloc (.cells #[a, b, c] T)).heap.size := by simp
  exact ⟨(h.cell (p := ⟨w.heap.size, 0, none⟩) lt).trans (by simp), (h.cell (p := ⟨w.heap.size, 1, none⟩) lt).trans (by simp), (h.cell (p := ⟨w.heap.size, 2, none⟩) lt).trans (by simp)⟩

set_option maxHeartbeats 1600000 in
set_option maxRecDepth 100000 in
theorem l3Put_any (w : World) (a : Option Addr) (g o cap : Nat) (es : List E) (p : ByteArray) (d : Int) (x : ByteArray) (hl : es.length ≤ 1048576) (hcap : es.length ≤ cap) (ha : 0 < es.length → a = some ⟨g, o, none⟩) (hE : Ents w g o es) :
    Calls Tryz.prog 95 #[.slice a es.length cap, .agg #[.string p, .int .i64 d, .string x]] w fun r w' => ∃ v, r = .returned v ∧ OwnE w' w.heap.size v (putE es ⟨p, d, x⟩) ∧ Below w.heap.size w w' := by
  obtain ⟨W0, hW0⟩ : ∃ W0, W0 = w.alloc (.cells #[.string p, .int .i64 d, .string x] 55) := ⟨_, rfl⟩
  have hs0 : W0.heap.size = w.heap.size + 1 := by rw [hW0]; simp
  have HW := hidE hW0
  have HB0 : Hid (Below w.heap.size w W0) := by rw [hW0]; exact (Below.refl _ w).alloc (Nat.le_refl _) _
  have HE := hidE (Ents.below hE HB0.out)
  clear hE
  go_enter Tryz.func95, Tryz.ntmps95
  go_wp2
  rw [← hW0]
  rw [← hs0]
  have HS0 := hidE hs0
  clear hW0 hs0
  go_loopw [5, 6] (fun v iv wl => ∃ k : Nat, k ≤ es.length ∧ iv = .int .i64 k ∧ Hid (OwnE wl W0.heap.size v (es.take k)) ∧ Hid (Below W0.heap.size W0 wl) ∧ Hid ((es.take k).all (ltP ⟨p, d, x⟩) = true)) (fun _ iv _ => es.length - (RowKit.intOf iv).toNat)
  case atStart => exact ⟨0, Nat.zero_le _, rfl, OwnE.made W0 (Nat.le_refl _), (Below.refl _ W0).alloc (Nat.le_refl _) _, rfl⟩
  case round =>
    obtain ⟨k, hk, rfl, HO, HB, HA⟩ := hrel
    have hz3 := HB.out.size
    obtain ⟨b0, b1, b2⟩ : wr.cell? ⟨w.heap.size, 0, none⟩ = some (.string p) ∧ wr.cell? ⟨w.heap.size, 1, none⟩ = some (.int .i64 d) ∧ wr.cell? ⟨w.heap.size, 2, none⟩ = some (.string x) := by
      have := HB.out; rw [HW.out] at this; exact box3 this
    by_cases hlt : k < es.length
    · obtain rfl := ha (by omega)
      obtain ⟨c0, c1, c2⟩ := (HE.out.below HB.out) k hlt
      cases hb : Op.bytesLess es[k].p.toList p.toList with
      | true =>
        have HA2 : Hid ((es.take (k + 1)).all (ltP ⟨p, d, x⟩) = true) := by
          show _ = _
          rw [List.take_succ_eq_append_getElem hlt, List.all_append, HA.out]; simp [ltP, hb]
        go_wp2
        go_quiet (fail)
        have HO1 := hidE (HO.out.drew nq)
        have HB1 := hidE (below_draws2 HB.out nq)
        clear HO HB
        go_wp2_with (first
          | (at_builtin; refine wpE_append rfl _ _ rfl W0.heap.size _ (es.take k) rfl (World.ownsRow.alloc HO1.out _) _ _ wr.heap.size 0 [es[k]] 1 rfl rfl (fun _ => rfl) (ents_new _ _) ?c1 ?c2 ?_)
          | fail)
        case c1 => rw [List.length_take]; simp; omega
        case c2 => simp; omega
        intro v' w4 hown' hgrow
        have HB4 := hidE ((HB1.out.alloc hz3 _).grown hgrow (by simp; omega) (fun q hq => (World.ownsRow.lt HO1.out q hq).1))
        have HO4 : Hid (OwnE w4 W0.heap.size v' (es.take (k + 1))) := by
          show OwnE _ _ _ _
          first | exact hown' | (rw [List.take_succ_eq_append_getElem hlt]; exact hown')
        clear hown' hgrow HO1 HB1
        go_wp2
        go_roundw
        case rel => exact ⟨k + 1, by omega, by go_num, HO4, HB4, HA2⟩
        case measure => simp [RowKit.intOf]; omega
      | false =>
        obtain ⟨S1, S2⟩ := span_at (q := ltP ⟨p, d, x⟩) es k hk HA.out (fun _ => hb)
        have HP : Hid (putE es ⟨p, d, x⟩ = es.take k ++ [⟨p, d, x⟩] ++ restE ⟨p, d, x⟩ (es.drop k)) := by show _ = _; unfold putE; rw [S1, S2]
        clear S1 S2
        cases hq : (es[k].p.toList == p.toList) with
        | true =>
          have HP2 : Hid (putE es ⟨p, d, x⟩ = es.take k ++ [⟨p, d, x⟩] ++ es.drop (k + 1)) := by
            show _ = _; rw [HP.out, List.drop_eq_getElem_cons hlt]; exact congrArg _ (if_pos hq)
          have HQ := hidE hq
          clear HP hq
          go_wp2
          go_quiet (fail)
          have HO1 := hidE (HO.out.drew nq)
          have HB1 := hidE (below_draws2 HB.out nq)
          clear HO HB
          go_wp2_with (first
            | (at_builtin; refine wpE_append rfl _ _ rfl W0.heap.size _ (es.take k) rfl (World.ownsRow.alloc HO1.out _) _ _ wr.heap.size 0 [⟨p, d, x⟩] 1 rfl rfl (fun _ => rfl) (ents_new _ ⟨p, d, x⟩) ?c1 ?c2 ?_)
            | fail)
          case c1 => rw [List.length_take]; simp; omega
          case c2 => simp; omega
          intro v' w4 hown' hgrow
          have HB4 := hidE ((HB1.out.alloc hz3 _).grown hgrow (by simp; omega) (fun q hq => (World.ownsRow.lt HO1.out q hq).1))
          have HO4 : Hid (OwnE w4 W0.heap.size v' (es.take k ++ [⟨p, d, x⟩])) := hown'
          have hz4 := HB4.out.size
          clear hown' hgrow HO1 HB1 b0 b1 b2 c0 c1 c2
          obtain ⟨b0, b1, b2⟩ : w4.cell? ⟨w.heap.size, 0, none⟩ = some (.string p) ∧ w4.cell? ⟨w.heap.size, 1, none⟩ = some (.int .i64 d) ∧ w4.cell? ⟨w.heap.size, 2, none⟩ = some (.string x) := by
            have := HB4.out; rw [HW.out] at this; exact box3 this
          obtain ⟨c0, c1, c2⟩ := (HE.out.below HB4.out) k hlt
          have hq := HQ.out
          have hq' : es[k].p.toList = p.toList := by simpa using hq
          by_cases hce : cap ≤ (k + 1)
          · have hce' : cap = (k + 1) := by omega
            have hce2 : cap - (k + 1) = 0 := by omega
            go_wp2
            go_quiet (fail)
            have HO5 := hidE (HO4.out.drew nq)
            have HB5 := hidE (below_draws2 HB4.out nq)
            clear HO4 HB4
            go_wp2_with (first
              | (at_builtin; refine wpE_append rfl _ _ rfl W0.heap.size v' (es.take k ++ [⟨p, d, x⟩]) rfl HO5.out _ _ g o (es.drop (k + 1)) (es.length - (k + 1)) (List.length_drop ..) rfl (fun h => absurd h (by rw [List.length_drop]; omega)) ?hF ?c1 ?c2 ?_)
              | fail)
            case hF => exact ents_drop (HE.out.below HB5.out) _ _ (by omega)
            case c1 => rw [List.length_append, List.length_take, List.length_drop]; simp; omega
            case c2 => exact HB5.out.size
            intro v5 w5 ho5 hg5
            have HB6 := hidE (HB5.out.grown hg5 HB5.out.size (fun q hq => (World.ownsRow.lt HO5.out q hq).1))
            have HO6 : Hid (OwnE w5 W0.heap.size v5 (es.take k ++ [⟨p, d, x⟩] ++ es.drop (k + 1))) := by
              show OwnE _ _ _ _
              first | exact ho5 | simpa using ho5
            clear ho5 hg5 HO5 HB5
            go_wp2
            go_ret
            exact ⟨_, rfl, by rw [HP2.out]; exact HO6.out.lower (by rw [HS0.out]; omega), HB0.out.trans (HB6.out.mono (by rw [HS0.out]; omega))⟩
          · have hce' : (k + 1) < cap := by omega
            have hce2 : ¬ (cap - (k + 1) = 0) := by omega
            go_wp2
            go_quiet (fail)
            have HO5 := hidE (HO4.out.drew nq)
            have HB5 := hidE (below_draws2 HB4.out nq)
            clear HO4 HB4
            go_wp2_with (first
              | (at_builtin; refine wpE_append rfl _ _ rfl W0.heap.size v' (es.take k ++ [⟨p, d, x⟩]) rfl HO5.out _ _ g (o + (k + 1) * 3) (es.drop (k + 1)) (es.length - (k + 1)) (List.length_drop ..) rfl (fun _ => rfl) ?hF ?c1 ?c2 ?_)
              | fail)
            case hF => exact ents_drop (HE.out.below HB5.out) _ _ (by omega)
            case c1 => rw [List.length_append, List.length_take, List.length_drop]; simp; omega
            case c2 => exact HB5.out.size
            intro v5 w5 ho5 hg5
            have HB6 := hidE (HB5.out.grown hg5 HB5.out.size (fun q hq => (World.ownsRow.lt HO5.out q hq).1))
            have HO6 : Hid (OwnE w5 W0.heap.size v5 (es.take k ++ [⟨p, d, x⟩] ++ es.drop (k + 1))) := by
              show OwnE _ _ _ _
              first | exact ho5 | simpa using ho5
            clear ho5 hg5 HO5 HB5
            go_wp2
            go_ret
            exact ⟨_, rfl, by rw [HP2.out]; exact HO6.out.lower (by rw [HS0.out]; omega), HB0.out.trans (HB6.out.mono (by rw [HS0.out]; omega))⟩
        | false =>
          have HP2 : Hid (putE es ⟨p, d, x⟩ = es.take k ++ [⟨p, d, x⟩] ++ es.drop k) := by
            show _ = _; rw [HP.out, List.drop_eq_getElem_cons hlt]; exact congrArg _ (if_neg (by rw [hq]; decide))
          have HQ := hidE hq
          clear HP hq
          go_wp2
          go_quiet (fail)
          have HO1 := hidE (HO.out.drew nq)
          have HB1 := hidE (below_draws2 HB.out nq)
          clear HO HB
          go_wp2_with (first
            | (at_builtin; refine wpE_append rfl _ _ rfl W0.heap.size _ (es.take k) rfl (World.ownsRow.alloc HO1.out _) _ _ wr.heap.size 0 [⟨p, d, x⟩] 1 rfl rfl (fun _ => rfl) (ents_new _ ⟨p, d, x⟩) ?c1 ?c2 ?_)
            | fail)
          case c1 => rw [List.length_take]; simp; omega
          case c2 => simp; omega
          intro v' w4 hown' hgrow
          have HB4 := hidE ((HB1.out.alloc hz3 _).grown hgrow (by simp; omega) (fun q hq => (World.ownsRow.lt HO1.out q hq).1))
          have HO4 : Hid (OwnE w4 W0.heap.size v' (es.take k ++ [⟨p, d, x⟩])) := hown'
          have hz4 := HB4.out.size
          clear hown' hgrow HO1 HB1 b0 b1 b2 c0 c1 c2
          obtain ⟨b0, b1, b2⟩ : w4.cell? ⟨w.heap.size, 0, none⟩ = some (.string p) ∧ w4.cell? ⟨w.heap.size, 1, none⟩ = some (.int .i64 d) ∧ w4.cell? ⟨w.heap.size, 2, none⟩ = some (.string x) := by
            have := HB4.out; rw [HW.out] at this; exact box3 this
          obtain ⟨c0, c1, c2⟩ := (HE.out.below HB4.out) k hlt
          have hq := HQ.out
          have hq' : ¬ (es[k].p.toList = p.toList) := by simpa using hq
          by_cases hce : cap ≤ k
          · exact absurd hlt (by omega)
          · have hce' : k < cap := by omega
            have hce2 : ¬ (cap - k = 0) := by omega
            go_wp2
            go_quiet (fail)
            have HO5 := hidE (HO4.out.drew nq)
            have HB5 := hidE (below_draws2 HB4.out nq)
            clear HO4 HB4
            go_wp2_with (first
              | (at_builtin; refine wpE_append rfl _ _ rfl W0.heap.size v' (es.take k ++ [⟨p, d, x⟩]) rfl HO5.out _ _ g (o + k * 3) (es.drop k) (es.length - k) (List.length_drop ..) rfl (fun _ => rfl) ?hF ?c1 ?c2 ?_)
              | fail)
            case hF => exact ents_drop (HE.out.below HB5.out) _ _ (by omega)
            case c1 => rw [List.length_append, List.length_take, List.length_drop]; simp; omega
            case c2 => exact HB5.out.size
            intro v5 w5 ho5 hg5
            have HB6 := hidE (HB5.out.grown hg5 HB5.out.size (fun q hq => (World.ownsRow.lt HO5.out q hq).1))
            have HO6 : Hid (OwnE w5 W0.heap.size v5 (es.take k ++ [⟨p, d, x⟩] ++ es.drop k)) := by
              show OwnE _ _ _ _
              first | exact ho5 | simpa using ho5
            clear ho5 hg5 HO5 HB5
            go_wp2
            go_ret
            exact ⟨_, rfl, by rw [HP2.out]; exact HO6.out.lower (by rw [HS0.out]; omega), HB0.out.trans (HB6.out.mono (by rw [HS0.out]; omega))⟩
    · obtain ⟨S1, S2⟩ := span_at (q := ltP ⟨p, d, x⟩) es k hk HA.out (fun h => absurd h hlt)
      have HP2 : Hid (putE es ⟨p, d, x⟩ = es.take k ++ [⟨p, d, x⟩]) := by show _ = _; unfold putE; rw [S1, S2, List.drop_of_length_le (by omega)]; exact List.append_nil _
      clear S1 S2
      have hkl : es.length ≤ k := by omega
      go_wp2
      go_quiet (fail)
      have HO1 := hidE (HO.out.drew nq)
      have HB1 := hidE (below_draws2 HB.out nq)
      clear HO HB
      go_wp2_with (first
        | (at_builtin; refine wpE_append rfl _ _ rfl W0.heap.size _ (es.take k) rfl (World.ownsRow.alloc HO1.out _) _ _ wr.heap.size 0 [⟨p, d, x⟩] 1 rfl rfl (fun _ => rfl) (ents_new _ ⟨p, d, x⟩) ?c1 ?c2 ?_)
        | fail)
      case c1 => rw [List.length_take]; simp; omega
      case c2 => simp; omega
      intro v' w4 hown' hgrow
      have HB4 := hidE ((HB1.out.alloc hz3 _).grown hgrow (by simp; omega) (fun q hq => (World.ownsRow.lt HO1.out q hq).1))
      have HO4 : Hid (OwnE w4 W0.heap.size v' (es.take k ++ [⟨p, d, x⟩])) := hown'
      have hz4 := HB4.out.size
      clear hown' hgrow HO1 HB1 b0 b1 b2
      cases a with
      | none =>
        by_cases hce : cap ≤ k
        · have hce' : cap = k := by omega
          have hce2 : cap - k = 0 := by omega
          go_wp2
          go_quiet (fail)
          have HO5 := hidE (HO4.out.drew nq)
          have HB5 := hidE (below_draws2 HB4.out nq)
          clear HO4 HB4
          go_wp2_with (first
            | (at_builtin; refine wpE_append rfl _ _ rfl W0.heap.size v' (es.take k ++ [⟨p, d, x⟩]) rfl HO5.out _ _ 0 0 [] (es.length - k) (by show 0 = _; omega) rfl (fun h => absurd h (by decide)) (fun i hi => absurd hi (by simp)) ?c1 ?c2 ?_)
            | (at_builtin; refine wpE_append rfl _ _ rfl W0.heap.size v' (es.take k ++ [⟨p, d, x⟩]) rfl HO5.out _ _ 0 0 [] 0 rfl rfl (fun h => absurd h (by decide)) (fun i hi => absurd hi (by simp)) ?c1 ?c2 ?_)
            | fail)
          case c1 => simp; omega
          case c2 => exact HB5.out.size
          intro v5 w5 ho5 hg5
          have HB6 := hidE (HB5.out.grown hg5 HB5.out.size (fun q hq => (World.ownsRow.lt HO5.out q hq).1))
          have HO6 : Hid (OwnE w5 W0.heap.size v5 (es.take k ++ [⟨p, d, x⟩])) := by
            show OwnE _ _ _ _
            first | exact ho5 | simpa using ho5
          clear ho5 hg5 HO5 HB5
          go_wp2
          go_ret
          exact ⟨_, rfl, by rw [HP2.out]; exact HO6.out.lower (by rw [HS0.out]; omega), HB0.out.trans (HB6.out.mono (by rw [HS0.out]; omega))⟩
        · have hce' : k < cap := by omega
          have hce2 : ¬ (cap - k = 0) := by omega
          go_wp2
          go_quiet (fail)
          have HO5 := hidE (HO4.out.drew nq)
          have HB5 := hidE (below_draws2 HB4.out nq)
          clear HO4 HB4
          go_wp2_with (first
            | (at_builtin; refine wpE_append rfl _ _ rfl W0.heap.size v' (es.take k ++ [⟨p, d, x⟩]) rfl HO5.out _ _ 0 0 [] (es.length - k) (by show 0 = _; omega) rfl (fun h => absurd h (by decide)) (fun i hi => absurd hi (by simp)) ?c1 ?c2 ?_)
            | (at_builtin; refine wpE_append rfl _ _ rfl W0.heap.size v' (es.take k ++ [⟨p, d, x⟩]) rfl HO5.out _ _ 0 0 [] 0 rfl rfl (fun h => absurd h (by decide)) (fun i hi => absurd hi (by simp)) ?c1 ?c2 ?_)
            | fail)
          case c1 => simp; omega
          case c2 => exact HB5.out.size
          intro v5 w5 ho5 hg5
          have HB6 := hidE (HB5.out.grown hg5 HB5.out.size (fun q hq => (World.ownsRow.lt HO5.out q hq).1))
          have HO6 : Hid (OwnE w5 W0.heap.size v5 (es.take k ++ [⟨p, d, x⟩])) := by
            show OwnE _ _ _ _
            first | exact ho5 | simpa using ho5
          clear ho5 hg5 HO5 HB5
          go_wp2
          go_ret
          exact ⟨_, rfl, by rw [HP2.out]; exact HO6.out.lower (by rw [HS0.out]; omega), HB0.out.trans (HB6.out.mono (by rw [HS0.out]; omega))⟩
      | some ad =>
        by_cases hce : cap ≤ k
        · have hce' : cap = k := by omega
          have hce2 : cap - k = 0 := by omega
          go_wp2
          go_quiet (fail)
          have HO5 := hidE (HO4.out.drew nq)
          have HB5 := hidE (below_draws2 HB4.out nq)
          clear HO4 HB4
          go_wp2_with (first
            | (at_builtin; refine wpE_append rfl _ _ rfl W0.heap.size v' (es.take k ++ [⟨p, d, x⟩]) rfl HO5.out _ _ 0 0 [] (es.length - k) (by show 0 = _; omega) rfl (fun h => absurd h (by decide)) (fun i hi => absurd hi (by simp)) ?c1 ?c2 ?_)
            | (at_builtin; refine wpE_append rfl _ _ rfl W0.heap.size v' (es.take k ++ [⟨p, d, x⟩]) rfl HO5.out _ _ 0 0 [] 0 rfl rfl (fun h => absurd h (by decide)) (fun i hi => absurd hi (by simp)) ?c1 ?c2 ?_)
            | fail)
          case c1 => simp; omega
          case c2 => exact HB5.out.size
          intro v5 w5 ho5 hg5
          have HB6 := hidE (HB5.out.grown hg5 HB5.out.size (fun q hq => (World.ownsRow.lt HO5.out q hq).1))
          have HO6 : Hid (OwnE w5 W0.heap.size v5 (es.take k ++ [⟨p, d, x⟩])) := by
            show OwnE _ _ _ _
            first | exact ho5 | simpa using ho5
          clear ho5 hg5 HO5 HB5
          go_wp2
          go_ret
          exact ⟨_, rfl, by rw [HP2.out]; exact HO6.out.lower (by rw [HS0.out]; omega), HB0.out.trans (HB6.out.mono (by rw [HS0.out]; omega))⟩
        · have hce' : k < cap := by omega
          have hce2 : ¬ (cap - k = 0) := by omega
          go_wp2
          go_quiet (fail)
          have HO5 := hidE (HO4.out.drew nq)
          have HB5 := hidE (below_draws2 HB4.out nq)
          clear HO4 HB4
          go_wp2_with (first
            | (at_builtin; refine wpE_append rfl _ _ rfl W0.heap.size v' (es.take k ++ [⟨p, d, x⟩]) rfl HO5.out _ _ 0 0 [] (es.length - k) (by show 0 = _; omega) rfl (fun h => absurd h (by decide)) (fun i hi => absurd hi (by simp)) ?c1 ?c2 ?_)
            | (at_builtin; refine wpE_append rfl _ _ rfl W0.heap.size v' (es.take k ++ [⟨p, d, x⟩]) rfl HO5.out _ _ 0 0 [] 0 rfl rfl (fun h => absurd h (by decide)) (fun i hi => absurd hi (by simp)) ?c1 ?c2 ?_)
            | fail)
          case c1 => simp; omega
          case c2 => exact HB5.out.size
          intro v5 w5 ho5 hg5
          have HB6 := hidE (HB5.out.grown hg5 HB5.out.size (fun q hq => (World.ownsRow.lt HO5.out q hq).1))
          have HO6 : Hid (OwnE w5 W0.heap.size v5 (es.take k ++ [⟨p, d, x⟩])) := by
            show OwnE _ _ _ _
            first | exact ho5 | simpa using ho5
          clear ho5 hg5 HO5 HB5
          go_wp2
          go_ret
          exact ⟨_, rfl, by rw [HP2.out]; exact HO6.out.lower (by rw [HS0.out]; omega), HB0.out.trans (HB6.out.mono (by rw [HS0.out]; omega))⟩
end Go.Proofs.YtgkfhcpegdlejaaGreatDoor.Mk
