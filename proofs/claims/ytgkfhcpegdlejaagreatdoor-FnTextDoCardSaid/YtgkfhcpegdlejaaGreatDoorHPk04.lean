/-
  What the walks over lists of entries stand on.
-/
import Derived.WalkKit
import Derived.OwnWalk
import Derived.WalkSpells
import Derived.WalkLawsBesides
import Derived.Laws.Pointers
import Derived.Deep.QuietTactic
import Derived.BigQuiet
import Derived.Outline
import Derived.Below
import Derived.Lib.QuietBelow
import Derived.Test.YtgkfhcpegdlejaaGreatDoorProg
import Derived.Test.YtgkfhcpegdlejaaGreatDoorHEntsDef
import Derived.Test.YtgkfhcpegdlejaaGreatDoorHPk01
import Derived.Test.YtgkfhcpegdlejaaGreatDoorHPk02
import Derived.Laws.Tables
import Derived.Lib.FrozenHead


/-
  The walk of the program's own: the kind of a word.
-/
namespace Go.Proofs.YtgkfhcpegdlejaaGreatDoor
open Go.RowKit Go.Lib

theorem str_yes {a b : ByteArray} (h : a = b) : (a.toList == b.toList) = true ∧ a.toList = b.toList := by rw [h]; simp
theorem str_no {a b : ByteArray} (h : ¬ a = b) : (a.toList == b.toList) = false ∧ ¬ a.toList = b.toList := by
  have : ¬ a.toList = b.toList := fun e => h (lb_inj (by rw [Lib.toList_data, Lib.toList_data] at e; exact e))
  exact ⟨by simpa using this, this⟩
/-- The table lies where it is laid. -/
structure OpTab (w : World) : Prop where
  c0 : w.cell? ⟨0, 0, none⟩ = some (.string ⟨#[]⟩)
  c1 : w.cell? ⟨0, 1, none⟩ = some (.string oW1)
  c2 : w.cell? ⟨0, 2, none⟩ = some (.string oW2)
  c3 : w.cell? ⟨0, 3, none⟩ = some (.string oW3)
  c4 : w.cell? ⟨0, 4, none⟩ = some (.string oW4)
  c5 : w.cell? ⟨0, 5, none⟩ = some (.string oW5)
theorem OpTab.below {w w' : World} (h : OpTab w) (hb : Below w.heap.size w w') : OpTab w' := by
  have hB : 0 < w.heap.size := World.block_lt_of_cell? w ⟨0, 1, none⟩ h.c1
  exact ⟨(hb.cell (p := ⟨0, _, none⟩) hB).trans h.c0, (hb.cell (p := ⟨0, _, none⟩) hB).trans h.c1, (hb.cell (p := ⟨0, _, none⟩) hB).trans h.c2, (hb.cell (p := ⟨0, _, none⟩) hB).trans h.c3, (hb.cell (p := ⟨0, _, none⟩) hB).trans h.c4, (hb.cell (p := ⟨0, _, none⟩) hB).trans h.c5⟩
set_option maxHeartbeats 1600000 in
set_option maxRecDepth 100000 in
theorem opKind_any (s : ByteArray) (w : World) (hw : OpTab w) :
    Calls Tryz.prog 82 #[.string s] w fun r w' => r = .returned (.int .i64 (findK [⟨#[]⟩, oW1, oW2, oW3, oW4, oW5] 0 s)) ∧ Below w.heap.size w w' := by
  obtain ⟨c0, c1, c2, c3, c4, c5⟩ := hw
  go_enter Tryz.func82, Tryz.ntmps82
  go_wp2
  clear c0 c1 c2 c3 c4 c5
  go_loopw [6] (fun iv wl => ∃ j : Nat, j ≤ 6 ∧ iv = .int .i64 j ∧ Hid (findK ([⟨#[]⟩, oW1, oW2, oW3, oW4, oW5].drop j) j s = findK [⟨#[]⟩, oW1, oW2, oW3, oW4, oW5] 0 s) ∧ Hid (Below w.heap.size w wl)) (fun iv _ => 6 - (RowKit.intOf iv).toNat)
  case atStart => exact ⟨0, Nat.zero_le _, rfl, rfl, Below.refl _ _⟩
  case round =>
    obtain ⟨j, hj, rfl, HK, HB⟩ := hrel
    match j, hj with
    | 0, _ =>
      by_cases he : (⟨#[]⟩ : ByteArray) = s
      · have HR : Hid (findK [⟨#[]⟩, oW1, oW2, oW3, oW4, oW5] 0 s = 0) := by show _ = _; rw [← HK.out]; show (if (⟨#[]⟩ : ByteArray) = s then (0 : Int) else _) = 0; rw [if_pos he]
        obtain ⟨e1, e2⟩ := str_yes he
        clear HK he
        rw [show ((0 : Nat) : Int) = (0 : Int) from rfl]
        have hix : ∀ W, (Instr.index 77 (.agg #[.string ⟨#[]⟩, .string oW1, .string oW2, .string oW3, .string oW4, .string oW5]) (.int .i64 0)).run Tryz.prog W = .ok (.string ⟨#[]⟩) W := fun _ => by kernel_rfl
        go_wp2
        go_ret
        exact ⟨ret_iE HR.out.symm, HB.out⟩
      · have HR : Hid (findK ([⟨#[]⟩, oW1, oW2, oW3, oW4, oW5].drop (0 + 1)) ((0 + 1 : Nat) : Int) s = findK [⟨#[]⟩, oW1, oW2, oW3, oW4, oW5] 0 s) := by show _ = _; rw [← HK.out]; show _ = (if (⟨#[]⟩ : ByteArray) = s then (0 : Int) else _); rw [if_neg he]; rfl
        obtain ⟨e1, e2⟩ := str_no he
        have e3 : (([] : List UInt8) == s.toList) = false := by rw [Lib.toList_data] at e1; exact e1
        have e4 : ¬ ([] : List UInt8) = s.toList := by rw [Lib.toList_data] at e2; exact e2
        clear HK he
        rw [show ((0 : Nat) : Int) = (0 : Int) from rfl]
        have hix : ∀ W, (Instr.index 77 (.agg #[.string ⟨#[]⟩, .string oW1, .string oW2, .string oW3, .string oW4, .string oW5]) (.int .i64 0)).run Tryz.prog W = .ok (.string ⟨#[]⟩) W := fun _ => by kernel_rfl
        go_wp2
        go_roundw
        case rel => exact ⟨1, by omega, by go_num, HR, HB⟩
        case measure => simp [RowKit.intOf]
    | 1, _ =>
      by_cases he : (oW1 : ByteArray) = s
      · have HR : Hid (findK [⟨#[]⟩, oW1, oW2, oW3, oW4, oW5] 0 s = 1) := by show _ = _; rw [← HK.out]; show (if (oW1 : ByteArray) = s then (1 : Int) else _) = 1; rw [if_pos he]
        obtain ⟨e1, e2⟩ := str_yes he
        clear HK he
        rw [show ((1 : Nat) : Int) = (1 : Int) from rfl]
        have hix : ∀ W, (Instr.index 77 (.agg #[.string ⟨#[]⟩, .string oW1, .string oW2, .string oW3, .string oW4, .string oW5]) (.int .i64 1)).run Tryz.prog W = .ok (.string oW1) W := fun _ => by kernel_rfl
        go_wp2
        go_ret
        exact ⟨ret_iE HR.out.symm, HB.out⟩
      · have HR : Hid (findK ([⟨#[]⟩, oW1, oW2, oW3, oW4, oW5].drop (1 + 1)) ((1 + 1 : Nat) : Int) s = findK [⟨#[]⟩, oW1, oW2, oW3, oW4, oW5] 0 s) := by show _ = _; rw [← HK.out]; show _ = (if (oW1 : ByteArray) = s then (1 : Int) else _); rw [if_neg he]; rfl
        obtain ⟨e1, e2⟩ := str_no he
        clear HK he
        rw [show ((1 : Nat) : Int) = (1 : Int) from rfl]
        have hix : ∀ W, (Instr.index 77 (.agg #[.string ⟨#[]⟩, .string oW1, .string oW2, .string oW3, .string oW4, .string oW5]) (.int .i64 1)).run Tryz.prog W = .ok (.string oW1) W := fun _ => by kernel_rfl
        go_wp2
        go_roundw
        case rel => exact ⟨2, by omega, by go_num, HR, HB⟩
        case measure => simp [RowKit.intOf]
    | 2, _ =>
      by_cases he : (oW2 : ByteArray) = s
      · have HR : Hid (findK [⟨#[]⟩, oW1, oW2, oW3, oW4, oW5] 0 s = 2) := by show _ = _; rw [← HK.out]; show (if (oW2 : ByteArray) = s then (2 : Int) else _) = 2; rw [if_pos he]
        obtain ⟨e1, e2⟩ := str_yes he
        clear HK he
        rw [show ((2 : Nat) : Int) = (2 : Int) from rfl]
        have hix : ∀ W, (Instr.index 77 (.agg #[.string ⟨#[]⟩, .string oW1, .string oW2, .string oW3, .string oW4, .string oW5]) (.int .i64 2)).run Tryz.prog W = .ok (.string oW2) W := fun _ => by kernel_rfl
        go_wp2
        go_ret
        exact ⟨ret_iE HR.out.symm, HB.out⟩
      · have HR : Hid (findK ([⟨#[]⟩, oW1, oW2, oW3, oW4, oW5].drop (2 + 1)) ((2 + 1 : Nat) : Int) s = findK [⟨#[]⟩, oW1, oW2, oW3, oW4, oW5] 0 s) := by show _ = _; rw [← HK.out]; show _ = (if (oW2 : ByteArray) = s then (2 : Int) else _); rw [if_neg he]; rfl
        obtain ⟨e1, e2⟩ := str_no he
        clear HK he
        rw [show ((2 : Nat) : Int) = (2 : Int) from rfl]
        have hix : ∀ W, (Instr.index 77 (.agg #[.string ⟨#[]⟩, .string oW1, .string oW2, .string oW3, .string oW4, .string oW5]) (.int .i64 2)).run Tryz.prog W = .ok (.string oW2) W := fun _ => by kernel_rfl
        go_wp2
        go_roundw
        case rel => exact ⟨3, by omega, by go_num, HR, HB⟩
        case measure => simp [RowKit.intOf]
    | 3, _ =>
      by_cases he : (oW3 : ByteArray) = s
      · have HR : Hid (findK [⟨#[]⟩, oW1, oW2, oW3, oW4, oW5] 0 s = 3) := by show _ = _; rw [← HK.out]; show (if (oW3 : ByteArray) = s then (3 : Int) else _) = 3; rw [if_pos he]
        obtain ⟨e1, e2⟩ := str_yes he
        clear HK he
        rw [show ((3 : Nat) : Int) = (3 : Int) from rfl]
        have hix : ∀ W, (Instr.index 77 (.agg #[.string ⟨#[]⟩, .string oW1, .string oW2, .string oW3, .string oW4, .string oW5]) (.int .i64 3)).run Tryz.prog W = .ok (.string oW3) W := fun _ => by kernel_rfl
        go_wp2
        go_ret
        exact ⟨ret_iE HR.out.symm, HB.out⟩
      · have HR : Hid (findK ([⟨#[]⟩, oW1, oW2, oW3, oW4, oW5].drop (3 + 1)) ((3 + 1 : Nat) : Int) s = findK [⟨#[]⟩, oW1, oW2, oW3, oW4, oW5] 0 s) := by show _ = _; rw [← HK.out]; show _ = (if (oW3 : ByteArray) = s then (3 : Int) else _); rw [if_neg he]; rfl
        obtain ⟨e1, e2⟩ := str_no he
        clear HK he
        rw [show ((3 : Nat) : Int) = (3 : Int) from rfl]
        have hix : ∀ W, (Instr.index 77 (.agg #[.string ⟨#[]⟩, .string oW1, .string oW2, .string oW3, .string oW4, .string oW5]) (.int .i64 3)).run Tryz.prog W = .ok (.string oW3) W := fun _ => by kernel_rfl
        go_wp2
        go_roundw
        case rel => exact ⟨4, by omega, by go_num, HR, HB⟩
        case measure => simp [RowKit.intOf]
    | 4, _ =>
      by_cases he : (oW4 : ByteArray) = s
      · have HR : Hid (findK [⟨#[]⟩, oW1, oW2, oW3, oW4, oW5] 0 s = 4) := by show _ = _; rw [← HK.out]; show (if (oW4 : ByteArray) = s then (4 : Int) else _) = 4; rw [if_pos he]
        obtain ⟨e1, e2⟩ := str_yes he
        clear HK he
        rw [show ((4 : Nat) : Int) = (4 : Int) from rfl]
        have hix : ∀ W, (Instr.index 77 (.agg #[.string ⟨#[]⟩, .string oW1, .string oW2, .string oW3, .string oW4, .string oW5]) (.int .i64 4)).run Tryz.prog W = .ok (.string oW4) W := fun _ => by kernel_rfl
        go_wp2
        go_ret
        exact ⟨ret_iE HR.out.symm, HB.out⟩
      · have HR : Hid (findK ([⟨#[]⟩, oW1, oW2, oW3, oW4, oW5].drop (4 + 1)) ((4 + 1 : Nat) : Int) s = findK [⟨#[]⟩, oW1, oW2, oW3, oW4, oW5] 0 s) := by show _ = _; rw [← HK.out]; show _ = (if (oW4 : ByteArray) = s then (4 : Int) else _); rw [if_neg he]; rfl
        obtain ⟨e1, e2⟩ := str_no he
        clear HK he
        rw [show ((4 : Nat) : Int) = (4 : Int) from rfl]
        have hix : ∀ W, (Instr.index 77 (.agg #[.string ⟨#[]⟩, .string oW1, .string oW2, .string oW3, .string oW4, .string oW5]) (.int .i64 4)).run Tryz.prog W = .ok (.string oW4) W := fun _ => by kernel_rfl
        go_wp2
        go_roundw
        case rel => exact ⟨5, by omega, by go_num, HR, HB⟩
        case measure => simp [RowKit.intOf]
    | 5, _ =>
      by_cases he : (oW5 : ByteArray) = s
      · have HR : Hid (findK [⟨#[]⟩, oW1, oW2, oW3, oW4, oW5] 0 s = 5) := by show _ = _; rw [← HK.out]; show (if (oW5 : ByteArray) = s then (5 : Int) else _) = 5; rw [if_pos he]
        obtain ⟨e1, e2⟩ := str_yes he
        clear HK he
        rw [show ((5 : Nat) : Int) = (5 : Int) from rfl]
        have hix : ∀ W, (Instr.index 77 (.agg #[.string ⟨#[]⟩, .string oW1, .string oW2, .string oW3, .string oW4, .string oW5]) (.int .i64 5)).run Tryz.prog W = .ok (.string oW5) W := fun _ => by kernel_rfl
        go_wp2
        go_ret
        exact ⟨ret_iE HR.out.symm, HB.out⟩
      · have HR : Hid (findK ([⟨#[]⟩, oW1, oW2, oW3, oW4, oW5].drop (5 + 1)) ((5 + 1 : Nat) : Int) s = findK [⟨#[]⟩, oW1, oW2, oW3, oW4, oW5] 0 s) := by show _ = _; rw [← HK.out]; show _ = (if (oW5 : ByteArray) = s then (5 : Int) else _); rw [if_neg he]; rfl
        obtain ⟨e1, e2⟩ := str_no he
        clear HK he
        rw [show ((5 : Nat) : Int) = (5 : Int) from rfl]
        have hix : ∀ W, (Instr.index 77 (.agg #[.string ⟨#[]⟩, .string oW1, .string oW2, .string oW3, .string oW4, .string oW5]) (.int .i64 5)).run Tryz.prog W = .ok (.string oW5) W := fun _ => by kernel_rfl
        go_wp2
        go_roundw
        case rel => exact ⟨6, by omega, by go_num, HR, HB⟩
        case measure => simp [RowKit.intOf]
    | 6, _ =>
      have HR : Hid (findK [⟨#[]⟩, oW1, oW2, oW3, oW4, oW5] 0 s = 0) := by show _ = _; rw [← HK.out]; rfl
      clear HK
      rw [show ((6 : Nat) : Int) = (6 : Int) from rfl]
      go_wp2
      go_ret
      exact ⟨ret_iE HR.out.symm, HB.out⟩
end Go.Proofs.YtgkfhcpegdlejaaGreatDoor

/-
  The walk of the program's own: the kind of a word.
-/
namespace Go.Proofs.YtgkfhcpegdlejaaGreatDoor
open Go.RowKit Go.Lib

/-- The table lies where it is laid. -/
structure MarkTab (w : World) : Prop where
  c0 : w.cell? ⟨1, 0, none⟩ = some (.string ⟨#[]⟩)
  c1 : w.cell? ⟨1, 1, none⟩ = some (.string wF)
  c2 : w.cell? ⟨1, 2, none⟩ = some (.string wD)
  c3 : w.cell? ⟨1, 3, none⟩ = some (.string wX)
  c4 : w.cell? ⟨1, 4, none⟩ = some (.string wB)
theorem MarkTab.below {w w' : World} (h : MarkTab w) (hb : Below w.heap.size w w') : MarkTab w' := by
  have hB : 1 < w.heap.size := World.block_lt_of_cell? w ⟨1, 1, none⟩ h.c1
  exact ⟨(hb.cell (p := ⟨1, _, none⟩) hB).trans h.c0, (hb.cell (p := ⟨1, _, none⟩) hB).trans h.c1, (hb.cell (p := ⟨1, _, none⟩) hB).trans h.c2, (hb.cell (p := ⟨1, _, none⟩) hB).trans h.c3, (hb.cell (p := ⟨1, _, none⟩) hB).trans h.c4⟩
set_option maxHeartbeats 1600000 in
set_option maxRecDepth 100000 in
theorem markKind_any (s : ByteArray) (w : World) (hw : MarkTab w) :
    Calls Tryz.prog 67 #[.string s] w fun r w' => r = .returned (.int .i64 (findK [⟨#[]⟩, wF, wD, wX, wB] 0 s)) ∧ Below w.heap.size w w' := by
  obtain ⟨c0, c1, c2, c3, c4⟩ := hw
  go_enter Tryz.func67, Tryz.ntmps67
  go_wp2
  clear c0 c1 c2 c3 c4
  go_loopw [6] (fun iv wl => ∃ j : Nat, j ≤ 5 ∧ iv = .int .i64 j ∧ Hid (findK ([⟨#[]⟩, wF, wD, wX, wB].drop j) j s = findK [⟨#[]⟩, wF, wD, wX, wB] 0 s) ∧ Hid (Below w.heap.size w wl)) (fun iv _ => 5 - (RowKit.intOf iv).toNat)
  case atStart => exact ⟨0, Nat.zero_le _, rfl, rfl, Below.refl _ _⟩
  case round =>
    obtain ⟨j, hj, rfl, HK, HB⟩ := hrel
    match j, hj with
    | 0, _ =>
      by_cases he : (⟨#[]⟩ : ByteArray) = s
      · have HR : Hid (findK [⟨#[]⟩, wF, wD, wX, wB] 0 s = 0) := by show _ = _; rw [← HK.out]; show (if (⟨#[]⟩ : ByteArray) = s then (0 : Int) else _) = 0; rw [if_pos he]
        obtain ⟨e1, e2⟩ := str_yes he
        clear HK he
        rw [show ((0 : Nat) : Int) = (0 : Int) from rfl]
        have hix : ∀ W, (Instr.index 101 (.agg #[.string ⟨#[]⟩, .string wF, .string wD, .string wX, .string wB]) (.int .i64 0)).run Tryz.prog W = .ok (.string ⟨#[]⟩) W := fun _ => by kernel_rfl
        go_wp2
        go_ret
        exact ⟨ret_iE HR.out.symm, HB.out⟩
      · have HR : Hid (findK ([⟨#[]⟩, wF, wD, wX, wB].drop (0 + 1)) ((0 + 1 : Nat) : Int) s = findK [⟨#[]⟩, wF, wD, wX, wB] 0 s) := by show _ = _; rw [← HK.out]; show _ = (if (⟨#[]⟩ : ByteArray) = s then (0 : Int) else _); rw [if_neg he]; rfl
        obtain ⟨e1, e2⟩ := str_no he
        have e3 : (([] : List UInt8) == s.toList) = false := by rw [Lib.toList_data] at e1; exact e1
        have e4 : ¬ ([] : List UInt8) = s.toList := by rw [Lib.toList_data] at e2; exact e2
        clear HK he
        rw [show ((0 : Nat) : Int) = (0 : Int) from rfl]
        have hix : ∀ W, (Instr.index 101 (.agg #[.string ⟨#[]⟩, .string wF, .string wD, .string wX, .string wB]) (.int .i64 0)).run Tryz.prog W = .ok (.string ⟨#[]⟩) W := fun _ => by kernel_rfl
        go_wp2
        go_roundw
        case rel => exact ⟨1, by omega, by go_num, HR, HB⟩
        case measure => simp [RowKit.intOf]
    | 1, _ =>
      by_cases he : (wF : ByteArray) = s
      · have HR : Hid (findK [⟨#[]⟩, wF, wD, wX, wB] 0 s = 1) := by show _ = _; rw [← HK.out]; show (if (wF : ByteArray) = s then (1 : Int) else _) = 1; rw [if_pos he]
        obtain ⟨e1, e2⟩ := str_yes he
        clear HK he
        rw [show ((1 : Nat) : Int) = (1 : Int) from rfl]
        have hix : ∀ W, (Instr.index 101 (.agg #[.string ⟨#[]⟩, .string wF, .string wD, .string wX, .string wB]) (.int .i64 1)).run Tryz.prog W = .ok (.string wF) W := fun _ => by kernel_rfl
        go_wp2
        go_ret
        exact ⟨ret_iE HR.out.symm, HB.out⟩
      · have HR : Hid (findK ([⟨#[]⟩, wF, wD, wX, wB].drop (1 + 1)) ((1 + 1 : Nat) : Int) s = findK [⟨#[]⟩, wF, wD, wX, wB] 0 s) := by show _ = _; rw [← HK.out]; show _ = (if (wF : ByteArray) = s then (1 : Int) else _); rw [if_neg he]; rfl
        obtain ⟨e1, e2⟩ := str_no he
        clear HK he
        rw [show ((1 : Nat) : Int) = (1 : Int) from rfl]
        have hix : ∀ W, (Instr.index 101 (.agg #[.string ⟨#[]⟩, .string wF, .string wD, .string wX, .string wB]) (.int .i64 1)).run Tryz.prog W = .ok (.string wF) W := fun _ => by kernel_rfl
        go_wp2
        go_roundw
        case rel => exact ⟨2, by omega, by go_num, HR, HB⟩
        case measure => simp [RowKit.intOf]
    | 2, _ =>
      by_cases he : (wD : ByteArray) = s
      · have HR : Hid (findK [⟨#[]⟩, wF, wD, wX, wB] 0 s = 2) := by show _ = _; rw [← HK.out]; show (if (wD : ByteArray) = s then (2 : Int) else _) = 2; rw [if_pos he]
        obtain ⟨e1, e2⟩ := str_yes he
        clear HK he
        rw [show ((2 : Nat) : Int) = (2 : Int) from rfl]
        have hix : ∀ W, (Instr.index 101 (.agg #[.string ⟨#[]⟩, .string wF, .string wD, .string wX, .string wB]) (.int .i64 2)).run Tryz.prog W = .ok (.string wD) W := fun _ => by kernel_rfl
        go_wp2
        go_ret
        exact ⟨ret_iE HR.out.symm, HB.out⟩
      · have HR : Hid (findK ([⟨#[]⟩, wF, wD, wX, wB].drop (2 + 1)) ((2 + 1 : Nat) : Int) s = findK [⟨#[]⟩, wF, wD, wX, wB] 0 s) := by show _ = _; rw [← HK.out]; show _ = (if (wD : ByteArray) = s then (2 : Int) else _); rw [if_neg he]; rfl
        obtain ⟨e1, e2⟩ := str_no he
        clear HK he
        rw [show ((2 : Nat) : Int) = (2 : Int) from rfl]
        have hix : ∀ W, (Instr.index 101 (.agg #[.string ⟨#[]⟩, .string wF, .string wD, .string wX, .string wB]) (.int .i64 2)).run Tryz.prog W = .ok (.string wD) W := fun _ => by kernel_rfl
        go_wp2
        go_roundw
        case rel => exact ⟨3, by omega, by go_num, HR, HB⟩
        case measure => simp [RowKit.intOf]
    | 3, _ =>
      by_cases he : (wX : ByteArray) = s
      · have HR : Hid (findK [⟨#[]⟩, wF, wD, wX, wB] 0 s = 3) := by show _ = _; rw [← HK.out]; show (if (wX : ByteArray) = s then (3 : Int) else _) = 3; rw [if_pos he]
        obtain ⟨e1, e2⟩ := str_yes he
        clear HK he
        rw [show ((3 : Nat) : Int) = (3 : Int) from rfl]
        have hix : ∀ W, (Instr.index 101 (.agg #[.string ⟨#[]⟩, .string wF, .string wD, .string wX, .string wB]) (.int .i64 3)).run Tryz.prog W = .ok (.string wX) W := fun _ => by kernel_rfl
        go_wp2
        go_ret
        exact ⟨ret_iE HR.out.symm, HB.out⟩
      · have HR : Hid (findK ([⟨#[]⟩, wF, wD, wX, wB].drop (3 + 1)) ((3 + 1 : Nat) : Int) s = findK [⟨#[]⟩, wF, wD, wX, wB] 0 s) := by show _ = _; rw [← HK.out]; show _ = (if (wX : ByteArray) = s then (3 : Int) else _); rw [if_neg he]; rfl
        obtain ⟨e1, e2⟩ := str_no he
        clear HK he
        rw [show ((3 : Nat) : Int) = (3 : Int) from rfl]
        have hix : ∀ W, (Instr.index 101 (.agg #[.string ⟨#[]⟩, .string wF, .string wD, .string wX, .string wB]) (.int .i64 3)).run Tryz.prog W = .ok (.string wX) W := fun _ => by kernel_rfl
        go_wp2
        go_roundw
        case rel => exact ⟨4, by omega, by go_num, HR, HB⟩
        case measure => simp [RowKit.intOf]
    | 4, _ =>
      by_cases he : (wB : ByteArray) = s
      · have HR : Hid (findK [⟨#[]⟩, wF, wD, wX, wB] 0 s = 4) := by show _ = _; rw [← HK.out]; show (if (wB : ByteArray) = s then (4 : Int) else _) = 4; rw [if_pos he]
        obtain ⟨e1, e2⟩ := str_yes he
        clear HK he
        rw [show ((4 : Nat) : Int) = (4 : Int) from rfl]
        have hix : ∀ W, (Instr.index 101 (.agg #[.string ⟨#[]⟩, .string wF, .string wD, .string wX, .string wB]) (.int .i64 4)).run Tryz.prog W = .ok (.string wB) W := fun _ => by kernel_rfl
        go_wp2
        go_ret
        exact ⟨ret_iE HR.out.symm, HB.out⟩
      · have HR : Hid (findK ([⟨#[]⟩, wF, wD, wX, wB].drop (4 + 1)) ((4 + 1 : Nat) : Int) s = findK [⟨#[]⟩, wF, wD, wX, wB] 0 s) := by show _ = _; rw [← HK.out]; show _ = (if (wB : ByteArray) = s then (4 : Int) else _); rw [if_neg he]; rfl
        obtain ⟨e1, e2⟩ := str_no he
        clear HK he
        rw [show ((4 : Nat) : Int) = (4 : Int) from rfl]
        have hix : ∀ W, (Instr.index 101 (.agg #[.string ⟨#[]⟩, .string wF, .string wD, .string wX, .string wB]) (.int .i64 4)).run Tryz.prog W = .ok (.string wB) W := fun _ => by kernel_rfl
        go_wp2
        go_roundw
        case rel => exact ⟨5, by omega, by go_num, HR, HB⟩
        case measure => simp [RowKit.intOf]
    | 5, _ =>
      have HR : Hid (findK [⟨#[]⟩, wF, wD, wX, wB] 0 s = 0) := by show _ = _; rw [← HK.out]; rfl
      clear HK
      rw [show ((5 : Nat) : Int) = (5 : Int) from rfl]
      go_wp2
      go_ret
      exact ⟨ret_iE HR.out.symm, HB.out⟩
end Go.Proofs.YtgkfhcpegdlejaaGreatDoor

/-
  Two endings with the same text.
-/
namespace Go.Proofs.YtgkfhcpegdlejaaGreatDoor
open Go.RowKit Go.Lib

theorem retS {a b : ByteArray} (h : a = b) : Ending.returned (.string a) = .returned (.string b) := by rw [h]
end Go.Proofs.YtgkfhcpegdlejaaGreatDoor

/-
  Stores of a whole struct of three cells into a box.
-/
namespace Go.Proofs.YtgkfhcpegdlejaaGreatDoor
open Go.RowKit Go.Lib

/-- The block b alone is turned. -/
structure OnlyB3 (b : Nat) (w w' : World) : Prop where
  os : w'.os = w.os
  tape : w'.tape = w.tape
  output : w'.output = w.output
  size : w'.heap.size = w.heap.size
  block : ∀ k, k ≠ b → w'.heap[k]? = w.heap[k]?
theorem OnlyB3.trans {b : Nat} {x y z : World} (h : OnlyB3 b x y) (k : OnlyB3 b y z) : OnlyB3 b x z :=
  ⟨k.os.trans h.os, k.tape.trans h.tape, k.output.trans h.output, k.size.trans h.size, fun i hi => (k.block i hi).trans (h.block i hi)⟩
theorem OnlyB3.setRow (b : Nat) (w : World) (cs : Array Value) : OnlyB3 b w (w.setRow b cs) := ⟨rfl, rfl, rfl, setRow_size _ _ _, fun k hk => setRow_other w b k cs hk⟩
theorem OnlyB3.below {b n : Nat} {x y z : World} (k : OnlyB3 b y z) (h : Below n x y) (hb : n ≤ b) : Below n x z :=
  ⟨k.os.trans h.os, k.tape.trans h.tape, k.output.trans h.output, by rw [k.size]; exact h.size, fun i hi => (k.block i (by omega)).trans (h.block i hi)⟩
theorem cell_off3 (w : World) (b i j : Nat) (v : Value) (h : i ≠ j) : (w.setCell ⟨b, i, none⟩ v).cell? ⟨b, j, none⟩ = w.cell? ⟨b, j, none⟩ := World.cell?_setCell_other _ _ _ _ (fun q => by have e := congrArg Addr.off q; dsimp only at e; omega)
theorem set3_rules {w : World} {b : Nat} {c0 c1 c2 : Value} {T : TypeId} (h : w.heap[b]? = some (.cells #[c0, c1, c2] T (0, 0))) :
    (w.cell? ⟨b, 0, none⟩ = some c0 ∧ w.frozen? ⟨b, 0, none⟩ = false) ∧ (∀ u, (w.setCell ⟨b, 0, none⟩ u).cell? ⟨b, 1, none⟩ = some c1 ∧ (w.setCell ⟨b, 0, none⟩ u).frozen? ⟨b, 1, none⟩ = false) ∧
    (∀ u x, ((w.setCell ⟨b, 0, none⟩ u).setCell ⟨b, 1, none⟩ x).cell? ⟨b, 2, none⟩ = some c2 ∧ ((w.setCell ⟨b, 0, none⟩ u).setCell ⟨b, 1, none⟩ x).frozen? ⟨b, 2, none⟩ = false) := by
  have hf : ∀ j, w.frozen? ⟨b, j, none⟩ = false := fun j => by simp [World.frozen?, h]
  have hc : ∀ j, w.cell? ⟨b, j, none⟩ = #[c0, c1, c2][j]? := fun j => cell_of_row w b j _ _ _ h
  refine ⟨⟨hc 0, hf 0⟩, fun u => ⟨?_, ?_⟩, fun u x => ⟨?_, ?_⟩⟩
  · rw [cell_off3 _ _ _ _ _ (by omega)]; exact hc 1
  · rw [World.frozen?_setCell]; exact hf 1
  · rw [cell_off3 _ _ _ _ _ (by omega), cell_off3 _ _ _ _ _ (by omega)]; exact hc 2
  · rw [World.frozen?_setCell, World.frozen?_setCell]; exact hf 2
theorem set3_is {w : World} {b : Nat} {c0 c1 c2 : Value} {T : TypeId} (h : w.heap[b]? = some (.cells #[c0, c1, c2] T (0, 0))) (u x y : Value) :
    OnlyB3 b w (((w.setCell ⟨b, 0, none⟩ u).setCell ⟨b, 1, none⟩ x).setCell ⟨b, 2, none⟩ y) ∧ (((w.setCell ⟨b, 0, none⟩ u).setCell ⟨b, 1, none⟩ x).setCell ⟨b, 2, none⟩ y).heap[b]? = some (.cells #[u, x, y] T (0, 0)) := by
  rw [setCell_eq_setRow w b 0 _ T (0, 0) u h]
  have h1 := setRow_heap w b _ (#[c0, c1, c2].setIfInBounds 0 u) T (0, 0) h
  rw [setCell_eq_setRow _ b 1 _ T (0, 0) x h1]
  have h2 := setRow_heap _ b _ ((#[c0, c1, c2].setIfInBounds 0 u).setIfInBounds 1 x) T (0, 0) h1
  rw [setCell_eq_setRow _ b 2 _ T (0, 0) y h2]
  exact ⟨((OnlyB3.setRow b w _).trans (OnlyB3.setRow b _ _)).trans (OnlyB3.setRow b _ _), setRow_heap _ b _ _ T (0, 0) h2⟩
end Go.Proofs.YtgkfhcpegdlejaaGreatDoor
