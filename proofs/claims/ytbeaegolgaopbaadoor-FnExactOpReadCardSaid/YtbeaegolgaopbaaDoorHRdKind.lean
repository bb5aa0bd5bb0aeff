/-
  The walk of the program's own: the kind of a word.
-/
import Derived.Test.YtbeaegolgaopbaaDoorHTxOpP
import Derived.Test.YtbeaegolgaopbaaDoorHRdCut
import Derived.Test.YtbeaegolgaopbaaDoorHWalkBase
namespace Go.Proofs.YtbeaegolgaopbaaDoor
open Go.RowKit Go.Lib

/-- The place of a word among others. -/
def findK : List ByteArray → Int → ByteArray → Int
  | [], _, _ => 0
  | w :: r, k, s => if w = s then k else findK r (k + 1) s
theorem str_yes {a b : ByteArray} (h : a = b) : (a.toList == b.toList) = true ∧ a.toList = b.toList := by rw [h]; simp
theorem str_no {a b : ByteArray} (h : ¬ a = b) : (a.toList == b.toList) = false ∧ ¬ a.toList = b.toList := by
  have : ¬ a.toList = b.toList := fun e => h (lb_inj (by rw [Lib.toList_data, Lib.toList_data] at e; exact e))
  exact ⟨by simpa using this, this⟩
/-- The table lies where it is laid. -/
structure OpTab (w : World) : Prop where
  c0 : w.cell? ⟨1, 0, none⟩ = some (.string ⟨#[]⟩)
  c1 : w.cell? ⟨1, 1, none⟩ = some (.string oW1)
  c2 : w.cell? ⟨1, 2, none⟩ = some (.string oW2)
  c3 : w.cell? ⟨1, 3, none⟩ = some (.string oW3)
  c4 : w.cell? ⟨1, 4, none⟩ = some (.string oW4)
  c5 : w.cell? ⟨1, 5, none⟩ = some (.string oW5)
theorem OpTab.below {w w' : World} (h : OpTab w) (hb : Below w.heap.size w w') : OpTab w' := by
  have hB : 1 < w.heap.size := World.block_lt_of_cell? w ⟨1, 1, none⟩ h.c1
  exact ⟨(hb.cell (p := ⟨1, _, none⟩) hB).trans h.c0, (hb.cell (p := ⟨1, _, none⟩) hB).trans h.c1, (hb.cell (p := ⟨1, _, none⟩) hB).trans h.c2, (hb.cell (p := ⟨1, _, none⟩) hB).trans h.c3, (hb.cell (p := ⟨1, _, none⟩) hB).trans h.c4, (hb.cell (p := ⟨1, _, none⟩) hB).trans h.c5⟩
set_option maxHeartbeats 1600000 in
set_option maxRecDepth 100000 in
theorem opKind_any (s : ByteArray) (w : World) (hw : OpTab w) :
    Calls Tryd.prog 59 #[.string s] w fun r w' => r = .returned (.int .i64 (findK [⟨#[]⟩, oW1, oW2, oW3, oW4, oW5] 0 s)) ∧ Below w.heap.size w w' := by
  obtain ⟨c0, c1, c2, c3, c4, c5⟩ := hw
  go_enter Tryd.func59, Tryd.ntmps59
  go_wp2
  clear c0 c1 c2 c3 c4 c5
  go_loopw [6] (fun iv wl => ∃ j : Nat, j ≤ 6 ∧ iv = .int .i64 j ∧ Hid (findK ([⟨#[]⟩, oW1, oW2, oW3, oW4, oW5].drop j) j s = findK [⟨#[]⟩, oW1, oW2, oW3, oW4, oW5] 0 s) ∧ Hid (Below w.heap.size w wl)) (fun iv _ => 6 - (RowKit.intOf iv).toNat)
  case atStart => exact ⟨0, Nat.zero_le _, rfl, rfl, Below.refl _ _⟩
  case round =>
    obtain ⟨j, hj, rfl, HK, HB⟩ := hrel
    match j, hj with
    | 0, _ =>
      by_cases he : (⟨#[]⟩ : ByteArray) = s
      · have HR : Hid (findK [⟨#[]⟩, oW1, oW2, oW3, oW4, oW5] 0 s = 0) := by show _ = _; rw [← HK.out]; show (if (⟨#[]⟩ : ByteArray) = s then (0 : Int) else _) = 0; rw [if_pos he]
        obtain ⟨e1, e2⟩ := str_yes he
        clear HK he
        rw [show ((0 : Nat) : Int) = (0 : Int) from rfl]
        have hix : ∀ W, (Instr.index 114 (.agg #[.string ⟨#[]⟩, .string oW1, .string oW2, .string oW3, .string oW4, .string oW5]) (.int .i64 0)).run Tryd.prog W = .ok (.string ⟨#[]⟩) W := fun _ => by kernel_rfl
        go_wp2
        go_ret
        exact ⟨ret_iE HR.out.symm, HB.out⟩
      · have HR : Hid (findK ([⟨#[]⟩, oW1, oW2, oW3, oW4, oW5].drop (0 + 1)) ((0 + 1 : Nat) : Int) s = findK [⟨#[]⟩, oW1, oW2, oW3, oW4, oW5] 0 s) := by show _ = _; rw [← HK.out]; show _ = (if (⟨#[]⟩ : ByteArray) = s then (0 : Int) else _); rw [if_neg he]; rfl
        obtain ⟨e1, e2⟩ := str_no he
        have e3 : (([] : List UInt8) == s.toList) = false := by rw [Lib.toList_data] at e1; exact e1
        have e4 : ¬ ([] : List UInt8) = s.toList := by rw [Lib.toList_data] at e2; exact e2
        clear HK he
        rw [show ((0 : Nat) : Int) = (0 : Int) from rfl]
        have hix : ∀ W, (Instr.index 114 (.agg #[.string ⟨#[]⟩, .string oW1, .string oW2, .string oW3, .string oW4, .string oW5]) (.int .i64 0)).run Tryd.prog W = .ok (.string ⟨#[]⟩) W := fun _ => by kernel_rfl
        go_wp2
        go_roundw
        case rel => exact ⟨1, by omega, by go_num, HR, HB⟩
        case measure => simp [RowKit.intOf]
    | 1, _ =>
      by_cases he : (oW1 : ByteArray) = s
      · have HR : Hid (findK [⟨#[]⟩, oW1, oW2, oW3, oW4, oW5] 0 s = 1) := by show _ = _; rw [← HK.out]; show (if (oW1 : ByteArray) = s then (1 : Int) else _) = 1; rw [if_pos he]
        obtain ⟨e1, e2⟩ := str_yes he
        clear HK he
        rw [show ((1 : Nat) : Int) = (1 : Int) from rfl]
        have hix : ∀ W, (Instr.index 114 (.agg #[.string ⟨#[]⟩, .string oW1, .string oW2, .string oW3, .string oW4, .string oW5]) (.int .i64 1)).run Tryd.prog W = .ok (.string oW1) W := fun _ => by kernel_rfl
        go_wp2
        go_ret
        exact ⟨ret_iE HR.out.symm, HB.out⟩
      · have HR : Hid (findK ([⟨#[]⟩, oW1, oW2, oW3, oW4, oW5].drop (1 + 1)) ((1 + 1 : Nat) : Int) s = findK [⟨#[]⟩, oW1, oW2, oW3, oW4, oW5] 0 s) := by show _ = _; rw [← HK.out]; show _ = (if (oW1 : ByteArray) = s then (1 : Int) else _); rw [if_neg he]; rfl
        obtain ⟨e1, e2⟩ := str_no he
        clear HK he
        rw [show ((1 : Nat) : Int) = (1 : Int) from rfl]
        have hix : ∀ W, (Instr.index 114 (.agg #[.string ⟨#[]⟩, .string oW1, .string oW2, .string oW3, .string oW4, .string oW5]) (.int .i64 1)).run Tryd.prog W = .ok (.string oW1) W := fun _ => by kernel_rfl
        go_wp2
        go_roundw
        case rel => exact ⟨2, by omega, by go_num, HR, HB⟩
        case measure => simp [RowKit.intOf]
    | 2, _ =>
      by_cases he : (oW2 : ByteArray) = s
      · have HR : Hid (findK [⟨#[]⟩, oW1, oW2, oW3, oW4, oW5] 0 s = 2) := by show _ = _; rw [← HK.out]; show (if (oW2 : ByteArray) = s then (2 : Int) else _) = 2; rw [if_pos he]
        obtain ⟨e1, e2⟩ := str_yes he
        clear HK he
        rw [show ((2 : Nat) : Int) = (2 : Int) from rfl]
        have hix : ∀ W, (Instr.index 114 (.agg #[.string ⟨#[]⟩, .string oW1, .string oW2, .string oW3, .string oW4, .string oW5]) (.int .i64 2)).run Tryd.prog W = .ok (.string oW2) W := fun _ => by kernel_rfl
        go_wp2
        go_ret
        exact ⟨ret_iE HR.out.symm, HB.out⟩
      · have HR : Hid (findK ([⟨#[]⟩, oW1, oW2, oW3, oW4, oW5].drop (2 + 1)) ((2 + 1 : Nat) : Int) s = findK [⟨#[]⟩, oW1, oW2, oW3, oW4, oW5] 0 s) := by show _ = _; rw [← HK.out]; show _ = (if (oW2 : ByteArray) = s then (2 : Int) else _); rw [if_neg he]; rfl
        obtain ⟨e1, e2⟩ := str_no he
        clear HK he
        rw [show ((2 : Nat) : Int) = (2 : Int) from rfl]
        have hix : ∀ W, (Instr.index 114 (.agg #[.string ⟨#[]⟩, .string oW1, .string oW2, .string oW3, .string oW4, .string oW5]) (.int .i64 2)).run Tryd.prog W = .ok (.string oW2) W := fun _ => by kernel_rfl
        go_wp2
        go_roundw
        case rel => exact ⟨3, by omega, by go_num, HR, HB⟩
        case measure => simp [RowKit.intOf]
    | 3, _ =>
      by_cases he : (oW3 : ByteArray) = s
      · have HR : Hid (findK [⟨#[]⟩, oW1, oW2, oW3, oW4, oW5] 0 s = 3) := by show _ = _; rw [← HK.out]; show (if (oW3 : ByteArray) = s then (3 : Int) else _) = 3; rw [if_pos he]
        obtain ⟨e1, e2⟩ := str_yes he
        clear HK he
        rw [show ((3 : Nat) : Int) = (3 : Int) from rfl]
        have hix : ∀ W, (Instr.index 114 (.agg #[.string ⟨#[]⟩, .string oW1, .string oW2, .string oW3, .string oW4, .string oW5]) (.int .i64 3)).run Tryd.prog W = .ok (.string oW3) W := fun _ => by kernel_rfl
        go_wp2
        go_ret
        exact ⟨ret_iE HR.out.symm, HB.out⟩
      · have HR : Hid (findK ([⟨#[]⟩, oW1, oW2, oW3, oW4, oW5].drop (3 + 1)) ((3 + 1 : Nat) : Int) s = findK [⟨#[]⟩, oW1, oW2, oW3, oW4, oW5] 0 s) := by show _ = _; rw [← HK.out]; show _ = (if (oW3 : ByteArray) = s then (3 : Int) else _); rw [if_neg he]; rfl
        obtain ⟨e1, e2⟩ := str_no he
        clear HK he
        rw [show ((3 : Nat) : Int) = (3 : Int) from rfl]
        have hix : ∀ W, (Instr.index 114 (.agg #[.string ⟨#[]⟩, .string oW1, .string oW2, .string oW3, .string oW4, .string oW5]) (.int .i64 3)).run Tryd.prog W = .ok (.string oW3) W := fun _ => by kernel_rfl
        go_wp2
        go_roundw
        case rel => exact ⟨4, by omega, by go_num, HR, HB⟩
        case measure => simp [RowKit.intOf]
    | 4, _ =>
      by_cases he : (oW4 : ByteArray) = s
      · have HR : Hid (findK [⟨#[]⟩, oW1, oW2, oW3, oW4, oW5] 0 s = 4) := by show _ = _; rw [← HK.out]; show (if (oW4 : ByteArray) = s then (4 : Int) else _) = 4; rw [if_pos he]
        obtain ⟨e1, e2⟩ := str_yes he
        clear HK he
        rw [show ((4 : Nat) : Int) = (4 : Int) from rfl]
        have hix : ∀ W, (Instr.index 114 (.agg #[.string ⟨#[]⟩, .string oW1, .string oW2, .string oW3, .string oW4, .string oW5]) (.int .i64 4)).run Tryd.prog W = .ok (.string oW4) W := fun _ => by kernel_rfl
        go_wp2
        go_ret
        exact ⟨ret_iE HR.out.symm, HB.out⟩
      · have HR : Hid (findK ([⟨#[]⟩, oW1, oW2, oW3, oW4, oW5].drop (4 + 1)) ((4 + 1 : Nat) : Int) s = findK [⟨#[]⟩, oW1, oW2, oW3, oW4, oW5] 0 s) := by show _ = _; rw [← HK.out]; show _ = (if (oW4 : ByteArray) = s then (4 : Int) else _); rw [if_neg he]; rfl
        obtain ⟨e1, e2⟩ := str_no he
        clear HK he
        rw [show ((4 : Nat) : Int) = (4 : Int) from rfl]
        have hix : ∀ W, (Instr.index 114 (.agg #[.string ⟨#[]⟩, .string oW1, .string oW2, .string oW3, .string oW4, .string oW5]) (.int .i64 4)).run Tryd.prog W = .ok (.string oW4) W := fun _ => by kernel_rfl
        go_wp2
        go_roundw
        case rel => exact ⟨5, by omega, by go_num, HR, HB⟩
        case measure => simp [RowKit.intOf]
    | 5, _ =>
      by_cases he : (oW5 : ByteArray) = s
      · have HR : Hid (findK [⟨#[]⟩, oW1, oW2, oW3, oW4, oW5] 0 s = 5) := by show _ = _; rw [← HK.out]; show (if (oW5 : ByteArray) = s then (5 : Int) else _) = 5; rw [if_pos he]
        obtain ⟨e1, e2⟩ := str_yes he
        clear HK he
        rw [show ((5 : Nat) : Int) = (5 : Int) from rfl]
        have hix : ∀ W, (Instr.index 114 (.agg #[.string ⟨#[]⟩, .string oW1, .string oW2, .string oW3, .string oW4, .string oW5]) (.int .i64 5)).run Tryd.prog W = .ok (.string oW5) W := fun _ => by kernel_rfl
        go_wp2
        go_ret
        exact ⟨ret_iE HR.out.symm, HB.out⟩
      · have HR : Hid (findK ([⟨#[]⟩, oW1, oW2, oW3, oW4, oW5].drop (5 + 1)) ((5 + 1 : Nat) : Int) s = findK [⟨#[]⟩, oW1, oW2, oW3, oW4, oW5] 0 s) := by show _ = _; rw [← HK.out]; show _ = (if (oW5 : ByteArray) = s then (5 : Int) else _); rw [if_neg he]; rfl
        obtain ⟨e1, e2⟩ := str_no he
        clear HK he
        rw [show ((5 : Nat) : Int) = (5 : Int) from rfl]
        have hix : ∀ W, (Instr.index 114 (.agg #[.string ⟨#[]⟩, .string oW1, .string oW2, .string oW3, .string oW4, .string oW5]) (.int .i64 5)).run Tryd.prog W = .ok (.string oW5) W := fun _ => by kernel_rfl
        go_wp2
        go_roundw
        case rel => exact ⟨6, by omega, by go_num, HR, HB⟩
        case measure => simp [RowKit.intOf]
    | 6, _ =>
      have HR : Hid (findK [⟨#[]⟩, oW1, oW2, oW3, oW4, oW5] 0 s = 0) := by show _ = _; rw [← HK.out]; rfl
      clear HK
      rw [show ((6 : Nat) : Int) = (6 : Int) from rfl]
      go_wp2
      go_ret
      exact ⟨ret_iE HR.out.symm, HB.out⟩
end Go.Proofs.YtbeaegolgaopbaaDoor
