/-
  The walk of the program's own PathJoin.
-/
import Derived.Test.YtbcogekeoklddaaGreatDoorHStem
import Derived.Test.YtbcogekeoklddaaGreatDoorHIfOk
namespace Go.Proofs.YtbcogekeoklddaaGreatDoor
open Go.RowKit Go.Shelf Go.Lib

set_option maxHeartbeats 400000 in
theorem iPathJoin_any (d n : ByteArray) (hd : d.size ≤ 16777216) (hn : n.size ≤ 16777216) (w : World) :
    Calls Tryz.prog 23 #[.string d, .string n] w fun e w' => e = .returned (.tuple #[.string (joinS d n), .bool (joinOk d n)]) ∧ Below w.heap.size w w' := by
  have hz0 : (stemS d).size ≤ 16777216 := by unfold stemS; split; exact Nat.zero_le _; exact hd
  have hz : (stemS d ++ ⟨#[47]⟩ ++ n : ByteArray).size ≤ 67108864 := by
    rw [ByteArray.size_append, ByteArray.size_append]; show (stemS d).size + 1 + n.size ≤ _; omega
  cases h1 : stemOk d with
  | false =>
    go_enter Tryz.func23, Tryz.ntmps23
    go_wp2_with (first | (go_at_call 46; refine (stem_any _ (by omega) _).mono ?_; rintro e w1 ⟨rfl, hB1⟩))
    go_ret2
    exact ⟨ret_two (by unfold joinS joinOk; rw [h1]; rfl) (by unfold joinOk; rw [h1]; rfl), hB1⟩
  | true =>
    cases h2 : nameB n with
    | false =>
      go_enter Tryz.func23, Tryz.ntmps23
      go_wp2_with (first | (go_at_call 46; refine (stem_any _ (by omega) _).mono ?_; rintro e w1 ⟨rfl, hB1⟩) | (go_at_call 57; refine (nameOk_any _ _).mono ?_; rintro e w2 ⟨rfl, hB2⟩))
      go_ret2
      exact ⟨ret_two (by unfold joinS joinOk; rw [h1, h2]; rfl) (by unfold joinOk; rw [h1, h2]; rfl), hB1.trans (hB2.mono hB1.size)⟩
    | true =>
      have e1 : joinOk d n = pathB (stemS d ++ ⟨#[47]⟩ ++ n) := by unfold joinOk joinI; rw [h1, h2]; rfl
      have HS : Hid (joinS d n = ifS (stemS d ++ ⟨#[47]⟩ ++ n)) := by
        show _ = _; unfold joinS ifS; rw [e1]; rfl
      have HO : Hid (joinOk d n = pathB (stemS d ++ ⟨#[47]⟩ ++ n)) := e1
      clear e1
      go_enter Tryz.func23, Tryz.ntmps23
      go_wp2_with (first | (go_at_call 46; refine (stem_any _ (by omega) _).mono ?_; rintro e w1 ⟨rfl, hB1⟩) | (go_at_call 57; refine (nameOk_any _ _).mono ?_; rintro e w2 ⟨rfl, hB2⟩) | (go_at_call 50; refine (ifOk_any _ hz _).mono ?_; rintro e w3 ⟨rfl, hB3⟩))
      go_ret2
      exact ⟨ret_two HS.out.symm HO.out.symm, (hB1.trans (hB2.mono hB1.size)).trans (hB3.mono (Nat.le_trans hB1.size hB2.size))⟩
end Go.Proofs.YtbcogekeoklddaaGreatDoor
