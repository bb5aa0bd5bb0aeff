/-
  The walk of the laws' helper wpIn: a text is in a list.
-/
import Derived.Test.YtkjpmngohocmlabGreatDoorHPk31
namespace Go.Proofs.YtkjpmngohocmlabGreatDoor
open Go.RowKit Go.Lib

theorem inDrop (xs : List ByteArray) (s : ByteArray) (k : Nat) (h : k < xs.length) : (xs.drop k).any (fun y => y.toList == s.toList) = ((xs[k].toList == s.toList) || (xs.drop (k + 1)).any (fun y => y.toList == s.toList)) := by
  rw [List.drop_eq_getElem_cons h]; rfl
set_option maxHeartbeats 400000 in
set_option maxRecDepth 100000 in
theorem wpIn_any (w : World) (a : Option Addr) (g cap : Nat) (xs : List ByteArray) (s : ByteArray) (hl : xs.length ≤ 16777216) (ha : 0 < xs.length → a = some ⟨g, 0, none⟩) (hX : StrB w g xs) :
    Calls Tryz.prog 20 #[.slice a xs.length cap, .string s] w fun e w' => e = .returned (.bool (xs.any (fun y => y.toList == s.toList))) ∧ Below w.heap.size w w' := by
  have HX := hidR hX
  clear hX
  go_enter Tryz.func20, Tryz.ntmps20
  go_wp2
  go_loop [5] (fun i => ∃ k : Nat, k ≤ xs.length ∧ i = .int .i64 k ∧ Hid ((xs.drop k).any (fun y => y.toList == s.toList) = xs.any (fun y => y.toList == s.toList))) (fun i => xs.length - (RowKit.intOf i).toNat)
  case atStart => exact ⟨0, Nat.zero_le _, rfl, rfl⟩
  case round =>
    obtain ⟨k, hk, rfl, HF⟩ := hrel
    by_cases hlt : k < xs.length
    · obtain rfl := ha (by omega)
      have c0 := HX.out k hlt
      have HD := hidR (inDrop xs s k hlt)
      cases hc : (xs[k].toList == s.toList) with
      | true =>
        rw [hc] at HD
        go_wp2
        go_ret
        exact ⟨ret_bE (by rw [← HF.out, HD.out]; rfl), Below.refl _ _⟩
      | false =>
        rw [hc] at HD
        go_wp2
        go_round
        case rel => exact ⟨k + 1, by omega, by go_num, by show _ = _; rw [← HF.out, HD.out]; rfl⟩
        case measure => simp [RowKit.intOf]; omega
    · go_wp2
      go_ret
      exact ⟨ret_bE (by rw [← HF.out, List.drop_of_length_le (by omega)]; rfl), Below.refl _ _⟩
end Go.Proofs.YtkjpmngohocmlabGreatDoor
