/-
  The walk of the laws' helper wpWords, at two lists that are one.
-/
import Derived.Test.YtbcogekeoklddaaDoorHStrRow
namespace Go.Proofs.YtbcogekeoklddaaDoor
open Go.RowKit Go.Lib

set_option maxHeartbeats 400000 in
set_option maxRecDepth 100000 in
theorem wpWords_same (w : World) (a : Option Addr) (g cap : Nat) (a' : Option Addr) (g' cap' : Nat) (xs : List ByteArray) (hl : xs.length ≤ 16777216) (ha : 0 < xs.length → a = some ⟨g, 0, none⟩) (ha' : 0 < xs.length → a' = some ⟨g', 0, none⟩) (hX : StrB w g xs) (hY : StrB w g' xs) :
    Calls Tryd.prog 7 #[.slice a xs.length cap, .slice a' xs.length cap'] w fun e w' => e = .returned (.bool true) ∧ Below w.heap.size w w' := by
  have HX := hidR hX
  have HY := hidR hY
  clear hX hY
  go_enter Tryd.func7, Tryd.ntmps7
  go_wp2
  go_loopw [5] (fun i wl => ∃ k : Nat, k ≤ xs.length ∧ i = .int .i64 k ∧ Hid (Below w.heap.size w wl)) (fun i _ => xs.length - (RowKit.intOf i).toNat)
  case atStart => exact ⟨0, Nat.zero_le _, rfl, Below.refl _ _⟩
  case round =>
    obtain ⟨k, hk, rfl, HB⟩ := hrel
    by_cases hlt : k < xs.length
    · obtain rfl := ha (by omega)
      obtain rfl := ha' (by omega)
      have c0 := HX.out.below HB.out k hlt
      have c1 := HY.out.below HB.out k hlt
      have hc : (xs[k].toList == xs[k].toList) = true := by simp
      go_wp2
      go_quiet (fail)
      go_wp2
      go_roundw
      case rel => exact ⟨k + 1, by omega, by go_num, below_draws2 HB.out _⟩
      case measure => simp [RowKit.intOf]; omega
    · go_wp2
      go_ret
      exact ⟨rfl, HB.out⟩
end Go.Proofs.YtbcogekeoklddaaDoor
