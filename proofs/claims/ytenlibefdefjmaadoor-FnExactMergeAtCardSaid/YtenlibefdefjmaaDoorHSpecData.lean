/-
  The walks of the model on data.
-/
import Derived.WalkKit
import Derived.OwnWalk
import Derived.WalkSpells
import Derived.WalkLawsBesides
import Derived.Laws.Pointers
import Derived.Deep.QuietTactic
import Derived.BigQuiet
import Derived.Outline
import Derived.Below
import Derived.Lib.QuietBelow
import Derived.Test.YtenlibefdefjmaaDoorHEntsDef
import Derived.Test.YtenlibefdefjmaaDoorHSpecOk
namespace Go.Proofs.YtenlibefdefjmaaDoor
open Go.RowKit Go.Lib Go.Sort

set_option maxHeartbeats 800000 in
set_option maxRecDepth 100000 in
theorem l2Data_any (s : ByteArray) (hs : s.size ≤ 4611686018427387904) (w : World) :
    Calls Tryd.prog 22 #[.string s] w fun e w' => e = .returned (.bool (dataB s)) ∧ w' = w := by
  go_enter Tryd.func22, Tryd.ntmps22
  go_wp2
  go_loop [3] (fun i => ∃ k : Nat, k ≤ s.size ∧ i = .int .i64 k ∧ Hid ((s.data.toList.take k).all dataC = true)) (fun i => s.size - (RowKit.intOf i).toNat)
  case atStart => exact ⟨0, Nat.zero_le _, rfl, rfl⟩
  case round =>
    obtain ⟨k, hk, rfl, HA⟩ := hrel
    by_cases hlt : k < s.size
    · have yes : dataC s[k] = true → Hid ((s.data.toList.take (k + 1)).all dataC = true) := fun h => by show _ = _; rw [data_take s k hlt, HA.out, h]; rfl
      have HY := hidE yes
      clear yes
      by_cases h1 : 97 ≤ s[k].toNat
      · by_cases h2 : s[k].toNat ≤ 122
        · have HT := HY.out (by unfold dataC low; rw [decide_eq_true ⟨h1, h2⟩]; rfl)
          go_wp2
          go_round
          case rel => exact ⟨k + 1, by omega, by go_num, HT⟩
          case measure => simp [RowKit.intOf]; omega
        · have HN := hidE (data_bad s k hlt (by unfold dataC low; rw [decide_eq_false (by omega), decide_eq_false (by omega)]; rfl))
          go_wp2
          go_ret
          exact ⟨ret_bE HN.out, rfl⟩
      · by_cases h2 : 48 ≤ s[k].toNat
        · by_cases h3 : s[k].toNat ≤ 57
          · have HT := HY.out (by unfold dataC; rw [decide_eq_true ⟨h2, h3⟩, Bool.or_true])
            go_wp2
            go_round
            case rel => exact ⟨k + 1, by omega, by go_num, HT⟩
            case measure => simp [RowKit.intOf]; omega
          · have HN := hidE (data_bad s k hlt (by unfold dataC low; rw [decide_eq_false (by omega), decide_eq_false (by omega)]; rfl))
            go_wp2
            go_ret
            exact ⟨ret_bE HN.out, rfl⟩
        · have HN := hidE (data_bad s k hlt (by unfold dataC low; rw [decide_eq_false (by omega), decide_eq_false (by omega)]; rfl))
          go_wp2
          go_ret
          exact ⟨ret_bE HN.out, rfl⟩
    · have HD := hidE (data_all s k (by omega) HA.out)
      by_cases h6 : s.size ≤ 6
      · go_wp2
        go_ret
        exact ⟨ret_bE (by rw [← HD.out, decide_eq_true h6]; exact decide_eq_true (by omega)), rfl⟩
      · go_wp2
        go_ret
        exact ⟨ret_bE (by rw [← HD.out, decide_eq_false h6]; exact decide_eq_false (by omega)), rfl⟩
theorem sOk_is (s : ByteArray) (b : Bool) (h : pathB s = b) (hm : s.size ≤ 67108864) (w : World) :
    Calls Tryd.prog 21 #[.string s] w fun e w' => e = .returned (.bool b) ∧ Below w.heap.size w w' := by
  rw [← h]; exact sOk_any s hm w
theorem l2Data_is (s : ByteArray) (b : Bool) (h : dataB s = b) (hm : s.size ≤ 67108864) (w : World) :
    Calls Tryd.prog 22 #[.string s] w fun e w' => e = .returned (.bool b) ∧ Below w.heap.size w w' := by
  rw [← h]; exact (l2Data_any s (by omega) w).mono fun e w' ⟨h1, h2⟩ => ⟨h1, by rw [h2]; exact Below.refl _ _⟩

/-- The contracts, in every world that has grown out of W0. -/
theorem cOk (W0 : World) (s : ByteArray) (b : Bool) (h : pathB s = b) (hm : s.size ≤ 67108864) : ∀ d os, Calls Tryd.prog 21 #[.string s] (grow (redrawn W0 d) os) fun e w'' => e = .returned (.bool b) ∧ ∃ p : Regrown, w'' = grow (redrawn W0 p.d) p.os :=
  fun _ _ => Calls.regrown_of (sOk_is s b h hm _)
theorem cData (W0 : World) (s : ByteArray) (b : Bool) (h : dataB s = b) (hm : s.size ≤ 67108864) : ∀ d os, Calls Tryd.prog 22 #[.string s] (grow (redrawn W0 d) os) fun e w'' => e = .returned (.bool b) ∧ ∃ p : Regrown, w'' = grow (redrawn W0 p.d) p.os :=
  fun _ _ => Calls.regrown_of (l2Data_is s b h hm _)
end Go.Proofs.YtenlibefdefjmaaDoor
