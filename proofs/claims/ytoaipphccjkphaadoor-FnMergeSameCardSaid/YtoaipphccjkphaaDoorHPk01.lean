import Derived.RangeFuncNested
import Derived.RangeFuncBound
import Derived.RangeFuncCalls
import Derived.RangeFuncLeaves
import Derived.Shelf.Abstract
import Derived.Shelf.RegionOpen
import Derived.WalkKit
import Derived.OwnWalkIn
import Derived.TacticsInMore
import Derived.LoopNIn
import Derived.LoopIn
import Derived.Deep.LoopGhost
import Derived.WalkSpells
import Derived.WalkLawsBesides
import Derived.Test.YtoaipphccjkphaaDoorProg
import Derived.Test.YtoaipphccjkphaaDoorHPk00
namespace Go.Proofs.YtoaipphccjkphaaDoor
open Go.RowKit Go.Shelf Go.Lib
theorem ret_bool {a b : Bool} (h : a = b) : Ending.returned (.bool a) = .returned (.bool b) := by rw [h]
set_option maxHeartbeats 400000 in
set_option maxRecDepth 100000 in
theorem nameOk_any (s : ByteArray) (w : World) :
  Calls Tryd.prog 73 #[.string s] w fun e w' => e = .returned (.bool (nameB s)) ∧ Below w.heap.size w w' := by
 by_cases hz : 1 ≤ s.size ∧ s.size ≤ 3
 ·
  obtain ⟨hz1, hz2⟩ := hz; go_enter Tryd.func73, Tryd.ntmps73
  go_wp2
  go_loopg [] s.size (fun gf wx => ∃ pos : Nat, wx.heap[w.heap.size]? = some (.stringIter s pos) ∧ Below w.heap.size w wx ∧ pos ≤ s.size ∧ s.size ≤ pos + gf ∧ Hid ((s.data.toList.take pos).all low = true))
  case atStart => exact ⟨0, World.iter_heap w s 0, (Below.refl _ w).alloc (Nat.le_refl _) _, Nat.zero_le _, by omega, rfl⟩
  case round =>
   obtain ⟨pos, hit, hbw, hle, hfu, HA⟩ := hrel; by_cases hps : pos < s.size
   ·
    obtain ⟨g', rfl⟩ : ∃ g', gk = g' + 1 := ⟨gk - 1, by omega⟩
    have hnx : ∀ ty, (Instr.next (.pointer (some ⟨w.heap.size, 0, none⟩)) true ty).run Tryd.prog wr = _ := fun ty => Lib.run_next_any_at wr w.heap.size s pos ty hit hps; have HL : Hid (97 ≤ (Utf8.decode s pos).1 → (Utf8.decode s pos).1 ≤ 122 → (Utf8.decode s pos).2 = 1 ∧ low s[pos] = true) := rune_low s pos hps; have HN : Hid (¬ (97 ≤ (Utf8.decode s pos).1 ∧ (Utf8.decode s pos).1 ≤ 122) → low s[pos] = false) := rune_not_low s pos hps; obtain ⟨R, hR⟩ : ∃ R, (Utf8.decode s pos).1 = R := ⟨_, rfl⟩
    obtain ⟨K, hK⟩ : ∃ K, (Utf8.decode s pos).2 = K := ⟨_, rfl⟩
    rw [hR, hK] at hnx HL; rw [hR] at HN; have hit2 := Lib.iterAt_heap wr w.heap.size s pos (pos + K) hit; have hbw2 := Lib.below_iterAt hbw (k := w.heap.size) (Nat.le_refl _) s (pos + K); obtain ⟨W, hWd⟩ : ∃ W, wr.iterAt w.heap.size s (pos + K) = W := ⟨_, rfl⟩
    rw [hWd] at hnx hit2 hbw2; clear hR hK hWd hit hbw; by_cases h1 : 97 ≤ R
    ·
     by_cases h2 : R ≤ 122
     ·
      go_wp2
      obtain ⟨rfl, hl⟩ := HL.out h1 h2
      go_roundg g'
      case measure => omega
      case rel => exact ⟨pos + 1, hit2, hbw2, by omega, by omega, by show _ = _; rw [all_take_succ s pos hps, HA.out, hl]; rfl⟩
     ·
      go_wp2
      go_ret
      have hl := HN.out (by omega); exact ⟨ret_bool (nameB_bad s pos hps hl), hbw2⟩
    ·
     go_wp2
     go_ret
     have hl := HN.out (by omega); exact ⟨ret_bool (nameB_bad s pos hps hl), hbw2⟩
   ·
    have hnx : ∀ ty, (Instr.next (.pointer (some ⟨w.heap.size, 0, none⟩)) true ty).run Tryd.prog wr = _ := fun ty => Lib.run_next_end_at wr w.heap.size s pos ty hit hps; go_wp2
    go_ret
    exact ⟨ret_bool (nameB_good s pos (by omega) ⟨hz1, hz2⟩ HA.out), hbw⟩
 ·
  by_cases h1 : 1 ≤ s.size
  ·
   have h2 : ¬ s.size ≤ 3 := by omega
   go_enter Tryd.func73, Tryd.ntmps73
   go_wp2
   go_ret
   exact ⟨ret_bool (nameB_long s hz), Below.refl _ _⟩
  ·
   go_enter Tryd.func73, Tryd.ntmps73
   go_wp2
   go_ret
   exact ⟨ret_bool (nameB_long s hz), Below.refl _ _⟩
theorem data_long {s : ByteArray} (h : ¬ s.size ≤ 6) : false = dataB s := by unfold dataB; rw [decide_eq_false h, Bool.and_false]
set_option maxHeartbeats 400000 in
set_option maxRecDepth 100000 in
theorem dataOk_any (s : ByteArray) (w : World) :
  Calls Tryd.prog 68 #[.string s] w fun e w' => e = .returned (.bool (dataB s)) ∧ Below w.heap.size w w' := by
 by_cases hz : s.size ≤ 6
 ·
  go_enter Tryd.func68, Tryd.ntmps68
  go_wp2
  go_loopg [] s.size (fun gf wx => ∃ pos : Nat, wx.heap[w.heap.size]? = some (.stringIter s pos) ∧ Below w.heap.size w wx ∧ pos ≤ s.size ∧ s.size ≤ pos + gf ∧ Hid ((s.data.toList.take pos).all dataC = true))
  case atStart => exact ⟨0, World.iter_heap w s 0, (Below.refl _ w).alloc (Nat.le_refl _) _, Nat.zero_le _, by omega, rfl⟩
  case round =>
   obtain ⟨pos, hit, hbw, hle, hfu, HA⟩ := hrel; by_cases hps : pos < s.size
   ·
    obtain ⟨g', rfl⟩ : ∃ g', gk = g' + 1 := ⟨gk - 1, by omega⟩
    have hnx : ∀ ty, (Instr.next (.pointer (some ⟨w.heap.size, 0, none⟩)) true ty).run Tryd.prog wr = _ := fun ty => Lib.run_next_any_at wr w.heap.size s pos ty hit hps; have HL : Hid (((97 ≤ (Utf8.decode s pos).1 ∧ (Utf8.decode s pos).1 ≤ 122) ∨ (48 ≤ (Utf8.decode s pos).1 ∧ (Utf8.decode s pos).1 ≤ 57)) → (Utf8.decode s pos).2 = 1 ∧ dataC s[pos] = true) := rune_data s pos hps; have HN : Hid (¬ (97 ≤ (Utf8.decode s pos).1 ∧ (Utf8.decode s pos).1 ≤ 122) → ¬ (48 ≤ (Utf8.decode s pos).1 ∧ (Utf8.decode s pos).1 ≤ 57) → dataC s[pos] = false) := rune_no_data s pos hps; obtain ⟨R, hR⟩ : ∃ R, (Utf8.decode s pos).1 = R := ⟨_, rfl⟩
    obtain ⟨K, hK⟩ : ∃ K, (Utf8.decode s pos).2 = K := ⟨_, rfl⟩
    rw [hR, hK] at hnx HL; rw [hR] at HN; have hit2 := Lib.iterAt_heap wr w.heap.size s pos (pos + K) hit; have hbw2 := Lib.below_iterAt hbw (k := w.heap.size) (Nat.le_refl _) s (pos + K); obtain ⟨W, hWd⟩ : ∃ W, wr.iterAt w.heap.size s (pos + K) = W := ⟨_, rfl⟩
    rw [hWd] at hnx hit2 hbw2; clear hR hK hWd hit hbw; by_cases h1 : 97 ≤ R
    ·
     by_cases h2 : R ≤ 122
     ·
      go_wp2
      obtain ⟨rfl, hl⟩ := HL.out (.inl ⟨h1, h2⟩)
      go_roundg g'
      case measure => omega
      case rel => exact ⟨pos + 1, hit2, hbw2, by omega, by omega, by show _ = _; rw [data_take s pos hps, HA.out, hl]; rfl⟩
     ·
      have h3 : ¬ R < 48 := by omega
      have h4 : 57 < R := by omega
      go_wp2
      go_ret
      have hl := HN.out (by omega) (by omega); exact ⟨ret_bool (data_bad s pos hps hl), hbw2⟩
    ·
     by_cases h3 : 48 ≤ R
     ·
      by_cases h4 : R ≤ 57
      ·
       go_wp2
       obtain ⟨rfl, hl⟩ := HL.out (.inr ⟨h3, h4⟩)
       go_roundg g'
       case measure => omega
       case rel => exact ⟨pos + 1, hit2, hbw2, by omega, by omega, by show _ = _; rw [data_take s pos hps, HA.out, hl]; rfl⟩
      ·
       go_wp2
       go_ret
       have hl := HN.out (by omega) (by omega); exact ⟨ret_bool (data_bad s pos hps hl), hbw2⟩
     ·
      go_wp2
      go_ret
      have hl := HN.out (by omega) (by omega); exact ⟨ret_bool (data_bad s pos hps hl), hbw2⟩
   ·
    have hnx : ∀ ty, (Instr.next (.pointer (some ⟨w.heap.size, 0, none⟩)) true ty).run Tryd.prog wr = _ := fun ty => Lib.run_next_end_at wr w.heap.size s pos ty hit hps; go_wp2
    go_ret
    exact ⟨ret_bool ((decide_eq_true hz).symm.trans (data_all s pos (by omega) HA.out)), hbw⟩
 ·
  go_enter Tryd.func68, Tryd.ntmps68
  go_wp2
  go_ret
  exact ⟨ret_bool (data_long hz), Below.refl _ _⟩
end Go.Proofs.YtoaipphccjkphaaDoor
