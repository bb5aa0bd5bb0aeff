/-
  The walk of whether the exact laws' marks still lie there.
-/
import Derived.Test.YtngjcdlgfcgfoaaGreatDoorPk18
import Derived.Laws.ResultCell
import Derived.Test.YtngjcdlgfcgfoaaGreatDoorPk16
namespace Go.Proofs.YtngjcdlgfcgfoaaGreatDoor
open Go.RowKit Go.Lib Go.Sort

theorem marks_at (n k i : Nat) (h : i < (markEs n k).length) : (markEs n k)[i] = markE (k + i * 3) :=
  (List.getElem_map (fun i => markE (k + i * 3)) ..).trans (by rw [List.getElem_range])
set_option maxHeartbeats 1600000 in
set_option maxRecDepth 100000 in
theorem heldEntS_any (w : World) (a : Option Addr) (g cap n k : Nat) (hn : n ≤ 1048576) (hk : 0 < k) (hk' : k ≤ 1048576) (ha : 0 < n → a = some ⟨g, 0, none⟩) (hM : Ents w g 0 (markEs n k)) :
    Calls Tryz.prog 12 #[.slice a n cap, .int .i64 k] w fun r w' => r = .returned (.int .i64 ((k + n * 3 : Nat) : Int)) ∧ RowKit.Below w.heap.size w w' := by
  have HM := hidE hM
  clear hM
  go_enter Tryz.func12, Tryz.ntmps12
  go_wp2
  go_loopw [1, 5] (fun kv iv wl => ∃ j : Nat, j ≤ n ∧ iv = .int .i64 j ∧ kv = .int .i64 ((k + j * 3 : Nat) : Int) ∧ Hid (RowKit.Below w.heap.size w wl)) (fun _ iv _ => n - (RowKit.intOf iv).toNat)
  case atStart => exact ⟨0, Nat.zero_le _, rfl, rfl, RowKit.Below.refl _ _⟩
  case round =>
    obtain ⟨j, hj, rfl, rfl, HB⟩ := hrel
    obtain ⟨m, hm⟩ : ∃ m, k + j * 3 = m := ⟨_, rfl⟩
    have hm0 : 0 < m := by omega
    have hm1 : m ≤ 4194304 := by omega
    have HMm := hidE hm
    rw [hm]
    clear hm
    by_cases hlt : j < n
    · obtain rfl := ha (by omega)
      have hjl : j < (markEs n k).length := by rw [marks_len]; exact hlt
      obtain ⟨c0, c1, c2⟩ := (HM.out.below HB.out) j hjl
      rw [marks_at, HMm.out] at c0 c1 c2
      simp only [markE, Nat.zero_add] at c0 c1 c2
      have k0 := cell_regrown c0
      have k1 := cell_regrown c1
      have k2 := cell_regrown c2
      clear c0 c1 c2
      have a1 := cMark wr m m rfl hm0 (by omega)
      go_wp2
      refine wp_region_quiet_below (by kernel_rfl) (by kernel_rfl) ?_
      repeat (go_big_quiet_step (first | exact a1 _ _))
      refine wpQuiet_nil ?_
      intro _ hw'
      obtain ⟨⟨dq, osq⟩, hw''⟩ := hw'
      subst hw''
      have HB1 := hidE (HB.out.trans ((below_regrown wr dq osq).mono HB.out.size))
      obtain ⟨w1, hw1⟩ : ∃ w1, w1 = grow (redrawn wr dq) osq := ⟨_, rfl⟩
      rw [← hw1] at HB1 ⊢
      clear hw1 HB
      clear k0 k1 k2 a1
      obtain ⟨c0, c1, c2⟩ := (HM.out.below HB1.out) j hjl
      rw [marks_at, HMm.out] at c0 c1 c2
      simp only [markE, Nat.zero_add] at c0 c1 c2
      go_wp2
      have k0 := cell_regrown c0
      have k1 := cell_regrown c1
      have k2 := cell_regrown c2
      clear c0 c1 c2
      have a1 := cMark w1 (m + 2) ((m : Int) + 1 + 1) (by omega) (by omega) (by omega)
      refine wp_region_quiet_below (by kernel_rfl) (by kernel_rfl) ?_
      repeat (go_big_quiet_step (first | exact a1 _ _))
      refine wpQuiet_nil ?_
      intro _ hw'
      obtain ⟨⟨dq, osq⟩, hw''⟩ := hw'
      subst hw''
      have HB2 := hidE (HB1.out.trans ((below_regrown w1 dq osq).mono HB1.out.size))
      obtain ⟨w2, hw1⟩ : ∃ w2, w2 = grow (redrawn w1 dq) osq := ⟨_, rfl⟩
      rw [← hw1] at HB2 ⊢
      clear hw1 HB1
      clear k0 k1 k2 a1
      go_wp2
      go_roundw
      case rel => exact ⟨j + 1, by omega, by go_num, by have := HMm.out; congr 1; omega, HB2⟩
      case measure => simp [RowKit.intOf]; omega
    · go_wp2
      go_ret
      have hjn : j = n := by omega
      subst hjn
      exact ⟨ret_iE (by rw [HMm.out]), HB.out⟩
end Go.Proofs.YtngjcdlgfcgfoaaGreatDoor

/-
  The walks of what the model tells of a path of a tree.
-/
namespace Go.Proofs.YtngjcdlgfcgfoaaGreatDoor
open Go.RowKit Go.Lib

theorem bcellE {W w1 : World} (hb : Below W.heap.size W w1) : (∀ b o, b < W.heap.size → w1.cell? ⟨b, o, none⟩ = W.cell? ⟨b, o, none⟩) ∧ (∀ b o, b < W.heap.size → w1.frozen? ⟨b, o, none⟩ = W.frozen? ⟨b, o, none⟩) :=
  ⟨fun b o h => hb.cell (p := ⟨b, o, none⟩) h, fun b o h => hb.frozen (p := ⟨b, o, none⟩) h⟩

set_option maxHeartbeats 400000 in
theorem l2Get_any (w : World) (a : Option Addr) (g o cap : Nat) (es : List E) (s : ByteArray) (hl : es.length ≤ 16777216) (ha : 0 < es.length → a = some ⟨g, o, none⟩) (hE : Ents w g o es) :
    Calls Tryz.prog 48 #[.slice a es.length cap, .string s] w fun r w' => r = .returned (.tuple #[encE (getE es s).1, .bool (getE es s).2]) ∧ Below w.heap.size w w' := by
  have hb : Below w.heap.size w (w.alloc (.cells #[.string ⟨#[]⟩, .bool false, .string ⟨#[]⟩] 43)) := (Below.refl _ w).alloc (Nat.le_refl _) _
  have HE := hidE (hE.below hb)
  have HF := hidE (fun (W : World) (hW : Ents W g o es) => l2Find_any W a g o cap es s hl ha hW)
  clear hE hb
  cases hr : (s.toList == [47]) with
  | true =>
    rw [getE_root hr]
    go_enter Tryz.func48, Tryz.ntmps48
    go_wp2
    exact bodyPost_ret (v := .tuple #[encE rootE, .bool true]) (by simp [results, Tryz.results48, go_sem, rootE]) rfl ⟨rfl, (Below.refl _ w).alloc (Nat.le_refl _) _⟩
  | false =>
    rcases findE_is es s with hf | ⟨j, hj, hf, _⟩
    · rw [getE_no hr hf]
      rw [hf] at HF
      go_enter Tryz.func48, Tryz.ntmps48
      go_wp2_with (go_at_call 45; refine (HF.out _ HE.out).mono ?_; rintro e w' ⟨rfl, rfl⟩)
      exact bodyPost_ret (v := .tuple #[encE noneE, .bool false]) (by simp [results, Tryz.results48, go_sem, noneE]) rfl ⟨rfl, (Below.refl _ w).alloc (Nat.le_refl _) _⟩
    · rw [getE_at hr hj hf]
      rw [hf] at HF
      obtain rfl := ha (by omega)
      obtain ⟨c0, c1, c2⟩ := HE.out j hj
      go_enter Tryz.func48, Tryz.ntmps48
      go_wp2_with (go_at_call 45; refine (HF.out _ HE.out).mono ?_; rintro e w' ⟨rfl, rfl⟩)
      exact bodyPost_ret (v := .tuple #[encE es[j], .bool true]) (by simp [results, Tryz.results48, go_sem]) rfl ⟨rfl, (Below.refl _ w).alloc (Nat.le_refl _) _⟩

end Go.Proofs.YtngjcdlgfcgfoaaGreatDoor
