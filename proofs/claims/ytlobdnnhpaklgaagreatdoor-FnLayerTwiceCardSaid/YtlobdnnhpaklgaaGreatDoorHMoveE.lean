/-
  The walk of the model's Move.
-/
import Derived.Test.YtlobdnnhpaklgaaGreatDoorHPut
import Derived.Test.YtlobdnnhpaklgaaGreatDoorHSpecMove
namespace Go.Proofs.YtlobdnnhpaklgaaGreatDoor
open Go.RowKit Go.Lib

theorem cell_ne' (w : World) (g i j : Nat) (v : Value) (h : i ≠ j) : (w.setCell ⟨g, i, none⟩ v).cell? ⟨g, j, none⟩ = w.cell? ⟨g, j, none⟩ := World.cell?_setCell_other _ _ _ _ (fun q => by have e := congrArg Addr.off q; dsimp only at e; omega)
theorem cell_eq' {w : World} {g i : Nat} {u : Value} (v : Value) (h : w.cell? ⟨g, i, none⟩ = some u) : (w.setCell ⟨g, i, none⟩ v).cell? ⟨g, i, none⟩ = some v := World.cell?_setCell_same' _ _ _ (by rw [h]; rfl)

set_option maxHeartbeats 1600000 in
set_option maxRecDepth 100000 in
theorem l2Move_any (w : World) (a : Option Addr) (g o cap : Nat) (es : List E) (f t : ByteArray) (hl : es.length ≤ 1048576) (hf : f.size ≤ 16777216) (ht : t.size ≤ 16777216) (hz : ∀ e ∈ es, e.p.size ≤ 16777216 ∧ e.x.size ≤ 16777216) (ha : 0 < es.length → a = some ⟨g, o, none⟩) (hE : Ents w g o es) :
    Calls Tryz.prog 94 #[.slice a es.length cap, .string f, .string t] w fun r w' => ∃ v, r = .returned v ∧ OwnE w' w.heap.size v (movE es f t) ∧ Below w.heap.size w w' := by
  have HE := hidE hE
  have HZ := hidE hz
  clear hE hz
  go_enter Tryz.func94, Tryz.ntmps94
  go_wp2
  go_loopw [7, 8] (fun v iv wl => ∃ k : Nat, k ≤ es.length ∧ iv = .int .i64 k ∧ Hid (OwnE wl w.heap.size v (movE (es.take k) f t)) ∧ Hid (Below w.heap.size w wl)) (fun _ iv _ => es.length - (RowKit.intOf iv).toNat)
  case atStart => exact ⟨0, Nat.zero_le _, rfl, OwnE.made w (Nat.le_refl _), (Below.refl _ w).alloc (Nat.le_refl _) _⟩
  case round =>
    obtain ⟨k, hk, rfl, HO, HB⟩ := hrel
    have hz3 := HB.out.size
    by_cases hlt : k < es.length
    · obtain rfl := ha (by omega)
      obtain ⟨c0, c1, c2⟩ := (HE.out.below HB.out) k hlt
      obtain ⟨z0, _⟩ := HZ.out es[k] (List.getElem_mem _)
      have HK := hidE (mov_succ es f t k hlt)
      have hlen := mov_len es f t k hk
      obtain ⟨pre, hpre⟩ : ∃ pre, movE (es.take k) f t = pre := ⟨_, rfl⟩
      rw [hpre] at HO HK hlen
      clear hpre
      obtain ⟨a', g', cap', rfl, ha', hE', hcap'⟩ := HO.out.ents
      have HE' := hidE hE'
      have HB1 := hidE ((Below.refl wr.heap.size wr).alloc (Nat.le_refl _) (.cells #[.string es[k].p, .bool es[k].d, .string es[k].x] 57))
      clear hE' HO
      go_wp2_with fail
      refine (sPathMove_any es[k].p f t z0 hf ht _).mono ?_
      rintro e w2 ⟨rfl, hB2⟩
      have HB2 := hidE (HB1.out.trans (hB2.mono (by simp)))
      obtain ⟨b0, b1, b2⟩ := box3 hB2
      have f0 : w2.frozen? ⟨wr.heap.size, 0, none⟩ = false := (hB2.frozen (p := ⟨wr.heap.size, 0, none⟩) (by simp)).trans (by simp)
      have hz2 : wr.heap.size < w2.heap.size := Nat.lt_of_lt_of_le (by simp) hB2.size
      have HB3 := hidE (HB2.out.setCell (p := ⟨wr.heap.size, 0, none⟩) (Nat.le_refl _) (.string (movS es[k].p f t)))
      clear hB2 HB1 c0 c1 c2
      have d0 := cell_eq' (.string (movS es[k].p f t)) b0
      have d1 := (cell_ne' w2 wr.heap.size 0 1 (.string (movS es[k].p f t)) (by decide)).trans b1
      have d2 := (cell_ne' w2 wr.heap.size 0 2 (.string (movS es[k].p f t)) (by decide)).trans b2
      go_wp2_with fail
      refine (l2Put_any _ a' g' 0 cap' pre (movS es[k].p f t) es[k].d es[k].x (by omega) hcap' ha' (HE'.out.below HB3.out)).mono ?_
      rintro e w4 ⟨v, rfl, ho4, hB4⟩
      have HB5 := hidE (HB.out.trans ((HB3.out.trans (hB4.mono HB3.out.size)).mono hz3))
      have HO5 := hidE (ho4.lower (base' := w.heap.size) (Nat.le_trans hz3 HB3.out.size))
      clear ho4 hB4 HB HB3 b0 b1 b2 d0 d1 d2 f0
      go_wp2
      go_roundw
      case rel => exact ⟨k + 1, by omega, by go_num, by rw [HK.out]; exact HO5, HB5⟩
      case measure => simp [RowKit.intOf]; omega
    · go_wp2
      go_ret
      rw [List.take_of_length_le (by omega)] at HO
      exact ⟨_, rfl, HO.out, HB.out⟩
end Go.Proofs.YtlobdnnhpaklgaaGreatDoor
