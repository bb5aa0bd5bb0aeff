/-
  The walk of the model's Move.
-/
import Derived.Test.YtngjcdlgfcgfoaaGreatDoorPk23
import Derived.Test.YtngjcdlgfcgfoaaGreatDoorPk22
import Derived.Test.YtngjcdlgfcgfoaaGreatDoorPk17
namespace Go.Proofs.YtngjcdlgfcgfoaaGreatDoor
open Go.RowKit Go.Lib

theorem cell_ne' (w : World) (g i j : Nat) (v : Value) (h : i ≠ j) : (w.setCell ⟨g, i, none⟩ v).cell? ⟨g, j, none⟩ = w.cell? ⟨g, j, none⟩ := World.cell?_setCell_other _ _ _ _ (fun q => by have e := congrArg Addr.off q; dsimp only at e; omega)
theorem cell_eq' {w : World} {g i : Nat} {u : Value} (v : Value) (h : w.cell? ⟨g, i, none⟩ = some u) : (w.setCell ⟨g, i, none⟩ v).cell? ⟨g, i, none⟩ = some v := World.cell?_setCell_same' _ _ _ (by rw [h]; rfl)

set_option maxHeartbeats 1600000 in
set_option maxRecDepth 100000 in
theorem l2Move_any (w : World) (a : Option Addr) (g o cap : Nat) (es : List E) (f t : ByteArray) (hl : es.length ≤ 1048576) (hf : f.size ≤ 16777216) (ht : t.size ≤ 16777216) (hz : ∀ e ∈ es, e.p.size ≤ 16777216 ∧ e.x.size ≤ 16777216) (ha : 0 < es.length → a = some ⟨g, o, none⟩) (hE : Ents w g o es) :
    Calls Tryz.prog 34 #[.slice a es.length cap, .string f, .string t] w fun r w' => ∃ v, r = .returned v ∧ OwnE w' w.heap.size v (movE es f t) ∧ Below w.heap.size w w' := by
  have HE := hidE hE
  have HZ := hidE hz
  clear hE hz
  go_enter Tryz.func34, Tryz.ntmps34
  go_wp2
  go_loopw [7, 8] (fun v iv wl => ∃ k : Nat, k ≤ es.length ∧ iv = .int .i64 k ∧ Hid (OwnE wl w.heap.size v (movE (es.take k) f t)) ∧ Hid (Below w.heap.size w wl)) (fun _ iv _ => es.length - (RowKit.intOf iv).toNat)
  case atStart => exact ⟨0, Nat.zero_le _, rfl, OwnE.made w (Nat.le_refl _), (Below.refl _ w).alloc (Nat.le_refl _) _⟩
  case round =>
    obtain ⟨k, hk, rfl, HO, HB⟩ := hrel
    have hz3 := HB.out.size
    by_cases hlt : k < es.length
    · obtain rfl := ha (by omega)
      obtain ⟨c0, c1, c2⟩ := (HE.out.below HB.out) k hlt
      obtain ⟨z0, _⟩ := HZ.out es[k] (List.getElem_mem _)
      have HK := hidE (mov_succ es f t k hlt)
      have hlen := mov_len es f t k hk
      obtain ⟨pre, hpre⟩ : ∃ pre, movE (es.take k) f t = pre := ⟨_, rfl⟩
      rw [hpre] at HO HK hlen
      clear hpre
      obtain ⟨a', g', cap', rfl, ha', hE', hcap'⟩ := HO.out.ents
      have HE' := hidE hE'
      have HB1 := hidE ((Below.refl wr.heap.size wr).alloc (Nat.le_refl _) (.cells #[.string es[k].p, .bool es[k].d, .string es[k].x] 43))
      clear hE' HO
      go_wp2_with fail
      refine (sPathMove_any es[k].p f t z0 hf ht _).mono ?_
      rintro e w2 ⟨rfl, hB2⟩
      have HB2 := hidE (HB1.out.trans (hB2.mono (by simp)))
      obtain ⟨b0, b1, b2⟩ := box3 hB2
      have f0 : w2.frozen? ⟨wr.heap.size, 0, none⟩ = false := (hB2.frozen (p := ⟨wr.heap.size, 0, none⟩) (by simp)).trans (by simp)
      have hz2 : wr.heap.size < w2.heap.size := Nat.lt_of_lt_of_le (by simp) hB2.size
      have HB3 := hidE (HB2.out.setCell (p := ⟨wr.heap.size, 0, none⟩) (Nat.le_refl _) (.string (movS es[k].p f t)))
      clear hB2 HB1 c0 c1 c2
      have d0 := cell_eq' (.string (movS es[k].p f t)) b0
      have d1 := (cell_ne' w2 wr.heap.size 0 1 (.string (movS es[k].p f t)) (by decide)).trans b1
      have d2 := (cell_ne' w2 wr.heap.size 0 2 (.string (movS es[k].p f t)) (by decide)).trans b2
      go_wp2_with fail
      refine (l2Put_any _ a' g' 0 cap' pre (movS es[k].p f t) es[k].d es[k].x (by omega) hcap' ha' (HE'.out.below HB3.out)).mono ?_
      rintro e w4 ⟨v, rfl, ho4, hB4⟩
      have HB5 := hidE (HB.out.trans ((HB3.out.trans (hB4.mono HB3.out.size)).mono hz3))
      have HO5 := hidE (ho4.lower (base' := w.heap.size) (Nat.le_trans hz3 HB3.out.size))
      clear ho4 hB4 HB HB3 b0 b1 b2 d0 d1 d2 f0
      go_wp2
      go_roundw
      case rel => exact ⟨k + 1, by omega, by go_num, by rw [HK.out]; exact HO5, HB5⟩
      case measure => simp [RowKit.intOf]; omega
    · go_wp2
      go_ret
      rw [List.take_of_length_le (by omega)] at HO
      exact ⟨_, rfl, HO.out, HB.out⟩
end Go.Proofs.YtngjcdlgfcgfoaaGreatDoor

/-
  The walk of the model's Off.
-/
namespace Go.Proofs.YtngjcdlgfcgfoaaGreatDoor
open Go.RowKit Go.Lib

theorem off_len (es : List E) (s : ByteArray) (k : Nat) : (offE (es.take k) s).length ≤ k := by
  unfold offE
  have := List.length_filter_le (fun e : E => !(e.p.toList == s.toList)) (es.take k)
  rw [List.length_take] at this; omega

set_option maxHeartbeats 800000 in
set_option maxRecDepth 100000 in
theorem l2Off_any (w : World) (a : Option Addr) (g o cap : Nat) (es : List E) (s : ByteArray) (hl : es.length ≤ 1048576) (ha : 0 < es.length → a = some ⟨g, o, none⟩) (hE : Ents w g o es) :
    Calls Tryz.prog 35 #[.slice a es.length cap, .string s] w fun r w' => ∃ v, r = .returned v ∧ OwnE w' w.heap.size v (offE es s) ∧ Below w.heap.size w w' := by
  obtain ⟨i0, hi, hz0, hz1, hz2⟩ := info_parts Tryz.infoE'
  have HE := hidE hE
  clear hE
  go_enter Tryz.func35, Tryz.ntmps35
  go_wp2
  go_loopw [5, 6] (fun v iv wl => ∃ k : Nat, k ≤ es.length ∧ iv = .int .i64 k ∧ Hid (OwnE wl w.heap.size v (offE (es.take k) s)) ∧ Hid (Below w.heap.size w wl)) (fun _ iv _ => es.length - (RowKit.intOf iv).toNat)
  case atStart => exact ⟨0, Nat.zero_le _, rfl, OwnE.made w (Nat.le_refl _), (Below.refl _ w).alloc (Nat.le_refl _) _⟩
  case round =>
    obtain ⟨k, hk, rfl, HO, HB⟩ := hrel
    by_cases hlt : k < es.length
    · obtain rfl := ha (by omega)
      obtain ⟨c0, c1, c2⟩ := (HE.out.below HB.out) k hlt
      have HK := hidE (off_succ es s k hlt)
      have hlen := off_len es s k
      have hz3 := HB.out.size
      obtain ⟨pre, hpre⟩ : ∃ pre, offE (es.take k) s = pre := ⟨_, rfl⟩
      rw [hpre] at HO HK hlen
      clear hpre
      cases hb : (es[k].p.toList == s.toList) with
      | true =>
        have HK2 : Hid (offE (es.take (k + 1)) s = pre) := by
          show _ = _; rw [HK.out, hb]; simp
        clear HK
        go_wp2
        go_roundw
        case rel => exact ⟨k + 1, by omega, by go_num, by rw [HK2.out]; exact HO, HB⟩
        case measure => simp [RowKit.intOf]; omega
      | false =>
        have HK2 : Hid (offE (es.take (k + 1)) s = pre ++ [es[k]]) := by
          show _ = _; rw [HK.out, hb]; simp
        clear HK
        go_wp2_with (first
          | (at_builtin; refine wpList_append_own _ rfl _ _ 27 rfl w.heap.size 43 i0 (.agg #[.string ByteArray.empty, .bool false, .string ByteArray.empty]) 3 40 Tryz.underlying27 hi hz0 hz1 hz2 rfl (by decide) _ _ _ rfl (World.ownsRow.alloc HO.out _) ⟨wr.heap.size, 0, none⟩ 1 1 (cellsE es[k]) rfl rfl ?c1 ?c2 ?c3 ?c4 ?c5 ?_)
          | fail)
        case c1 => first | exact cells_new _ _ | exact fun _ _ h => h
        case c2 => exact rowE_one'
        case c3 => unfold maxLen; omega
        case c4 => omega
        case c5 => first | omega | (simp; omega)
        · intro v' w4 hown' hgrow _
          have HB4 := hidE ((HB.out.alloc hz3 _).grown hgrow (by simp; omega) (fun q hq => (World.ownsRow.lt HO.out q hq).1))
          have HO4 := hidE (OwnE.push hown')
          clear hown' hgrow HO HB
          go_wp2
          go_roundw
          case rel => exact ⟨k + 1, by omega, by go_num, by rw [HK2.out]; exact HO4, HB4⟩
          case measure => simp [RowKit.intOf]; omega
    · go_wp2
      go_ret
      rw [List.take_of_length_le (by omega)] at HO
      exact ⟨_, rfl, HO.out, HB.out⟩
end Go.Proofs.YtngjcdlgfcgfoaaGreatDoor
