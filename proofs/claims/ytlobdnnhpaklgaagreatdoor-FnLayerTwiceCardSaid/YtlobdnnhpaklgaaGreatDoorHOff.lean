/-
  The walk of the model's Off.
-/
import Derived.Test.YtlobdnnhpaklgaaGreatDoorHPk20
namespace Go.Proofs.YtlobdnnhpaklgaaGreatDoor
open Go.RowKit Go.Lib

theorem off_len (es : List E) (s : ByteArray) (k : Nat) : (offE (es.take k) s).length ≤ k := by
  unfold offE
  have := List.length_filter_le (fun e : E => !(e.p.toList == s.toList)) (es.take k)
  rw [List.length_take] at this; omega

set_option maxHeartbeats 800000 in
set_option maxRecDepth 100000 in
theorem l2Off_any (w : World) (a : Option Addr) (g o cap : Nat) (es : List E) (s : ByteArray) (hl : es.length ≤ 1048576) (ha : 0 < es.length → a = some ⟨g, o, none⟩) (hE : Ents w g o es) :
    Calls Tryz.prog 95 #[.slice a es.length cap, .string s] w fun r w' => ∃ v, r = .returned v ∧ OwnE w' w.heap.size v (offE es s) ∧ Below w.heap.size w w' := by
  obtain ⟨i0, hi, hz0, hz1, hz2⟩ := info_parts Tryz.infoE'
  have HE := hidE hE
  clear hE
  go_enter Tryz.func95, Tryz.ntmps95
  go_wp2
  go_loopw [5, 6] (fun v iv wl => ∃ k : Nat, k ≤ es.length ∧ iv = .int .i64 k ∧ Hid (OwnE wl w.heap.size v (offE (es.take k) s)) ∧ Hid (Below w.heap.size w wl)) (fun _ iv _ => es.length - (RowKit.intOf iv).toNat)
  case atStart => exact ⟨0, Nat.zero_le _, rfl, OwnE.made w (Nat.le_refl _), (Below.refl _ w).alloc (Nat.le_refl _) _⟩
  case round =>
    obtain ⟨k, hk, rfl, HO, HB⟩ := hrel
    by_cases hlt : k < es.length
    · obtain rfl := ha (by omega)
      obtain ⟨c0, c1, c2⟩ := (HE.out.below HB.out) k hlt
      have HK := hidE (off_succ es s k hlt)
      have hlen := off_len es s k
      have hz3 := HB.out.size
      obtain ⟨pre, hpre⟩ : ∃ pre, offE (es.take k) s = pre := ⟨_, rfl⟩
      rw [hpre] at HO HK hlen
      clear hpre
      cases hb : (es[k].p.toList == s.toList) with
      | true =>
        have HK2 : Hid (offE (es.take (k + 1)) s = pre) := by
          show _ = _; rw [HK.out, hb]; simp
        clear HK
        go_wp2
        go_roundw
        case rel => exact ⟨k + 1, by omega, by go_num, by rw [HK2.out]; exact HO, HB⟩
        case measure => simp [RowKit.intOf]; omega
      | false =>
        have HK2 : Hid (offE (es.take (k + 1)) s = pre ++ [es[k]]) := by
          show _ = _; rw [HK.out, hb]; simp
        clear HK
        go_wp2_with (first
          | (at_builtin; refine wpList_append_own _ rfl _ _ 24 rfl w.heap.size 57 i0 (.agg #[.string ByteArray.empty, .bool false, .string ByteArray.empty]) 3 40 Tryz.underlying24 hi hz0 hz1 hz2 rfl (by decide) _ _ _ rfl (World.ownsRow.alloc HO.out _) ⟨wr.heap.size, 0, none⟩ 1 1 (cellsE es[k]) rfl rfl ?c1 ?c2 ?c3 ?c4 ?c5 ?_)
          | fail)
        case c1 => first | exact cells_new _ _ | exact fun _ _ h => h
        case c2 => exact rowE_one'
        case c3 => unfold maxLen; omega
        case c4 => omega
        case c5 => first | omega | (simp; omega)
        · intro v' w4 hown' hgrow _
          have HB4 := hidE ((HB.out.alloc hz3 _).grown hgrow (by simp; omega) (fun q hq => (World.ownsRow.lt HO.out q hq).1))
          have HO4 := hidE (OwnE.push hown')
          clear hown' hgrow HO HB
          go_wp2
          go_roundw
          case rel => exact ⟨k + 1, by omega, by go_num, by rw [HK2.out]; exact HO4, HB4⟩
          case measure => simp [RowKit.intOf]; omega
    · go_wp2
      go_ret
      rw [List.take_of_length_le (by omega)] at HO
      exact ⟨_, rfl, HO.out, HB.out⟩
end Go.Proofs.YtlobdnnhpaklgaaGreatDoor
