/-
  The walks of the model's names in a directory, and of its TreeList.
-/
import Derived.Maps.AppendAt
import Derived.Test.YtlobdnnhpaklgaaGreatDoorHGet
import Derived.Test.YtlobdnnhpaklgaaGreatDoorHSpecName
namespace Go.Proofs.YtlobdnnhpaklgaaGreatDoor
open Go.RowKit Go.Lib

set_option maxHeartbeats 800000 in
set_option maxRecDepth 100000 in
theorem l2Kids_any (w : World) (a : Option Addr) (g o cap : Nat) (es : List E) (s : ByteArray) (hl : es.length ≤ 1048576) (hz : ∀ e ∈ es, e.p.size ≤ 16777216 ∧ e.x.size ≤ 16777216) (ha : 0 < es.length → a = some ⟨g, o, none⟩) (hE : Ents w g o es) :
    Calls Tryz.prog 116 #[.slice a es.length cap, .string s] w fun r w' => ∃ v, r = .returned v ∧ w'.ownsRow w.heap.size 9 1 v (kidsE es s).length ((kidsE es s).map Value.string) ∧ Below w.heap.size w w' := by
  obtain ⟨i0, hi, hz0, hz1, hz2⟩ := info_parts Tryz.infoS
  have HE := hidE hE
  have HZ := hidE hz
  clear hE hz
  go_enter Tryz.func116, Tryz.ntmps116
  go_wp2
  go_loopw [5, 6] (fun v iv wl => ∃ k : Nat, k ≤ es.length ∧ iv = .int .i64 k ∧ wl.ownsRow w.heap.size 9 1 v (kidsE (es.take k) s).length ((kidsE (es.take k) s).map Value.string) ∧ Hid (Below w.heap.size w wl)) (fun _ iv _ => es.length - (RowKit.intOf iv).toNat)
  case atStart => exact ⟨0, Nat.zero_le _, rfl, World.ownsRow_made w #[] 0 (Nat.le_refl _) (Nat.zero_le _) rfl, (Below.refl _ w).alloc (Nat.le_refl _) _⟩
  case round =>
    obtain ⟨k, hk, rfl, hown, HB⟩ := hrel
    by_cases hlt : k < es.length
    · obtain rfl := ha (by omega)
      obtain ⟨c0, c1, c2⟩ := (HE.out.below HB.out) k hlt
      obtain ⟨z0, z1⟩ := HZ.out es[k] (List.getElem_mem _)
      have HK := hidE (kids_succ es s k hlt)
      have hlen := kids_len es s k
      obtain ⟨pre, hpre⟩ : ∃ pre, kidsE (es.take k) s = pre := ⟨_, rfl⟩
      rw [hpre] at hown HK hlen
      clear hpre
      go_wp2_with fail
      refine (sPathUp_any es[k].p z0 _).mono ?_
      rintro e w2 ⟨rfl, hB2⟩
      have HB2 := hidE (HB.out.trans (hB2.mono HB.out.size))
      have hown2 : w2.ownsRow w.heap.size 9 1 u5 pre.length (pre.map Value.string) := hown.kept (row := none) ⟨hB2.os, hB2.tape, hB2.output, hB2.size, fun b hb _ => hB2.block b hb⟩ (by
        cases hob : u5.ownBlock with
        | none => exact .inl rfl
        | some q => exact .inr (by simp))
      clear hB2 HB hown c0 c1 c2
      cases hb : ((upS es[k].p).toList == s.toList) with
      | false =>
        have HK2 : Hid (kidsE (es.take (k + 1)) s = pre) := by
          show _ = _; rw [HK.out, show kidB s es[k] = false from hb]; simp
        clear HK
        go_wp2
        go_roundw
        case rel => exact ⟨k + 1, by omega, by go_num, by rw [HK2.out]; exact hown2, HB2⟩
        case measure => simp [RowKit.intOf]; omega
      | true =>
        have HK2 : Hid (kidsE (es.take (k + 1)) s = pre ++ [nmS es[k].p]) := by
          show _ = _; rw [HK.out, show kidB s es[k] = true from hb]; simp
        clear HK
        obtain ⟨c0, c1, c2⟩ := (HE.out.below HB2.out) k hlt
        go_wp2_with fail
        refine (sPathName_any es[k].p z0 _).mono ?_
        rintro e w3 ⟨rfl, hB3⟩
        have HB3 := hidE (HB2.out.trans (hB3.mono HB2.out.size))
        have hown3 : w3.ownsRow w.heap.size 9 1 u5 pre.length (pre.map Value.string) := hown2.kept (row := none) ⟨hB3.os, hB3.tape, hB3.output, hB3.size, fun b hb _ => hB3.block b hb⟩ (by
          cases hob : u5.ownBlock with
          | none => exact .inl rfl
          | some q => exact .inr (by simp))
        have hz3 := HB3.out.size
        clear hB3 HB2 hown2 c0 c1 c2
        obtain ⟨nm, hnm⟩ : ∃ nm, nmS es[k].p = nm := ⟨_, rfl⟩
        rw [hnm] at HK2
        go_wp2_with (first
          | (at_builtin; refine wpList_append_own _ rfl _ _ 72 rfl w.heap.size 9 i0 (.string ByteArray.empty) 1 16 Tryz.underlying72 hi hz0 hz1 hz2 rfl (by decide) _ _ _ rfl (hown3.alloc _) ⟨w3.heap.size, 0, none⟩ 1 1 [.string nm] rfl rfl ?c1 ?c2 ?c3 ?c4 ?c5 ?_)
          | fail)
        case c1 => exact cell_one_new _ _ _
        case c2 => intro u hu; simp at hu; subst hu; rfl
        case c3 => unfold maxLen; omega
        case c4 => omega
        case c5 => simp; omega
        · intro v' w4 hown' hgrow _
          have HB4 := hidE ((HB3.out.alloc hz3 _).grown hgrow (by simp; omega) (fun q hq => (hown3.lt q hq).1))
          have hown4 : w4.ownsRow w.heap.size 9 1 v' (pre ++ [nm]).length ((pre ++ [nm]).map Value.string) := by simpa using hown'
          clear hown' hgrow hown3 HB3
          go_wp2
          go_roundw
          case rel => exact ⟨k + 1, by omega, by go_num, by rw [HK2.out]; exact hown4, HB4⟩
          case measure => simp [RowKit.intOf]; omega
    · go_wp2
      go_ret
      rw [List.take_of_length_le (by omega)] at hown
      exact ⟨_, rfl, hown, HB.out⟩
end Go.Proofs.YtlobdnnhpaklgaaGreatDoor
