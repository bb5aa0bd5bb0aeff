/-
  The walk of the model's Turned.
-/
import Derived.Test.YtkjpmngohocmlabGreatDoorHPk11
import Derived.Test.YtkjpmngohocmlabGreatDoorHPk13
import Derived.Test.YtkjpmngohocmlabGreatDoorHPk12
namespace Go.Proofs.YtkjpmngohocmlabGreatDoor
open Go.RowKit Go.Lib
attribute [local go_sem] eq_ent guard_ent

/-- A list of entries lies somewhere. -/
def Lies (w : World) (v : Value) (es : List E) : Prop := ∃ b g o c, v = .slice b es.length c ∧ (0 < es.length → b = some ⟨g, o, none⟩) ∧ Ents w g o es ∧ es.length ≤ c
theorem OwnE.lies {w : World} {base : Nat} {v : Value} {es : List E} (h : OwnE w base v es) : Lies w v es := by
  obtain ⟨a, g, cap, e, ha, hE, hc⟩ := h.ents
  exact ⟨a, g, 0, cap, e, ha, hE, hc⟩
theorem rowlow {w : World} {base base' : Nat} {e : TypeId} {size : Nat} {v : Value} {n : Nat} {xs : List Value} (h : w.ownsRow base e size v n xs) (hb : base' ≤ base) : w.ownsRow base' e size v n xs := by
  obtain ⟨h1, h2 | ⟨g, cap, cur, e1, e2, e3⟩⟩ := h
  · exact ⟨h1, .inl h2⟩
  · exact ⟨h1, .inr ⟨g, cap, cur, e1, Nat.le_trans hb e2, e3⟩⟩
theorem rowkeep {w w' : World} {base : Nat} {e : TypeId} {size : Nat} {v : Value} {n : Nat} {xs : List Value} (h : w.ownsRow base e size v n xs) (hb : Below w.heap.size w w') : w'.ownsRow base e size v n xs :=
  h.kept (row := none) ⟨hb.os, hb.tape, hb.output, hb.size, fun b hb' _ => hb.block b hb'⟩ (by
    cases hob : v.ownBlock with
    | none => exact .inl rfl
    | some q => exact .inr (by simp))
theorem boxT {w w' : World} {a b c : Value} {T : TypeId} (h : Below (w.alloc (.cells #[a, b, c] T)).heap.size (w.alloc (.cells #[a, b, c] T)) w') :
    w'.cell? ⟨w.heap.size, 0, none⟩ = some a ∧ w'.cell? ⟨w.heap.size, 1, none⟩ = some b ∧ w'.cell? ⟨w.heap.size, 2, none⟩ = some c := box3 h

set_option maxHeartbeats 4000000 in
set_option maxRecDepth 100000 in
theorem l2Turned_any (w : World) (a : Option Addr) (g o cap : Nat) (es : List E) (a' : Option Addr) (g' o' cap' : Nat) (fs : List E) (hl : es.length ≤ 65536) (hl' : fs.length ≤ 65536) (hcap : es.length ≤ cap) (ha : 0 < es.length → a = some ⟨g, o, none⟩) (ha' : 0 < fs.length → a' = some ⟨g', o', none⟩) (hE : Ents w g o es) (hF : Ents w g' o' fs) :
    Calls Tryz.prog 72 #[.slice a es.length cap, .slice a' fs.length cap'] w fun r w' => ∃ v, r = .returned v ∧ w'.ownsRow w.heap.size 9 1 v (turnE es fs).length ((turnE es fs).map Value.string) ∧ Below w.heap.size w w' := by
  obtain ⟨i0, hi, hzz0, hzz1, hzz2⟩ := info_parts Tryz.infoS
  have HE := hidE hE
  have HF := hidE hF
  clear hE hF
  go_enter Tryz.func72, Tryz.ntmps72
  go_wp2
  go_loopw [5, 6] (fun v iv wl => ∃ k : Nat, k ≤ fs.length ∧ iv = .int .i64 k ∧ Hid (Lies wl v (bothE es (fs.take k))) ∧ Hid (Below w.heap.size w wl)) (fun _ iv _ => fs.length - (RowKit.intOf iv).toNat)
  case atStart => exact ⟨0, Nat.zero_le _, rfl, ⟨_, _, _, _, rfl, ha, HE.out, hcap⟩, Below.refl _ _⟩
  case round =>
    obtain ⟨k, hk, rfl, HL, HB⟩ := hrel
    by_cases hlt : k < fs.length
    · obtain rfl := ha' (by omega)
      obtain ⟨c0, c1, c2⟩ := (HF.out.below HB.out) k hlt
      have HK := hidE (both_succ es fs k hlt)
      have hlen := both_len es fs k hk
      obtain ⟨pre, hpre⟩ : ∃ pre, bothE es (fs.take k) = pre := ⟨_, rfl⟩
      rw [hpre] at HL HK hlen
      clear hpre
      obtain ⟨b, gb, ob, cb, rfl, hb, hLB, hcb⟩ := HL.out
      have HLB := hidE hLB
      clear hLB HL
      go_wp2_with fail
      refine (l2Put_any _ b gb ob cb pre fs[k].p fs[k].d fs[k].x (by omega) hcb hb HLB.out).mono ?_
      rintro e w4 ⟨v, rfl, ho4, hB4⟩
      have HB5 := hidE (HB.out.trans (hB4.mono HB.out.size))
      have HL5 := hidE ho4.lies
      clear ho4 hB4 HB
      go_wp2
      go_roundw
      case rel => exact ⟨k + 1, by omega, by go_num, by rw [HK.out]; exact HL5, HB5⟩
      case measure => simp [RowKit.intOf]; omega
    · have HT : Hid (bothE es fs = bothE es (fs.take k)) := by show _ = _; rw [List.take_of_length_le (by omega)]
      have hlen := both_len es fs k hk
      rw [← HT.out] at HL hlen
      have HX : Hid (turnE es fs = turnL es fs (bothE es fs)) := show _ = _ from rfl
      obtain ⟨bs, hbs⟩ : ∃ bs, bothE es fs = bs := ⟨_, rfl⟩
      rw [hbs] at HL hlen HX
      clear HT hbs
      obtain ⟨b, gb, ob, cb, rfl, hb, hLB, hcb⟩ := HL.out
      have HLB := hidE hLB
      have hz0 := HB.out.size
      clear hLB HL
      go_wp2
      obtain ⟨W1, rfl⟩ : ∃ W1, W1 = wr := ⟨wr, rfl⟩
      go_loopw [7, 8] (fun v iv wl => ∃ j : Nat, j ≤ bs.length ∧ iv = .int .i64 j ∧ Hid (wl.ownsRow W1.heap.size 9 1 v (turnL es fs (bs.take j)).length ((turnL es fs (bs.take j)).map Value.string)) ∧ Hid (Below W1.heap.size W1 wl)) (fun _ iv _ => bs.length - (RowKit.intOf iv).toNat)
      case atStart => exact ⟨0, Nat.zero_le _, rfl, World.ownsRow_made W1 #[] 0 (Nat.le_refl _) (Nat.zero_le _) rfl, (Below.refl _ W1).alloc (Nat.le_refl _) _⟩
      case round =>
        obtain ⟨j, hj, rfl, HO, HB2⟩ := hrel
        by_cases hlt2 : j < bs.length
        · obtain rfl := hb (by omega)
          obtain ⟨c0, c1, c2⟩ := (HLB.out.below HB2.out) j hlt2
          have HK := hidE (turn_succ es fs bs j hlt2)
          have hlen2 := turn_len es fs bs j
          have HTB : Hid (turnB es fs bs[j] = (((getE es bs[j].p).2 != (getE fs bs[j].p).2) || !(sameT1 (getE es bs[j].p).1 (getE fs bs[j].p).1))) := show _ = _ from rfl
          obtain ⟨pre, hpre⟩ : ∃ pre, turnL es fs (bs.take j) = pre := ⟨_, rfl⟩
          rw [hpre] at HO HK hlen2
          clear hpre
          have HG1 := hidE (fun (W : World) (hW : Ents W g o es) => l2Get_any W a g o cap es bs[j].p (by omega) ha hW)
          have HG2 := hidE (fun (W : World) (hW : Ents W g' o' fs) => l2Get_any W a' g' o' cap' fs bs[j].p (by omega) ha' hW)
          obtain ⟨⟨p1, d1, x1⟩, b1, hg1⟩ : ∃ e b, getE es bs[j].p = (e, b) := ⟨_, _, rfl⟩
          obtain ⟨⟨p2, d2, x2⟩, b2, hg2⟩ : ∃ e b, getE fs bs[j].p = (e, b) := ⟨_, _, rfl⟩
          rw [hg1, hg2] at HTB
          rw [hg1] at HG1
          rw [hg2] at HG2
          clear hg1 hg2
          have HF1 := hidE (HB.out.trans (HB2.out.mono hz0))
          go_wp2_with fail
          refine (HG1.out _ (HE.out.below HF1.out)).mono ?_
          rintro e w1 ⟨rfl, hB1⟩
          have HX1 := hidE (hB1.alloc hB1.size (.cells #[.string p1, .bool d1, .string x1] 47))
          have HB3 := hidE (HB2.out.trans (HX1.out.mono HB2.out.size))
          clear hB1 c0 c1 c2 HG1
          obtain ⟨c0, c1, c2⟩ := (HLB.out.below HB3.out) j hlt2
          go_wp2_with fail
          refine (HG2.out _ (HF.out.below (HB.out.trans (HB3.out.mono hz0)))).mono ?_
          rintro e w2 ⟨rfl, hB2⟩
          obtain ⟨e0, e1, e2⟩ := boxT (hB2.alloc hB2.size (.cells #[.string p2, .bool d2, .string x2] 47))
          have HX2 := hidE (HX1.out.trans ((hB2.alloc hB2.size (.cells #[.string p2, .bool d2, .string x2] 47)).mono HX1.out.size))
          have HB4 := hidE (HB2.out.trans (HX2.out.mono HB2.out.size))
          have hw2a : W1.heap.size ≤ w2.heap.size := Nat.le_trans HB3.out.size hB2.size
          clear hB2 c0 c1 c2 HG2 HB3 HX1
          obtain ⟨c0, c1, c2⟩ := (HLB.out.below HB4.out) j hlt2
          have HO2 := hidE (rowkeep HO.out HX2.out)
          have hw2 := hw2a
          clear HO HX2
          cases b1 with
          | true =>
            cases b2 with
            | true =>
              by_cases q1 : p1.toList = p2.toList
              · by_cases q2 : d1 = d2
                · by_cases q3 : x1.toList = x2.toList
                  · have HK2 : Hid (turnL es fs (bs.take (j + 1)) = pre) := by
                      show _ = _; rw [HK.out, if_neg (by rw [HTB.out]; simp [sameT1, *])]; simp
                    go_wp2
                    go_roundw
                    case rel => exact ⟨j + 1, by omega, by go_num, by rw [HK2.out]; exact HO2, HB4⟩
                    case measure => simp [RowKit.intOf]; omega
                  · have HK2 : Hid (turnL es fs (bs.take (j + 1)) = pre ++ [bs[j].p]) := by
                      show _ = _; rw [HK.out, if_pos (by rw [HTB.out]; simp [sameT1, *])]
                    go_wp2_with (first
                      | (at_builtin; refine wpList_append_own _ rfl _ _ 40 rfl W1.heap.size 9 i0 (.string ByteArray.empty) 1 16 Tryz.underlying40 hi hzz0 hzz1 hzz2 rfl (by decide) _ _ _ rfl (HO2.out.alloc _) ⟨w2.heap.size + 1, 0, none⟩ 1 1 [.string bs[j].p] rfl rfl ?c1 ?c2 ?c3 ?c4 ?c5 ?_)
                      | fail)
                    case c1 => first | exact cell_one_new _ _ _ | (intro i u hu; match i, hu with
                      | 0, hu => simp at hu; subst hu; simp [Addr.add])
                    case c2 => intro u hu; simp at hu; subst hu; rfl
                    case c3 => unfold maxLen; omega
                    case c4 => omega
                    case c5 => simp; omega
                    intro v' w5 hown' hgrow _
                    have HB6 := hidE ((HB4.out.alloc HB4.out.size _).grown hgrow (by simp; omega) (fun q hq => (World.ownsRow.lt HO2.out q hq).1))
                    have ho6 : w5.ownsRow W1.heap.size 9 1 v' (pre ++ [bs[j].p]).length ((pre ++ [bs[j].p]).map Value.string) := by simpa using hown'
                    have HO6 := hidE ho6
                    clear ho6
                    clear hown' hgrow HO2 HB4
                    go_wp2
                    go_roundw
                    case rel => exact ⟨j + 1, by omega, by go_num, by rw [HK2.out]; exact HO6, HB6⟩
                    case measure => simp [RowKit.intOf]; omega
                · have HK2 : Hid (turnL es fs (bs.take (j + 1)) = pre ++ [bs[j].p]) := by
                    show _ = _; rw [HK.out, if_pos (by rw [HTB.out]; simp [sameT1, *])]
                  go_wp2_with (first
                    | (at_builtin; refine wpList_append_own _ rfl _ _ 40 rfl W1.heap.size 9 i0 (.string ByteArray.empty) 1 16 Tryz.underlying40 hi hzz0 hzz1 hzz2 rfl (by decide) _ _ _ rfl (HO2.out.alloc _) ⟨w2.heap.size + 1, 0, none⟩ 1 1 [.string bs[j].p] rfl rfl ?c1 ?c2 ?c3 ?c4 ?c5 ?_)
                    | fail)
                  case c1 => first | exact cell_one_new _ _ _ | (intro i u hu; match i, hu with
                    | 0, hu => simp at hu; subst hu; simp [Addr.add])
                  case c2 => intro u hu; simp at hu; subst hu; rfl
                  case c3 => unfold maxLen; omega
                  case c4 => omega
                  case c5 => simp; omega
                  intro v' w5 hown' hgrow _
                  have HB6 := hidE ((HB4.out.alloc HB4.out.size _).grown hgrow (by simp; omega) (fun q hq => (World.ownsRow.lt HO2.out q hq).1))
                  have ho6 : w5.ownsRow W1.heap.size 9 1 v' (pre ++ [bs[j].p]).length ((pre ++ [bs[j].p]).map Value.string) := by simpa using hown'
                  have HO6 := hidE ho6
                  clear ho6
                  clear hown' hgrow HO2 HB4
                  go_wp2
                  go_roundw
                  case rel => exact ⟨j + 1, by omega, by go_num, by rw [HK2.out]; exact HO6, HB6⟩
                  case measure => simp [RowKit.intOf]; omega
              · have HK2 : Hid (turnL es fs (bs.take (j + 1)) = pre ++ [bs[j].p]) := by
                  show _ = _; rw [HK.out, if_pos (by rw [HTB.out]; simp [sameT1, *])]
                go_wp2_with (first
                  | (at_builtin; refine wpList_append_own _ rfl _ _ 40 rfl W1.heap.size 9 i0 (.string ByteArray.empty) 1 16 Tryz.underlying40 hi hzz0 hzz1 hzz2 rfl (by decide) _ _ _ rfl (HO2.out.alloc _) ⟨w2.heap.size + 1, 0, none⟩ 1 1 [.string bs[j].p] rfl rfl ?c1 ?c2 ?c3 ?c4 ?c5 ?_)
                  | fail)
                case c1 => first | exact cell_one_new _ _ _ | (intro i u hu; match i, hu with
                  | 0, hu => simp at hu; subst hu; simp [Addr.add])
                case c2 => intro u hu; simp at hu; subst hu; rfl
                case c3 => unfold maxLen; omega
                case c4 => omega
                case c5 => simp; omega
                intro v' w5 hown' hgrow _
                have HB6 := hidE ((HB4.out.alloc HB4.out.size _).grown hgrow (by simp; omega) (fun q hq => (World.ownsRow.lt HO2.out q hq).1))
                have ho6 : w5.ownsRow W1.heap.size 9 1 v' (pre ++ [bs[j].p]).length ((pre ++ [bs[j].p]).map Value.string) := by simpa using hown'
                have HO6 := hidE ho6
                clear ho6
                clear hown' hgrow HO2 HB4
                go_wp2
                go_roundw
                case rel => exact ⟨j + 1, by omega, by go_num, by rw [HK2.out]; exact HO6, HB6⟩
                case measure => simp [RowKit.intOf]; omega
            | false =>
              have HK2 : Hid (turnL es fs (bs.take (j + 1)) = pre ++ [bs[j].p]) := by
                show _ = _; rw [HK.out, if_pos (by rw [HTB.out]; simp [sameT1, *])]
              go_wp2_with (first
                | (at_builtin; refine wpList_append_own _ rfl _ _ 40 rfl W1.heap.size 9 i0 (.string ByteArray.empty) 1 16 Tryz.underlying40 hi hzz0 hzz1 hzz2 rfl (by decide) _ _ _ rfl (HO2.out.alloc _) ⟨w2.heap.size + 1, 0, none⟩ 1 1 [.string bs[j].p] rfl rfl ?c1 ?c2 ?c3 ?c4 ?c5 ?_)
                | fail)
              case c1 => first | exact cell_one_new _ _ _ | (intro i u hu; match i, hu with
                | 0, hu => simp at hu; subst hu; simp [Addr.add])
              case c2 => intro u hu; simp at hu; subst hu; rfl
              case c3 => unfold maxLen; omega
              case c4 => omega
              case c5 => simp; omega
              intro v' w5 hown' hgrow _
              have HB6 := hidE ((HB4.out.alloc HB4.out.size _).grown hgrow (by simp; omega) (fun q hq => (World.ownsRow.lt HO2.out q hq).1))
              have ho6 : w5.ownsRow W1.heap.size 9 1 v' (pre ++ [bs[j].p]).length ((pre ++ [bs[j].p]).map Value.string) := by simpa using hown'
              have HO6 := hidE ho6
              clear ho6
              clear hown' hgrow HO2 HB4
              go_wp2
              go_roundw
              case rel => exact ⟨j + 1, by omega, by go_num, by rw [HK2.out]; exact HO6, HB6⟩
              case measure => simp [RowKit.intOf]; omega
          | false =>
            cases b2 with
            | true =>
              have HK2 : Hid (turnL es fs (bs.take (j + 1)) = pre ++ [bs[j].p]) := by
                show _ = _; rw [HK.out, if_pos (by rw [HTB.out]; simp [sameT1, *])]
              go_wp2_with (first
                | (at_builtin; refine wpList_append_own _ rfl _ _ 40 rfl W1.heap.size 9 i0 (.string ByteArray.empty) 1 16 Tryz.underlying40 hi hzz0 hzz1 hzz2 rfl (by decide) _ _ _ rfl (HO2.out.alloc _) ⟨w2.heap.size + 1, 0, none⟩ 1 1 [.string bs[j].p] rfl rfl ?c1 ?c2 ?c3 ?c4 ?c5 ?_)
                | fail)
              case c1 => first | exact cell_one_new _ _ _ | (intro i u hu; match i, hu with
                | 0, hu => simp at hu; subst hu; simp [Addr.add])
              case c2 => intro u hu; simp at hu; subst hu; rfl
              case c3 => unfold maxLen; omega
              case c4 => omega
              case c5 => simp; omega
              intro v' w5 hown' hgrow _
              have HB6 := hidE ((HB4.out.alloc HB4.out.size _).grown hgrow (by simp; omega) (fun q hq => (World.ownsRow.lt HO2.out q hq).1))
              have ho6 : w5.ownsRow W1.heap.size 9 1 v' (pre ++ [bs[j].p]).length ((pre ++ [bs[j].p]).map Value.string) := by simpa using hown'
              have HO6 := hidE ho6
              clear ho6
              clear hown' hgrow HO2 HB4
              go_wp2
              go_roundw
              case rel => exact ⟨j + 1, by omega, by go_num, by rw [HK2.out]; exact HO6, HB6⟩
              case measure => simp [RowKit.intOf]; omega
            | false =>
              by_cases q1 : p1.toList = p2.toList
              · by_cases q2 : d1 = d2
                · by_cases q3 : x1.toList = x2.toList
                  · have HK2 : Hid (turnL es fs (bs.take (j + 1)) = pre) := by
                      show _ = _; rw [HK.out, if_neg (by rw [HTB.out]; simp [sameT1, *])]; simp
                    go_wp2
                    go_roundw
                    case rel => exact ⟨j + 1, by omega, by go_num, by rw [HK2.out]; exact HO2, HB4⟩
                    case measure => simp [RowKit.intOf]; omega
                  · have HK2 : Hid (turnL es fs (bs.take (j + 1)) = pre ++ [bs[j].p]) := by
                      show _ = _; rw [HK.out, if_pos (by rw [HTB.out]; simp [sameT1, *])]
                    go_wp2_with (first
                      | (at_builtin; refine wpList_append_own _ rfl _ _ 40 rfl W1.heap.size 9 i0 (.string ByteArray.empty) 1 16 Tryz.underlying40 hi hzz0 hzz1 hzz2 rfl (by decide) _ _ _ rfl (HO2.out.alloc _) ⟨w2.heap.size + 1, 0, none⟩ 1 1 [.string bs[j].p] rfl rfl ?c1 ?c2 ?c3 ?c4 ?c5 ?_)
                      | fail)
                    case c1 => first | exact cell_one_new _ _ _ | (intro i u hu; match i, hu with
                      | 0, hu => simp at hu; subst hu; simp [Addr.add])
                    case c2 => intro u hu; simp at hu; subst hu; rfl
                    case c3 => unfold maxLen; omega
                    case c4 => omega
                    case c5 => simp; omega
                    intro v' w5 hown' hgrow _
                    have HB6 := hidE ((HB4.out.alloc HB4.out.size _).grown hgrow (by simp; omega) (fun q hq => (World.ownsRow.lt HO2.out q hq).1))
                    have ho6 : w5.ownsRow W1.heap.size 9 1 v' (pre ++ [bs[j].p]).length ((pre ++ [bs[j].p]).map Value.string) := by simpa using hown'
                    have HO6 := hidE ho6
                    clear ho6
                    clear hown' hgrow HO2 HB4
                    go_wp2
                    go_roundw
                    case rel => exact ⟨j + 1, by omega, by go_num, by rw [HK2.out]; exact HO6, HB6⟩
                    case measure => simp [RowKit.intOf]; omega
                · have HK2 : Hid (turnL es fs (bs.take (j + 1)) = pre ++ [bs[j].p]) := by
                    show _ = _; rw [HK.out, if_pos (by rw [HTB.out]; simp [sameT1, *])]
                  go_wp2_with (first
                    | (at_builtin; refine wpList_append_own _ rfl _ _ 40 rfl W1.heap.size 9 i0 (.string ByteArray.empty) 1 16 Tryz.underlying40 hi hzz0 hzz1 hzz2 rfl (by decide) _ _ _ rfl (HO2.out.alloc _) ⟨w2.heap.size + 1, 0, none⟩ 1 1 [.string bs[j].p] rfl rfl ?c1 ?c2 ?c3 ?c4 ?c5 ?_)
                    | fail)
                  case c1 => first | exact cell_one_new _ _ _ | (intro i u hu; match i, hu with
                    | 0, hu => simp at hu; subst hu; simp [Addr.add])
                  case c2 => intro u hu; simp at hu; subst hu; rfl
                  case c3 => unfold maxLen; omega
                  case c4 => omega
                  case c5 => simp; omega
                  intro v' w5 hown' hgrow _
                  have HB6 := hidE ((HB4.out.alloc HB4.out.size _).grown hgrow (by simp; omega) (fun q hq => (World.ownsRow.lt HO2.out q hq).1))
                  have ho6 : w5.ownsRow W1.heap.size 9 1 v' (pre ++ [bs[j].p]).length ((pre ++ [bs[j].p]).map Value.string) := by simpa using hown'
                  have HO6 := hidE ho6
                  clear ho6
                  clear hown' hgrow HO2 HB4
                  go_wp2
                  go_roundw
                  case rel => exact ⟨j + 1, by omega, by go_num, by rw [HK2.out]; exact HO6, HB6⟩
                  case measure => simp [RowKit.intOf]; omega
              · have HK2 : Hid (turnL es fs (bs.take (j + 1)) = pre ++ [bs[j].p]) := by
                  show _ = _; rw [HK.out, if_pos (by rw [HTB.out]; simp [sameT1, *])]
                go_wp2_with (first
                  | (at_builtin; refine wpList_append_own _ rfl _ _ 40 rfl W1.heap.size 9 i0 (.string ByteArray.empty) 1 16 Tryz.underlying40 hi hzz0 hzz1 hzz2 rfl (by decide) _ _ _ rfl (HO2.out.alloc _) ⟨w2.heap.size + 1, 0, none⟩ 1 1 [.string bs[j].p] rfl rfl ?c1 ?c2 ?c3 ?c4 ?c5 ?_)
                  | fail)
                case c1 => first | exact cell_one_new _ _ _ | (intro i u hu; match i, hu with
                  | 0, hu => simp at hu; subst hu; simp [Addr.add])
                case c2 => intro u hu; simp at hu; subst hu; rfl
                case c3 => unfold maxLen; omega
                case c4 => omega
                case c5 => simp; omega
                intro v' w5 hown' hgrow _
                have HB6 := hidE ((HB4.out.alloc HB4.out.size _).grown hgrow (by simp; omega) (fun q hq => (World.ownsRow.lt HO2.out q hq).1))
                have ho6 : w5.ownsRow W1.heap.size 9 1 v' (pre ++ [bs[j].p]).length ((pre ++ [bs[j].p]).map Value.string) := by simpa using hown'
                have HO6 := hidE ho6
                clear ho6
                clear hown' hgrow HO2 HB4
                go_wp2
                go_roundw
                case rel => exact ⟨j + 1, by omega, by go_num, by rw [HK2.out]; exact HO6, HB6⟩
                case measure => simp [RowKit.intOf]; omega
        · go_wp2
          go_ret
          have := HO.out
          rw [List.take_of_length_le (by omega), ← HX.out] at this
          exact ⟨_, rfl, rowlow this hz0, HB.out.trans (HB2.out.mono hz0)⟩

end Go.Proofs.YtkjpmngohocmlabGreatDoor
