/-
  The walk of the law FnLayerBent, out of the contracts.
-/
import Derived.Lib.QuietBelow
import Derived.Test.YtlgahgnjifhbhaaHMkDrawS
import Derived.Test.YtlgahgnjifhbhaaHMkLayI
import Derived.Test.YtlgahgnjifhbhaaHMkSpecOk
import Derived.Test.YtlgahgnjifhbhaaHMkSameI
import Derived.Test.YtlgahgnjifhbhaaHMkBentP
namespace Go.Proofs.Ytlgahgnjifhbhaa.Mk
open Go.RowKit Go.Lib Go.Sort
attribute [local go_sem] eq_ent guard_ent

theorem ents_two (w : World) (d1 d2 : Int) : Ents (w.alloc (.cells #[.string zzS, .int .i64 d1, .string ⟨#[]⟩, .string zzzS, .int .i64 d2, .string ⟨#[]⟩] 35)) w.heap.size 0 [⟨zzS, d1, ⟨#[]⟩⟩, ⟨zzzS, d2, ⟨#[]⟩⟩] := by
  intro i hi
  match i, hi with
  | 0, _ => exact ⟨by simp, by simp, by simp⟩
  | 1, _ => exact ⟨by simp, by simp, by simp⟩
  | i + 2, hi => exact absurd hi (by simp)

set_option maxHeartbeats 8000000 in
set_option maxRecDepth 100000 in
theorem walk_fnLayerBent (a : Option Addr) (len cap : Nat) (zs : List Int) (w : World) (hw : IsRow .u8 w a len cap zs) :
    Calls Try.prog 4 #[.slice a len cap] w fun e w' => e = .returned (.bool true) ∧ Below w.heap.size w w' := by
  have hC := hidR hw.cod
  clear hw
  by_cases hl : len ≤ 1048576
  · go_enter Try.func4, Try.ntmps4
    go_wp2_with fail
    refine (DrawLayerSame_any _ a len cap hl hC.out).mono ?_
    rintro e w1 ⟨v1, v2, es, fs, rfl, hL1, hL2, hS1, hS2, hB⟩
    obtain ⟨a1, g1, o1, c1, rfl, ha1, hE, hc1, -⟩ := hL1
    obtain ⟨a2, g2, o2, c2, rfl, ha2, hF, hc2, -⟩ := hL2
    have HB := hidR hB
    have HE := hidR hE
    have HF := hidR hF
    have HC1 := hidR (hC.out.below hB)
    have HA1 := hidR ha1
    have HA2 := hidR ha2
    have hn1 : es.length ≤ 16777216 := by have := hS1.1; omega
    have hn2 : fs.length ≤ 16777216 := by have := hS2.1; omega
    clear hB hE hF ha1 ha2 hS1 hS2 hC
    go_wp2_with fail
    refine (DrawLayerOk_any _ a len cap hl HC1.out).mono ?_
    rintro e w2 ⟨v3, ls, rfl, hL3, hS3, hB2⟩
    obtain ⟨a3, g3, o3, c3, rfl, ha3, hG, hc3, -⟩ := hL3
    have HB2 := hidR (tBelow HB.out hB2)
    have HE2 := hidR (HE.out.below hB2)
    have HF2 := hidR (HF.out.below hB2)
    have HG2 := hidR hG
    have HA3 := hidR ha3
    have HS3 := hidR hS3
    have hn3 : ls.length ≤ 34 := hS3.1
    have HZ0 : Hid (∀ e ∈ ls, e.p.size ≤ 16777216 ∧ e.x.size ≤ 16777216) := fun e he => ⟨by have := okP_size (hS3.2 e he).1; omega, by have := (hS3.2 e he).2; omega⟩
    clear hB2 HB HE HF HC1 hG ha3 hS3
    have HSi := hidR (fun (W : World) (h1 : Ents W g1 o1 es) (h2 : Ents W g2 o2 fs) => iTreeSame_any W a1 g1 o1 c1 es a2 g2 o2 c2 fs hn1 hn2 HA1.out HA2.out h1 h2)
    have HSs := hidR (fun (W : World) (h1 : Ents W g1 o1 es) (h2 : Ents W g2 o2 fs) => sTreeSame_any W a1 g1 o1 c1 es a2 g2 o2 c2 fs hn1 hn2 HA1.out HA2.out h1 h2)
    have HSt := hidR (fun (W : World) (h1 : Ents W g1 o1 es) (h2 : Ents W g2 o2 fs) => iTreeSame_any W a2 g2 o2 c2 fs a1 g1 o1 c1 es hn2 hn1 HA2.out HA1.out h2 h1)
    have HSl := hidR (fun (W : World) (h1 : Ents W g3 o3 ls) => iTreeSame_any W a3 g3 o3 c3 ls a3 g3 o3 c3 ls (by omega) (by omega) HA3.out HA3.out h1 h1)
    have HOi := hidR (fun (W : World) (h1 : Ents W g3 o3 ls) => iLayerOk_any W a3 g3 o3 c3 ls (by omega) HZ0.out HA3.out h1)
    have HOs := hidR (fun (W : World) (h1 : Ents W g3 o3 ls) => sLayerOk_any W a3 g3 o3 c3 ls (by omega) hc3 HZ0.out HA3.out h1)
    have HOn := hidR (fun (W : World) => iLayerOk_any W none 0 0 0 [] (by simp) (fun e he => by cases he) (fun h => absurd h (by simp)) (fun i hi => absurd hi (by simp)))
    have e0 : layB [] = true := rfl
    rw [e0] at HOn
    rw [same_turnB fs es] at HSt
    rw [same_selfB ls] at HSl
    obtain ⟨b1, hb1⟩ : ∃ b1, sameT es fs = b1 := ⟨_, rfl⟩
    rw [hb1] at HSi HSs HSt
    clear hb1
    have hq1 : (b1 != b1) = false := by simp
    obtain ⟨b2, hb2⟩ : ∃ b2, layB ls = b2 := ⟨_, rfl⟩
    rw [hb2] at HOi HOs
    have hq2 : (b2 != b2) = false := by simp
    have HYs := hidR hb2
    clear hb2
    go_wp2_with fail
    refine (HSi.out _ HE2.out HF2.out).mono ?_
    rintro e w3 ⟨rfl, hB⟩
    have HB3 := hidR (tBelow HB2.out hB)
    have HE3 := hidR (HE2.out.below hB)
    have HF3 := hidR (HF2.out.below hB)
    have HG3 := hidR (HG2.out.below hB)
    clear hB HB2 HE2 HF2 HG2
    go_wp2_with fail
    refine (HSs.out _ HE3.out HF3.out).mono ?_
    rintro e w4 ⟨rfl, hB⟩
    have HB4 := hidR (tBelow HB3.out hB)
    have HE4 := hidR (HE3.out.below hB)
    have HF4 := hidR (HF3.out.below hB)
    have HG4 := hidR (HG3.out.below hB)
    clear hB HB3 HE3 HF3 HG3
    go_wp2_with fail
    refine (HSi.out _ HE4.out HF4.out).mono ?_
    rintro e w5 ⟨rfl, hB⟩
    have HB5 := hidR (tBelow HB4.out hB)
    have HE5 := hidR (HE4.out.below hB)
    have HF5 := hidR (HF4.out.below hB)
    have HG5 := hidR (HG4.out.below hB)
    clear hB HB4 HE4 HF4 HG4
    go_wp2_with fail
    refine (HSt.out _ HE5.out HF5.out).mono ?_
    rintro e w6 ⟨rfl, hB⟩
    have HB6 := hidR (tBelow HB5.out hB)
    have HE6 := hidR (HE5.out.below hB)
    have HF6 := hidR (HF5.out.below hB)
    have HG6 := hidR (HG5.out.below hB)
    clear hB HB5 HE5 HF5 HG5
    clear HE6 HF6 HSi HSs HSt
    go_wp2_with fail
    refine (HSl.out _ HG6.out).mono ?_
    rintro e w7 ⟨rfl, hB⟩
    have HB7 := hidR (tBelow HB6.out hB)
    have HG7 := hidR (HG6.out.below hB)
    clear hB HB6 HG6
    go_wp2_with fail
    refine (HOi.out _ HG7.out).mono ?_
    rintro e w8 ⟨rfl, hB⟩
    have HB8 := hidR (tBelow HB7.out hB)
    have HG8 := hidR (HG7.out.below hB)
    clear hB HB7 HG7
    go_wp2_with fail
    refine (HOs.out _ HG8.out).mono ?_
    rintro e w9 ⟨rfl, hB⟩
    have HB9 := hidR (tBelow HB8.out hB)
    have HG9 := hidR (HG8.out.below hB)
    clear hB HB8 HG8
    cases b2 with
    | false =>
      go_wp2_with fail
      refine (HOs.out _ HG9.out).mono ?_
      rintro e w10 ⟨rfl, hB⟩
      have HB10 := hidR (tBelow HB9.out hB)
      have HG10 := hidR (HG9.out.below hB)
      clear hB HB9 HG9
      go_wp2_with fail
      refine (HOn.out _).mono ?_
      rintro e w11 ⟨rfl, hB⟩
      have HB11 := hidR (tBelow HB10.out hB)
      have HG11 := hidR (HG10.out.below hB)
      clear hB HB10 HG10
      go_wp2
      go_ret
      exact ⟨rfl, HB11.out⟩
    | true =>
      go_wp2_with fail
      refine (HOs.out _ HG9.out).mono ?_
      rintro e w10 ⟨rfl, hB⟩
      have HB10 := hidR (tBelow HB9.out hB)
      have HG10 := hidR (HG9.out.below hB)
      clear hB HB9 HG9
      have HBa := hidR ((Below.refl w10.heap.size w10).alloc (Nat.le_refl _) (.cells #[] 35))
      have HGa := hidR (HG10.out.below HBa.out)
      go_wp2_with (first
        | (at_builtin; refine wpE_append rfl _ _ rfl w10.heap.size (.slice (some ⟨w10.heap.size, 0, none⟩) 0 0) [] rfl (OwnE.made w10 (Nat.le_refl _)) _ _ g3 o3 ls ls.length rfl rfl HA3.out HGa.out ?cc1 ?cc2 ?_)
        | fail)
      case cc1 => show 0 + _ ≤ _; omega
      case cc2 => exact HBa.out.size
      intro v11 w11 ho hg
      have HBm := hidR (HBa.out.grown hg HBa.out.size (fun q hq => (World.ownsRow.lt (OwnE.made w10 (base := w10.heap.size) (Nat.le_refl _)) q hq).1))
      have HOm : Hid (OwnE w11 w10.heap.size v11 ls) := ho
      have HGm := hidR (HG10.out.below HBm.out)
      clear ho hg HBa HGa
      have HBb := hidR (HBm.out.alloc HBm.out.size (.cells #[.string zzS, .int .i64 3, .string ⟨#[]⟩, .string zzzS, .int .i64 1, .string ⟨#[]⟩] 35))
      go_wp2_with (first
        | (at_builtin; refine wpE_append rfl _ _ rfl w10.heap.size v11 ls rfl (World.ownsRow.alloc HOm.out _) _ _ w11.heap.size 0 [⟨zzS, 3, ⟨#[]⟩⟩, ⟨zzzS, 1, ⟨#[]⟩⟩] 2 rfl rfl (fun _ => rfl) (ents_two w11 3 1) ?cd1 ?cd2 ?_)
        | fail)
      case cd1 => show _ + 2 ≤ _; omega
      case cd2 => exact HBb.out.size
      intro v12 w12 ho hg
      have hB := HBb.out.grown hg HBb.out.size (fun q hq => (World.ownsRow.lt HOm.out q hq).1)
      have HOq : Hid (OwnE w12 w10.heap.size v12 (ls ++ [⟨zzS, 3, ⟨#[]⟩⟩, ⟨zzzS, 1, ⟨#[]⟩⟩])) := ho
      obtain ⟨aHX, gHX, cHX, rfl, haHX, hEHX, hcHX⟩ := HOq.out.ents
      have HAHX := hidR haHX
      have HX12 := hidR hEHX
      have HB12 := hidR (tBelow HB10.out hB)
      have HG12 := hidR (HG10.out.below hB)
      clear ho hg hB HBm HOm HGm HOq haHX hEHX HB10 HBb HG10
      have HBa := hidR ((Below.refl w12.heap.size w12).alloc (Nat.le_refl _) (.cells #[] 35))
      have HGa := hidR (HG12.out.below HBa.out)
      go_wp2_with (first
        | (at_builtin; refine wpE_append rfl _ _ rfl w12.heap.size (.slice (some ⟨w12.heap.size, 0, none⟩) 0 0) [] rfl (OwnE.made w12 (Nat.le_refl _)) _ _ g3 o3 ls ls.length rfl rfl HA3.out HGa.out ?cc1 ?cc2 ?_)
        | fail)
      case cc1 => show 0 + _ ≤ _; omega
      case cc2 => exact HBa.out.size
      intro v13 w13 ho hg
      have HBm := hidR (HBa.out.grown hg HBa.out.size (fun q hq => (World.ownsRow.lt (OwnE.made w12 (base := w12.heap.size) (Nat.le_refl _)) q hq).1))
      have HOm : Hid (OwnE w13 w12.heap.size v13 ls) := ho
      have HGm := hidR (HG12.out.below HBm.out)
      clear ho hg HBa HGa
      have HBb := hidR (HBm.out.alloc HBm.out.size (.cells #[.string zzS, .int .i64 4, .string ⟨#[]⟩, .string zzzS, .int .i64 3, .string ⟨#[]⟩] 35))
      go_wp2_with (first
        | (at_builtin; refine wpE_append rfl _ _ rfl w12.heap.size v13 ls rfl (World.ownsRow.alloc HOm.out _) _ _ w13.heap.size 0 [⟨zzS, 4, ⟨#[]⟩⟩, ⟨zzzS, 3, ⟨#[]⟩⟩] 2 rfl rfl (fun _ => rfl) (ents_two w13 4 3) ?cd1 ?cd2 ?_)
        | fail)
      case cd1 => show _ + 2 ≤ _; omega
      case cd2 => exact HBb.out.size
      intro v14 w14 ho hg
      have hB := HBb.out.grown hg HBb.out.size (fun q hq => (World.ownsRow.lt HOm.out q hq).1)
      have HOq : Hid (OwnE w14 w12.heap.size v14 (ls ++ [⟨zzS, 4, ⟨#[]⟩⟩, ⟨zzzS, 3, ⟨#[]⟩⟩])) := ho
      obtain ⟨aHY, gHY, cHY, rfl, haHY, hEHY, hcHY⟩ := HOq.out.ents
      have HAHY := hidR haHY
      have HY14 := hidR hEHY
      have HB14 := hidR (tBelow HB12.out hB)
      have HG14 := hidR (HG12.out.below hB)
      have HX14 := hidR (HX12.out.below hB)
      clear ho hg hB HBm HOm HGm HOq haHY hEHY HB12 HBb HG12 HX12
      have HBa := hidR ((Below.refl w14.heap.size w14).alloc (Nat.le_refl _) (.cells #[] 35))
      have HGa := hidR (HG14.out.below HBa.out)
      go_wp2_with (first
        | (at_builtin; refine wpE_append rfl _ _ rfl w14.heap.size (.slice (some ⟨w14.heap.size, 0, none⟩) 0 0) [] rfl (OwnE.made w14 (Nat.le_refl _)) _ _ g3 o3 ls ls.length rfl rfl HA3.out HGa.out ?cc1 ?cc2 ?_)
        | fail)
      case cc1 => show 0 + _ ≤ _; omega
      case cc2 => exact HBa.out.size
      intro v15 w15 ho hg
      have HBm := hidR (HBa.out.grown hg HBa.out.size (fun q hq => (World.ownsRow.lt (OwnE.made w14 (base := w14.heap.size) (Nat.le_refl _)) q hq).1))
      have HOm : Hid (OwnE w15 w14.heap.size v15 ls) := ho
      have HGm := hidR (HG14.out.below HBm.out)
      clear ho hg HBa HGa
      have HBb := hidR (HBm.out.alloc HBm.out.size (.cells #[.string zzS, .int .i64 4, .string ⟨#[]⟩, .string zzzS, .int .i64 2, .string ⟨#[]⟩] 35))
      go_wp2_with (first
        | (at_builtin; refine wpE_append rfl _ _ rfl w14.heap.size v15 ls rfl (World.ownsRow.alloc HOm.out _) _ _ w15.heap.size 0 [⟨zzS, 4, ⟨#[]⟩⟩, ⟨zzzS, 2, ⟨#[]⟩⟩] 2 rfl rfl (fun _ => rfl) (ents_two w15 4 2) ?cd1 ?cd2 ?_)
        | fail)
      case cd1 => show _ + 2 ≤ _; omega
      case cd2 => exact HBb.out.size
      intro v16 w16 ho hg
      have hB := HBb.out.grown hg HBb.out.size (fun q hq => (World.ownsRow.lt HOm.out q hq).1)
      have HOq : Hid (OwnE w16 w14.heap.size v16 (ls ++ [⟨zzS, 4, ⟨#[]⟩⟩, ⟨zzzS, 2, ⟨#[]⟩⟩])) := ho
      obtain ⟨aHZ, gHZ, cHZ, rfl, haHZ, hEHZ, hcHZ⟩ := HOq.out.ents
      have HAHZ := hidR haHZ
      have HZ16 := hidR hEHZ
      have HB16 := hidR (tBelow HB14.out hB)
      have HG16 := hidR (HG14.out.below hB)
      have HX16 := hidR (HX14.out.below hB)
      have HY16 := hidR (HY14.out.below hB)
      clear ho hg hB HBm HOm HGm HOq haHZ hEHZ HB14 HBb HG14 HX14 HY14
      have HBa := hidR ((Below.refl w16.heap.size w16).alloc (Nat.le_refl _) (.cells #[] 35))
      have HGa := hidR (HG16.out.below HBa.out)
      go_wp2_with (first
        | (at_builtin; refine wpE_append rfl _ _ rfl w16.heap.size (.slice (some ⟨w16.heap.size, 0, none⟩) 0 0) [] rfl (OwnE.made w16 (Nat.le_refl _)) _ _ g3 o3 ls ls.length rfl rfl HA3.out HGa.out ?cc1 ?cc2 ?_)
        | fail)
      case cc1 => show 0 + _ ≤ _; omega
      case cc2 => exact HBa.out.size
      intro v17 w17 ho hg
      have HBm := hidR (HBa.out.grown hg HBa.out.size (fun q hq => (World.ownsRow.lt (OwnE.made w16 (base := w16.heap.size) (Nat.le_refl _)) q hq).1))
      have HOm : Hid (OwnE w17 w16.heap.size v17 ls) := ho
      have HGm := hidR (HG16.out.below HBm.out)
      clear ho hg HBa HGa
      go_wp2_with (first
        | (at_builtin; refine wpE_append rfl _ _ rfl w16.heap.size v17 ls rfl HOm.out _ _ g3 o3 ls ls.length rfl rfl HA3.out HGm.out ?cd1 ?cd2 ?_)
        | fail)
      case cd1 => omega
      case cd2 => exact HBm.out.size
      intro v18 w18 ho hg
      have hB := HBm.out.grown hg HBm.out.size (fun q hq => (World.ownsRow.lt HOm.out q hq).1)
      have HOq : Hid (OwnE w18 w16.heap.size v18 (ls ++ ls)) := ho
      obtain ⟨aHW, gHW, cHW, rfl, haHW, hEHW, hcHW⟩ := HOq.out.ents
      have HAHW := hidR haHW
      have HW18 := hidR hEHW
      have HB18 := hidR (tBelow HB16.out hB)
      have HG18 := hidR (HG16.out.below hB)
      have HX18 := hidR (HX16.out.below hB)
      have HY18 := hidR (HY16.out.below hB)
      have HZ18 := hidR (HZ16.out.below hB)
      clear ho hg hB HBm HOm HGm HOq haHW hEHW HB16 HG16 HX16 HY16 HZ16
      have hzx : ∀ (d1 d2 : Int), ∀ e ∈ ls ++ [⟨zzS, d1, ⟨#[]⟩⟩, ⟨zzzS, d2, ⟨#[]⟩⟩], e.p.size ≤ 16777216 ∧ e.x.size ≤ 16777216 := fun d1 d2 e he => by
        rcases List.mem_append.1 he with q | q
        · exact HZ0.out e q
        · rcases List.mem_cons.1 q with rfl | q
          · exact ⟨by show zzS.size ≤ 16777216; decide, Nat.zero_le _⟩
          · rw [List.mem_singleton.1 q]; exact ⟨by show zzzS.size ≤ 16777216; decide, Nat.zero_le _⟩
      have hl2 : ∀ (d1 d2 : Int), (ls ++ [(⟨zzS, d1, ⟨#[]⟩⟩ : E), ⟨zzzS, d2, ⟨#[]⟩⟩]).length = ls.length + 2 := fun _ _ => len2
      have HOX := hidR (fun (W : World) h => iLayerOk_any W aHX gHX 0 cHX (ls ++ [⟨zzS, 3, ⟨#[]⟩⟩, ⟨zzzS, 1, ⟨#[]⟩⟩]) (by rw [hl2]; omega) (hzx 3 1) HAHX.out h)
      have HOY := hidR (fun (W : World) h => iLayerOk_any W aHY gHY 0 cHY (ls ++ [⟨zzS, 4, ⟨#[]⟩⟩, ⟨zzzS, 3, ⟨#[]⟩⟩]) (by rw [hl2]; omega) (hzx 4 3) HAHY.out h)
      have HOZ := hidR (fun (W : World) h => iLayerOk_any W aHZ gHZ 0 cHZ (ls ++ [⟨zzS, 4, ⟨#[]⟩⟩, ⟨zzzS, 2, ⟨#[]⟩⟩]) (by rw [hl2]; omega) (hzx 4 2) HAHZ.out h)
      have HOW := hidR (fun (W : World) h => iLayerOk_any W aHW gHW 0 cHW (ls ++ ls) (by rw [List.length_append]; omega) (fun e he => HZ0.out e (by rcases List.mem_append.1 he with q | q <;> exact q)) HAHW.out h)
      have HSZ := hidR (fun (W : World) h1 h2 => iTreeSame_any W a3 g3 o3 c3 ls aHZ gHZ 0 cHZ (ls ++ [⟨zzS, 4, ⟨#[]⟩⟩, ⟨zzzS, 2, ⟨#[]⟩⟩]) (by omega) (by rw [hl2]; omega) HA3.out HAHZ.out h1 h2)
      rw [bentX HYs.out HS3.out] at HOX
      rw [bentY] at HOY
      rw [same_notB] at HSZ
      rw [hl2] at HOX HOY HOZ HSZ
      rw [List.length_append] at HOW
      clear hzx
      go_wp2_with fail
      refine (HOX.out _ HX18.out).mono ?_
      rintro e w19 ⟨rfl, hB⟩
      have HB19 := hidR (tBelow HB18.out hB)
      have HG19 := hidR (HG18.out.below hB)
      have HX19 := hidR (HX18.out.below hB)
      have HY19 := hidR (HY18.out.below hB)
      have HZ19 := hidR (HZ18.out.below hB)
      have HW19 := hidR (HW18.out.below hB)
      clear hB HB18 HG18 HX18 HY18 HZ18 HW18
      go_wp2_with fail
      refine (HOY.out _ HY19.out).mono ?_
      rintro e w20 ⟨rfl, hB⟩
      have HB20 := hidR (tBelow HB19.out hB)
      have HG20 := hidR (HG19.out.below hB)
      have HX20 := hidR (HX19.out.below hB)
      have HY20 := hidR (HY19.out.below hB)
      have HZ20 := hidR (HZ19.out.below hB)
      have HW20 := hidR (HW19.out.below hB)
      clear hB HB19 HG19 HX19 HY19 HZ19 HW19
      by_cases h32 : ls.length + 2 ≤ 32
      · have hz32 : Hid (True) := trivial
        rw [bentZ HYs.out HS3.out h32] at HOZ
        go_wp2_with fail
        refine (HOZ.out _ HZ20.out).mono ?_
        rintro e w21 ⟨rfl, hB⟩
        have HB21 := hidR (tBelow HB20.out hB)
        have HG21 := hidR (HG20.out.below hB)
        have HZ21 := hidR (HZ20.out.below hB)
        have HW21 := hidR (HW20.out.below hB)
        clear hB HB20 HG20 HZ20 HW20
        by_cases h0 : ls.length = 0
        · have h0' : ((ls.length : Int) == 0) = true := by rw [beq_iff_eq]; omega
          simp only [h0, Nat.zero_add] at HSZ
          go_wp2_with fail
          refine (HSZ.out _ HG21.out HZ21.out).mono ?_
          rintro e w22 ⟨rfl, hB⟩
          have HB22 := hidR (tBelow HB21.out hB)
          clear hB HB21 
          go_wp2
          go_ret
          exact ⟨rfl, HB22.out⟩
        · have h0' : ((ls.length : Int) == 0) = false := by rw [beq_eq_false_iff_ne]; omega
          rw [bentW HYs.out (by omega)] at HOW
          go_wp2_with fail
          refine (HOW.out _ HW21.out).mono ?_
          rintro e w22 ⟨rfl, hB⟩
          have HB22 := hidR (tBelow HB21.out hB)
          have HG22 := hidR (HG21.out.below hB)
          have HZ22 := hidR (HZ21.out.below hB)
          clear hB HB21 HG21 HZ21
          go_wp2_with fail
          refine (HSZ.out _ HG22.out HZ22.out).mono ?_
          rintro e w23 ⟨rfl, hB⟩
          have HB23 := hidR (tBelow HB22.out hB)
          clear hB HB22 
          go_wp2
          go_ret
          exact ⟨rfl, HB23.out⟩
      · have hz32 : Hid (True) := trivial
        obtain ⟨bz, hbz⟩ : ∃ bz, layB (ls ++ [⟨zzS, 4, ⟨#[]⟩⟩, ⟨zzzS, 2, ⟨#[]⟩⟩]) = bz := ⟨_, rfl⟩
        rw [hbz] at HOZ
        clear hbz
        have h33 : (32 : Int) < (ls.length : Int) + 2 := by omega
        have h34 : (32 : Int) < ((ls.length + 2 : Nat) : Int) := by omega
        go_wp2_with fail
        refine (HOZ.out _ HZ20.out).mono ?_
        rintro e w21 ⟨rfl, hB⟩
        have HB21 := hidR (tBelow HB20.out hB)
        have HG21 := hidR (HG20.out.below hB)
        have HZ21 := hidR (HZ20.out.below hB)
        have HW21 := hidR (HW20.out.below hB)
        clear hB HB20 HG20 HZ20 HW20
        cases bz
        · have hz33 : Hid (True) := trivial
          have h0' : ((ls.length : Int) == 0) = false := by rw [beq_eq_false_iff_ne]; omega
          rw [bentW HYs.out (by omega)] at HOW
          go_wp2_with fail
          refine (HOW.out _ HW21.out).mono ?_
          rintro e w22 ⟨rfl, hB⟩
          have HB22 := hidR (tBelow HB21.out hB)
          have HG22 := hidR (HG21.out.below hB)
          have HZ22 := hidR (HZ21.out.below hB)
          clear hB HB21 HG21 HZ21
          go_wp2_with fail
          refine (HSZ.out _ HG22.out HZ22.out).mono ?_
          rintro e w23 ⟨rfl, hB⟩
          have HB23 := hidR (tBelow HB22.out hB)
          clear hB HB22 
          go_wp2
          go_ret
          exact ⟨rfl, HB23.out⟩
        · have hz33 : Hid (True) := trivial
          have h0' : ((ls.length : Int) == 0) = false := by rw [beq_eq_false_iff_ne]; omega
          rw [bentW HYs.out (by omega)] at HOW
          go_wp2_with fail
          refine (HOW.out _ HW21.out).mono ?_
          rintro e w22 ⟨rfl, hB⟩
          have HB22 := hidR (tBelow HB21.out hB)
          have HG22 := hidR (HG21.out.below hB)
          have HZ22 := hidR (HZ21.out.below hB)
          clear hB HB21 HG21 HZ21
          go_wp2_with fail
          refine (HSZ.out _ HG22.out HZ22.out).mono ?_
          rintro e w23 ⟨rfl, hB⟩
          have HB23 := hidR (tBelow HB22.out hB)
          clear hB HB22 
          go_wp2
          go_ret
          exact ⟨rfl, HB23.out⟩
  · have hn : (1048576 : Int) < len := by omega
    go_enter Try.func4, Try.ntmps4
    go_wp2
    go_ret
    exact ⟨rfl, Below.refl _ _⟩
end Go.Proofs.Ytlgahgnjifhbhaa.Mk
