/-
  The walk of the law FnTreeBent, out of the contracts.
-/
import Derived.Lib.QuietBelow
import Derived.Test.YtbcogekeoklddaaDoorHDrawOks
import Derived.Test.YtbcogekeoklddaaDoorHDrawOpOk
import Derived.Test.YtbcogekeoklddaaDoorHBentP
import Derived.Test.YtbcogekeoklddaaDoorHImplOk
import Derived.Test.YtbcogekeoklddaaDoorHSameI
import Derived.Test.YtbcogekeoklddaaDoorHTreeSame
import Derived.Test.YtbcogekeoklddaaDoorHFitOp
import Derived.Test.YtbcogekeoklddaaDoorHPk05
namespace Go.Proofs.YtbcogekeoklddaaDoor
open Go.RowKit Go.Lib Go.Sort
attribute [local go_sem] eq_ent guard_ent

theorem ents_new2 (w : World) (f h : E) : Ents (w.alloc (.cells #[.string f.p, .bool f.d, .string f.x, .string h.p, .bool h.d, .string h.x] 31)) w.heap.size 0 [f, h] := by
  intro i hi
  have hc : i = 0 ∨ i = 1 := by simp at hi; omega
  rcases hc with rfl | rfl
  · exact ⟨by simp, by simp, by simp⟩
  · exact ⟨by simp, by simp, by simp⟩
set_option maxHeartbeats 4000000 in
set_option maxRecDepth 100000 in
theorem walk_fnTreeBent (ae : Int → Addr) (a : Option Addr) (len cap : Nat) (zs : List Int) (w : World) (hErr : Errs2 w ae) (hw : IsRow .u8 w a len cap zs) :
    Calls Tryd.prog 4 #[.slice a len cap] w fun e w' => e = .returned (.bool true) ∧ Below w.heap.size w w' := by
  have hC := hidR hw.cod
  have HEr := hidR hErr
  clear hw hErr
  by_cases hl : len ≤ 1048576
  · go_enter Tryd.func4, Tryd.ntmps4
    go_wp2_with fail
    refine (DrawTreeSame_any _ a len cap hl hC.out).mono ?_
    rintro e w1 ⟨v, v', es, fs, rfl, hL, hS, hL', hS', hB⟩
    obtain ⟨a1, g1, o1, c1, rfl, ha1, hE, hc1, -⟩ := hL
    obtain ⟨a2, g2, o2, c2, rfl, ha2, hF, hc2, -⟩ := hL'
    have HB := hidR hB
    replace HEr := hidR (HEr.out.below hB)
    replace hC := hidR (hC.out.below hB)
    have HE := hidR hE
    have HF := hidR hF
    have HA := hidR ha1
    have HA2 := hidR ha2
    have hlen : es.length ≤ 16 := hS.1
    have hlen2 : fs.length ≤ 20 := hS'.1
    clear hB hE hF ha1 ha2 hS hS'
    go_wp2_with fail
    refine (DrawTreeOk_Q _ a len cap hl hC.out).mono ?_
    rintro e w2 ⟨v, ts, rfl, hL, hS, hB⟩
    obtain ⟨a3, g3, o3, c3, rfl, ha3, hT, hc3, -⟩ := hL
    replace HB := hidR (B3' HB.out hB)
    replace HEr := hidR (HEr.out.below hB)
    replace hC := hidR (hC.out.below hB)
    replace HE := hidR (HE.out.below hB)
    replace HF := hidR (HF.out.below hB)
    have HT := hidR hT
    have HA3 := hidR ha3
    have hlen3 : ts.length ≤ 18 := hS.1
    have HNz : Hid (∀ e ∈ ts, nzz e.p = true) := fun e he => (hS.2 e he).1
    have HZ3 : Hid (∀ e ∈ ts, e.p.size ≤ 16777216 ∧ e.x.size ≤ 16777216) := fun e he => ⟨by have := ((smallQ_small hS).2 e he).1; omega, by have := (hS.2 e he).2; omega⟩
    clear hB hT ha3 hS
    go_wp2_with fail
    refine (DrawOpOk_any _ a len cap hl hC.out).mono ?_
    rintro e w3 ⟨k, p, t, x, rfl, zp, zt, zx, hB⟩
    replace HB := hidR (B3' HB.out hB)
    replace HEr := hidR (HEr.out.below hB)
    replace HE := hidR (HE.out.below hB)
    replace HF := hidR (HF.out.below hB)
    replace HT := hidR (HT.out.below hB)
    clear hB hC
    have hp : p.size ≤ 16777216 := by omega
    have ht : t.size ≤ 16777216 := by omega
    have hx : x.size ≤ 16777216 := by omega
    have HOp := hidR (fun (W : World) => iOpOk_any W k p t x hp ht)
    have HOs := hidR (fun (W : World) => sOpOk_any W k p t x hp ht hx)
    rw [fit_op] at HOp
    have HTi := hidR (fun (W : World) (hEr : Errs2 W ae) (hW : Ents W g3 o3 ts) => iTreeOk_any W a3 g3 o3 c3 ts ae hEr (by omega) HZ3.out HA3.out hW)
    have HTs := hidR (fun (W : World) (hW : Ents W g3 o3 ts) => sTreeOk_any W a3 g3 o3 c3 ts (by omega) hc3 HZ3.out HA3.out hW)
    have HT0 := hidR (fun (W : World) (hEr : Errs2 W ae) => iTreeOk_any W none 0 0 0 [] ae hEr (by decide) (fun e he => absurd he (by simp)) (fun h => absurd h (by simp)) (fun i hi => absurd hi (by simp)))
    rw [treeE_nil] at HT0
    have HS1 := hidR (fun (W : World) (h1 : Ents W g1 o1 es) (h2 : Ents W g2 o2 fs) => iTreeSame_any W a1 g1 o1 c1 es a2 g2 o2 c2 fs (by omega) (by omega) HA.out HA2.out h1 h2)
    have HS2 := hidR (fun (W : World) (h1 : Ents W g1 o1 es) (h2 : Ents W g2 o2 fs) => sTreeSame_any W a1 g1 o1 c1 es a2 g2 o2 c2 fs (by omega) (by omega) HA.out HA2.out h1 h2)
    have HS3 := hidR (fun (W : World) (h1 : Ents W g1 o1 es) (h2 : Ents W g2 o2 fs) => iTreeSame_any W a2 g2 o2 c2 fs a1 g1 o1 c1 es (by omega) (by omega) HA2.out HA.out h2 h1)
    have HS4 := hidR (fun (W : World) (h3 : Ents W g3 o3 ts) => iTreeSame_any W a3 g3 o3 c3 ts a3 g3 o3 c3 ts (by omega) (by omega) HA3.out HA3.out h3 h3)
    rw [sameT_comm fs es] at HS3
    rw [sameT_refl ts] at HS4
    obtain ⟨bs, hbs⟩ : ∃ bs, sameT es fs = bs := ⟨_, rfl⟩
    rw [hbs] at HS1 HS2 HS3
    obtain ⟨bo, hbo⟩ : ∃ bo, opB ⟨k, p, t, x⟩ = bo := ⟨_, rfl⟩
    rw [hbo] at HOp HOs
    obtain ⟨bt, hbt⟩ : ∃ bt, treeE ts = bt := ⟨_, rfl⟩
    rw [hbt] at HTi HTs
    have n1 : (bs != bs) = false := by simp
    have n2 : (bo != bo) = false := by simp
    have n3 : (bt != bt) = false := by simp
    clear hbs hbo
    obtain ⟨W3, hW3⟩ : ∃ W3, W3 = w3.alloc (.cells #[.int .i64 k, .string p, .string t, .string x] 38) := ⟨_, rfl⟩
    have HO : Hid (Bx W3 w3.heap.size k p t x) := by rw [hW3]; exact Bx.new w3 k p t x 38
    have hB : Below w3.heap.size w3 W3 := by rw [hW3]; exact (Below.refl _ w3).alloc (Nat.le_refl _) _
    replace HB := hidR (B3' HB.out hB)
    replace HEr := hidR (HEr.out.below hB)
    replace HE := hidR (HE.out.below hB)
    replace HF := hidR (HF.out.below hB)
    replace HT := hidR (HT.out.below hB)
    clear hB
    go_wp2
    rw [← hW3]
    clear hW3
    obtain ⟨b0, b1, b2, b3, -, -, -, -⟩ := HO.out
    have k0 := cell_regrown b0
    have k1 := cell_regrown b1
    have k2 := cell_regrown b2
    have k3 := cell_regrown b3
    have r0 := fun (d : Nat) (os : Array Obj) => Calls.regrown_of (HS1.out (grow (redrawn W3 d) os) (HE.out.below (below_regrown W3 d os)) (HF.out.below (below_regrown W3 d os)))
    have r1 := fun (d : Nat) (os : Array Obj) => Calls.regrown_of (HS2.out (grow (redrawn W3 d) os) (HE.out.below (below_regrown W3 d os)) (HF.out.below (below_regrown W3 d os)))
    have r2 := fun (d : Nat) (os : Array Obj) => Calls.regrown_of (HS3.out (grow (redrawn W3 d) os) (HE.out.below (below_regrown W3 d os)) (HF.out.below (below_regrown W3 d os)))
    have r3 := fun (d : Nat) (os : Array Obj) => Calls.regrown_of (HS4.out (grow (redrawn W3 d) os) (HT.out.below (below_regrown W3 d os)))
    have r4 := fun (d : Nat) (os : Array Obj) => Calls.regrown_of (HTi.out (grow (redrawn W3 d) os) (HEr.out.below (below_regrown W3 d os)) (HT.out.below (below_regrown W3 d os)))
    have r5 := fun (d : Nat) (os : Array Obj) => Calls.regrown_of (HTs.out (grow (redrawn W3 d) os) (HT.out.below (below_regrown W3 d os)))
    have r6 := fun (d : Nat) (os : Array Obj) => Calls.regrown_of (HOp.out (grow (redrawn W3 d) os))
    have r7 := fun (d : Nat) (os : Array Obj) => Calls.regrown_of (HOs.out (grow (redrawn W3 d) os))
    skip
    refine wp_region_quiet_below (by kernel_rfl) (by kernel_rfl) ?_
    repeat (go_big_quiet_step (first | exact r0 _ _ | exact r1 _ _ | exact r2 _ _ | exact r3 _ _ | exact r4 _ _ | exact r5 _ _ | exact r6 _ _ | exact r7 _ _))
    refine wpQuiet_nil ?_
    intro w4 hw'
    obtain ⟨⟨dq, osq⟩, hw''⟩ := hw'
    have hB : Below W3.heap.size W3 w4 := by rw [hw'']; exact below_regrown W3 dq osq
    clear hw'' r0 r1 r2 r3 r4 r5 r6 r7 k0 k1 k2 k3 b0 b1 b2 b3
    replace HB := hidR (B3' HB.out hB)
    replace HO := hidR (HO.out.bel hB)
    replace HEr := hidR (HEr.out.below hB)
    replace HT := hidR (HT.out.below hB)
    clear hB
    clear HE HF HS1 HS2 HS3 HS4 HOp HOs
    cases bt with
    | false =>
      obtain ⟨b0, b1, b2, b3, -, -, -, -⟩ := HO.out
      go_wp2_with fail
      refine (HTs.out _ HT.out).mono ?_
      rintro e w5 ⟨rfl, hB⟩
      clear b0 b1 b2 b3
      replace HB := hidR (B3' HB.out hB)
      replace HO := hidR (HO.out.bel hB)
      replace HEr := hidR (HEr.out.below hB)
      clear hB
      obtain ⟨b0, b1, b2, b3, -, -, -, -⟩ := HO.out
      go_wp2_with fail
      refine (HT0.out _ HEr.out).mono ?_
      rintro e w6 ⟨rfl, hB⟩
      clear b0 b1 b2 b3
      replace HB := hidR (B3' HB.out hB)
      replace HO := hidR (HO.out.bel hB)
      clear hB
      go_wp2
      go_ret
      exact ⟨rfl, HB.out⟩
    | true =>
      obtain ⟨b0, b1, b2, b3, -, -, -, -⟩ := HO.out
      go_wp2_with fail
      refine (HTs.out _ HT.out).mono ?_
      rintro e w5 ⟨rfl, hB⟩
      clear b0 b1 b2 b3
      replace HB := hidR (B3' HB.out hB)
      replace HO := hidR (HO.out.bel hB)
      replace HEr := hidR (HEr.out.below hB)
      replace HT := hidR (HT.out.below hB)
      clear hB
      obtain ⟨b0, b1, b2, b3, -, -, -, -⟩ := HO.out
      go_wp2_with fail
      refine (HT0.out _ HEr.out).mono ?_
      rintro e w6 ⟨rfl, hB⟩
      clear b0 b1 b2 b3
      replace HB := hidR (B3' HB.out hB)
      replace HO := hidR (HO.out.bel hB)
      replace HEr := hidR (HEr.out.below hB)
      replace HT := hidR (HT.out.below hB)
      clear hB
      have hA0 : Below w6.heap.size w6 (w6.alloc (.cells #[] 31)) := (Below.refl _ _).alloc (Nat.le_refl _) _
      have HTa := hidR (HT.out.below hA0)
      go_wp2_with (at_builtin; refine wpE_append rfl _ _ rfl w6.heap.size (.slice (some ⟨w6.heap.size, 0, none⟩) 0 0) [] rfl (OwnE.made w6 (Nat.le_refl _)) _ _ g3 o3 ts ts.length rfl rfl HA3.out HTa.out ?ca7 ?cb7 ?_)
      case ca7 => show 0 + _ ≤ _; omega
      case cb7 => exact hA0.size
      intro v7 w7 ho hg
      have hB1 : Below w6.heap.size w6 w7 := hA0.grown hg hA0.size (fun q hq => (World.ownsRow.lt (OwnE.made w6 (base := w6.heap.size) (Nat.le_refl _)) q hq).1)
      have HOa : Hid (OwnE w7 w6.heap.size v7 ts) := ho
      have HTb := hidR (HT.out.below hB1)
      clear ho hg hA0 HTa
      have hB2 : Below w6.heap.size w6 (w7.alloc (.cells #[.string ⟨#[47, 122, 122, 47, 122]⟩, .bool false, .string ⟨#[]⟩] 31)) := hB1.alloc hB1.size _
      go_wp2_with (at_builtin; refine wpE_append rfl _ _ rfl w6.heap.size v7 ts rfl (World.ownsRow.alloc HOa.out _) _ _ w7.heap.size 0 [⟨⟨#[47, 122, 122, 47, 122]⟩, false, ⟨#[]⟩⟩] 1 rfl rfl (fun _ => rfl) (ents_new _ ⟨⟨#[47, 122, 122, 47, 122]⟩, false, ⟨#[]⟩⟩) ?ca8 ?cb8 ?_)
      case ca8 => simp; omega
      case cb8 => exact hB2.size
      intro v8 w8 ho hg
      have hB : Below w6.heap.size w6 w8 := hB2.grown hg hB2.size (fun q hq => (World.ownsRow.lt HOa.out q hq).1)
      have HLx : Hid (OwnE w8 w6.heap.size v8 (ts ++ [⟨⟨#[47, 122, 122, 47, 122]⟩, false, ⟨#[]⟩⟩])) := ho
      clear hB2
      obtain ⟨lx, hlx⟩ : ∃ lx, ts ++ [⟨⟨#[47, 122, 122, 47, 122]⟩, false, ⟨#[]⟩⟩] = lx := ⟨_, rfl⟩
      have HQx := hidR hlx
      rw [hlx] at HLx
      clear hlx
      replace HB := hidR (B3' HB.out hB)
      replace HO := hidR (HO.out.bel hB)
      replace HEr := hidR (HEr.out.below hB)
      replace HT := hidR (HT.out.below hB)
      clear ho hg hB1 HOa HTb hB
      have hA0 : Below w8.heap.size w8 (w8.alloc (.cells #[] 31)) := (Below.refl _ _).alloc (Nat.le_refl _) _
      have HTa := hidR (HT.out.below hA0)
      go_wp2_with (at_builtin; refine wpE_append rfl _ _ rfl w8.heap.size (.slice (some ⟨w8.heap.size, 0, none⟩) 0 0) [] rfl (OwnE.made w8 (Nat.le_refl _)) _ _ g3 o3 ts ts.length rfl rfl HA3.out HTa.out ?ca9 ?cb9 ?_)
      case ca9 => show 0 + _ ≤ _; omega
      case cb9 => exact hA0.size
      intro v9 w9 ho hg
      have hB1 : Below w8.heap.size w8 w9 := hA0.grown hg hA0.size (fun q hq => (World.ownsRow.lt (OwnE.made w8 (base := w8.heap.size) (Nat.le_refl _)) q hq).1)
      have HOa : Hid (OwnE w9 w8.heap.size v9 ts) := ho
      have HTb := hidR (HT.out.below hB1)
      clear ho hg hA0 HTa
      have hB2 : Below w8.heap.size w8 (w9.alloc (.cells #[.string ⟨#[47, 122, 122, 122]⟩, .bool true, .string ⟨#[120]⟩] 31)) := hB1.alloc hB1.size _
      go_wp2_with (at_builtin; refine wpE_append rfl _ _ rfl w8.heap.size v9 ts rfl (World.ownsRow.alloc HOa.out _) _ _ w9.heap.size 0 [⟨⟨#[47, 122, 122, 122]⟩, true, ⟨#[120]⟩⟩] 1 rfl rfl (fun _ => rfl) (ents_new _ ⟨⟨#[47, 122, 122, 122]⟩, true, ⟨#[120]⟩⟩) ?ca10 ?cb10 ?_)
      case ca10 => simp; omega
      case cb10 => exact hB2.size
      intro v10 w10 ho hg
      have hB : Below w8.heap.size w8 w10 := hB2.grown hg hB2.size (fun q hq => (World.ownsRow.lt HOa.out q hq).1)
      have HLy : Hid (OwnE w10 w8.heap.size v10 (ts ++ [⟨⟨#[47, 122, 122, 122]⟩, true, ⟨#[120]⟩⟩])) := ho
      clear hB2
      obtain ⟨ly, hly⟩ : ∃ ly, ts ++ [⟨⟨#[47, 122, 122, 122]⟩, true, ⟨#[120]⟩⟩] = ly := ⟨_, rfl⟩
      have HQy := hidR hly
      rw [hly] at HLy
      clear hly
      replace HB := hidR (B3' HB.out hB)
      replace HO := hidR (HO.out.bel hB)
      replace HEr := hidR (HEr.out.below hB)
      replace HT := hidR (HT.out.below hB)
      replace HLx := hidR (HLx.out.below hB)
      clear ho hg hB1 HOa HTb hB
      have hA0 : Below w10.heap.size w10 (w10.alloc (.cells #[] 31)) := (Below.refl _ _).alloc (Nat.le_refl _) _
      have HTa := hidR (HT.out.below hA0)
      go_wp2_with (at_builtin; refine wpE_append rfl _ _ rfl w10.heap.size (.slice (some ⟨w10.heap.size, 0, none⟩) 0 0) [] rfl (OwnE.made w10 (Nat.le_refl _)) _ _ g3 o3 ts ts.length rfl rfl HA3.out HTa.out ?ca11 ?cb11 ?_)
      case ca11 => show 0 + _ ≤ _; omega
      case cb11 => exact hA0.size
      intro v11 w11 ho hg
      have hB1 : Below w10.heap.size w10 w11 := hA0.grown hg hA0.size (fun q hq => (World.ownsRow.lt (OwnE.made w10 (base := w10.heap.size) (Nat.le_refl _)) q hq).1)
      have HOa : Hid (OwnE w11 w10.heap.size v11 ts) := ho
      have HTb := hidR (HT.out.below hB1)
      clear ho hg hA0 HTa
      have hB2 : Below w10.heap.size w10 (w11.alloc (.cells #[.string ⟨#[47, 122, 122]⟩, .bool false, .string ⟨#[]⟩, .string ⟨#[47, 122, 122, 47, 122]⟩, .bool false, .string ⟨#[]⟩] 31)) := hB1.alloc hB1.size _
      go_wp2_with (at_builtin; refine wpE_append rfl _ _ rfl w10.heap.size v11 ts rfl (World.ownsRow.alloc HOa.out _) _ _ w11.heap.size 0 [⟨⟨#[47, 122, 122]⟩, false, ⟨#[]⟩⟩, ⟨⟨#[47, 122, 122, 47, 122]⟩, false, ⟨#[]⟩⟩] 2 rfl rfl (fun _ => rfl) (ents_new2 _ ⟨⟨#[47, 122, 122]⟩, false, ⟨#[]⟩⟩ ⟨⟨#[47, 122, 122, 47, 122]⟩, false, ⟨#[]⟩⟩) ?ca12 ?cb12 ?_)
      case ca12 => simp; omega
      case cb12 => exact hB2.size
      intro v12 w12 ho hg
      have hB : Below w10.heap.size w10 w12 := hB2.grown hg hB2.size (fun q hq => (World.ownsRow.lt HOa.out q hq).1)
      have HLz : Hid (OwnE w12 w10.heap.size v12 (ts ++ [⟨⟨#[47, 122, 122]⟩, false, ⟨#[]⟩⟩, ⟨⟨#[47, 122, 122, 47, 122]⟩, false, ⟨#[]⟩⟩])) := ho
      clear hB2
      obtain ⟨lz, hlz⟩ : ∃ lz, ts ++ [⟨⟨#[47, 122, 122]⟩, false, ⟨#[]⟩⟩, ⟨⟨#[47, 122, 122, 47, 122]⟩, false, ⟨#[]⟩⟩] = lz := ⟨_, rfl⟩
      have HQz := hidR hlz
      rw [hlz] at HLz
      clear hlz
      replace HB := hidR (B3' HB.out hB)
      replace HO := hidR (HO.out.bel hB)
      replace HEr := hidR (HEr.out.below hB)
      replace HT := hidR (HT.out.below hB)
      replace HLx := hidR (HLx.out.below hB)
      replace HLy := hidR (HLy.out.below hB)
      clear ho hg hB1 HOa HTb hB
      have hA0 : Below w12.heap.size w12 (w12.alloc (.cells #[] 31)) := (Below.refl _ _).alloc (Nat.le_refl _) _
      have HTa := hidR (HT.out.below hA0)
      go_wp2_with (at_builtin; refine wpE_append rfl _ _ rfl w12.heap.size (.slice (some ⟨w12.heap.size, 0, none⟩) 0 0) [] rfl (OwnE.made w12 (Nat.le_refl _)) _ _ g3 o3 ts ts.length rfl rfl HA3.out HTa.out ?ca13 ?cb13 ?_)
      case ca13 => show 0 + _ ≤ _; omega
      case cb13 => exact hA0.size
      intro v13 w13 ho hg
      have hB1 : Below w12.heap.size w12 w13 := hA0.grown hg hA0.size (fun q hq => (World.ownsRow.lt (OwnE.made w12 (base := w12.heap.size) (Nat.le_refl _)) q hq).1)
      have HOa : Hid (OwnE w13 w12.heap.size v13 ts) := ho
      have HTb := hidR (HT.out.below hB1)
      clear ho hg hA0 HTa
      go_wp2_with (at_builtin; refine wpE_append rfl _ _ rfl w12.heap.size v13 ts rfl HOa.out _ _ g3 o3 ts ts.length rfl rfl HA3.out HTb.out ?ca14 ?cb14 ?_)
      case ca14 => omega
      case cb14 => exact hB1.size
      intro v14 w14 ho hg
      have hB : Below w12.heap.size w12 w14 := hB1.grown hg hB1.size (fun q hq => (World.ownsRow.lt HOa.out q hq).1)
      have HLw : Hid (OwnE w14 w12.heap.size v14 (ts ++ ts)) := ho
      obtain ⟨lw, hlw⟩ : ∃ lw, ts ++ ts = lw := ⟨_, rfl⟩
      have HQw := hidR hlw
      rw [hlw] at HLw
      clear hlw
      replace HB := hidR (B3' HB.out hB)
      replace HO := hidR (HO.out.bel hB)
      replace HEr := hidR (HEr.out.below hB)
      replace HT := hidR (HT.out.below hB)
      replace HLx := hidR (HLx.out.below hB)
      replace HLy := hidR (HLy.out.below hB)
      replace HLz := hidR (HLz.out.below hB)
      clear ho hg hB1 HOa HTb hB
      obtain ⟨ax, gx, cx, rfl, hax, hEx, -, -⟩ := HLx.out.at
      have HEx := hidR hEx
      have HAx := hidR hax
      clear hax hEx HLx
      obtain ⟨ay, gy, cy, rfl, hay, hEy, -, -⟩ := HLy.out.at
      have HEy := hidR hEy
      have HAy := hidR hay
      clear hay hEy HLy
      obtain ⟨az, gz, cz, rfl, haz, hEz, -, -⟩ := HLz.out.at
      have HEz := hidR hEz
      have HAz := hidR haz
      clear haz hEz HLz
      obtain ⟨aw, gw, cw, rfl, haw, hEw, -, -⟩ := HLw.out.at
      have HEw := hidR hEw
      have HAw := hidR haw
      clear haw hEw HLw
      have HZx : Hid (∀ e ∈ ts ++ [⟨⟨#[47, 122, 122, 47, 122]⟩, false, ⟨#[]⟩⟩], e.p.size ≤ 16777216 ∧ e.x.size ≤ 16777216) := fun e he => by
        rcases List.mem_append.1 he with q | q
        · exact HZ3.out e q
        · rw [List.mem_singleton.1 q]; decide
      have HZy : Hid (∀ e ∈ ts ++ [⟨⟨#[47, 122, 122, 122]⟩, true, ⟨#[120]⟩⟩], e.p.size ≤ 16777216 ∧ e.x.size ≤ 16777216) := fun e he => by
        rcases List.mem_append.1 he with q | q
        · exact HZ3.out e q
        · rw [List.mem_singleton.1 q]; decide
      have HZz : Hid (∀ e ∈ ts ++ [⟨⟨#[47, 122, 122]⟩, false, ⟨#[]⟩⟩, ⟨⟨#[47, 122, 122, 47, 122]⟩, false, ⟨#[]⟩⟩], e.p.size ≤ 16777216 ∧ e.x.size ≤ 16777216) := fun e he => by
        rcases List.mem_append.1 he with q | q
        · exact HZ3.out e q
        · rcases List.mem_cons.1 q with r | r
          · rw [r]; decide
          · rw [List.mem_singleton.1 r]; decide
      have HZw : Hid (∀ e ∈ ts ++ ts, e.p.size ≤ 16777216 ∧ e.x.size ≤ 16777216) := fun e he => by
        rcases List.mem_append.1 he with q | q
        · exact HZ3.out e q
        · exact HZ3.out e q
      have hlx : lx.length ≤ 19 := by rw [← HQx.out, List.length_append]; simp; omega
      rw [HQx.out] at HZx
      have HKx := hidR (fun (W : World) (hEr : Errs2 W ae) (hW : Ents W gx 0 lx) => iTreeOk_any W ax gx 0 cx lx ae hEr (by omega) HZx.out HAx.out hW)
      have hly : ly.length ≤ 19 := by rw [← HQy.out, List.length_append]; simp; omega
      rw [HQy.out] at HZy
      have HKy := hidR (fun (W : World) (hEr : Errs2 W ae) (hW : Ents W gy 0 ly) => iTreeOk_any W ay gy 0 cy ly ae hEr (by omega) HZy.out HAy.out hW)
      have hlz : lz.length ≤ 20 := by rw [← HQz.out, List.length_append]; simp; omega
      rw [HQz.out] at HZz
      have HKz := hidR (fun (W : World) (hEr : Errs2 W ae) (hW : Ents W gz 0 lz) => iTreeOk_any W az gz 0 cz lz ae hEr (by omega) HZz.out HAz.out hW)
      have hlw : lw.length ≤ 36 := by rw [← HQw.out, List.length_append]; omega
      rw [HQw.out] at HZw
      have HKw := hidR (fun (W : World) (hEr : Errs2 W ae) (hW : Ents W gw 0 lw) => iTreeOk_any W aw gw 0 cw lw ae hEr (by omega) HZw.out HAw.out hW)
      have tx := bent_x HNz.out
      have ty := bent_y ts
      have tz := bent_z HNz.out
      rw [HQx.out] at tx
      rw [HQy.out] at ty
      rw [HQz.out] at tz
      rw [tx] at HKx
      rw [ty] at HKy
      rw [tz] at HKz
      clear tx ty tz
      by_cases h0 : ts.length = 0
      · have h0' : ((ts.length : Int) == 0) = true := by rw [beq_iff_eq]; omega
        obtain ⟨b0, b1, b2, b3, -, -, -, -⟩ := HO.out
        go_wp2_with fail
        refine (HKx.out _ HEr.out HEx.out).mono ?_
        rintro e w15 ⟨rfl, hB⟩
        clear b0 b1 b2 b3
        replace HB := hidR (B3' HB.out hB)
        replace HO := hidR (HO.out.bel hB)
        replace HEr := hidR (HEr.out.below hB)
        replace HEx := hidR (HEx.out.below hB)
        replace HEy := hidR (HEy.out.below hB)
        replace HEz := hidR (HEz.out.below hB)
        replace HEw := hidR (HEw.out.below hB)
        clear hB
        obtain ⟨b0, b1, b2, b3, -, -, -, -⟩ := HO.out
        go_wp2_with fail
        refine (HKy.out _ HEr.out HEy.out).mono ?_
        rintro e w16 ⟨rfl, hB⟩
        clear b0 b1 b2 b3
        replace HB := hidR (B3' HB.out hB)
        replace HO := hidR (HO.out.bel hB)
        replace HEr := hidR (HEr.out.below hB)
        replace HEx := hidR (HEx.out.below hB)
        replace HEy := hidR (HEy.out.below hB)
        replace HEz := hidR (HEz.out.below hB)
        replace HEw := hidR (HEw.out.below hB)
        clear hB
        obtain ⟨b0, b1, b2, b3, -, -, -, -⟩ := HO.out
        go_wp2_with fail
        refine (HKz.out _ HEr.out HEz.out).mono ?_
        rintro e w17 ⟨rfl, hB⟩
        clear b0 b1 b2 b3
        replace HB := hidR (B3' HB.out hB)
        replace HO := hidR (HO.out.bel hB)
        replace HEr := hidR (HEr.out.below hB)
        replace HEx := hidR (HEx.out.below hB)
        replace HEy := hidR (HEy.out.below hB)
        replace HEz := hidR (HEz.out.below hB)
        replace HEw := hidR (HEw.out.below hB)
        clear hB
        go_wp2
        go_ret
        exact ⟨rfl, HB.out⟩
      · have h0' : ((ts.length : Int) == 0) = false := by rw [beq_eq_false_iff_ne]; omega
        have tw := bent_w (es := ts) (by omega)
        rw [HQw.out] at tw
        rw [tw] at HKw
        clear tw
        obtain ⟨b0, b1, b2, b3, -, -, -, -⟩ := HO.out
        go_wp2_with fail
        refine (HKx.out _ HEr.out HEx.out).mono ?_
        rintro e w15 ⟨rfl, hB⟩
        clear b0 b1 b2 b3
        replace HB := hidR (B3' HB.out hB)
        replace HO := hidR (HO.out.bel hB)
        replace HEr := hidR (HEr.out.below hB)
        replace HEx := hidR (HEx.out.below hB)
        replace HEy := hidR (HEy.out.below hB)
        replace HEz := hidR (HEz.out.below hB)
        replace HEw := hidR (HEw.out.below hB)
        clear hB
        obtain ⟨b0, b1, b2, b3, -, -, -, -⟩ := HO.out
        go_wp2_with fail
        refine (HKy.out _ HEr.out HEy.out).mono ?_
        rintro e w16 ⟨rfl, hB⟩
        clear b0 b1 b2 b3
        replace HB := hidR (B3' HB.out hB)
        replace HO := hidR (HO.out.bel hB)
        replace HEr := hidR (HEr.out.below hB)
        replace HEx := hidR (HEx.out.below hB)
        replace HEy := hidR (HEy.out.below hB)
        replace HEz := hidR (HEz.out.below hB)
        replace HEw := hidR (HEw.out.below hB)
        clear hB
        obtain ⟨b0, b1, b2, b3, -, -, -, -⟩ := HO.out
        go_wp2_with fail
        refine (HKz.out _ HEr.out HEz.out).mono ?_
        rintro e w17 ⟨rfl, hB⟩
        clear b0 b1 b2 b3
        replace HB := hidR (B3' HB.out hB)
        replace HO := hidR (HO.out.bel hB)
        replace HEr := hidR (HEr.out.below hB)
        replace HEx := hidR (HEx.out.below hB)
        replace HEy := hidR (HEy.out.below hB)
        replace HEz := hidR (HEz.out.below hB)
        replace HEw := hidR (HEw.out.below hB)
        clear hB
        obtain ⟨b0, b1, b2, b3, -, -, -, -⟩ := HO.out
        go_wp2_with fail
        refine (HKw.out _ HEr.out HEw.out).mono ?_
        rintro e w18 ⟨rfl, hB⟩
        clear b0 b1 b2 b3
        replace HB := hidR (B3' HB.out hB)
        replace HO := hidR (HO.out.bel hB)
        clear hB
        go_wp2
        go_ret
        exact ⟨rfl, HB.out⟩
  · go_enter Tryd.func4, Tryd.ntmps4
    go_wp2
    go_ret
    exact ⟨rfl, Below.refl _ _⟩
end Go.Proofs.YtbcogekeoklddaaDoor
