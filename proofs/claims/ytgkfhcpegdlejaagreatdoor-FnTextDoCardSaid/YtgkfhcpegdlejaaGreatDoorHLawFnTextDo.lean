/-
  The walk of the law FnTextDo, out of the contracts.
-/
import Derived.Lib.QuietBelow
import Derived.Test.YtgkfhcpegdlejaaGreatDoorHPk30
import Derived.Test.YtgkfhcpegdlejaaGreatDoorHPk29
import Derived.Test.YtgkfhcpegdlejaaGreatDoorHTreeDoI
import Derived.Test.YtgkfhcpegdlejaaGreatDoorHPk22
import Derived.Test.YtgkfhcpegdlejaaGreatDoorHTxOp
import Derived.Test.YtgkfhcpegdlejaaGreatDoorHPk40
import Derived.Test.YtgkfhcpegdlejaaGreatDoorHPk26
import Derived.Test.YtgkfhcpegdlejaaGreatDoorHPk02
namespace Go.Proofs.YtgkfhcpegdlejaaGreatDoor
open Go.RowKit Go.Lib Go.Sort

theorem B3D {a b c : World} (h : Below a.heap.size a b) (k : Below b.heap.size b c) : Below a.heap.size a c := h.trans (k.mono h.size)
theorem OpTab.wordsD {w : World} (h : OpTab w) : OpWords w := ⟨h.c1, h.c2, h.c3, h.c4, h.c5⟩
/-- A box of what is done, read from behind. -/
theorem boxD {w w' : World} {o : O} (h : Below (w.alloc (.cells #[.int .i64 o.k, .string o.p, .string o.t, .string o.x] 37)).heap.size (w.alloc (.cells #[.int .i64 o.k, .string o.p, .string o.t, .string o.x] 37)) w') :
    w'.cell? ⟨w.heap.size, 0, none⟩ = some (.int .i64 o.k) ∧ w'.cell? ⟨w.heap.size, 1, none⟩ = some (.string o.p) ∧ w'.cell? ⟨w.heap.size, 2, none⟩ = some (.string o.t) ∧ w'.cell? ⟨w.heap.size, 3, none⟩ = some (.string o.x) := box4t h

set_option maxHeartbeats 4800000 in
set_option maxRecDepth 100000 in
theorem walk_fnTextDo (ae : Int → Addr) (a : Option Addr) (len cap : Nat) (zs : List Int) (w : World) (hErr : Errs8 w ae) (hWo : MarkTab w ∧ OpTab w) (hw : IsRow .u8 w a len cap zs) :
    Calls Tryz.prog 4 #[.slice a len cap] w fun r w' => r = .returned (.bool true) ∧ Below w.heap.size w w' := by
  have HC := hidR hw.cod
  have HV := hidR hWo.1
  have HW := hidR hWo.2
  have HE := hidR hErr
  clear hw hWo hErr
  by_cases hl : len ≤ 1048576
  · go_enter Tryz.func4, Tryz.ntmps4
    go_wp2_with fail
    refine (DrawTreeDo_any _ a len cap hl HC.out).mono ?_
    rintro e w1 ⟨v, es, k, p, t, x, rfl, hL, hS, hp, hto, hx, hB1⟩
    obtain ⟨a1, g1, o1, c1, rfl, ha1, hE1, hc1, -⟩ := hL
    have ht := okS_size hto
    have HB1 := hidR hB1
    have HM := hidR (fun (W : World) (hb : Below w1.heap.size w1 W) => (HV.out.below hB1).below hb)
    have HO := hidR (fun (W : World) (hb : Below w1.heap.size w1 W) => (HW.out.below hB1).below hb)
    have HEr := hidR (fun (W : World) (hb : Below w1.heap.size w1 W) => (HE.out.below hB1).below hb)
    have HE1 := hidR (fun (W : World) (hb : Below w1.heap.size w1 W) => hE1.below hb)
    have hsz := tree_le16 hS
    have hsy := op_le16 (k := k) hp ht hx
    have hlen := hS.1
    have hze : ∀ e ∈ es, e.p.size ≤ 16777216 ∧ e.x.size ≤ 16777216 := fun e he => ⟨by have := (hS.2 e he).1; omega, by have := (hS.2 e he).2; omega⟩
    have hp2 : p.size ≤ 16777216 := by omega
    have ht2 : t.size ≤ 16777216 := by omega
    have hx2 : x.size ≤ 16777216 := by omega
    have HT := hidR (fun (W : World) (hb : Below w1.heap.size w1 W) => iText_any W a1 g1 o1 c1 es ae (HEr.out W hb).two (HM.out W hb).words (by omega) hze ha1 (HE1.out W hb))
    have HsT := hidR (fun (W : World) (hb : Below w1.heap.size w1 W) => sText_any W a1 g1 o1 c1 es (by omega) hc1 hze ha1 (HE1.out W hb))
    have HsK := hidR (fun (W : World) (hb : Below w1.heap.size w1 W) => sTreeOk_any W a1 g1 o1 c1 es (by omega) hc1 hze ha1 (HE1.out W hb))
    have HY := hidR (fun (W : World) (hb : Below w1.heap.size w1 W) => iOpText_any k p t x W (HO.out W hb).wordsD hp2 ht2 hx2)
    have HsY := hidR (fun (W : World) => sOpText_any k p t x W hp2 ht2 hx2)
    have HsQ := hidR (fun (W : World) => sOpOk_any W k p t x hp2 ht2 hx2)
    have HD := hidR (fun (W : World) (hb : Below w1.heap.size w1 W) => sTreeDo_any W a1 g1 o1 c1 es k p t x (by omega) hc1 hp2 ht2 hx2 hze ha1 (HE1.out W hb))
    have HI := hidR (fun (W : World) (hb : Below w1.heap.size w1 W) (a' : Option Addr) (g' cap' : Nat) (ha' : 0 < es.length → a' = some ⟨g', 0, none⟩) (hF : Ents W g' 0 es) => iTreeDo_any W a' g' 0 cap' es k p t x ae (HEr.out W hb) (by omega) hp2 ht2 hx2 hze ha' hF)
    have HDz := hidR (do_lens es k p t x)
    have HP := hidR (fun (W : World) (hb : Below (w1.alloc (.cells #[.int .i64 k, .string p, .string t, .string x] 37)).heap.size (w1.alloc (.cells #[.int .i64 k, .string p, .string t, .string x] 37)) W) => boxD (o := ⟨k, p, t, x⟩) hb)
    have HB := hidR ((Below.refl _ w1).alloc (Nat.le_refl _) (.cells #[.int .i64 k, .string p, .string t, .string x] 37))
    have HJ := hidR (Below.refl (w1.alloc (.cells #[.int .i64 k, .string p, .string t, .string x] 37)).heap.size (w1.alloc (.cells #[.int .i64 k, .string p, .string t, .string x] 37)))
    have HbT := hidR (fun h => tree_back (es := es) h)
    have HbO := hidR (fun h => (prog_op (opT ⟨k, p, t, x⟩) ⟨k, p, t, x⟩).2 ⟨h, rfl⟩)
    obtain ⟨te, hte⟩ : ∃ y, treeE es = y := ⟨_, rfl⟩
    obtain ⟨ob, hob⟩ : ∃ y, opB ⟨k, p, t, x⟩ = y := ⟨_, rfl⟩
    obtain ⟨S, hS1⟩ : ∃ y, treeT es = y := ⟨_, rfl⟩
    obtain ⟨U, hU⟩ : ∃ y, opT ⟨k, p, t, x⟩ = y := ⟨_, rfl⟩
    rw [hte, hS1] at HbT
    rw [hob, hU] at HbO
    rw [hS1] at HT HsT hsz
    rw [hU] at HY HsY hsy
    rw [hte] at HsK
    rw [hob] at HsQ
    clear hte hob hS1 hU hB1 hS hze hp hx ht hto HC HV HW HE hE1
    go_wp2_with fail
    refine (HT.out _ HB.out).mono ?_
    rintro r w2 ⟨rfl, hB⟩
    have HB2 := hidR (B3D HB.out hB)
    have HJ2' := hidR (B3D HJ.out hB)
    clear hB
    obtain ⟨q0, q1, q2, q3⟩ := HP.out _ HJ2'.out
    go_wp2_with fail
    refine (HY.out _ HB2.out).mono ?_
    rintro r w3 ⟨rfl, hB⟩
    have HB3 := hidR (B3D HB2.out hB)
    have HJ3' := hidR (B3D HJ2'.out hB)
    clear hB q0 q1 q2 q3
    go_wp2_with fail
    refine (HsT.out _ HB3.out).mono ?_
    rintro r w4 ⟨rfl, hB⟩
    have HB4 := hidR (B3D HB3.out hB)
    have HJ4' := hidR (B3D HJ3'.out hB)
    clear hB
    obtain ⟨q0, q1, q2, q3⟩ := HP.out _ HJ4'.out
    go_wp2_with fail
    refine (HsY.out _).mono ?_
    rintro r w5 ⟨rfl, hB⟩
    have HB5 := hidR (B3D HB4.out hB)
    have HJ5' := hidR (B3D HJ4'.out hB)
    clear hB q0 q1 q2 q3
    go_wp2_with fail
    refine (HsK.out _ HB5.out).mono ?_
    rintro r w6 ⟨rfl, hB⟩
    have HB6 := hidR (B3D HB5.out hB)
    have HJ6' := hidR (B3D HJ5'.out hB)
    clear hB
    cases te with
    | false =>
      go_wp2_with fail
      refine (HsT.out _ HB6.out).mono ?_
      rintro r w7 ⟨rfl, hB⟩
      have HB7 := hidR (B3D HB6.out hB)
      have HJ7' := hidR (B3D HJ6'.out hB)
      clear hB
      obtain ⟨q0, q1, q2, q3⟩ := HP.out _ HJ7'.out
      go_wp2_with fail
      refine (HsY.out _).mono ?_
      rintro r w8 ⟨rfl, hB⟩
      have HB8 := hidR (B3D HB7.out hB)
      have HJ8' := hidR (B3D HJ7'.out hB)
      clear hB q0 q1 q2 q3
      go_wp2
      go_ret
      exact ⟨by simp, B3D HB1.out HB8.out⟩
    | true =>
      obtain ⟨q0, q1, q2, q3⟩ := HP.out _ HJ6'.out
      go_wp2_with fail
      refine (HsQ.out _).mono ?_
      rintro r w7 ⟨rfl, hB⟩
      have HB7 := hidR (B3D HB6.out hB)
      have HJ7' := hidR (B3D HJ6'.out hB)
      clear hB q0 q1 q2 q3
      cases ob with
      | false =>
        go_wp2_with fail
        refine (HsT.out _ HB7.out).mono ?_
        rintro r w8 ⟨rfl, hB⟩
        have HB8 := hidR (B3D HB7.out hB)
        have HJ8' := hidR (B3D HJ7'.out hB)
        clear hB
        obtain ⟨q0, q1, q2, q3⟩ := HP.out _ HJ8'.out
        go_wp2_with fail
        refine (HsY.out _).mono ?_
        rintro r w9 ⟨rfl, hB⟩
        have HB9 := hidR (B3D HB8.out hB)
        have HJ9' := hidR (B3D HJ8'.out hB)
        clear hB q0 q1 q2 q3
        go_wp2
        go_ret
        exact ⟨by simp, B3D HB1.out HB9.out⟩
      | true =>
        have hbT := HbT.out (by simp)
        have hbO := HbO.out (by simp)
        have HR := hidR (fun (W : World) (hb : Below w1.heap.size w1 W) => iTreeRead_any S (by omega) W ae (HEr.out W hb).two (HM.out W hb))
        have HQ := hidR (fun (W : World) (hb : Below w1.heap.size w1 W) => iOpRead_any U (by omega) W (HO.out W hb))
        rw [hbT] at HR
        rw [hbO] at HQ
        change Hid (∀ (W : World) (hb : Below w1.heap.size w1 W), Calls _ _ _ W fun r w' => r = .returned (.tuple #[.agg #[.int .i64 k, .string p, .string t, .string x], .bool true]) ∧ Below W.heap.size W w') at HQ
        clear hbT hbO HbT HbO
        go_wp2_with fail
        refine (HR.out _ HB7.out).mono ?_
        rintro r w8 ⟨vx, rfl, hox, hB⟩
        have HB8 := hidR (B3D HB7.out hB)
        have HJ8' := hidR (B3D HJ7'.out hB)
        obtain ⟨ax, gx, cx, rfl, hax, hEx, hcx⟩ := OwnE.ents hox
        have HX := hidR (fun (W : World) (hb : Below w8.heap.size w8 W) => hEx.below hb)
        clear hox hEx
        clear hB
        go_wp2_with fail
        refine (HQ.out _ HB8.out).mono ?_
        rintro r w9 ⟨rfl, hB⟩
        have HB9 := hidR (B3D HB8.out hB)
        have HJ9' := hidR (B3D HJ8'.out hB)
        have HK := hidR hB
        clear hB
        replace HB9 := hidR (HB9.out.alloc HB9.out.size (.cells #[.int .i64 k, .string p, .string t, .string x] 37))
        replace HJ9' := hidR (HJ9'.out.alloc HJ9'.out.size (.cells #[.int .i64 k, .string p, .string t, .string x] 37))
        replace HK := hidR (HK.out.alloc HK.out.size (.cells #[.int .i64 k, .string p, .string t, .string x] 37))
        have HP2 := hidR (fun (W : World) (hb : Below (w9.alloc (.cells #[.int .i64 k, .string p, .string t, .string x] 37)).heap.size (w9.alloc (.cells #[.int .i64 k, .string p, .string t, .string x] 37)) W) => boxD (o := ⟨k, p, t, x⟩) hb)
        have hDz := HDz.out
        obtain ⟨ds, hds⟩ : ∃ y, doE es ⟨k, p, t, x⟩ = y := ⟨_, rfl⟩
        obtain ⟨cc, hcc⟩ : ∃ y, doC es ⟨k, p, t, x⟩ = y := ⟨_, rfl⟩
        rw [hds, hcc] at HD HI
        rw [hds] at hDz
        clear hds hcc HDz
        obtain ⟨hdl, hdz⟩ := hDz
        have hdz2 : ∀ e ∈ ds, e.p.size ≤ 16777216 ∧ e.x.size ≤ 16777216 := fun e he => ⟨by have := (hdz e he).1; omega, by have := (hdz e he).2; omega⟩
        clear hdz
        go_wp2_with fail
        refine (HI.out _ HB9.out ax gx cx hax (HX.out _ HK.out)).mono ?_
        rintro r w10 ⟨va, rfl, hoa, hB⟩
        have HB10 := hidR (B3D HB9.out hB)
        have HJ10' := hidR (B3D HJ9'.out hB)
        obtain ⟨aa, ga, ca, rfl, haa, hEa, hca⟩ := OwnE.ents hoa
        have HA := hidR (fun (W : World) (hb : Below w10.heap.size w10 W) => hEa.below hb)
        clear hoa hEa
        clear hB
        obtain ⟨q0, q1, q2, q3⟩ := HP.out _ HJ10'.out
        go_wp2_with fail
        refine (HD.out _ HB10.out).mono ?_
        rintro r w11 ⟨vb, rfl, hobb, hB⟩
        have HB11 := hidR (B3D HB10.out hB)
        have HJ11' := hidR (B3D HJ10'.out hB)
        obtain ⟨ab, gb, cb, rfl, hab, hEb, hcb⟩ := OwnE.ents hobb
        have HKA := hidR hB
        have HBb := hidR (fun (W : World) (hb : Below w11.heap.size w11 W) => hEb.below hb)
        clear hobb hEb
        clear hB q0 q1 q2 q3
        have HTa := hidR (fun (W : World) (hb : Below w1.heap.size w1 W) (hF : Ents W ga 0 ds) => iText_any W aa ga 0 ca ds ae (HEr.out W hb).two (HM.out W hb).words (by omega) hdz2 haa hF)
        have HTb := hidR (fun (W : World) (hF : Ents W gb 0 ds) => sText_any W ab gb 0 cb ds (by omega) hcb hdz2 hab hF)
        obtain ⟨D, hD⟩ : ∃ y, treeT ds = y := ⟨_, rfl⟩
        rw [hD] at HTa HTb
        clear hD
        go_wp2_with fail
        refine (HTa.out _ HB11.out (HA.out _ HKA.out)).mono ?_
        rintro r w12 ⟨rfl, hB⟩
        have HB12 := hidR (B3D HB11.out hB)
        have HJ12' := hidR (B3D HJ11'.out hB)
        have HKB := hidR hB
        clear hB
        go_wp2_with fail
        refine (HTb.out _ (HBb.out _ HKB.out)).mono ?_
        rintro r w13 ⟨rfl, hB⟩
        have HB13 := hidR (B3D HB12.out hB)
        have HJ13' := hidR (B3D HJ12'.out hB)
        clear hB
        go_wp2
        go_ret
        exact ⟨by simp, B3D HB1.out HB13.out⟩
  · go_enter Tryz.func4, Tryz.ntmps4
    go_wp2
    go_ret
    exact ⟨rfl, Below.refl _ _⟩
end Go.Proofs.YtgkfhcpegdlejaaGreatDoor
