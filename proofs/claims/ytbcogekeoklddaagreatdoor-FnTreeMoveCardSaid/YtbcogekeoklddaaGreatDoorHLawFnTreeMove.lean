/-
  The walk of the law FnTreeMove, out of the contracts.
-/
import Derived.Lib.QuietBelow
import Derived.Test.YtbcogekeoklddaaGreatDoorHPk07
import Derived.Test.YtbcogekeoklddaaGreatDoorHTreeDoI
import Derived.Test.YtbcogekeoklddaaGreatDoorHSameI
import Derived.Test.YtbcogekeoklddaaGreatDoorHImplGet
import Derived.Test.YtbcogekeoklddaaGreatDoorHMove
import Derived.Test.YtbcogekeoklddaaGreatDoorHDoSz
namespace Go.Proofs.YtbcogekeoklddaaGreatDoor
open Go.RowKit Go.Lib Go.Sort
attribute [local go_sem] eq_ent guard_ent

set_option maxHeartbeats 2000000 in
set_option maxRecDepth 100000 in
theorem walk_fnTreeMove (ae : Int → Addr) (a : Option Addr) (len cap : Nat) (zs : List Int) (w : World) (hErr : Errs8 w ae) (hw : IsRow .u8 w a len cap zs) :
    Calls Tryz.prog 4 #[.slice a len cap] w fun e w' => e = .returned (.bool true) ∧ Below w.heap.size w w' := by
  have hC := hidR hw.cod
  have HEr := hidR hErr
  clear hw hErr
  by_cases hl : len ≤ 1048576
  · go_enter Tryz.func4, Tryz.ntmps4
    go_wp2_with fail
    refine (DrawTreeDo_any _ a len cap hl hC.out).mono ?_
    rintro e w1 ⟨v, es, k, p, t, x, rfl, hL, hS, zp, zt, zx, hB⟩
    obtain ⟨a1, g1, o1, c1, rfl, ha1, hE, hc1, -⟩ := hL
    have HB := hidR hB
    replace HEr := hidR (HEr.out.below hB)
    have HE := hidR hE
    have HA := hidR ha1
    have HZ : Hid (∀ e ∈ es, e.p.size ≤ 16777216 ∧ e.x.size ≤ 16777216) := fun e he => ⟨by have := (hS.2 e he).1; omega, by have := (hS.2 e he).2; omega⟩
    have HZ16 := hidR hS.2
    have HV := hidR zt
    have hlen : es.length ≤ 17 := hS.1
    have hn1 : es.length ≤ 1048576 := by omega
    have hn2 : es.length ≤ 16777216 := by omega
    have hp : p.size ≤ 16777216 := by omega
    have ht : t.size ≤ 16777216 := by have := okS_size zt; omega
    have hx : x.size ≤ 16777216 := by omega
    clear hB hC hE ha1 hS zt
    have HIm := hidR (fun (W : World) (hEr : Errs8 W ae) (hW : Ents W g1 o1 es) => iTreeDo_any W a1 g1 o1 c1 es k p t x ae hEr hn2 hp ht hx HZ.out HA.out hW)
    have HSp := hidR (fun (W : World) (hW : Ents W g1 o1 es) => sTreeDo_any W a1 g1 o1 c1 es k p t x hn1 hc1 hp ht hx HZ.out HA.out hW)
    have HDS := hidR (do_lens es k p t x)
    obtain ⟨ds, hds⟩ : ∃ ds, doE es ⟨k, p, t, x⟩ = ds := ⟨_, rfl⟩
    obtain ⟨cc, hcc⟩ : ∃ cc, doC es ⟨k, p, t, x⟩ = cc := ⟨_, rfl⟩
    rw [hds, hcc] at HIm HSp
    rw [hds] at HDS
    obtain ⟨hdl, hdz⟩ := HDS.out
    have HDZ := hidR hdz
    clear hdz HDS
    have hcase : (cc ≠ 0 ∨ k ≠ 5) ∨ (cc = 0 ∧ k = 5 ∧ Mv es p t ∧ es.length ≤ 16 ∧ ds = movE es p t) := by
      by_cases h0 : cc = 0
      · by_cases h5 : k = 5
        · have d := (done_iff es ⟨k, p, t, x⟩).1 (hcc.trans h0)
          rcases d.kinds with ⟨q, _⟩ | ⟨q, _⟩ | ⟨q, _⟩ | ⟨q, _⟩ | ⟨_, _, m, hm⟩
          · rw [show (⟨k, p, t, x⟩ : O).k = k from rfl, h5] at q; cases q
          · rw [show (⟨k, p, t, x⟩ : O).k = k from rfl, h5] at q; cases q
          · rw [show (⟨k, p, t, x⟩ : O).k = k from rfl, h5] at q; cases q
          · rw [show (⟨k, p, t, x⟩ : O).k = k from rfl, h5] at q; cases q
          · exact .inr ⟨h0, h5, m, d.len, by rw [← hds]; exact hm⟩
        · exact .inl (.inr h5)
      · exact .inl (.inl h0)
    clear hds hcc
    have hcne : (cc != cc) = false := by simp
    have hceq : (cc == cc) = true := by simp
    obtain ⟨W1, hW1⟩ : ∃ W1, W1 = w1.alloc (.cells #[.int .i64 k, .string p, .string t, .string x] 25) := ⟨_, rfl⟩
    have HO : Hid (Bx W1 w1.heap.size k p t x) := by rw [hW1]; exact Bx.new w1 k p t x 25
    have hB : Below w1.heap.size w1 W1 := by rw [hW1]; exact (Below.refl _ w1).alloc (Nat.le_refl _) _
    replace HB := hidR (B3' HB.out hB)
    replace HEr := hidR (HEr.out.below hB)
    replace HE := hidR (HE.out.below hB)
    clear hB
    go_wp2_with fail
    rw [← hW1]
    clear hW1
    refine (HIm.out _ HEr.out HE.out).mono ?_
    rintro e w2 ⟨vx, rfl, hox, hB⟩
    replace HB := hidR (B3' HB.out hB)
    replace HO := hidR (HO.out.bel hB)
    replace HEr := hidR (HEr.out.below hB)
    replace HE := hidR (HE.out.below hB)
    obtain ⟨ax, gx, cx, rfl, hax, hEx, hcx, -⟩ := hox.at
    have HX := hidR hEx
    have HAX := hidR hax
    clear hox hEx hax
    clear hB
    obtain ⟨b0, b1, b2, b3, -, -, -, -⟩ := HO.out
    go_wp2_with fail
    refine (HSp.out _ HE.out).mono ?_
    rintro e w3 ⟨vy, rfl, hoy, hB⟩
    clear b0 b1 b2 b3
    replace HB := hidR (B3' HB.out hB)
    replace HO := hidR (HO.out.bel hB)
    replace HEr := hidR (HEr.out.below hB)
    replace HE := hidR (HE.out.below hB)
    replace HX := hidR (HX.out.below hB)
    obtain ⟨ay, gy, cy, rfl, hay, hEy, hcy, -⟩ := hoy.at
    have HY := hidR hEy
    have HAY := hidR hay
    clear hoy hEy hay
    clear hB
    obtain ⟨b0, b1, b2, b3, -, -, -, -⟩ := HO.out
    rcases hcase with h0 | ⟨rfl, rfl, m, h16, hdm⟩
    · by_cases h5 : k = 5
      · have h0' : cc ≠ 0 := by rcases h0 with h | h; exact h; exact absurd h5 h
        have h1 : (cc == 0) = false := by rw [beq_eq_false_iff_ne]; exact h0'
        have h2 : (cc != 0) = true := by simp [h0']
        subst h5
        go_wp2
        go_ret
        exact ⟨rfl, HB.out⟩
      · have h5' : (k == 5) = false := by rw [beq_eq_false_iff_ne]; exact h5
        have h5n : (k != 5) = true := by simp [h5]
        go_wp2
        go_ret
        exact ⟨rfl, HB.out⟩
    · have HDM := hidR hdm
      clear hdm
      have HMe := hidR (fun (e : E) (he : e ∈ es) => (⟨m.at he, m.at_path he⟩ : lookE (movE es p t) (movS e.p p t) = some ⟨movS e.p p t, e.d, e.x⟩ ∧ pathB (movS e.p p t) = true))
      have HTd : Hid (treeE (movE es p t) = true) := m.tr.treeE (by rw [m.len]; exact h16)
      rw [← HDM.out] at HMe HTd
      have HGx := hidR (fun (W : World) (u : ByteArray) (hu : u.size ≤ 16777216) (hEr : Errs8 W ae) (hW : Ents W gx 0 ds) => iTreeGet_any W ax gx 0 cx ds u ae hEr.two (by omega) hu (fun e he => ⟨by have := (HDZ.out e he).1; omega, by have := (HDZ.out e he).2; omega⟩) HAX.out hW)
      have HIb := hidR (fun (W : World) (hEr : Errs8 W ae) (hW : Ents W gx 0 ds) => iTreeDo_any W ax gx 0 cx ds 5 t p ⟨#[]⟩ ae hEr (by omega) ht hp (by decide) (fun e he => ⟨by have := (HDZ.out e he).1; omega, by have := (HDZ.out e he).2; omega⟩) HAX.out hW)
      have hbk : doC ds ⟨5, t, p, ⟨#[]⟩⟩ = 0 ∧ doE ds ⟨5, t, p, ⟨#[]⟩⟩ = es := by
        rw [HDM.out]
        have hl2 : (movE es p t).length ≤ 16 := by rw [m.len]; exact h16
        exact ⟨(m.back.done hl2).code, by rw [m.back.doE hl2, m.returns]⟩
      rw [hbk.1, hbk.2] at HIb
      clear hbk m
      clear b0 b1 b2 b3
      obtain ⟨b0, b1, b2, b3, -, -, -, -⟩ := HO.out
      go_wp2_with fail
      clear b0 b1 b2 b3
      go_loopw [9] (fun iv wl => ∃ k : Nat, k ≤ es.length ∧ iv = .int .i64 k ∧ Hid (Below w.heap.size w wl) ∧ Hid (Bx wl w1.heap.size 5 p t x) ∧ Hid (Errs8 wl ae) ∧ Hid (Ents wl g1 o1 es) ∧ Hid (Ents wl gx 0 ds)) (fun iv _ => es.length - (RowKit.intOf iv).toNat)
      case atStart => exact ⟨0, Nat.zero_le _, rfl, HB, HO, HEr, HE, HX⟩
      case round =>
        clear HB HO HEr HE HX
        obtain ⟨k, hk, rfl, HB, HO, HEr, HE, HX⟩ := hrel
        by_cases hlt : k < es.length
        · obtain rfl := HA.out (by omega)
          obtain ⟨l1, l2⟩ := HMe.out es[k] (List.getElem_mem _)
          have hps : es[k].p.size ≤ 16777216 := (HZ.out es[k] (List.getElem_mem _)).1
          obtain ⟨mp, hmp⟩ : ∃ mp, movS es[k].p p t = mp := ⟨_, rfl⟩
          have hms : mp.size ≤ 16777216 := by rw [← hmp]; have := path_sizeD l2; omega
          have HPm := hidR (iPathMove_any es[k].p p t hps hp ht)
          rw [hmp] at l1 l2 HPm
          have HGm := hidR (fun (W : World) (hEr : Errs8 W ae) (hW : Ents W gx 0 ds) => HGx.out W mp hms hEr hW)
          rw [tget_some HTd.out l2 l1] at HGm
          clear l1 l2 hmp
          obtain ⟨c0, c1', c2⟩ := HE.out k hlt
          obtain ⟨b0, b1, b2, b3, -, -, -, -⟩ := HO.out
          have k0 := cell_regrown b0
          have k1 := cell_regrown b1
          have k2 := cell_regrown b2
          have k3 := cell_regrown b3
          have x0' := cell_regrown c0
          have r0 := fun (d : Nat) (os : Array Obj) => Calls.regrown_of (HPm.out (grow (redrawn wr d) os))
          go_wp2
          refine wp_region_quiet_below (by kernel_rfl) (by kernel_rfl) ?_
          repeat (go_big_quiet_step (first | exact r0 _ _))
          refine wpQuiet_nil ?_
          intro w11 hw'
          obtain ⟨⟨dq, osq⟩, hw''⟩ := hw'
          have hB : Below wr.heap.size wr w11 := by rw [hw'']; exact below_regrown wr dq osq
          clear hw'' r0 x0' c0 k0 k1 k2 k3 b0 b1 b2 b3
          replace HB := hidR (B3' HB.out hB)
          replace HO := hidR (HO.out.bel hB)
          replace HEr := hidR (HEr.out.below hB)
          replace HE := hidR (HE.out.below hB)
          replace HX := hidR (HX.out.below hB)
          clear hB
          clear c1' c2
          obtain ⟨b0, b1, b2, b3, -, -, -, -⟩ := HO.out
          go_wp2_with fail
          refine (HGm.out _ HEr.out HX.out).mono ?_
          rintro e w12 ⟨rfl, hB⟩
          clear b0 b1 b2 b3
          replace HB := hidR (B3' HB.out hB)
          replace HO := hidR (HO.out.bel hB)
          replace HEr := hidR (HEr.out.below hB)
          replace HE := hidR (HE.out.below hB)
          replace HX := hidR (HX.out.below hB)
          clear hB
          have hB : Below w12.heap.size w12 (w12.alloc (.cells #[.string mp, .bool es[k].d, .string es[k].x] 34)) := (Below.refl _ _).alloc (Nat.le_refl _) _
          replace HB := hidR (B3' HB.out hB)
          replace HO := hidR (HO.out.bel hB)
          replace HEr := hidR (HEr.out.below hB)
          replace HE := hidR (HE.out.below hB)
          replace HX := hidR (HX.out.below hB)
          clear hB
          obtain ⟨c0, c1', c2⟩ := HE.out k hlt
          have y1 : (w12.alloc (.cells #[.string mp, .bool es[k].d, .string es[k].x] 34)).cell? ⟨w12.heap.size, 1, none⟩ = some (.bool es[k].d) := by simp
          have y2 : (w12.alloc (.cells #[.string mp, .bool es[k].d, .string es[k].x] 34)).cell? ⟨w12.heap.size, 2, none⟩ = some (.string es[k].x) := by simp
          have n1 : (es[k].d != es[k].d) = false := by simp
          have n2 : (es[k].x.toList == es[k].x.toList) = true := by simp
          clear c0
          have x0' := cell_regrown c1'
          have x1' := cell_regrown c2
          have x2' := cell_regrown y1
          have x3' := cell_regrown y2
          go_wp2
          refine wp_region_quiet_below (by kernel_rfl) (by kernel_rfl) ?_
          repeat (go_big_quiet_step (fail))
          refine wpQuiet_nil ?_
          intro w13 hw'
          obtain ⟨⟨dq, osq⟩, hw''⟩ := hw'
          have hB : Below (w12.alloc (.cells #[.string mp, .bool es[k].d, .string es[k].x] 34)).heap.size (w12.alloc (.cells #[.string mp, .bool es[k].d, .string es[k].x] 34)) w13 := by rw [hw'']; exact below_regrown (w12.alloc (.cells #[.string mp, .bool es[k].d, .string es[k].x] 34)) dq osq
          clear hw'' x0' x1' x2' x3' c1' c2 y1 y2
          replace HB := hidR (B3' HB.out hB)
          replace HO := hidR (HO.out.bel hB)
          replace HEr := hidR (HEr.out.below hB)
          replace HE := hidR (HE.out.below hB)
          replace HX := hidR (HX.out.below hB)
          clear hB
          go_wp2
          go_roundw
          case rel => exact ⟨k + 1, by omega, by go_num, HB, HO, HEr, HE, HX⟩
          case measure => simp [RowKit.intOf]; omega
        · have HSame := hidR (fun (W : World) (g g' : Nat) (a a' : Option Addr) (o' c c' : Nat) (ha : 0 < es.length → a = some ⟨g, 0, none⟩) (ha' : 0 < es.length → a' = some ⟨g', o', none⟩) (h1 : Ents W g 0 es) (h2 : Ents W g' o' es) => iTreeSame_any W a g 0 c es a' g' o' c' es (by omega) (by omega) ha ha' h1 h2)
          rw [sameT_refl es] at HSame
          obtain ⟨b0, b1, b2, b3, -, -, -, -⟩ := HO.out
          go_wp2_with fail
          refine (HIb.out _ HEr.out HX.out).mono ?_
          rintro e w21 ⟨vz, rfl, hoz, hB⟩
          clear b0 b1 b2 b3
          replace HB := hidR (B3' HB.out hB)
          replace HO := hidR (HO.out.bel hB)
          replace HE := hidR (HE.out.below hB)
          obtain ⟨az, gz, cz, rfl, haz, hEz, hcz, -⟩ := hoz.at
          have HZ2 := hidR hEz
          have HAZ := hidR haz
          clear hoz hEz haz
          clear hB
          obtain ⟨b0, b1, b2, b3, -, -, -, -⟩ := HO.out
          go_wp2_with fail
          refine (HSame.out _ gz g1 _ _ _ _ _ HAZ.out HA.out HZ2.out HE.out).mono ?_
          rintro e w22 ⟨rfl, hB⟩
          clear b0 b1 b2 b3
          replace HB := hidR (B3' HB.out hB)
          replace HO := hidR (HO.out.bel hB)
          clear hB
          go_wp2
          go_ret
          exact ⟨rfl, HB.out⟩
  · go_enter Tryz.func4, Tryz.ntmps4
    go_wp2
    go_ret
    exact ⟨rfl, Below.refl _ _⟩
end Go.Proofs.YtbcogekeoklddaaGreatDoor
