/-
  The walk of the law FnTreeTurned, out of the contracts.
-/
import Derived.Lib.QuietBelow
import Derived.Test.YtbcogekeoklddaaGreatDoorHPk07
import Derived.Test.YtbcogekeoklddaaGreatDoorHTreeDoI
import Derived.Test.YtbcogekeoklddaaGreatDoorHImplGet
import Derived.Test.YtbcogekeoklddaaGreatDoorHEqEnt
import Derived.Test.YtbcogekeoklddaaGreatDoorHTurnAny
import Derived.Test.YtbcogekeoklddaaGreatDoorHPk13
import Derived.Test.YtbcogekeoklddaaGreatDoorHStrRow
import Derived.Test.YtbcogekeoklddaaGreatDoorHDoSz
namespace Go.Proofs.YtbcogekeoklddaaGreatDoor
open Go.RowKit Go.Lib Go.Sort
attribute [local go_sem] eq_ent guard_ent

theorem turned_len (es fs : List E) : (turnedE es fs).length ≤ es.length + fs.length := by
  unfold turnedE
  split
  · unfold turnE
    rw [List.length_map]
    have h1 := List.length_filter_le (turnB es fs) (bothE es fs)
    have h2 := both_len es fs fs.length (Nat.le_refl _)
    rw [List.take_length] at h2
    omega
  · simp
set_option maxHeartbeats 2000000 in
set_option maxRecDepth 100000 in
theorem walk_fnTreeTurned (ae : Int → Addr) (a : Option Addr) (len cap : Nat) (zs : List Int) (w : World) (hErr : Errs8 w ae) (hw : IsRow .u8 w a len cap zs) :
    Calls Tryz.prog 3 #[.slice a len cap] w fun e w' => e = .returned (.bool true) ∧ Below w.heap.size w w' := by
  have hC := hidR hw.cod
  have HEr := hidR hErr
  clear hw hErr
  by_cases hl : len ≤ 1048576
  · go_enter Tryz.func3, Tryz.ntmps3
    go_wp2_with fail
    refine (DrawTreeDo_any _ a len cap hl hC.out).mono ?_
    rintro e w1 ⟨v, es, k, p, t, x, rfl, hL, hS, zp, zt, zx, hB⟩
    obtain ⟨a1, g1, o1, c1, rfl, ha1, hE, hc1, -⟩ := hL
    have HB := hidR hB
    replace HEr := hidR (HEr.out.below hB)
    have HE := hidR hE
    have HA := hidR ha1
    have HZ : Hid (∀ e ∈ es, e.p.size ≤ 16777216 ∧ e.x.size ≤ 16777216) := fun e he => ⟨by have := (hS.2 e he).1; omega, by have := (hS.2 e he).2; omega⟩
    have HZ16 := hidR hS.2
    have HV := hidR zt
    have hlen : es.length ≤ 17 := hS.1
    have hn1 : es.length ≤ 1048576 := by omega
    have hn2 : es.length ≤ 16777216 := by omega
    have hp : p.size ≤ 16777216 := by omega
    have ht : t.size ≤ 16777216 := by have := okS_size zt; omega
    have hx : x.size ≤ 16777216 := by omega
    clear hB hC hE ha1 hS zt
    have HIm := hidR (fun (W : World) (hEr : Errs8 W ae) (hW : Ents W g1 o1 es) => iTreeDo_any W a1 g1 o1 c1 es k p t x ae hEr hn2 hp ht hx HZ.out HA.out hW)
    have HSp := hidR (fun (W : World) (hW : Ents W g1 o1 es) => sTreeDo_any W a1 g1 o1 c1 es k p t x hn1 hc1 hp ht hx HZ.out HA.out hW)
    have HDS := hidR (do_lens es k p t x)
    obtain ⟨ds, hds⟩ : ∃ ds, doE es ⟨k, p, t, x⟩ = ds := ⟨_, rfl⟩
    obtain ⟨cc, hcc⟩ : ∃ cc, doC es ⟨k, p, t, x⟩ = cc := ⟨_, rfl⟩
    rw [hds, hcc] at HIm HSp
    rw [hds] at HDS
    obtain ⟨hdl, hdz⟩ := HDS.out
    have HDZ := hidR hdz
    clear hdz HDS
    have hcase : (treeE es = false ∧ turnedE es ds = []) ∨ (treeE es = true ∧ cc ≠ 0 ∧ turnedE es ds = []) ∨ (treeE es = true ∧ cc = 0 ∧ (
        (k = 1 ∧ turnedE es ds = [p] ∧ tgetE ds p = (⟨p, true, ⟨#[]⟩⟩, true)) ∨
        (k = 2 ∧ tgetE ds p = (⟨p, false, x⟩, true) ∧ ((turnedE es ds = [] ∧ tgetE es p = (⟨p, false, x⟩, true)) ∨ turnedE es ds = [p])) ∨
        ((k = 3 ∨ k = 4) ∧ turnedE es ds = [p] ∧ tgetE ds p = (noneE, false)) ∨
        (k = 5 ∧ (∀ s ∈ turnedE es ds, s = p ∨ s = t ∨ underI s p = true ∨ underI s t = true) ∧ tgetE ds p = (noneE, false) ∧ ds.length = es.length ∧ ∀ s ∈ turnedE es ds, s.size ≤ 12))) := by
      cases htr : treeE es with
      | false => exact .inl ⟨rfl, turned_bad (.inl htr)⟩
      | true =>
        right
        by_cases h0 : cc = 0
        · right
          have d := (done_iff es ⟨k, p, t, x⟩).1 (hcc.trans h0)
          refine ⟨rfl, h0, ?_⟩
          rw [← hds]
          rcases d.kind with h | h | h | h | h
          · exact .inl ⟨h, d.turned1 h⟩
          · exact .inr (.inl ⟨h, d.turned2 h⟩)
          · exact .inr (.inr (.inl ⟨.inl h, d.turned34 (.inl h)⟩))
          · exact .inr (.inr (.inl ⟨.inr h, d.turned34 (.inr h)⟩))
          · obtain ⟨q1, q2, q3⟩ := d.turned5 h
            exact .inr (.inr (.inr ⟨h, q1, q2, q3, fun s hs => path_sizeD (turned_path d.tree d.tree' hs)⟩))
        · exact .inl ⟨rfl, h0, by rw [← hds]; exact undone_turned (by rw [hcc]; exact h0)⟩
    clear hds hcc
    have hcne : (cc != cc) = false := by simp
    have hceq : (cc == cc) = true := by simp
    have HTs := hidR (fun (W : World) (hW : Ents W g1 o1 es) => sTreeOk_any W a1 g1 o1 c1 es hn2 hc1 HZ.out HA.out hW)
    have HDZ2 : Hid (∀ e ∈ ds, e.p.size ≤ 16777216 ∧ e.x.size ≤ 16777216) := fun e he => ⟨by have := (HDZ.out e he).1; omega, by have := (HDZ.out e he).2; omega⟩
    obtain ⟨W1, hW1⟩ : ∃ W1, W1 = w1.alloc (.cells #[.int .i64 k, .string p, .string t, .string x] 25) := ⟨_, rfl⟩
    have HO : Hid (Bx W1 w1.heap.size k p t x) := by rw [hW1]; exact Bx.new w1 k p t x 25
    have hB : Below w1.heap.size w1 W1 := by rw [hW1]; exact (Below.refl _ w1).alloc (Nat.le_refl _) _
    replace HB := hidR (B3' HB.out hB)
    replace HEr := hidR (HEr.out.below hB)
    replace HE := hidR (HE.out.below hB)
    clear hB
    go_wp2_with fail
    rw [← hW1]
    clear hW1
    refine (HIm.out _ HEr.out HE.out).mono ?_
    rintro e w2 ⟨vx, rfl, hox, hB⟩
    replace HB := hidR (B3' HB.out hB)
    replace HO := hidR (HO.out.bel hB)
    replace HEr := hidR (HEr.out.below hB)
    replace HE := hidR (HE.out.below hB)
    obtain ⟨ax, gx, cx, rfl, hax, hEx, hcx, -⟩ := hox.at
    have HX := hidR hEx
    have HAX := hidR hax
    clear hox hEx hax
    clear hB
    obtain ⟨b0, b1, b2, b3, -, -, -, -⟩ := HO.out
    go_wp2_with fail
    refine (HSp.out _ HE.out).mono ?_
    rintro e w3 ⟨vy, rfl, hoy, hB⟩
    clear b0 b1 b2 b3
    replace HB := hidR (B3' HB.out hB)
    replace HO := hidR (HO.out.bel hB)
    replace HEr := hidR (HEr.out.below hB)
    replace HE := hidR (HE.out.below hB)
    replace HX := hidR (HX.out.below hB)
    obtain ⟨ay, gy, cy, rfl, hay, hEy, hcy, -⟩ := hoy.at
    have HY := hidR hEy
    have HAY := hidR hay
    clear hoy hEy hay
    clear hB
    have HTu := hidR (fun (W : World) (hEr : Errs8 W ae) (h1 : Ents W g1 o1 es) (h2 : Ents W gx 0 ds) => iTurned_any W a1 g1 o1 c1 es ax gx 0 cx ds ae hEr.two hn2 (by omega) HZ.out HDZ2.out HA.out HAX.out h1 h2)
    have HGx := hidR (fun (W : World) (hEr : Errs8 W ae) (hW : Ents W gx 0 ds) => iTreeGet_any W ax gx 0 cx ds p ae hEr.two (by omega) hp HDZ2.out HAX.out hW)
    have HGt := hidR (fun (W : World) (hEr : Errs8 W ae) (hW : Ents W g1 o1 es) => iTreeGet_any W a1 g1 o1 c1 es p ae hEr.two hn2 hp HZ.out HA.out hW)
    obtain ⟨ls, hls⟩ : ∃ ls, turnedE es ds = ls := ⟨_, rfl⟩
    rw [hls] at HTu hcase
    have HLN : Hid (ls.length ≤ 64) := by
      show _ ≤ _
      rw [← hls]
      have := turned_len es ds
      omega
    clear hls
    obtain ⟨b0, b1, b2, b3, -, -, -, -⟩ := HO.out
    go_wp2_with fail
    refine (HTu.out _ HEr.out HE.out HX.out).mono ?_
    rintro e w4 ⟨vl, rfl, hol, hB⟩
    clear b0 b1 b2 b3
    replace HB := hidR (B3' HB.out hB)
    replace HO := hidR (HO.out.bel hB)
    replace HEr := hidR (HEr.out.below hB)
    replace HE := hidR (HE.out.below hB)
    replace HX := hidR (HX.out.below hB)
    obtain ⟨al, gl, cl, rfl, hal, hSl⟩ := StrB.of_row hol
    have HS := hidR hSl
    have HAL := hidR hal
    clear hol hSl hal
    clear hB
    rcases hcase with ⟨htr, rfl⟩ | ⟨htr, h0, rfl⟩ | ⟨htr, rfl, hk⟩
    · rw [htr] at HTs
      obtain ⟨b0, b1, b2, b3, -, -, -, -⟩ := HO.out
      go_wp2_with fail
      refine (HTs.out _ HE.out).mono ?_
      rintro e w5 ⟨rfl, hB⟩
      clear b0 b1 b2 b3
      replace HB := hidR (B3' HB.out hB)
      replace HO := hidR (HO.out.bel hB)
      clear hB
      obtain ⟨b0, b1, b2, b3, -, -, -, -⟩ := HO.out
      go_wp2
      go_ret
      exact ⟨rfl, HB.out⟩
    · rw [htr] at HTs
      have h1 : (cc == 0) = false := by rw [beq_eq_false_iff_ne]; exact h0
      have h2 : (cc != 0) = true := by simp [h0]
      obtain ⟨b0, b1, b2, b3, -, -, -, -⟩ := HO.out
      go_wp2_with fail
      refine (HTs.out _ HE.out).mono ?_
      rintro e w5 ⟨rfl, hB⟩
      clear b0 b1 b2 b3
      replace HB := hidR (B3' HB.out hB)
      replace HO := hidR (HO.out.bel hB)
      clear hB
      obtain ⟨b0, b1, b2, b3, -, -, -, -⟩ := HO.out
      go_wp2
      go_ret
      exact ⟨rfl, HB.out⟩
    · rw [htr] at HTs
      obtain ⟨te, hte⟩ : ∃ te, tgetE ds p = te := ⟨_, rfl⟩
      rw [hte] at HGx hk
      clear hte
      obtain ⟨b0, b1, b2, b3, -, -, -, -⟩ := HO.out
      go_wp2_with fail
      refine (HTs.out _ HE.out).mono ?_
      rintro e w5 ⟨rfl, hB⟩
      clear b0 b1 b2 b3
      replace HB := hidR (B3' HB.out hB)
      replace HO := hidR (HO.out.bel hB)
      replace HEr := hidR (HEr.out.below hB)
      replace HE := hidR (HE.out.below hB)
      replace HX := hidR (HX.out.below hB)
      replace HS := hidR (HS.out.below hB)
      clear hB
      obtain ⟨b0, b1, b2, b3, -, -, -, -⟩ := HO.out
      go_wp2_with fail
      refine (HGx.out _ HEr.out HX.out).mono ?_
      rintro e w6 ⟨rfl, hB⟩
      clear b0 b1 b2 b3
      replace HB := hidR (B3' HB.out hB)
      replace HO := hidR (HO.out.bel hB)
      replace HEr := hidR (HEr.out.below hB)
      replace HE := hidR (HE.out.below hB)
      replace HX := hidR (HX.out.below hB)
      replace HS := hidR (HS.out.below hB)
      clear hB
      have hB : Below w6.heap.size w6 (w6.alloc (.cells #[.string te.1.p, .bool te.1.d, .string te.1.x] 34)) := (Below.refl _ _).alloc (Nat.le_refl _) _
      replace HB := hidR (B3' HB.out hB)
      replace HO := hidR (HO.out.bel hB)
      replace HEr := hidR (HEr.out.below hB)
      replace HE := hidR (HE.out.below hB)
      replace HX := hidR (HX.out.below hB)
      replace HS := hidR (HS.out.below hB)
      clear hB
      have y0 : (w6.alloc (.cells #[.string te.1.p, .bool te.1.d, .string te.1.x] 34)).cell? ⟨w6.heap.size, 0, none⟩ = some (.string te.1.p) := by simp
      have y1 : (w6.alloc (.cells #[.string te.1.p, .bool te.1.d, .string te.1.x] 34)).cell? ⟨w6.heap.size, 1, none⟩ = some (.bool te.1.d) := by simp
      have y2 : (w6.alloc (.cells #[.string te.1.p, .bool te.1.d, .string te.1.x] 34)).cell? ⟨w6.heap.size, 2, none⟩ = some (.string te.1.x) := by simp
      obtain ⟨b0, b1, b2, b3, -, -, -, -⟩ := HO.out
      clear b0 b1 b2 b3 y0 y1 y2
      rcases hk with ⟨rfl, rfl, rfl⟩ | ⟨rfl, rfl, hq⟩ | ⟨hk, rfl, rfl⟩ | ⟨rfl, hq, rfl, hll, hsz⟩
      · have s0 := HS.out 0 (by simp)
        simp only [List.getElem_cons_zero] at s0
        obtain rfl := HAL.out (by simp)
        have hpp : (p.toList == p.toList) = true := by simp
        have y1 : (w6.alloc (.cells #[.string p, .bool true, .string ⟨#[]⟩] 34)).cell? ⟨w6.heap.size, 1, none⟩ = some (.bool true) := by simp
        obtain ⟨b0, b1, b2, b3, -, -, -, -⟩ := HO.out
        have k0 := cell_regrown b0
        have k1 := cell_regrown b1
        have k2 := cell_regrown b2
        have k3 := cell_regrown b3
        have x0' := cell_regrown s0
        have x1' := cell_regrown y1
        go_wp2
        refine wp_region_quiet_below (by kernel_rfl) (by kernel_rfl) ?_
        repeat (go_big_quiet_step (fail))
        refine wpQuiet_nil ?_
        intro w7 hw'
        obtain ⟨⟨dq, osq⟩, hw''⟩ := hw'
        have hB : Below (w6.alloc (.cells #[.string p, .bool true, .string ⟨#[]⟩] 34)).heap.size (w6.alloc (.cells #[.string p, .bool true, .string ⟨#[]⟩] 34)) w7 := by rw [hw'']; exact below_regrown (w6.alloc (.cells #[.string p, .bool true, .string ⟨#[]⟩] 34)) dq osq
        clear hw'' x0' x1' s0 y1 k0 k1 k2 k3 b0 b1 b2 b3
        replace HB := hidR (B3' HB.out hB)
        replace HO := hidR (HO.out.bel hB)
        clear hB
        go_wp2
        go_ret
        exact ⟨rfl, HB.out⟩
      · have y0 : (w6.alloc (.cells #[.string p, .bool false, .string x] 34)).cell? ⟨w6.heap.size, 0, none⟩ = some (.string p) := by simp
        have HY0 := hidR y0
        have y1 : (w6.alloc (.cells #[.string p, .bool false, .string x] 34)).cell? ⟨w6.heap.size, 1, none⟩ = some (.bool false) := by simp
        have HY1 := hidR y1
        have y2 : (w6.alloc (.cells #[.string p, .bool false, .string x] 34)).cell? ⟨w6.heap.size, 2, none⟩ = some (.string x) := by simp
        have HY2 := hidR y2
        clear y0 y1 y2
        have hpp : (p.toList == p.toList) = true := by simp
        have hxx : (x.toList == x.toList) = true := by simp
        rcases hq with ⟨rfl, hwe⟩ | rfl
        · rw [hwe] at HGt
          obtain ⟨b0, b1, b2, b3, -, -, -, -⟩ := HO.out
          go_wp2_with fail
          refine (HGt.out _ HEr.out HE.out).mono ?_
          rintro e w7 ⟨rfl, hB⟩
          clear b0 b1 b2 b3
          replace HB := hidR (B3' HB.out hB)
          replace HO := hidR (HO.out.bel hB)
          replace HS := hidR (HS.out.below hB)
          have HZ0 := hidR (below_cell hB HY0.out)
          have HZ1 := hidR (below_cell hB HY1.out)
          have HZ2 := hidR (below_cell hB HY2.out)
          clear HY0 HY1 HY2
          clear hB
          have hB9 : Below w7.heap.size w7 (w7.alloc (.cells #[.string p, .bool false, .string x] 34)) := (Below.refl _ _).alloc (Nat.le_refl _) _
          have y0 := below_cell hB9 HZ0.out
          have y1 := below_cell hB9 HZ1.out
          have y2 := below_cell hB9 HZ2.out
          clear hB9 HZ0 HZ1 HZ2
          have hB : Below w7.heap.size w7 (w7.alloc (.cells #[.string p, .bool false, .string x] 34)) := (Below.refl _ _).alloc (Nat.le_refl _) _
          replace HB := hidR (B3' HB.out hB)
          replace HO := hidR (HO.out.bel hB)
          replace HS := hidR (HS.out.below hB)
          clear hB
          have v0 : (w7.alloc (.cells #[.string p, .bool false, .string x] 34)).cell? ⟨w7.heap.size, 0, none⟩ = some (.string p) := by simp
          have v1 : (w7.alloc (.cells #[.string p, .bool false, .string x] 34)).cell? ⟨w7.heap.size, 1, none⟩ = some (.bool false) := by simp
          have v2 : (w7.alloc (.cells #[.string p, .bool false, .string x] 34)).cell? ⟨w7.heap.size, 2, none⟩ = some (.string x) := by simp
          obtain ⟨b0, b1, b2, b3, -, -, -, -⟩ := HO.out
          go_wp2
          go_ret
          exact ⟨rfl, HB.out⟩
        · obtain ⟨we, hwe⟩ : ∃ we, tgetE es p = we := ⟨_, rfl⟩
          rw [hwe] at HGt
          clear hwe
          obtain ⟨b0, b1, b2, b3, -, -, -, -⟩ := HO.out
          go_wp2_with fail
          refine (HGt.out _ HEr.out HE.out).mono ?_
          rintro e w7 ⟨rfl, hB⟩
          clear b0 b1 b2 b3
          replace HB := hidR (B3' HB.out hB)
          replace HO := hidR (HO.out.bel hB)
          replace HS := hidR (HS.out.below hB)
          have HZ0 := hidR (below_cell hB HY0.out)
          have HZ1 := hidR (below_cell hB HY1.out)
          have HZ2 := hidR (below_cell hB HY2.out)
          clear HY0 HY1 HY2
          clear hB
          have hB9 : Below w7.heap.size w7 (w7.alloc (.cells #[.string we.1.p, .bool we.1.d, .string we.1.x] 34)) := (Below.refl _ _).alloc (Nat.le_refl _) _
          have y0 := below_cell hB9 HZ0.out
          have y1 := below_cell hB9 HZ1.out
          have y2 := below_cell hB9 HZ2.out
          clear hB9 HZ0 HZ1 HZ2
          have hB : Below w7.heap.size w7 (w7.alloc (.cells #[.string we.1.p, .bool we.1.d, .string we.1.x] 34)) := (Below.refl _ _).alloc (Nat.le_refl _) _
          replace HB := hidR (B3' HB.out hB)
          replace HO := hidR (HO.out.bel hB)
          replace HS := hidR (HS.out.below hB)
          clear hB
          have s0 := HS.out 0 (by simp)
          simp only [List.getElem_cons_zero] at s0
          obtain rfl := HAL.out (by simp)
          have hpp : (p.toList == p.toList) = true := by simp
          clear y0
          obtain ⟨b0, b1, b2, b3, -, -, -, -⟩ := HO.out
          have k0 := cell_regrown b0
          have k1 := cell_regrown b1
          have k2 := cell_regrown b2
          have k3 := cell_regrown b3
          have x0' := cell_regrown s0
          have x1' := cell_regrown y1
          have x2' := cell_regrown y2
          go_wp2
          refine wp_region_quiet_below (by kernel_rfl) (by kernel_rfl) ?_
          repeat (go_big_quiet_step (fail))
          refine wpQuiet_nil ?_
          intro w8 hw'
          obtain ⟨⟨dq, osq⟩, hw''⟩ := hw'
          have hB : Below (w7.alloc (.cells #[.string we.1.p, .bool we.1.d, .string we.1.x] 34)).heap.size (w7.alloc (.cells #[.string we.1.p, .bool we.1.d, .string we.1.x] 34)) w8 := by rw [hw'']; exact below_regrown (w7.alloc (.cells #[.string we.1.p, .bool we.1.d, .string we.1.x] 34)) dq osq
          clear hw'' x0' x1' x2' s0 y1 y2 k0 k1 k2 k3 b0 b1 b2 b3
          replace HB := hidR (B3' HB.out hB)
          replace HO := hidR (HO.out.bel hB)
          clear hB
          go_wp2
          go_ret
          exact ⟨rfl, HB.out⟩
      · have s0 := HS.out 0 (by simp)
        simp only [List.getElem_cons_zero] at s0
        obtain rfl := HAL.out (by simp)
        have hpp : (p.toList == p.toList) = true := by simp
        rcases hk with rfl | rfl
        · obtain ⟨b0, b1, b2, b3, -, -, -, -⟩ := HO.out
          have k0 := cell_regrown b0
          have k1 := cell_regrown b1
          have k2 := cell_regrown b2
          have k3 := cell_regrown b3
          have x0' := cell_regrown s0
          go_wp2
          refine wp_region_quiet_below (by kernel_rfl) (by kernel_rfl) ?_
          repeat (go_big_quiet_step (fail))
          refine wpQuiet_nil ?_
          intro w7 hw'
          obtain ⟨⟨dq, osq⟩, hw''⟩ := hw'
          have hB : Below (w6.alloc (.cells #[.string ⟨#[]⟩, .bool false, .string ⟨#[]⟩] 34)).heap.size (w6.alloc (.cells #[.string ⟨#[]⟩, .bool false, .string ⟨#[]⟩] 34)) w7 := by rw [hw'']; exact below_regrown (w6.alloc (.cells #[.string ⟨#[]⟩, .bool false, .string ⟨#[]⟩] 34)) dq osq
          clear hw'' x0' s0 k0 k1 k2 k3 b0 b1 b2 b3
          replace HB := hidR (B3' HB.out hB)
          replace HO := hidR (HO.out.bel hB)
          clear hB
          go_wp2
          go_ret
          exact ⟨rfl, HB.out⟩
        · obtain ⟨b0, b1, b2, b3, -, -, -, -⟩ := HO.out
          have k0 := cell_regrown b0
          have k1 := cell_regrown b1
          have k2 := cell_regrown b2
          have k3 := cell_regrown b3
          have x0' := cell_regrown s0
          go_wp2
          refine wp_region_quiet_below (by kernel_rfl) (by kernel_rfl) ?_
          repeat (go_big_quiet_step (fail))
          refine wpQuiet_nil ?_
          intro w7 hw'
          obtain ⟨⟨dq, osq⟩, hw''⟩ := hw'
          have hB : Below (w6.alloc (.cells #[.string ⟨#[]⟩, .bool false, .string ⟨#[]⟩] 34)).heap.size (w6.alloc (.cells #[.string ⟨#[]⟩, .bool false, .string ⟨#[]⟩] 34)) w7 := by rw [hw'']; exact below_regrown (w6.alloc (.cells #[.string ⟨#[]⟩, .bool false, .string ⟨#[]⟩] 34)) dq osq
          clear hw'' x0' s0 k0 k1 k2 k3 b0 b1 b2 b3
          replace HB := hidR (B3' HB.out hB)
          replace HO := hidR (HO.out.bel hB)
          clear hB
          go_wp2
          go_ret
          exact ⟨rfl, HB.out⟩
      · have HQ := hidR hq
        have HSZ := hidR hsz
        have hln : ls.length ≤ 1048576 := by
          have := HLN.out
          omega
        clear hq hsz
        obtain ⟨b0, b1, b2, b3, -, -, -, -⟩ := HO.out
        go_wp2_with fail
        clear b0 b1 b2 b3
        go_loopw [14] (fun iv wl => ∃ k : Nat, k ≤ ls.length ∧ iv = .int .i64 k ∧ Hid (Below w.heap.size w wl) ∧ Hid (Bx wl w1.heap.size 5 p t x) ∧ Hid (StrB wl gl ls)) (fun iv _ => ls.length - (RowKit.intOf iv).toNat)
        case atStart => exact ⟨0, Nat.zero_le _, rfl, HB, HO, HS⟩
        case round =>
          clear HB HO HS
          obtain ⟨k, hk, rfl, HB, HO, HS⟩ := hrel
          by_cases hlt : k < ls.length
          · obtain rfl := HAL.out (by omega)
            have s0 := HS.out k hlt
            have HQs := hidR (HQ.out ls[k] (List.getElem_mem _))
            have hsz := HSZ.out ls[k] (List.getElem_mem _)
            obtain ⟨s, hs⟩ : ∃ s, ls[k] = s := ⟨_, rfl⟩
            rw [hs] at s0 HQs hsz
            clear hs
            have HU1 := hidR (iPathUnder_any s p (by omega) hp)
            have HU2 := hidR (iPathUnder_any s t (by omega) ht)
            have hcs : ((s.toList == p.toList) = true) ∨ ((s.toList == p.toList) = false ∧ (s.toList == t.toList) = true) ∨ ((s.toList == p.toList) = false ∧ (s.toList == t.toList) = false ∧ underI s p = true) ∨ ((s.toList == p.toList) = false ∧ (s.toList == t.toList) = false ∧ underI s p = false ∧ underI s t = true) := by
              rw [beqL, beqL]
              by_cases q1 : s = p
              · left; simp [q1]
              · by_cases q2 : s = t
                · right; left; simp [q2]; rw [← q2]; exact q1
                · rcases HQs.out with q | q | q | q
                  · exact absurd q q1
                  · exact absurd q q2
                  · right; right; left; simp [q1, q2, q]
                  · cases q3 : underI s p with
                    | true => right; right; left; simp [q1, q2]
                    | false => right; right; right; simp [q1, q2, q]
            clear HQs
            rcases hcs with e1 | ⟨e1, e2⟩ | ⟨e1, e2, e3⟩ | ⟨e1, e2, e3, e4⟩
            · have e1' : s.toList = p.toList := by simpa using e1
              obtain ⟨b0, b1, b2, b3, -, -, -, -⟩ := HO.out
              go_wp2
              all_goals
                refine ⟨⟨k + 1, by omega, by go_num, HB, HO, HS⟩, ?_⟩
                simp [RowKit.intOf]
                omega
            · have e1' : ¬ s.toList = p.toList := by simpa using e1
              have e2' : s.toList = t.toList := by simpa using e2
              obtain ⟨b0, b1, b2, b3, -, -, -, -⟩ := HO.out
              go_wp2
              all_goals
                refine ⟨⟨k + 1, by omega, by go_num, HB, HO, HS⟩, ?_⟩
                simp [RowKit.intOf]
                omega
            · have e1' : ¬ s.toList = p.toList := by simpa using e1
              have e2' : ¬ s.toList = t.toList := by simpa using e2
              rw [e3] at HU1
              obtain ⟨b0, b1, b2, b3, -, -, -, -⟩ := HO.out
              go_wp2_with fail
              refine (HU1.out _).mono ?_
              rintro e w11 ⟨rfl, hB⟩
              clear b0 b1 b2 b3
              replace HB := hidR (B3' HB.out hB)
              replace HO := hidR (HO.out.bel hB)
              replace HS := hidR (HS.out.below hB)
              clear s0
              clear hB
              obtain ⟨b0, b1, b2, b3, -, -, -, -⟩ := HO.out
              go_wp2
              all_goals
                refine ⟨⟨k + 1, by omega, by go_num, HB, HO, HS⟩, ?_⟩
                simp [RowKit.intOf]
                omega
            · have e1' : ¬ s.toList = p.toList := by simpa using e1
              have e2' : ¬ s.toList = t.toList := by simpa using e2
              rw [e3] at HU1
              rw [e4] at HU2
              obtain ⟨b0, b1, b2, b3, -, -, -, -⟩ := HO.out
              go_wp2_with fail
              refine (HU1.out _).mono ?_
              rintro e w11 ⟨rfl, hB⟩
              clear b0 b1 b2 b3
              replace HB := hidR (B3' HB.out hB)
              replace HO := hidR (HO.out.bel hB)
              replace HS := hidR (HS.out.below hB)
              clear s0
              clear hB
              obtain ⟨b0, b1, b2, b3, -, -, -, -⟩ := HO.out
              go_wp2_with fail
              refine (HU2.out _).mono ?_
              rintro e w12 ⟨rfl, hB⟩
              clear b0 b1 b2 b3
              replace HB := hidR (B3' HB.out hB)
              replace HO := hidR (HO.out.bel hB)
              replace HS := hidR (HS.out.below hB)
              clear hB
              obtain ⟨b0, b1, b2, b3, -, -, -, -⟩ := HO.out
              go_wp2
              all_goals
                refine ⟨⟨k + 1, by omega, by go_num, HB, HO, HS⟩, ?_⟩
                simp [RowKit.intOf]
                omega
          · obtain ⟨b0, b1, b2, b3, -, -, -, -⟩ := HO.out
            go_wp2
            go_ret
            exact ⟨rfl, HB.out⟩
  · go_enter Tryz.func3, Tryz.ntmps3
    go_wp2
    go_ret
    exact ⟨rfl, Below.refl _ _⟩
end Go.Proofs.YtbcogekeoklddaaGreatDoor
