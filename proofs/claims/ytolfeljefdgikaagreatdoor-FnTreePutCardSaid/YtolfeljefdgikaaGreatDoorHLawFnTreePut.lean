/-
  The walk of the law FnTreePut, out of the contracts.
-/
import Derived.Lib.QuietBelow
import Derived.Test.YtolfeljefdgikaaGreatDoorHPk07
import Derived.Test.YtolfeljefdgikaaGreatDoorHTreeDoI
import Derived.Test.YtolfeljefdgikaaGreatDoorHSameI
import Derived.Test.YtolfeljefdgikaaGreatDoorHDoSz
namespace Go.Proofs.YtolfeljefdgikaaGreatDoor
open Go.RowKit Go.Lib Go.Sort
attribute [local go_sem] eq_ent guard_ent

set_option maxHeartbeats 2000000 in
set_option maxRecDepth 100000 in
theorem walk_fnTreePut (ae : Int → Addr) (a : Option Addr) (len cap : Nat) (zs : List Int) (w : World) (hErr : Errs8 w ae) (hw : IsRow .u8 w a len cap zs) :
    Calls Tryz.prog 5 #[.slice a len cap] w fun e w' => e = .returned (.bool true) ∧ Below w.heap.size w w' := by
  have hC := hidR hw.cod
  have HEr := hidR hErr
  clear hw hErr
  by_cases hl : len ≤ 1048576
  · go_enter Tryz.func5, Tryz.ntmps5
    go_wp2_with fail
    refine (DrawTreeDo_any _ a len cap hl hC.out).mono ?_
    rintro e w1 ⟨v, es, k, p, t, x, rfl, hL, hS, zp, zt, zx, hB⟩
    obtain ⟨a1, g1, o1, c1, rfl, ha1, hE, hc1, -⟩ := hL
    have HB := hidR hB
    replace HEr := hidR (HEr.out.below hB)
    have HE := hidR hE
    have HA := hidR ha1
    have HZ : Hid (∀ e ∈ es, e.p.size ≤ 16777216 ∧ e.x.size ≤ 16777216) := fun e he => ⟨by have := (hS.2 e he).1; omega, by have := (hS.2 e he).2; omega⟩
    have HZ16 := hidR hS.2
    have HV := hidR zt
    have hlen : es.length ≤ 17 := hS.1
    have hn1 : es.length ≤ 1048576 := by omega
    have hn2 : es.length ≤ 16777216 := by omega
    have hp : p.size ≤ 16777216 := by omega
    have ht : t.size ≤ 16777216 := by have := okS_size zt; omega
    have hx : x.size ≤ 16777216 := by omega
    clear hB hC hE ha1 hS zt
    have HIm := hidR (fun (W : World) (hEr : Errs8 W ae) (hW : Ents W g1 o1 es) => iTreeDo_any W a1 g1 o1 c1 es k p t x ae hEr hn2 hp ht hx HZ.out HA.out hW)
    have HSp := hidR (fun (W : World) (hW : Ents W g1 o1 es) => sTreeDo_any W a1 g1 o1 c1 es k p t x hn1 hc1 hp ht hx HZ.out HA.out hW)
    have HDS := hidR (do_lens es k p t x)
    obtain ⟨ds, hds⟩ : ∃ ds, doE es ⟨k, p, t, x⟩ = ds := ⟨_, rfl⟩
    obtain ⟨cc, hcc⟩ : ∃ cc, doC es ⟨k, p, t, x⟩ = cc := ⟨_, rfl⟩
    rw [hds, hcc] at HIm HSp
    rw [hds] at HDS
    obtain ⟨hdl, hdz⟩ := HDS.out
    have HDZ := hidR hdz
    clear hdz HDS
    have hcase : cc ≠ 0 ∨ (cc = 0 ∧ treeE ds = true ∧ ((k = 2 ∧ doC ds ⟨k, p, t, x⟩ = 0 ∧ doE ds ⟨k, p, t, x⟩ = ds) ∨ (k = 1 ∧ doC ds ⟨k, p, t, x⟩ = 4 ∧ doE ds ⟨k, p, t, x⟩ = ds) ∨ (k ≠ 1 ∧ k ≠ 2 ∧ doC ds ⟨k, p, t, x⟩ = 2 ∧ doE ds ⟨k, p, t, x⟩ = ds))) := by
      by_cases h0 : cc = 0
      · right
        rw [h0] at hcc
        have d := (done_iff es ⟨k, p, t, x⟩).1 hcc
        refine ⟨h0, by rw [← hds]; exact d.tree', ?_⟩
        rw [← hds]
        exact d.again
      · exact .inl h0
    clear hds hcc
    have hcne : (cc != cc) = false := by simp
    have hceq : (cc == cc) = true := by simp
    obtain ⟨W1, hW1⟩ : ∃ W1, W1 = w1.alloc (.cells #[.int .i64 k, .string p, .string t, .string x] 25) := ⟨_, rfl⟩
    have HO : Hid (Bx W1 w1.heap.size k p t x) := by rw [hW1]; exact Bx.new w1 k p t x 25
    have hB : Below w1.heap.size w1 W1 := by rw [hW1]; exact (Below.refl _ w1).alloc (Nat.le_refl _) _
    replace HB := hidR (B3' HB.out hB)
    replace HEr := hidR (HEr.out.below hB)
    replace HE := hidR (HE.out.below hB)
    clear hB
    go_wp2_with fail
    rw [← hW1]
    clear hW1
    refine (HIm.out _ HEr.out HE.out).mono ?_
    rintro e w2 ⟨vx, rfl, hox, hB⟩
    replace HB := hidR (B3' HB.out hB)
    replace HO := hidR (HO.out.bel hB)
    replace HEr := hidR (HEr.out.below hB)
    replace HE := hidR (HE.out.below hB)
    obtain ⟨ax, gx, cx, rfl, hax, hEx, hcx, -⟩ := hox.at
    have HX := hidR hEx
    have HAX := hidR hax
    clear hox hEx hax
    clear hB
    obtain ⟨b0, b1, b2, b3, -, -, -, -⟩ := HO.out
    go_wp2_with fail
    refine (HSp.out _ HE.out).mono ?_
    rintro e w3 ⟨vy, rfl, hoy, hB⟩
    clear b0 b1 b2 b3
    replace HB := hidR (B3' HB.out hB)
    replace HO := hidR (HO.out.bel hB)
    replace HEr := hidR (HEr.out.below hB)
    replace HE := hidR (HE.out.below hB)
    replace HX := hidR (HX.out.below hB)
    obtain ⟨ay, gy, cy, rfl, hay, hEy, hcy, -⟩ := hoy.at
    have HY := hidR hEy
    have HAY := hidR hay
    clear hoy hEy hay
    clear hB
    rcases hcase with h0 | ⟨rfl, htd, hk⟩
    · have h0' : (cc == 0) = false := by rw [beq_eq_false_iff_ne]; exact h0
      have h0n : (cc != 0) = true := by simp [h0]
      obtain ⟨b0, b1, b2, b3, -, -, -, -⟩ := HO.out
      go_wp2
      go_ret
      exact ⟨rfl, HB.out⟩
    · have HI2 := hidR (fun (W : World) (hEr : Errs8 W ae) (hW : Ents W gx 0 ds) => iTreeDo_any W ax gx 0 cx ds k p t x ae hEr (by omega) hp ht hx (fun e he => ⟨by have := (HDZ.out e he).1; omega, by have := (HDZ.out e he).2; omega⟩) HAX.out hW)
      have HSame := hidR (fun (W : World) (g g' : Nat) (a a' : Option Addr) (c c' : Nat) (ha : 0 < ds.length → a = some ⟨g, 0, none⟩) (ha' : 0 < ds.length → a' = some ⟨g', 0, none⟩) (h1 : Ents W g 0 ds) (h2 : Ents W g' 0 ds) => iTreeSame_any W a g 0 c ds a' g' 0 c' ds (by omega) (by omega) ha ha' h1 h2)
      rw [sameT_refl ds] at HSame
      rcases hk with ⟨rfl, h1, h2⟩ | ⟨rfl, h1, h2⟩ | ⟨n1, n2, h1, h2⟩
      · rw [h1, h2] at HI2
        obtain ⟨b0, b1, b2, b3, -, -, -, -⟩ := HO.out
        go_wp2_with fail
        refine (HI2.out _ HEr.out HX.out).mono ?_
        rintro e w4 ⟨vz, rfl, hoz, hB⟩
        replace HB := hidR (B3' HB.out hB)
        replace HO := hidR (HO.out.bel hB)
        replace HX := hidR (HX.out.below hB)
        obtain ⟨az, gz, cz, rfl, haz, hEz, hcz, -⟩ := hoz.at
        have HZ2 := hidR hEz
        have HAZ := hidR haz
        clear hoz hEz haz b0 b1 b2 b3
        clear hB
        obtain ⟨b0, b1, b2, b3, -, -, -, -⟩ := HO.out
        go_wp2_with fail
        refine (HSame.out _ gx gz _ _ _ _ HAX.out HAZ.out HX.out HZ2.out).mono ?_
        rintro e w5 ⟨rfl, hB⟩
        clear b0 b1 b2 b3
        replace HB := hidR (B3' HB.out hB)
        replace HO := hidR (HO.out.bel hB)
        clear hB
        go_wp2
        go_ret
        exact ⟨rfl, HB.out⟩
      · rw [h1, h2] at HI2
        obtain ⟨b0, b1, b2, b3, -, -, -, -⟩ := HO.out
        go_wp2_with fail
        refine (HI2.out _ HEr.out HX.out).mono ?_
        rintro e w4 ⟨vz, rfl, hoz, hB⟩
        replace HB := hidR (B3' HB.out hB)
        replace HO := hidR (HO.out.bel hB)
        replace HX := hidR (HX.out.below hB)
        obtain ⟨az, gz, cz, rfl, haz, hEz, hcz, -⟩ := hoz.at
        have HZ2 := hidR hEz
        have HAZ := hidR haz
        clear hoz hEz haz b0 b1 b2 b3
        clear hB
        obtain ⟨b0, b1, b2, b3, -, -, -, -⟩ := HO.out
        go_wp2_with fail
        refine (HSame.out _ gx gz _ _ _ _ HAX.out HAZ.out HX.out HZ2.out).mono ?_
        rintro e w5 ⟨rfl, hB⟩
        clear b0 b1 b2 b3
        replace HB := hidR (B3' HB.out hB)
        replace HO := hidR (HO.out.bel hB)
        clear hB
        go_wp2
        go_ret
        exact ⟨rfl, HB.out⟩
      · rw [h1, h2] at HI2
        have n1' : (k == 1) = false := by rw [beq_eq_false_iff_ne]; exact n1
        have n2' : (k == 2) = false := by rw [beq_eq_false_iff_ne]; exact n2
        obtain ⟨b0, b1, b2, b3, -, -, -, -⟩ := HO.out
        go_wp2_with fail
        refine (HI2.out _ HEr.out HX.out).mono ?_
        rintro e w4 ⟨vz, rfl, hoz, hB⟩
        replace HB := hidR (B3' HB.out hB)
        replace HO := hidR (HO.out.bel hB)
        replace HX := hidR (HX.out.below hB)
        obtain ⟨az, gz, cz, rfl, haz, hEz, hcz, -⟩ := hoz.at
        have HZ2 := hidR hEz
        have HAZ := hidR haz
        clear hoz hEz haz b0 b1 b2 b3
        clear hB
        obtain ⟨b0, b1, b2, b3, -, -, -, -⟩ := HO.out
        go_wp2_with fail
        refine (HSame.out _ gx gz _ _ _ _ HAX.out HAZ.out HX.out HZ2.out).mono ?_
        rintro e w5 ⟨rfl, hB⟩
        clear b0 b1 b2 b3
        replace HB := hidR (B3' HB.out hB)
        replace HO := hidR (HO.out.bel hB)
        clear hB
        go_wp2
        go_ret
        exact ⟨rfl, HB.out⟩
  · go_enter Tryz.func5, Tryz.ntmps5
    go_wp2
    go_ret
    exact ⟨rfl, Below.refl _ _⟩
end Go.Proofs.YtolfeljefdgikaaGreatDoor
