/-
  The walk of the law FnTreeVia, out of the contracts.
-/
import Derived.Laws.IdiomStrings
import Derived.Lib.QuietBelow
import Derived.Test.YtbcogekeoklddaaGreatDoorHPk07
import Derived.Test.YtbcogekeoklddaaGreatDoorHTreeDoI
import Derived.Test.YtbcogekeoklddaaGreatDoorHSameI
import Derived.Test.YtbcogekeoklddaaGreatDoorHDoneS
namespace Go.Proofs.YtbcogekeoklddaaGreatDoor
open Go.RowKit Go.Lib Go.Sort
attribute [local go_sem] eq_ent guard_ent

set_option maxHeartbeats 2000000 in
set_option maxRecDepth 100000 in
theorem walk_fnTreeVia (ae : Int → Addr) (a : Option Addr) (len cap : Nat) (zs : List Int) (a' : Option Addr) (len' cap' : Nat) (zs' : List Int) (w : World) (hErr : Errs8 w ae) (hw : IsRow .u8 w a len cap zs) (_hw' : IsRow .u8 w a' len' cap' zs') :
    Calls Tryz.prog 8 #[.slice a len cap, .slice a' len' cap'] w fun e w' => e = .returned (.bool true) ∧ Below w.heap.size w w' := by
  have hC := hidR hw.cod
  have HEr := hidR hErr
  clear hw hErr
  by_cases hll : len ≤ 1048576 ∧ len' ≤ 1048576
  · obtain ⟨hl, hl'⟩ := hll
    go_enter Tryz.func8, Tryz.ntmps8
    go_wp2_with fail
    refine (DrawTreeDo_any _ a len cap hl hC.out).mono ?_
    rintro e w1 ⟨v, es, k, p, t, x, rfl, hL, hS, zp, zt, zx, hB⟩
    obtain ⟨a1, g1, o1, c1, rfl, ha1, hE, hc1, -⟩ := hL
    have HB := hidR hB
    replace HEr := hidR (HEr.out.below hB)
    have HE := hidR hE
    have HA := hidR ha1
    have HZ : Hid (∀ e ∈ es, e.p.size ≤ 16777216 ∧ e.x.size ≤ 16777216) := fun e he => ⟨by have := (hS.2 e he).1; omega, by have := (hS.2 e he).2; omega⟩
    have HZ16 := hidR hS.2
    have HV := hidR zt
    have hlen : es.length ≤ 17 := hS.1
    have hn1 : es.length ≤ 1048576 := by omega
    have hn2 : es.length ≤ 16777216 := by omega
    have hp : p.size ≤ 16777216 := by omega
    have ht : t.size ≤ 16777216 := by have := okS_size zt; omega
    have hx : x.size ≤ 16777216 := by omega
    clear hB hC hE ha1 hS zt
    have HIm := hidR (fun (W : World) (hEr : Errs8 W ae) (hW : Ents W g1 o1 es) => iTreeDo_any W a1 g1 o1 c1 es k p t x ae hEr hn2 hp ht hx HZ.out HA.out hW)
    have HSp := hidR (fun (W : World) (hW : Ents W g1 o1 es) => sTreeDo_any W a1 g1 o1 c1 es k p t x hn1 hc1 hp ht hx HZ.out HA.out hW)
    have HDS := hidR (do_lens es k p t x)
    obtain ⟨ds, hds⟩ : ∃ ds, doE es ⟨k, p, t, x⟩ = ds := ⟨_, rfl⟩
    obtain ⟨cc, hcc⟩ : ∃ cc, doC es ⟨k, p, t, x⟩ = cc := ⟨_, rfl⟩
    rw [hds, hcc] at HIm HSp
    rw [hds] at HDS
    obtain ⟨hdl, hdz⟩ := HDS.out
    have HDZ := hidR hdz
    clear hdz HDS
    have hcase : (cc ≠ 0 ∨ k ≠ 5) ∨ (cc = 0 ∧ k = 5 ∧ Mv es p t ∧ es.length ≤ 16 ∧ ds = movE es p t) := by
      by_cases h0 : cc = 0
      · by_cases h5 : k = 5
        · have d := (done_iff es ⟨k, p, t, x⟩).1 (hcc.trans h0)
          rcases d.kinds with ⟨q, _⟩ | ⟨q, _⟩ | ⟨q, _⟩ | ⟨q, _⟩ | ⟨_, _, m, hm⟩
          · rw [show (⟨k, p, t, x⟩ : O).k = k from rfl, h5] at q; cases q
          · rw [show (⟨k, p, t, x⟩ : O).k = k from rfl, h5] at q; cases q
          · rw [show (⟨k, p, t, x⟩ : O).k = k from rfl, h5] at q; cases q
          · rw [show (⟨k, p, t, x⟩ : O).k = k from rfl, h5] at q; cases q
          · exact .inr ⟨h0, h5, m, d.len, by rw [← hds]; exact hm⟩
        · exact .inl (.inr h5)
      · exact .inl (.inl h0)
    clear hds hcc
    have hcne : (cc != cc) = false := by simp
    have hceq : (cc == cc) = true := by simp
    obtain ⟨W1, hW1⟩ : ∃ W1, W1 = w1.alloc (.cells #[.int .i64 k, .string p, .string t, .string x] 25) := ⟨_, rfl⟩
    have HO : Hid (Bx W1 w1.heap.size k p t x) := by rw [hW1]; exact Bx.new w1 k p t x 25
    have hB : Below w1.heap.size w1 W1 := by rw [hW1]; exact (Below.refl _ w1).alloc (Nat.le_refl _) _
    replace HB := hidR (B3' HB.out hB)
    replace HEr := hidR (HEr.out.below hB)
    replace HE := hidR (HE.out.below hB)
    clear hB
    go_wp2_with fail
    rw [← hW1]
    clear hW1
    refine (HIm.out _ HEr.out HE.out).mono ?_
    rintro e w2 ⟨vx, rfl, hox, hB⟩
    replace HB := hidR (B3' HB.out hB)
    replace HO := hidR (HO.out.bel hB)
    replace HEr := hidR (HEr.out.below hB)
    replace HE := hidR (HE.out.below hB)
    obtain ⟨ax, gx, cx, rfl, hax, hEx, hcx, -⟩ := hox.at
    have HX := hidR hEx
    have HAX := hidR hax
    clear hox hEx hax
    clear hB
    obtain ⟨b0, b1, b2, b3, -, -, -, -⟩ := HO.out
    go_wp2_with fail
    refine (HSp.out _ HE.out).mono ?_
    rintro e w3 ⟨vy, rfl, hoy, hB⟩
    clear b0 b1 b2 b3
    replace HB := hidR (B3' HB.out hB)
    replace HO := hidR (HO.out.bel hB)
    replace HEr := hidR (HEr.out.below hB)
    replace HE := hidR (HE.out.below hB)
    replace HX := hidR (HX.out.below hB)
    obtain ⟨ay, gy, cy, rfl, hay, hEy, hcy, -⟩ := hoy.at
    have HY := hidR hEy
    have HAY := hidR hay
    clear hoy hEy hay
    clear hB
    obtain ⟨b0, b1, b2, b3, -, -, -, -⟩ := HO.out
    rcases hcase with h0 | ⟨rfl, rfl, m, h16, hdm⟩
    · by_cases h0' : cc = 0
      · have h5 : k ≠ 5 := by rcases h0 with h | h; exact absurd h0' h; exact h
        have h5' : (k == 5) = false := by rw [beq_eq_false_iff_ne]; exact h5
        have h5n : (k != 5) = true := by simp [h5]
        subst h0'
        go_wp2
        go_ret
        exact ⟨rfl, HB.out⟩
      · have h1 : (cc == 0) = false := by rw [beq_eq_false_iff_ne]; exact h0'
        have h2 : (cc != 0) = true := by simp [h0']
        go_wp2
        go_ret
        exact ⟨rfl, HB.out⟩
    · have hm5 : len' % 5 < 5 := Nat.mod_lt _ (by decide)
      obtain ⟨hvp, hvu, -, hvz⟩ := via_facts len'
      have HNV := hidR (okS_not_via HV.out len')
      obtain ⟨vi, hvi⟩ : ∃ vi, viaS len' = vi := ⟨_, rfl⟩
      have hvi2 : ⟨#[47]⟩ ++ ⟨#[UInt8.ofNat (107 + len' % 5)]⟩ = vi := hvi
      rw [hvi] at hvp hvu hvz HNV
      have HDM := hidR hdm
      clear hdm
      have hvz2 : vi.size ≤ 16777216 := by omega
      have hu : ((UInt8.ofNat (107 + len' % 5)).toNat : Int) = 107 + (len' : Int) % 5 := by
        rw [UInt8.toNat_ofNat']; omega
      have kc : (convert 22 9 (.slice (some ⟨w3.heap.size, 0, none⟩) 1 1)).run Tryz.prog (w3.alloc (.cells #[.int .u8 (107 + (len' : Int) % 5)] 5)) = .ok (.string ⟨#[UInt8.ofNat (107 + len' % 5)]⟩) (w3.alloc (.cells #[.int .u8 (107 + (len' : Int) % 5)] 5)) := by
        refine run_convert_bytes_back _ 22 9 5 ⟨w3.heap.size, 0, none⟩ 1 [UInt8.ofNat (107 + len' % 5)] Tryz.underlying22 Tryz.underlying5 Tryz.underlying9 ?_
        intro j hj
        obtain rfl : j = 0 := by simpa using hj
        simp only [List.getElem_cons_zero]
        rw [hu]
        simp [Addr.add]
      obtain ⟨ub, hub⟩ : ∃ ub, UInt8.ofNat (107 + len' % 5) = ub := ⟨_, rfl⟩
      rw [hub] at kc hvi2
      clear hu hub hvi
      have k1 := fun o => cellOn o b1
      have k2 := fun o => cellOn o b2
      have HI1 := hidR (fun (W : World) (hEr : Errs8 W ae) (hW : Ents W g1 o1 es) => iTreeDo_any W a1 g1 o1 c1 es 5 p vi ⟨#[]⟩ ae hEr hn2 hp hvz2 (by decide) HZ.out HA.out hW)
      go_wp2_with fail
      clear b0 b1 b2 b3 k1 k2 kc
      have hB : Below w3.heap.size w3 (w3.alloc (.cells #[.int .u8 (107 + (len' : Int) % 5)] 5)) := (Below.refl _ _).alloc (Nat.le_refl _) _
      replace HB := hidR (B3' HB.out hB)
      replace HO := hidR (HO.out.bel hB)
      replace HEr := hidR (HEr.out.below hB)
      replace HE := hidR (HE.out.below hB)
      replace HX := hidR (HX.out.below hB)
      clear hB
      rcases via_code m h16 hvp hvu with hv | hv | ⟨hv, kk⟩
      · rw [hv] at HI1
        refine (HI1.out _ HEr.out HE.out).mono ?_
        rintro e w4 ⟨vv, rfl, hov, hB⟩
        replace HB := hidR (B3' HB.out hB)
        replace HO := hidR (HO.out.bel hB)
        clear hB
        go_wp2
        go_ret
        exact ⟨rfl, HB.out⟩
      · rw [hv] at HI1
        refine (HI1.out _ HEr.out HE.out).mono ?_
        rintro e w4 ⟨vv, rfl, hov, hB⟩
        replace HB := hidR (B3' HB.out hB)
        replace HO := hidR (HO.out.bel hB)
        clear hB
        go_wp2
        go_ret
        exact ⟨rfl, HB.out⟩
      · obtain ⟨e1, e2, e3⟩ := via_done m kk h16 HNV.out
        have hmz := do_lens es 5 p vi ⟨#[]⟩
        rw [e1] at HI1 hmz
        rw [← HDM.out] at e3
        obtain ⟨ms, hms⟩ : ∃ ms, movE es p vi = ms := ⟨_, rfl⟩
        rw [hms] at HI1 e2 e3 hmz
        rw [hv] at HI1
        obtain ⟨hml, hmz⟩ := hmz
        have HMZ := hidR hmz
        clear hms e1 hmz
        refine (HI1.out _ HEr.out HE.out).mono ?_
        rintro e w4 ⟨vv, rfl, hov, hB⟩
        replace HB := hidR (B3' HB.out hB)
        replace HO := hidR (HO.out.bel hB)
        replace HEr := hidR (HEr.out.below hB)
        replace HX := hidR (HX.out.below hB)
        obtain ⟨av, gv, cv, rfl, hav, hEv, hcv, -⟩ := hov.at
        have HM := hidR hEv
        have HAM := hidR hav
        clear hov hEv hav
        clear hB
        have HI2 := hidR (fun (W : World) (hEr : Errs8 W ae) (hW : Ents W gv 0 ms) => iTreeDo_any W av gv 0 cv ms 5 vi t ⟨#[]⟩ ae hEr (by omega) hvz2 ht (by decide) (fun e he => ⟨by have := (HMZ.out e he).1; omega, by have := (HMZ.out e he).2; omega⟩) HAM.out hW)
        rw [e2, e3] at HI2
        have HSame := hidR (fun (W : World) (g g' : Nat) (a a' : Option Addr) (c c' : Nat) (ha : 0 < ds.length → a = some ⟨g, 0, none⟩) (ha' : 0 < ds.length → a' = some ⟨g', 0, none⟩) (h1 : Ents W g 0 ds) (h2 : Ents W g' 0 ds) => iTreeSame_any W a g 0 c ds a' g' 0 c' ds (by omega) (by omega) ha ha' h1 h2)
        rw [sameT_refl ds] at HSame
        obtain ⟨b0, b1, b2, b3, -, -, -, -⟩ := HO.out
        go_wp2_with fail
        refine (HI2.out _ HEr.out HM.out).mono ?_
        rintro e w5 ⟨vz, rfl, hoz, hB⟩
        clear b0 b1 b2 b3
        replace HB := hidR (B3' HB.out hB)
        replace HO := hidR (HO.out.bel hB)
        replace HX := hidR (HX.out.below hB)
        obtain ⟨az, gz, cz, rfl, haz, hEz, hcz, -⟩ := hoz.at
        have HZ2 := hidR hEz
        have HAZ := hidR haz
        clear hoz hEz haz
        clear hB
        obtain ⟨b0, b1, b2, b3, -, -, -, -⟩ := HO.out
        go_wp2_with fail
        refine (HSame.out _ gz gx _ _ _ _ HAZ.out HAX.out HZ2.out HX.out).mono ?_
        rintro e w6 ⟨rfl, hB⟩
        clear b0 b1 b2 b3
        replace HB := hidR (B3' HB.out hB)
        replace HO := hidR (HO.out.bel hB)
        clear hB
        go_wp2
        go_ret
        exact ⟨rfl, HB.out⟩
  · by_cases hl : len ≤ 1048576
    · have hl' : ¬ len' ≤ 1048576 := fun q => hll ⟨hl, q⟩
      go_enter Tryz.func8, Tryz.ntmps8
      go_wp2
      go_ret
      exact ⟨rfl, Below.refl _ _⟩
    · go_enter Tryz.func8, Tryz.ntmps8
      go_wp2
      go_ret
      exact ⟨rfl, Below.refl _ _⟩
end Go.Proofs.YtbcogekeoklddaaGreatDoor
