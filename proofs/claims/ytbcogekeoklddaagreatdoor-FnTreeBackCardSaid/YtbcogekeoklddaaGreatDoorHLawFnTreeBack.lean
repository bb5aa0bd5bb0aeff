/-
  The walk of the law FnTreeBack, out of the contracts.
-/
import Derived.Lib.QuietBelow
import Derived.Test.YtbcogekeoklddaaGreatDoorHPk07
import Derived.Test.YtbcogekeoklddaaGreatDoorHTreeDoI
import Derived.Test.YtbcogekeoklddaaGreatDoorHSameI
import Derived.Test.YtbcogekeoklddaaGreatDoorHImplGet
import Derived.Test.YtbcogekeoklddaaGreatDoorHDoSz
namespace Go.Proofs.YtbcogekeoklddaaGreatDoor
open Go.RowKit Go.Lib Go.Sort
attribute [local go_sem] eq_ent guard_ent

theorem tget_x_size {es : List E} (hz : ∀ e ∈ es, e.p.size ≤ 16777216 ∧ e.x.size ≤ 16777216) (s : ByteArray) : (tgetE es s).1.x.size ≤ 16777216 := by
  cases ht : treeE es with
  | false => rw [tget_bad ht]; decide
  | true =>
    cases hr : isRoot s with
    | true => rw [(isRoot_iff s).1 hr, tget_root ht]; decide
    | false =>
      rw [tget_look ht hr]
      cases hl : lookE es s with
      | none => decide
      | some f => exact (hz f (look_mem hl).1).2
set_option maxHeartbeats 2000000 in
set_option maxRecDepth 100000 in
theorem walk_fnTreeBack (ae : Int → Addr) (a : Option Addr) (len cap : Nat) (zs : List Int) (w : World) (hErr : Errs8 w ae) (hw : IsRow .u8 w a len cap zs) :
    Calls Tryz.prog 6 #[.slice a len cap] w fun e w' => e = .returned (.bool true) ∧ Below w.heap.size w w' := by
  have hC := hidR hw.cod
  have HEr := hidR hErr
  clear hw hErr
  by_cases hl : len ≤ 1048576
  · go_enter Tryz.func6, Tryz.ntmps6
    go_wp2_with fail
    refine (DrawTreeDo_any _ a len cap hl hC.out).mono ?_
    rintro e w1 ⟨v, es, k, p, t, x, rfl, hL, hS, zp, zt, zx, hB⟩
    obtain ⟨a1, g1, o1, c1, rfl, ha1, hE, hc1, -⟩ := hL
    have HB := hidR hB
    replace HEr := hidR (HEr.out.below hB)
    have HE := hidR hE
    have HA := hidR ha1
    have HZ : Hid (∀ e ∈ es, e.p.size ≤ 16777216 ∧ e.x.size ≤ 16777216) := fun e he => ⟨by have := (hS.2 e he).1; omega, by have := (hS.2 e he).2; omega⟩
    have HZ16 := hidR hS.2
    have HV := hidR zt
    have hlen : es.length ≤ 17 := hS.1
    have hn1 : es.length ≤ 1048576 := by omega
    have hn2 : es.length ≤ 16777216 := by omega
    have hp : p.size ≤ 16777216 := by omega
    have ht : t.size ≤ 16777216 := by have := okS_size zt; omega
    have hx : x.size ≤ 16777216 := by omega
    clear hB hC hE ha1 hS zt
    have HIm := hidR (fun (W : World) (hEr : Errs8 W ae) (hW : Ents W g1 o1 es) => iTreeDo_any W a1 g1 o1 c1 es k p t x ae hEr hn2 hp ht hx HZ.out HA.out hW)
    have HSp := hidR (fun (W : World) (hW : Ents W g1 o1 es) => sTreeDo_any W a1 g1 o1 c1 es k p t x hn1 hc1 hp ht hx HZ.out HA.out hW)
    have HDS := hidR (do_lens es k p t x)
    obtain ⟨ds, hds⟩ : ∃ ds, doE es ⟨k, p, t, x⟩ = ds := ⟨_, rfl⟩
    obtain ⟨cc, hcc⟩ : ∃ cc, doC es ⟨k, p, t, x⟩ = cc := ⟨_, rfl⟩
    rw [hds, hcc] at HIm HSp
    rw [hds] at HDS
    obtain ⟨hdl, hdz⟩ := HDS.out
    have HDZ := hidR hdz
    clear hdz HDS
    have hcase : (cc ≠ 0 ∨ k = 5) ∨ (cc = 0 ∧ k ≠ 5 ∧ Done es ⟨k, p, t, x⟩) := by
      by_cases h0 : cc = 0
      · by_cases h5 : k = 5
        · exact .inl (.inr h5)
        · exact .inr ⟨h0, h5, (done_iff es ⟨k, p, t, x⟩).1 (hcc.trans h0)⟩
      · exact .inl (.inl h0)
    have HDs := hidR hds
    clear hds hcc
    have hcne : (cc != cc) = false := by simp
    have hceq : (cc == cc) = true := by simp
    have HGi := hidR (fun (W : World) (hEr : Errs8 W ae) (hW : Ents W g1 o1 es) => iTreeGet_any W a1 g1 o1 c1 es p ae hEr.two hn2 hp HZ.out HA.out hW)
    obtain ⟨te, hte⟩ : ∃ te, (tgetE es p).1 = te := ⟨_, rfl⟩
    obtain ⟨had, hhad⟩ : ∃ had, (tgetE es p).2 = had := ⟨_, rfl⟩
    rw [hte, hhad] at HGi
    have HTE := hidR hte
    have HHD := hidR hhad
    clear hte hhad
    obtain ⟨W1, hW1⟩ : ∃ W1, W1 = w1.alloc (.cells #[.int .i64 k, .string p, .string t, .string x] 25) := ⟨_, rfl⟩
    have HO : Hid (Bx W1 w1.heap.size k p t x) := by rw [hW1]; exact Bx.new w1 k p t x 25
    have hB : Below w1.heap.size w1 W1 := by rw [hW1]; exact (Below.refl _ w1).alloc (Nat.le_refl _) _
    replace HB := hidR (B3' HB.out hB)
    replace HEr := hidR (HEr.out.below hB)
    replace HE := hidR (HE.out.below hB)
    clear hB
    go_wp2_with fail
    rw [← hW1]
    clear hW1
    refine (HIm.out _ HEr.out HE.out).mono ?_
    rintro e w2 ⟨vx, rfl, hox, hB⟩
    replace HB := hidR (B3' HB.out hB)
    replace HO := hidR (HO.out.bel hB)
    replace HEr := hidR (HEr.out.below hB)
    replace HE := hidR (HE.out.below hB)
    obtain ⟨ax, gx, cx, rfl, hax, hEx, hcx, -⟩ := hox.at
    have HX := hidR hEx
    have HAX := hidR hax
    clear hox hEx hax
    clear hB
    obtain ⟨b0, b1, b2, b3, -, -, -, -⟩ := HO.out
    go_wp2_with fail
    refine (HSp.out _ HE.out).mono ?_
    rintro e w3 ⟨vy, rfl, hoy, hB⟩
    clear b0 b1 b2 b3
    replace HB := hidR (B3' HB.out hB)
    replace HO := hidR (HO.out.bel hB)
    replace HEr := hidR (HEr.out.below hB)
    replace HE := hidR (HE.out.below hB)
    replace HX := hidR (HX.out.below hB)
    obtain ⟨ay, gy, cy, rfl, hay, hEy, hcy, -⟩ := hoy.at
    have HY := hidR hEy
    have HAY := hidR hay
    clear hoy hEy hay
    clear hB
    obtain ⟨b0, b1, b2, b3, -, -, -, -⟩ := HO.out
    rcases hcase with h0 | ⟨rfl, h5, hd⟩
    · by_cases h0' : cc = 0
      · have h5 : k = 5 := by rcases h0 with h | h; exact absurd h0' h; exact h
        subst h5 h0'
        go_wp2
        go_ret
        exact ⟨rfl, HB.out⟩
      · have h1 : (cc == 0) = false := by rw [beq_eq_false_iff_ne]; exact h0'
        have h2 : (cc != 0) = true := by simp [h0']
        go_wp2
        go_ret
        exact ⟨rfl, HB.out⟩
    · have h5' : (k == 5) = false := by rw [beq_eq_false_iff_ne]; exact h5
      clear b0 b1 b2 b3
      obtain ⟨b0, b1, b2, b3, -, -, -, -⟩ := HO.out
      go_wp2_with fail
      refine (HGi.out _ HEr.out HE.out).mono ?_
      rintro e w4 ⟨rfl, hB⟩
      clear b0 b1 b2 b3
      replace HB := hidR (B3' HB.out hB)
      replace HO := hidR (HO.out.bel hB)
      replace HEr := hidR (HEr.out.below hB)
      replace HE := hidR (HE.out.below hB)
      replace HX := hidR (HX.out.below hB)
      clear hB
      have hk : k = 1 ∨ k = 2 ∨ k = 3 ∨ k = 4 := by
        have h5k : ¬ (⟨k, p, t, x⟩ : O).k = 5 := h5
        rcases hd.kind with h | h | h | h | h
        · exact .inl h
        · exact .inr (.inl h)
        · exact .inr (.inr (.inl h))
        · exact .inr (.inr (.inr h))
        · exact absurd h h5k
      have HBk := hidR (hd.back h5)
      rw [HDs.out] at HBk
      unfold backO at HBk
      rw [HTE.out, HHD.out] at HBk
      have HTx : Hid (te.x.size ≤ 16777216) := by
        show _ ≤ _
        rw [← HTE.out]
        exact tget_x_size HZ.out p
      have HB5 : Hid (Below w4.heap.size w4 (w4.alloc (.cells #[.string te.p, .bool te.d, .string te.x] 34))) := (Below.refl _ _).alloc (Nat.le_refl _) _
      have HB6 : Hid (Below w4.heap.size w4 ((w4.alloc (.cells #[.string te.p, .bool te.d, .string te.x] 34)).alloc (.cells #[.int .i64 4, .string p, .string ⟨#[]⟩, .string ⟨#[]⟩] 25))) := HB5.out.alloc HB5.out.size _
      have hs5 : (w4.alloc (.cells #[.string te.p, .bool te.d, .string te.x] 34)).heap.size = w4.heap.size + 1 := by simp
      have HQ := hidR (Bx.new (w4.alloc (.cells #[.string te.p, .bool te.d, .string te.x] 34)) 4 p ⟨#[]⟩ ⟨#[]⟩ 25)
      rw [hs5] at HQ
      clear hs5
      obtain ⟨b0, b1, b2, b3, -, -, -, -⟩ := HO.out.bel HB5.out
      have t0 : (w4.alloc (.cells #[.string te.p, .bool te.d, .string te.x] 34)).cell? ⟨w4.heap.size, 2, none⟩ = some (.string te.x) := by simp
      have kk0 := fun o => cellOn o b0
      have kk1 := fun o => cellOn o b1
      have kt := fun o => cellOn o t0
      obtain ⟨q0, q1, q2, q3, f0, f1, f2, f3⟩ := HQ.out
      have HSame := hidR (fun (W : World) (g g' : Nat) (a a' : Option Addr) (o' c c' : Nat) (ha : 0 < es.length → a = some ⟨g, 0, none⟩) (ha' : 0 < es.length → a' = some ⟨g', o', none⟩) (h1 : Ents W g 0 es) (h2 : Ents W g' o' es) => iTreeSame_any W a g 0 c es a' g' o' c' es (by omega) (by omega) ha ha' h1 h2)
      rw [sameT_refl es] at HSame
      have HDo := hidR (fun (W : World) (kb : Int) (xb : ByteArray) (hxb : xb.size ≤ 16777216) (hEr : Errs8 W ae) (hW : Ents W gx 0 ds) => iTreeDo_any W ax gx 0 cx ds kb p ⟨#[]⟩ xb ae hEr (by omega) hp (by decide) hxb (fun e he => ⟨by have := (HDZ.out e he).1; omega, by have := (HDZ.out e he).2; omega⟩) HAX.out hW)
      have hks : (k = 1) ∨ (k = 2 ∧ had = true) ∨ (k = 2 ∧ had = false) ∨ k = 3 ∨ k = 4 := by
        rcases hk with h | h | h | h
        · exact .inl h
        · cases had with
          | true => exact .inr (.inl ⟨h, rfl⟩)
          | false => exact .inr (.inr (.inl ⟨h, rfl⟩))
        · exact .inr (.inr (.inr (.inl h)))
        · exact .inr (.inr (.inr (.inr h)))
      clear hk hd h5 h5'
      rcases hks with rfl | ⟨rfl, rfl⟩ | ⟨rfl, rfl⟩ | rfl | rfl
      · have HBc : Hid (Below w4.heap.size w4 ((w4.alloc (.cells #[.string te.p, .bool te.d, .string te.x] 34)).alloc (.cells #[.int .i64 4, .string p, .string ⟨#[]⟩, .string ⟨#[]⟩] 25))) := HB5.out.alloc HB5.out.size _
        have HI := hidR (HDo.out ((w4.alloc (.cells #[.string te.p, .bool te.d, .string te.x] 34)).alloc (.cells #[.int .i64 4, .string p, .string ⟨#[]⟩, .string ⟨#[]⟩] 25)) 4 ⟨#[]⟩ (by decide) (HEr.out.below HBc.out) (HX.out.below HBc.out))
        have hbk : doC ds ⟨4, p, ⟨#[]⟩, ⟨#[]⟩⟩ = 0 ∧ doE ds ⟨4, p, ⟨#[]⟩, ⟨#[]⟩⟩ = es := by simpa using HBk.out
        rw [hbk.1, hbk.2] at HI
        clear hbk HBk
        go_wp2_with fail
        refine HI.out.mono ?_
        rintro e w5 ⟨vz, rfl, hoz, hB⟩
        obtain ⟨az, gz, cz, rfl, haz, hEz, hcz, -⟩ := hoz.at
        have HZ2 := hidR hEz
        have HAZ := hidR haz
        have HB7 := hidR (B3' (B3' HB.out HBc.out) hB)
        have HE7 := hidR ((HE.out.below HBc.out).below hB)
        clear hoz hEz haz hB HI
        clear b0 b1 b2 b3 t0 kk0 kk1 kt q0 q1 q2 q3 f0 f1 f2 f3
        go_wp2_with fail
        refine (HSame.out _ gz g1 _ _ _ _ _ HAZ.out HA.out HZ2.out HE7.out).mono ?_
        rintro e w6 ⟨rfl, hB⟩
        have HB8 := hidR (B3' HB7.out hB)
        clear hB
        go_wp2
        go_ret
        exact ⟨rfl, HB8.out⟩
      · have HBc : Hid (Below w4.heap.size w4 ((w4.alloc (.cells #[.string te.p, .bool te.d, .string te.x] 34)).alloc (.cells #[.int .i64 2, .string p, .string ⟨#[]⟩, .string te.x] 25))) := HB5.out.alloc HB5.out.size _
        have HI := hidR (HDo.out ((w4.alloc (.cells #[.string te.p, .bool te.d, .string te.x] 34)).alloc (.cells #[.int .i64 2, .string p, .string ⟨#[]⟩, .string te.x] 25)) 2 te.x HTx.out (HEr.out.below HBc.out) (HX.out.below HBc.out))
        have hbk : doC ds ⟨2, p, ⟨#[]⟩, te.x⟩ = 0 ∧ doE ds ⟨2, p, ⟨#[]⟩, te.x⟩ = es := by simpa using HBk.out
        rw [hbk.1, hbk.2] at HI
        clear hbk HBk
        go_wp2_with fail
        refine HI.out.mono ?_
        rintro e w5 ⟨vz, rfl, hoz, hB⟩
        obtain ⟨az, gz, cz, rfl, haz, hEz, hcz, -⟩ := hoz.at
        have HZ2 := hidR hEz
        have HAZ := hidR haz
        have HB7 := hidR (B3' (B3' HB.out HBc.out) hB)
        have HE7 := hidR ((HE.out.below HBc.out).below hB)
        clear hoz hEz haz hB HI
        clear b0 b1 b2 b3 t0 kk0 kk1 kt q0 q1 q2 q3 f0 f1 f2 f3
        go_wp2_with fail
        refine (HSame.out _ gz g1 _ _ _ _ _ HAZ.out HA.out HZ2.out HE7.out).mono ?_
        rintro e w6 ⟨rfl, hB⟩
        have HB8 := hidR (B3' HB7.out hB)
        clear hB
        go_wp2
        go_ret
        exact ⟨rfl, HB8.out⟩
      · have HBc : Hid (Below w4.heap.size w4 ((w4.alloc (.cells #[.string te.p, .bool te.d, .string te.x] 34)).alloc (.cells #[.int .i64 3, .string p, .string ⟨#[]⟩, .string ⟨#[]⟩] 25))) := HB5.out.alloc HB5.out.size _
        have HI := hidR (HDo.out ((w4.alloc (.cells #[.string te.p, .bool te.d, .string te.x] 34)).alloc (.cells #[.int .i64 3, .string p, .string ⟨#[]⟩, .string ⟨#[]⟩] 25)) 3 ⟨#[]⟩ (by decide) (HEr.out.below HBc.out) (HX.out.below HBc.out))
        have hbk : doC ds ⟨3, p, ⟨#[]⟩, ⟨#[]⟩⟩ = 0 ∧ doE ds ⟨3, p, ⟨#[]⟩, ⟨#[]⟩⟩ = es := by simpa using HBk.out
        rw [hbk.1, hbk.2] at HI
        clear hbk HBk
        go_wp2_with fail
        refine HI.out.mono ?_
        rintro e w5 ⟨vz, rfl, hoz, hB⟩
        obtain ⟨az, gz, cz, rfl, haz, hEz, hcz, -⟩ := hoz.at
        have HZ2 := hidR hEz
        have HAZ := hidR haz
        have HB7 := hidR (B3' (B3' HB.out HBc.out) hB)
        have HE7 := hidR ((HE.out.below HBc.out).below hB)
        clear hoz hEz haz hB HI
        clear b0 b1 b2 b3 t0 kk0 kk1 kt q0 q1 q2 q3 f0 f1 f2 f3
        go_wp2_with fail
        refine (HSame.out _ gz g1 _ _ _ _ _ HAZ.out HA.out HZ2.out HE7.out).mono ?_
        rintro e w6 ⟨rfl, hB⟩
        have HB8 := hidR (B3' HB7.out hB)
        clear hB
        go_wp2
        go_ret
        exact ⟨rfl, HB8.out⟩
      · have HBc : Hid (Below w4.heap.size w4 ((w4.alloc (.cells #[.string te.p, .bool te.d, .string te.x] 34)).alloc (.cells #[.int .i64 2, .string p, .string ⟨#[]⟩, .string te.x] 25))) := HB5.out.alloc HB5.out.size _
        have HI := hidR (HDo.out ((w4.alloc (.cells #[.string te.p, .bool te.d, .string te.x] 34)).alloc (.cells #[.int .i64 2, .string p, .string ⟨#[]⟩, .string te.x] 25)) 2 te.x HTx.out (HEr.out.below HBc.out) (HX.out.below HBc.out))
        have hbk : doC ds ⟨2, p, ⟨#[]⟩, te.x⟩ = 0 ∧ doE ds ⟨2, p, ⟨#[]⟩, te.x⟩ = es := by simpa using HBk.out
        rw [hbk.1, hbk.2] at HI
        clear hbk HBk
        go_wp2_with fail
        refine HI.out.mono ?_
        rintro e w5 ⟨vz, rfl, hoz, hB⟩
        obtain ⟨az, gz, cz, rfl, haz, hEz, hcz, -⟩ := hoz.at
        have HZ2 := hidR hEz
        have HAZ := hidR haz
        have HB7 := hidR (B3' (B3' HB.out HBc.out) hB)
        have HE7 := hidR ((HE.out.below HBc.out).below hB)
        clear hoz hEz haz hB HI
        clear b0 b1 b2 b3 t0 kk0 kk1 kt q0 q1 q2 q3 f0 f1 f2 f3
        go_wp2_with fail
        refine (HSame.out _ gz g1 _ _ _ _ _ HAZ.out HA.out HZ2.out HE7.out).mono ?_
        rintro e w6 ⟨rfl, hB⟩
        have HB8 := hidR (B3' HB7.out hB)
        clear hB
        go_wp2
        go_ret
        exact ⟨rfl, HB8.out⟩
      · have HBc : Hid (Below w4.heap.size w4 ((w4.alloc (.cells #[.string te.p, .bool te.d, .string te.x] 34)).alloc (.cells #[.int .i64 1, .string p, .string ⟨#[]⟩, .string ⟨#[]⟩] 25))) := HB5.out.alloc HB5.out.size _
        have HI := hidR (HDo.out ((w4.alloc (.cells #[.string te.p, .bool te.d, .string te.x] 34)).alloc (.cells #[.int .i64 1, .string p, .string ⟨#[]⟩, .string ⟨#[]⟩] 25)) 1 ⟨#[]⟩ (by decide) (HEr.out.below HBc.out) (HX.out.below HBc.out))
        have hbk : doC ds ⟨1, p, ⟨#[]⟩, ⟨#[]⟩⟩ = 0 ∧ doE ds ⟨1, p, ⟨#[]⟩, ⟨#[]⟩⟩ = es := by simpa using HBk.out
        rw [hbk.1, hbk.2] at HI
        clear hbk HBk
        go_wp2_with fail
        refine HI.out.mono ?_
        rintro e w5 ⟨vz, rfl, hoz, hB⟩
        obtain ⟨az, gz, cz, rfl, haz, hEz, hcz, -⟩ := hoz.at
        have HZ2 := hidR hEz
        have HAZ := hidR haz
        have HB7 := hidR (B3' (B3' HB.out HBc.out) hB)
        have HE7 := hidR ((HE.out.below HBc.out).below hB)
        clear hoz hEz haz hB HI
        clear b0 b1 b2 b3 t0 kk0 kk1 kt q0 q1 q2 q3 f0 f1 f2 f3
        go_wp2_with fail
        refine (HSame.out _ gz g1 _ _ _ _ _ HAZ.out HA.out HZ2.out HE7.out).mono ?_
        rintro e w6 ⟨rfl, hB⟩
        have HB8 := hidR (B3' HB7.out hB)
        clear hB
        go_wp2
        go_ret
        exact ⟨rfl, HB8.out⟩
  · go_enter Tryz.func6, Tryz.ntmps6
    go_wp2
    go_ret
    exact ⟨rfl, Below.refl _ _⟩
end Go.Proofs.YtbcogekeoklddaaGreatDoor
