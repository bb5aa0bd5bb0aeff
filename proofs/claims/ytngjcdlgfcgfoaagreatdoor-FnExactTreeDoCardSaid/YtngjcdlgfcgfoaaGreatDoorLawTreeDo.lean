/-
  The walk of the law FnExactTreeDo, out of the contracts.
-/
import Derived.Deep.RegionHeld3
import Derived.Test.YtngjcdlgfcgfoaaGreatDoorPk15
import Derived.Test.YtngjcdlgfcgfoaaGreatDoorPk17
import Derived.Test.YtngjcdlgfcgfoaaGreatDoorTreeDoI
namespace Go.Proofs.YtngjcdlgfcgfoaaGreatDoor
open Go.RowKit Go.Lib

theorem Ents.but {w w' : World} {g o r : Nat} {es : List E} (h : Ents w g o es) (hb : But r w w') (hne : 0 < es.length → g ≠ r) : Ents w' g o es := fun i hi => by
  obtain ⟨c0, c1, c2⟩ := h i hi
  have lt := World.block_lt_of_cell? w ⟨g, o + i * 3, none⟩ c0
  have hh := hb.2.2.2.2 g lt (hne (by omega))
  exact ⟨(World.cell?_of_block (w := w) (a := ⟨g, _, none⟩) hh).trans c0, (World.cell?_of_block (w := w) (a := ⟨g, _, none⟩) hh).trans c1, (World.cell?_of_block (w := w) (a := ⟨g, _, none⟩) hh).trans c2⟩
theorem Room.butE {w w' : World} {g n r : Nat} (h : Room w g n) (hb : But r w w') (hne : 0 < n → g ≠ r) : Room w' g n := fun i hi => by
  obtain ⟨⟨v, hv⟩, hf⟩ := h i hi
  have lt := World.block_lt_of_cell? w ⟨g, i, none⟩ hv
  have hh := hb.2.2.2.2 g lt (hne (by omega))
  exact ⟨⟨v, (World.cell?_of_block (w := w) (a := ⟨g, i, none⟩) hh).trans hv⟩, (World.frozen?_of_block (w := w) (a := ⟨g, i, none⟩) hh).trans hf⟩
theorem But.belowE {r n : Nat} {w w0 w' : World} (h : But r w w') (hB : Below n w0 w) (hn : n ≤ w.heap.size) (hr : n ≤ r) : Below n w0 w' :=
  hB.trans ⟨h.1, h.2.1, h.2.2.1, h.2.2.2.1, fun k hk => h.2.2.2.2 k (by omega) (by omega)⟩
/-- A row of entries that is owned: where it lies, and that it may be written. -/
theorem row_entsE {w : World} {base : Nat} {v : Value} {es : List E} (h : OwnE w base v es) :
    ∃ a g cap, v = .slice a es.length cap ∧ (0 < es.length → a = some ⟨g, 0, none⟩) ∧ Ents w g 0 es ∧ Room w g (es.length * 3) ∧ base ≤ g := by
  have hc := fun (g : Nat) (hg : v.ownBlock = some g) => World.ownsRow.cells h hg
  obtain ⟨_, ⟨rfl, e0⟩ | ⟨g, cap, cur, rfl, hb, hg, hcap, _, hsz, _⟩⟩ := h
  · exact ⟨none, base, 0, by rw [e0], fun h => by omega, fun i hi => by omega, fun i hi => by omega, Nat.le_refl _⟩
  · refine ⟨_, g, cap, rfl, fun _ => rfl, fun i hi => ?_, fun i hi => ⟨?_, ?_⟩, hb⟩
    · obtain ⟨q0, q1, q2⟩ := rowE_at es i hi
      refine ⟨?_, ?_, ?_⟩
      · have := hc g rfl _ _ q0; rw [add0] at this; exact this
      · have := hc g rfl _ _ q1; rw [add0, ← Nat.add_assoc] at this; exact this
      · have := hc g rfl _ _ q2; rw [add0, ← Nat.add_assoc] at this; exact this
    · have hi' : i < (rowE es).length := by rw [rowE_len]; exact hi
      have := hc g rfl i _ (List.getElem?_eq_getElem hi')
      rw [add0, Nat.zero_add] at this
      exact ⟨_, this⟩
    · unfold World.frozen?
      rw [hg]
      simp
theorem do_len (es : List E) (k : Int) (p t x : ByteArray) : (doE es ⟨k, p, t, x⟩).length ≤ 17 := by
  unfold doE
  cases htr : treeE es with
  | false => simp
  | true =>
    obtain ⟨T, hes⟩ := treeE_tr htr
    rw [if_pos rfl]
    by_cases h0 : doC es ⟨k, p, t, x⟩ = 0
    · rw [if_pos h0]
      unfold doC at h0
      rw [htr, ← fit_op] at h0
      cases hop : (pathB p && fitB k t x) with
      | false => rw [hop] at h0; cases h0
      | true => rw [hop] at h0; exact (made_tr T hes hop h0).2
    · rw [if_neg h0]; omega

set_option maxHeartbeats 4000000 in
set_option maxRecDepth 100000 in
theorem walk_fnExactTreeDo (ae : Int → Addr) (a : Option Addr) (len cap : Nat) (es : List E) (k : Int) (p t x : ByteArray) (w : World) (hErr : Errs8 w ae) (hw : EntSl w a len cap es) (hpz : p.size ≤ maxLen) (htz : t.size ≤ maxLen) (hxz : x.size ≤ maxLen) :
    Calls Tryz.prog 3 #[.slice a len cap, .agg #[.int .i64 k, .string p, .string t, .string x]] w fun r w' => r = .returned (.bool true) ∧ Below w.heap.size w w' := by
  obtain ⟨rfl, hcap, hm, hz, g, o, ha, hE⟩ := hw
  obtain ⟨W0, hW0⟩ : ∃ W0, W0 = w.alloc (.cells #[.int .i64 k, .string p, .string t, .string x] 24) := ⟨_, rfl⟩
  have hBw : Below w.heap.size w W0 := hW0 ▸ (Below.refl _ w).alloc (Nat.le_refl _) _
  have hs0 : W0.heap.size = w.heap.size + 1 := by rw [hW0]; simp
  have HX := hid (fun (W' : World) (h : Below W0.heap.size W0 W') => box4i (w := w) (a := .int .i64 k) (b := .string p) (c := .string t) (d := .string x) (T := 24) (w' := W') (by rw [← hW0]; exact h))
  have HEr := hid (fun (W' : World) (h : Below W0.heap.size W0 W') => (hErr.below hBw).below h)
  have HE := hid (fun (W' : World) (h : Below W0.heap.size W0 W') => (hE.below hBw).below h)
  have HZ := hid hz
  have HF := hid (fun (W' : World) (h : Below W0.heap.size W0 W') => hBw.trans (h.mono hBw.size))
  clear hE hz hErr
  go_enter Tryz.func3, Tryz.ntmps3
  go_wp2_with fail
  rw [← hW0]
  clear hW0
  refine (szEntS_any _ a g o cap es _ (by omega) (by omega) hm HZ.out ha (HE.out _ (Below.refl _ _))).mono ?_
  rintro e w1 ⟨r, rfl, r1, r2, r3, hB1⟩
  have HB1 := hid hB1
  have HR := hid r3
  clear hB1 r3 HZ
  by_cases hr : 0 ≤ r
  · obtain ⟨l1, l2⟩ := HR.out hr
    have hn : es.length ≤ 1048576 := by omega
    have HL : Hid (∀ e ∈ es, e.p.size ≤ 16777216 ∧ e.x.size ≤ 16777216) := fun e he => ⟨by have := (l2 e he).1; omega, by have := (l2 e he).2; omega⟩
    clear HR l2
    obtain ⟨x0, x1, x2, x3⟩ := HX.out _ HB1.out
    go_wp2_with fail
    refine (szOp_any _ k p t x r hr (by omega) hpz htz hxz).mono ?_
    rintro e w2 ⟨r', rfl, r1', r2', r3', hB2⟩
    have HB2 := hid (belowT HB1.out hB2)
    have HR' := hid r3'
    clear hB2 r3' x0 x1 x2 x3
    by_cases hr' : 0 ≤ r'
    · obtain ⟨m1, m2, m3⟩ := HR'.out hr'
      have hp : p.size ≤ 16777216 := by omega
      have ht : t.size ≤ 16777216 := by omega
      have hx : x.size ≤ 16777216 := by omega
      clear HR' m1 m2 m3
      have hlen := do_len es k p t x
      obtain ⟨ds, hds⟩ : ∃ ds, doE es ⟨k, p, t, x⟩ = ds := ⟨_, rfl⟩
      obtain ⟨cc, hcc⟩ : ∃ cc, doC es ⟨k, p, t, x⟩ = cc := ⟨_, rfl⟩
      rw [hds] at hlen
      have HSp := hid (fun (W : World) (g' : Nat) (hW : Ents W g' 0 es) => sTreeDo_any W (some ⟨g', 0, none⟩) g' 0 es.length es k p t x hn (Nat.le_refl _) hp ht hx HL.out (fun _ => rfl) hW)
      have HIm := hid (fun (W : World) (g' : Nat) (hEr : Errs8 W ae) (hW : Ents W g' 0 es) => iTreeDo_any W (some ⟨g', 0, none⟩) g' 0 es.length es k p t x ae hEr (by omega) hp ht hx HL.out (fun _ => rfl) hW)
      rw [hds, hcc] at HSp HIm
      have hcne : (cc != cc) = false := by simp
      clear hds hcc
      have HAS := hid (fun (W' : World) (h : Below w2.heap.size w2 W') => HX.out _ (belowT HB2.out h))
      go_wp2
      go_region_held3 (fun W' => W'.cell? ⟨w.heap.size, 0, none⟩ = some (.int .i64 k) ∧ W'.cell? ⟨w.heap.size, 1, none⟩ = some (.string p) ∧ W'.cell? ⟨w.heap.size, 2, none⟩ = some (.string t) ∧ W'.cell? ⟨w.heap.size, 3, none⟩ = some (.string x))
        ((first | exact HAS.out _ (belowT (belowT (belowT (Below.refl _ _).drew hB3) hB4) hB5) | exact HAS.out _ (belowT (belowT (Below.refl _ _).drew hB3) hB4) | exact HAS.out _ (belowT (Below.refl _ _).drew hB3) | exact HAS.out _ (Below.refl _ _).drew))
        (first | (go_at_call 7; refine (toEntS_any _ a g o cap es hn ha (HE.out _ HB2.out.drew)).mono ?_; rintro e w3 ⟨rfl, hX3, -, hB3⟩) | (go_at_call 8; refine (toOp_any _ k p t x).mono ?_; rintro e w4 ⟨rfl, hB4⟩) | (go_at_call 6; refine (HSp.out _ w2.heap.size (hX3.below hB4)).mono ?_; rintro e w5 ⟨vw, rfl, hown, hB5⟩) | fail)
      have HB5 := hid (belowT (belowT (belowT HB2.out.drew hB3) hB4) hB5)
      obtain ⟨aw, gw, capw, rfl, haw, hSw, -, -⟩ := row_entsE hown
      have hgw : 0 < ds.length → gw < w5.heap.size := fun h => World.block_lt_of_cell? w5 ⟨gw, 0 + 0 * 3, none⟩ (hSw 0 h).1
      have HS5 := hid hSw
      have HGw := hid hgw
      have HAw := hid haw
      clear hB3 hB4 hB5 hX3 hown hSw hgw haw HAS
      go_wp2_with fail
      refine (toEntS_any _ a g o cap es hn ha (HE.out _ HB5.out)).mono ?_
      rintro e w6 ⟨rfl, hX6, hR6, hB6⟩
      have HB6 := hid (belowT HB5.out hB6)
      have HS6 := hid (HS5.out.below hB6)
      have HX6 := hid hX6
      have HR6 := hid hR6
      have H56 : Hid (0 < es.length → w5.heap.size < w6.heap.size) := fun h => World.block_lt_of_cell? w6 ⟨w5.heap.size, 0 + 0 * 3, none⟩ (hX6 0 h).1
      have hs56 := hB6.size
      clear hX6 hR6 hB6 HS5
      obtain ⟨x0, x1, x2, x3⟩ := HX.out _ HB6.out
      go_wp2_with fail
      refine (toOp_any _ k p t x).mono ?_
      rintro e w7 ⟨rfl, hB7⟩
      have HB7 := hid (belowT HB6.out hB7)
      have HS7 := hid (HS6.out.below hB7)
      have HX7 := hid (HX6.out.below hB7)
      have HR7 := hid (HR6.out.below hB7)
      have hs67 := hB7.size
      clear hB7 HS6 HX6 HR6 x0 x1 x2 x3
      go_wp2_with fail
      refine (HIm.out _ w5.heap.size (HEr.out _ HB7.out) HX7.out).mono ?_
      rintro e w8 ⟨vg, rfl, hown, hB8⟩
      obtain ⟨ag, gg, capg, rfl, hag, hSg, hRg, hgg⟩ := row_entsE hown
      have HB8 := hid (belowT HB7.out hB8)
      have HS8 := hid (HS7.out.below hB8)
      have HX8 := hid (HX7.out.below hB8)
      have HR8 := hid (HR7.out.below hB8)
      have HG8 := hid hSg
      have HQ8 := hid hRg
      have HAg := hid hag
      have hs78 := hB8.size
      clear hB8 hown hSg hRg hag HS7 HX7 HR7
      have hsame := sameES_self ds
      go_wp2_with fail
      refine (eqEntS_any _ _ _ gg 0 capg gw 0 capw ds ds (by omega) (by omega) HAg.out HAw.out HG8.out HS8.out).mono ?_
      rintro e w9 ⟨rfl, hB9⟩
      have HB9 := hid (belowT HB8.out hB9)
      have HS9 := hid (HS8.out.below hB9)
      have HX9 := hid (HX8.out.below hB9)
      have HR9 := hid (HR8.out.below hB9)
      have HG9 := hid (HG8.out.below hB9)
      have HQ9 := hid (HQ8.out.below hB9)
      have hs89 := hB9.size
      clear hB9 HS8 HX8 HR8 HG8 HQ8
      rw [hsame]
      go_wp2_with fail
      refine (toEntS_any _ a g o cap es hn ha (HE.out _ HB9.out)).mono ?_
      rintro e w10 ⟨rfl, hX10, _, hB10⟩
      have HU10 := hid hX10
      have HB10 := hid (belowT HB9.out hB10)
      have HS10 := hid (HS9.out.below hB10)
      have HX10 := hid (HX9.out.below hB10)
      have HR10 := hid (HR9.out.below hB10)
      have HG10 := hid (HG9.out.below hB10)
      have HQ10 := hid (HQ9.out.below hB10)
      have hs910 := hB10.size
      clear hB10 HS9 HX9 HR9 HG9 HQ9 hX10
      go_wp2_with fail
      refine (eqEntS_any _ _ _ w5.heap.size 0 es.length w9.heap.size 0 es.length es es (by omega) (by omega) (fun _ => rfl) (fun _ => rfl) HX10.out HU10.out).mono ?_
      rintro e w11 ⟨rfl, hB11⟩
      have HB11 := hid (belowT HB10.out hB11)
      have HS11 := hid (HS10.out.below hB11)
      have HR11 := hid (HR10.out.below hB11)
      have HG11 := hid (HG10.out.below hB11)
      have HQ11 := hid (HQ10.out.below hB11)
      have hs1011 := hB11.size
      clear hB11 HS10 HR10 HG10 HQ10
      have hs' := sameES_self es
      clear HX10 HU10
      rw [hs']
      have hw5 := HB5.out.size
      have hgge : w7.heap.size ≤ gg := hgg
      have hggl : 0 < ds.length → gg < w11.heap.size := fun h => World.block_lt_of_cell? w11 ⟨gg, 0 + 0 * 3, none⟩ (HG11.out 0 h).1
      have HGG := hid hggl
      obtain ⟨gx, hgx⟩ : ∃ gx, (0 < es.length → gx = w5.heap.size) ∧ (es.length = 0 → gx = w11.heap.size) := by
        by_cases h : 0 < es.length
        · exact ⟨w5.heap.size, fun _ => rfl, fun h' => by omega⟩
        · exact ⟨w11.heap.size, fun h' => absurd h' h, fun _ => rfl⟩
      have HGX := hid hgx
      have hgxl : w5.heap.size ≤ gx := by
        by_cases h : 0 < es.length
        · have := HGX.out.1 h; omega
        · have := HGX.out.2 (by omega); omega
      clear hgx hggl
      go_wp2_with fail
      refine (markEntS_any _ _ gx es.length es.length 1 (by omega) (by omega) (by omega) (fun h => by rw [HGX.out.1 h]) (fun i hi => by rw [HGX.out.1 (by omega)]; exact HR11.out i hi) (fun h => by have := H56.out h; rw [HGX.out.1 h]; omega)).mono ?_
      rintro e w12 ⟨rfl, -, -, hb12⟩
      have hs1112 := hb12.2.2.2.1
      have HB12 := hid (hb12.belowE HB11.out HB11.out.size (by omega))
      have hnw : 0 < ds.length → gw ≠ gx := fun h e => by have := HGw.out h; omega
      have hng : 0 < ds.length → gg ≠ gx := fun h e => by
        have h1 := HGG.out h
        by_cases h0 : 0 < es.length
        · have h2 := HGX.out.1 h0; have h3 := H56.out h0; omega
        · have h2 := HGX.out.2 (by omega); omega
      have HS12 := hid (HS11.out.but hb12 hnw)
      have HG12 := hid (HG11.out.but hb12 hng)
      have HQ12 := hid (HQ11.out.butE hb12 (fun h => hng (by omega)))
      clear hb12 HS11 HR11 HG11 HQ11 hnw hng
      have hk2 : ¬ ((1 + es.length * 3 : Nat) : Int) < 0 := by omega
      obtain ⟨kz, hkz⟩ : ∃ kz, ((1 + es.length * 3 : Nat) : Int) = kz := ⟨_, rfl⟩
      rw [hkz] at hk2
      rw [hkz]
      clear hkz
      go_wp2_with fail
      refine (eqEntS_any _ _ _ gg 0 capg gw 0 capw ds ds (by omega) (by omega) HAg.out HAw.out HG12.out HS12.out).mono ?_
      rintro e w13 ⟨rfl, hB13⟩
      have HB13 := hid (belowT HB12.out hB13)
      have HS13 := hid (HS12.out.below hB13)
      have HQ13 := hid (HQ12.out.below hB13)
      have hs1213 := hB13.size
      clear hB13 HS12 HQ12 HG12
      rw [hsame]
      go_wp2_with fail
      refine (markEntS_any _ _ gg capg ds.length 1 (by omega) (by omega) (by omega) HAg.out HQ13.out (fun h => by have := HGG.out h; omega)).mono ?_
      rintro e w14 ⟨rfl, hM14, -, hb14⟩
      have hs1314 := hb14.2.2.2.1
      have HB14 := hid (hb14.belowE HB13.out HB13.out.size (by omega))
      have HS14 := hid (HS13.out.but hb14 (fun h => by have := HGw.out h; omega))
      have HM14 := hid hM14
      clear hb14 hM14 HS13 HQ13
      have hm0 : ¬ ((1 + ds.length * 3 : Nat) : Int) < 0 := by omega
      obtain ⟨mm, hmm⟩ : ∃ mm, ((1 + ds.length * 3 : Nat) : Int) = mm := ⟨_, rfl⟩
      have HMM := hid hmm
      rw [hmm] at hm0
      rw [hmm]
      clear hmm
      have hmne : (mm != mm) = false := by simp
      go_wp2_with fail
      refine (heldEntS_any _ _ gg capg ds.length 1 (by omega) (by omega) (by omega) HAg.out HM14.out).mono ?_
      rintro e w15 ⟨rfl, hB15⟩
      rw [HMM.out]
      have HB15 := hid (belowT HB14.out hB15)
      have HS15 := hid (HS14.out.below hB15)
      have HM15 := hid (HM14.out.below hB15)
      clear hB15 HS14 HM14
      have HAS := hid (fun (W' : World) (h : Below w15.heap.size w15 W') => HX.out _ (belowT HB15.out h))
      go_wp2
      go_region_held3 (fun W' => W'.cell? ⟨w.heap.size, 0, none⟩ = some (.int .i64 k) ∧ W'.cell? ⟨w.heap.size, 1, none⟩ = some (.string p) ∧ W'.cell? ⟨w.heap.size, 2, none⟩ = some (.string t) ∧ W'.cell? ⟨w.heap.size, 3, none⟩ = some (.string x))
        ((first | exact HAS.out _ (belowT (belowT (belowT (Below.refl _ _).drew hB16) hB17) hB18) | exact HAS.out _ (belowT (belowT (Below.refl _ _).drew hB16) hB17) | exact HAS.out _ (belowT (Below.refl _ _).drew hB16) | exact HAS.out _ (Below.refl _ _).drew))
        (first | (go_at_call 7; refine (toEntS_any _ a g o cap es hn ha (HE.out _ HB15.out.drew)).mono ?_; rintro e w16 ⟨rfl, hX16, -, hB16⟩) | (go_at_call 8; refine (toOp_any _ k p t x).mono ?_; rintro e w17 ⟨rfl, hB17⟩) | (go_at_call 9; refine (HIm.out _ w15.heap.size (HEr.out _ (belowT (belowT HB15.out.drew hB16) hB17)) (hX16.below hB17)).mono ?_; rintro e w18 ⟨vh, rfl, hown, hB18⟩) | fail)
      have hB58 := belowT (belowT (belowT (Below.refl _ _).drew hB16) hB17) hB18
      have HB18 := hid (belowT HB15.out hB58)
      have HS18 := hid (HS15.out.below hB58)
      have HM18 := hid (HM15.out.below hB58)
      obtain ⟨ah, gh, caph, rfl, hah, hSh, -, -⟩ := row_entsE hown
      have HH18 := hid hSh
      have HAh := hid hah
      clear hB16 hB17 hB18 hX16 hown hSh hah HAS hB58 HS15 HM15
      go_wp2_with fail
      refine (eqEntS_any _ _ _ gh 0 caph gw 0 capw ds ds (by omega) (by omega) HAh.out HAw.out HH18.out HS18.out).mono ?_
      rintro e w19 ⟨rfl, hB19⟩
      have HB19 := hid (belowT HB18.out hB19)
      have HM19 := hid (HM18.out.below hB19)
      clear hB19 HM18 HS18 HH18
      rw [hsame]
      go_wp2_with fail
      refine (heldEntS_any _ _ gg capg ds.length 1 (by omega) (by omega) (by omega) HAg.out HM19.out).mono ?_
      rintro e w20 ⟨rfl, hB20⟩
      rw [HMM.out]
      have HB20 := hid (belowT HB19.out hB20)
      clear hB20 HM19
      go_wp2
      go_ret
      exact ⟨rfl, HF.out _ HB20.out⟩
    · go_wp2
      go_ret
      exact ⟨rfl, HF.out _ HB2.out⟩
  · go_wp2
    go_ret
    exact ⟨rfl, HF.out _ HB1.out⟩
end Go.Proofs.YtngjcdlgfcgfoaaGreatDoor
