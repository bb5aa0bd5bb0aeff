/-
  The walk of the law FnExactMerge, out of the contracts.
-/
import Derived.Test.YteedhlljcfojfaaDoorHLawW
import Derived.Test.YteedhlljcfojfaaDoorHMgFin
namespace Go.Proofs.YteedhlljcfojfaaDoor
open Go.RowKit Go.Lib

theorem mergeE_len (t a b : List E) : (Mg.mergeE t a b).length ≤ 16 := by
  unfold Mg.mergeE
  split
  · rename_i h
    unfold Mg.mergeB at h
    rw [Bool.and_eq_true, Bool.and_eq_true] at h
    exact (treeE_tr h.2.2).2
  · exact Nat.zero_le _
theorem mergeE_sm {t a b : List E} (h1 : Mg.Sm t) (h2 : Mg.Sm a) (h3 : Mg.Sm b) : Mg.Sm (Mg.mergeE t a b) := by
  unfold Mg.mergeE
  split
  · exact Mg.mergeL_sm h1 h2 h3 _
  · intro e he; cases he
theorem errs3_keepMerge {w w' : World} {ae : Int → Addr} {bad : Value} {lo hi n : Nat} (h : Mg.Errs3 w ae bad ∧ 0 < n ∧ 1 < n ∧ 2 < n) (k : Keep lo hi w w') (hd : n ≤ lo) : Mg.Errs3 w' ae bad ∧ 0 < n ∧ 1 < n ∧ 2 < n := by
  obtain ⟨⟨⟨h1, h2⟩, h3⟩, q1, q2, q3⟩ := h
  exact ⟨⟨⟨(k.cell (g := 1) (World.block_lt_of_cell? w _ h1) (.inl (by omega)) 0).1.trans h1, (k.cell (g := 2) (World.block_lt_of_cell? w _ h2) (.inl (by omega)) 0).1.trans h2⟩, (k.cell (g := 0) (World.block_lt_of_cell? w _ h3) (.inl (by omega)) 0).1.trans h3⟩, q1, q2, q3⟩
/-- The three variables, and where they lie. -/
structure ErrKMerge (n : Nat) (w : World) (ae : Int → Addr) (bad : Value) : Prop where
  e : Mg.Errs3 w ae bad ∧ 0 < n ∧ 1 < n ∧ 2 < n
theorem ErrKMerge.below {n : Nat} {w w' : World} {ae : Int → Addr} {bad : Value} (h : ErrKMerge n w ae bad) (hb : Below w.heap.size w w') : ErrKMerge n w' ae bad := ⟨h.e.1.below hb, h.e.2⟩
theorem ErrKMerge.keep {n lo hi : Nat} {w w' : World} {ae : Int → Addr} {bad : Value} (h : ErrKMerge n w ae bad) (k : Keep lo hi w w') (hd : n ≤ lo) : ErrKMerge n w' ae bad := ⟨errs3_keepMerge h.e k hd⟩

set_option maxHeartbeats 8000000 in
set_option maxRecDepth 100000 in
theorem walk_fnExactMerge (ae : Int → Addr) (bad : Value) (a : Option Addr) (len cap : Nat) (es : List E) (a' : Option Addr) (len' cap' : Nat) (fs : List E) (a'' : Option Addr) (len'' cap'' : Nat) (gs : List E) (w : World) (hErr : Mg.Errs3 w ae bad) (hw : EntSl w a len cap es) (hw' : EntSl w a' len' cap' fs) (hw'' : EntSl w a'' len'' cap'' gs) :
    Calls Tryd.prog 4 #[.slice a len cap, .slice a' len' cap', .slice a'' len'' cap''] w fun r w' => r = .returned (.bool true) ∧ Below w.heap.size w w' := by
  go_enter Tryd.func4, Tryd.ntmps4
  have HB_0 := hidE (Below.refl w.heap.size w)
  have hg1 := World.block_lt_of_cell? w _ hErr.badC
  have hg2 := World.block_lt_of_cell? w _ hErr.two.noneC
  have hg3 := World.block_lt_of_cell? w _ hErr.two.fileC
  dsimp only at hg1 hg2 hg3
  have ER_0 := hidE ((⟨hErr, hg1, hg2, hg3⟩ : ErrKMerge w.heap.size w ae bad))
  have A1_0 := hidE (hw)
  have A2_0 := hidE (hw')
  have A3_0 := hidE (hw'')
  clear hErr hw hw' hw'' hg1 hg2 hg3
  go_wp2_with fail
  refine (A1_0.out.szR _ (by omega) (by omega)).mono ?_
  rintro e w1 ⟨r1, rfl, p0, q0, hz, hB⟩
  have hz1 := hB.size
  clear A1_0
  have HB_1 := hidE (B3E HB_0.out hB)
  have ER_1 := hidE (ER_0.out.below hB)
  have A2_1 := hidE (A2_0.out.below hB)
  have A3_1 := hidE (A3_0.out.below hB)
  have ZA1_1 := hidE hz
  clear HB_0 ER_0 A2_0 A3_0 hB hz
  by_cases hr1 : 0 ≤ r1
  · have z0 := (ZA1_1.out hr1).ab
    clear ZA1_1
    have hn0 : es.length ≤ 1048576 := by obtain ⟨_, _, _, _, _, h, _⟩ := z0; exact h
    have RA1_1 := hidE (z0)
    clear z0
    go_wp2_with fail
    refine (A2_1.out.szR _ (by omega) (by omega)).mono ?_
    rintro e w2 ⟨r2, rfl, p1, q1, hz, hB⟩
    have hz2 := hB.size
    clear A2_1
    have HB_2 := hidE (B3E HB_1.out hB)
    have ER_2 := hidE (ER_1.out.below hB)
    have A3_2 := hidE (A3_1.out.below hB)
    have RA1_2 := hidE (RA1_1.out.below hB)
    have ZA2_2 := hidE hz
    clear HB_1 ER_1 A3_1 RA1_1 hB hz
    by_cases hr2 : 0 ≤ r2
    · have z1 := (ZA2_2.out hr2).ab
      clear ZA2_2
      have hn1 : fs.length ≤ 1048576 := by obtain ⟨_, _, _, _, _, h, _⟩ := z1; exact h
      have RA2_2 := hidE (z1)
      clear z1
      go_wp2_with fail
      refine (A3_2.out.szR _ (by omega) (by omega)).mono ?_
      rintro e w3 ⟨r3, rfl, p2, q2, hz, hB⟩
      have hz3 := hB.size
      clear A3_2
      have HB_3 := hidE (B3E HB_2.out hB)
      have ER_3 := hidE (ER_2.out.below hB)
      have RA1_3 := hidE (RA1_2.out.below hB)
      have RA2_3 := hidE (RA2_2.out.below hB)
      have ZA3_3 := hidE hz
      clear HB_2 ER_2 RA1_2 RA2_2 hB hz
      by_cases hr3 : 0 ≤ r3
      · have z2 := (ZA3_3.out hr3).ab
        clear ZA3_3
        have hn2 : gs.length ≤ 1048576 := by obtain ⟨_, _, _, _, _, h, _⟩ := z2; exact h
        have RA3_3 := hidE (z2)
        clear z2
        go_wp2_with fail
        refine (RA1_3.out.rowZ.toB).mono ?_
        rintro e w4 ⟨vX1, rfl, hX, hB⟩
        have hz4 := hB.size
        have HB_4 := hidE (B3E HB_3.out hB)
        have ER_4 := hidE (ER_3.out.below hB)
        have RA1_4 := hidE (RA1_3.out.below hB)
        have RA2_4 := hidE (RA2_3.out.below hB)
        have RA3_4 := hidE (RA3_3.out.below hB)
        have X1_4 := hidE hX
        clear HB_3 ER_3 RA1_3 RA2_3 RA3_3 hB hX
        go_wp2_with fail
        refine (RA2_4.out.rowZ.toB).mono ?_
        rintro e w5 ⟨vX2, rfl, hX, hB⟩
        have hz5 := hB.size
        have HB_5 := hidE (B3E HB_4.out hB)
        have ER_5 := hidE (ER_4.out.below hB)
        have RA1_5 := hidE (RA1_4.out.below hB)
        have RA2_5 := hidE (RA2_4.out.below hB)
        have RA3_5 := hidE (RA3_4.out.below hB)
        have X1_5 := hidE (X1_4.out.below hB)
        have X2_5 := hidE hX
        clear HB_4 ER_4 RA1_4 RA2_4 RA3_4 X1_4 hB hX
        go_wp2_with fail
        refine (RA3_5.out.rowZ.toB).mono ?_
        rintro e w6 ⟨vX3, rfl, hX, hB⟩
        have hz6 := hB.size
        have HB_6 := hidE (B3E HB_5.out hB)
        have ER_6 := hidE (ER_5.out.below hB)
        have RA1_6 := hidE (RA1_5.out.below hB)
        have RA2_6 := hidE (RA2_5.out.below hB)
        have RA3_6 := hidE (RA3_5.out.below hB)
        have X1_6 := hidE (X1_5.out.below hB)
        have X2_6 := hidE (X2_5.out.below hB)
        have X3_6 := hidE hX
        clear HB_5 ER_5 RA1_5 RA2_5 RA3_5 X1_5 X2_5 hB hX
        have HSm := hidE (mergeE_sm X1_6.out.rowZ.row.sm X2_6.out.rowZ.row.sm X3_6.out.rowZ.row.sm)
        have hcl := mergeE_len es fs gs
        go_wp2_with fail
        refine (Mg.sMerge_any _ _ _ _ es fs gs X1_6.out.rowZ.row X2_6.out.rowZ.row X3_6.out.rowZ.row).mono ?_
        rintro e w7 ⟨vW, rfl, hO, hB⟩
        have hz7 := hB.size
        clear X1_6
        clear X2_6
        clear X3_6
        have HB_7 := hidE (B3E HB_6.out hB)
        have ER_7 := hidE (ER_6.out.below hB)
        have RA1_7 := hidE (RA1_6.out.below hB)
        have RA2_7 := hidE (RA2_6.out.below hB)
        have RA3_7 := hidE (RA3_6.out.below hB)
        have W_7 := hidE (EB.of_own hO (by omega) HSm.out)
        clear HB_6 ER_6 RA1_6 RA2_6 RA3_6 hB
        clear hO
        obtain ⟨bb, hbb⟩ : ∃ bb, Mg.mergeB es fs gs = bb := ⟨_, rfl⟩
        rw [hbb]
        have HBB := hidE hbb
        have hbne : (bb != bb) = false := by simp
        clear hbb
        go_wp2_with fail
        refine (RA1_7.out.rowZ.toB).mono ?_
        rintro e w8 ⟨vY1, rfl, hX, hB⟩
        have hz8 := hB.size
        have HB_8 := hidE (B3E HB_7.out hB)
        have ER_8 := hidE (ER_7.out.below hB)
        have RA1_8 := hidE (RA1_7.out.below hB)
        have RA2_8 := hidE (RA2_7.out.below hB)
        have RA3_8 := hidE (RA3_7.out.below hB)
        have W_8 := hidE (W_7.out.below hB)
        have Y1_8 := hidE hX
        clear HB_7 ER_7 RA1_7 RA2_7 RA3_7 W_7 hB hX
        go_wp2_with fail
        refine (RA2_8.out.rowZ.toB).mono ?_
        rintro e w9 ⟨vY2, rfl, hX, hB⟩
        have hz9 := hB.size
        have HB_9 := hidE (B3E HB_8.out hB)
        have ER_9 := hidE (ER_8.out.below hB)
        have RA1_9 := hidE (RA1_8.out.below hB)
        have RA2_9 := hidE (RA2_8.out.below hB)
        have RA3_9 := hidE (RA3_8.out.below hB)
        have W_9 := hidE (W_8.out.below hB)
        have Y1_9 := hidE (Y1_8.out.below hB)
        have Y2_9 := hidE hX
        clear HB_8 ER_8 RA1_8 RA2_8 RA3_8 W_8 Y1_8 hB hX
        go_wp2_with fail
        refine (RA3_9.out.rowZ.toB).mono ?_
        rintro e w10 ⟨vY3, rfl, hX, hB⟩
        have hz10 := hB.size
        have HB_10 := hidE (B3E HB_9.out hB)
        have ER_10 := hidE (ER_9.out.below hB)
        have RA1_10 := hidE (RA1_9.out.below hB)
        have RA2_10 := hidE (RA2_9.out.below hB)
        have RA3_10 := hidE (RA3_9.out.below hB)
        have W_10 := hidE (W_9.out.below hB)
        have Y1_10 := hidE (Y1_9.out.below hB)
        have Y2_10 := hidE (Y2_9.out.below hB)
        have Y3_10 := hidE hX
        clear HB_9 ER_9 RA1_9 RA2_9 RA3_9 W_9 Y1_9 Y2_9 hB hX
        go_wp2_with fail
        refine (Mg.iMerge_any _ _ _ _ es fs gs ae bad ER_10.out.e.1 Y1_10.out.rowZ.row Y2_10.out.rowZ.row Y3_10.out.rowZ.row).mono ?_
        rintro e w11 ⟨vG, rfl, hO, hB⟩
        have hz11 := hB.size
        have HB_11 := hidE (B3E HB_10.out hB)
        have ER_11 := hidE (ER_10.out.below hB)
        have RA1_11 := hidE (RA1_10.out.below hB)
        have RA2_11 := hidE (RA2_10.out.below hB)
        have RA3_11 := hidE (RA3_10.out.below hB)
        have W_11 := hidE (W_10.out.below hB)
        have Y1_11 := hidE (Y1_10.out.below hB)
        have Y2_11 := hidE (Y2_10.out.below hB)
        have Y3_11 := hidE (Y3_10.out.below hB)
        have G_11 := hidE (EB.of_own hO (by omega) HSm.out)
        clear HB_10 ER_10 RA1_10 RA2_10 RA3_10 W_10 Y1_10 Y2_10 Y3_10 hB
        clear hO
        rw [HBB.out]
        go_wp2_with fail
        refine (G_11.out.eq W_11.out).mono ?_
        rintro e w12 ⟨rfl, hB⟩
        have hz12 := hB.size
        have HB_12 := hidE (B3E HB_11.out hB)
        have ER_12 := hidE (ER_11.out.below hB)
        have RA1_12 := hidE (RA1_11.out.below hB)
        have RA2_12 := hidE (RA2_11.out.below hB)
        have RA3_12 := hidE (RA3_11.out.below hB)
        have W_12 := hidE (W_11.out.below hB)
        have Y1_12 := hidE (Y1_11.out.below hB)
        have Y2_12 := hidE (Y2_11.out.below hB)
        have Y3_12 := hidE (Y3_11.out.below hB)
        have G_12 := hidE (G_11.out.below hB)
        clear HB_11 ER_11 RA1_11 RA2_11 RA3_11 W_11 Y1_11 Y2_11 Y3_11 G_11 hB
        go_wp2_with fail
        refine (RA1_12.out.rowZ.toB).mono ?_
        rintro e w13 ⟨vTY1, rfl, hX, hB⟩
        have hz13 := hB.size
        have HB_13 := hidE (B3E HB_12.out hB)
        have ER_13 := hidE (ER_12.out.below hB)
        have RA1_13 := hidE (RA1_12.out.below hB)
        have RA2_13 := hidE (RA2_12.out.below hB)
        have RA3_13 := hidE (RA3_12.out.below hB)
        have W_13 := hidE (W_12.out.below hB)
        have Y1_13 := hidE (Y1_12.out.below hB)
        have Y2_13 := hidE (Y2_12.out.below hB)
        have Y3_13 := hidE (Y3_12.out.below hB)
        have G_13 := hidE (G_12.out.below hB)
        have TY1_13 := hidE hX
        clear HB_12 ER_12 RA1_12 RA2_12 RA3_12 W_12 Y1_12 Y2_12 Y3_12 G_12 hB hX
        go_wp2_with fail
        refine (Y1_13.out.eq TY1_13.out).mono ?_
        rintro e w14 ⟨rfl, hB⟩
        have hz14 := hB.size
        clear TY1_13
        have HB_14 := hidE (B3E HB_13.out hB)
        have ER_14 := hidE (ER_13.out.below hB)
        have RA1_14 := hidE (RA1_13.out.below hB)
        have RA2_14 := hidE (RA2_13.out.below hB)
        have RA3_14 := hidE (RA3_13.out.below hB)
        have W_14 := hidE (W_13.out.below hB)
        have Y1_14 := hidE (Y1_13.out.below hB)
        have Y2_14 := hidE (Y2_13.out.below hB)
        have Y3_14 := hidE (Y3_13.out.below hB)
        have G_14 := hidE (G_13.out.below hB)
        clear HB_13 ER_13 RA1_13 RA2_13 RA3_13 W_13 Y1_13 Y2_13 Y3_13 G_13 hB
        go_wp2_with fail
        refine (RA2_14.out.rowZ.toB).mono ?_
        rintro e w15 ⟨vTY2, rfl, hX, hB⟩
        have hz15 := hB.size
        have HB_15 := hidE (B3E HB_14.out hB)
        have ER_15 := hidE (ER_14.out.below hB)
        have RA1_15 := hidE (RA1_14.out.below hB)
        have RA2_15 := hidE (RA2_14.out.below hB)
        have RA3_15 := hidE (RA3_14.out.below hB)
        have W_15 := hidE (W_14.out.below hB)
        have Y1_15 := hidE (Y1_14.out.below hB)
        have Y2_15 := hidE (Y2_14.out.below hB)
        have Y3_15 := hidE (Y3_14.out.below hB)
        have G_15 := hidE (G_14.out.below hB)
        have TY2_15 := hidE hX
        clear HB_14 ER_14 RA1_14 RA2_14 RA3_14 W_14 Y1_14 Y2_14 Y3_14 G_14 hB hX
        go_wp2_with fail
        refine (Y2_15.out.eq TY2_15.out).mono ?_
        rintro e w16 ⟨rfl, hB⟩
        have hz16 := hB.size
        clear TY2_15
        have HB_16 := hidE (B3E HB_15.out hB)
        have ER_16 := hidE (ER_15.out.below hB)
        have RA1_16 := hidE (RA1_15.out.below hB)
        have RA2_16 := hidE (RA2_15.out.below hB)
        have RA3_16 := hidE (RA3_15.out.below hB)
        have W_16 := hidE (W_15.out.below hB)
        have Y1_16 := hidE (Y1_15.out.below hB)
        have Y2_16 := hidE (Y2_15.out.below hB)
        have Y3_16 := hidE (Y3_15.out.below hB)
        have G_16 := hidE (G_15.out.below hB)
        clear HB_15 ER_15 RA1_15 RA2_15 RA3_15 W_15 Y1_15 Y2_15 Y3_15 G_15 hB
        go_wp2_with fail
        refine (RA3_16.out.rowZ.toB).mono ?_
        rintro e w17 ⟨vTY3, rfl, hX, hB⟩
        have hz17 := hB.size
        have HB_17 := hidE (B3E HB_16.out hB)
        have ER_17 := hidE (ER_16.out.below hB)
        have RA1_17 := hidE (RA1_16.out.below hB)
        have RA2_17 := hidE (RA2_16.out.below hB)
        have RA3_17 := hidE (RA3_16.out.below hB)
        have W_17 := hidE (W_16.out.below hB)
        have Y1_17 := hidE (Y1_16.out.below hB)
        have Y2_17 := hidE (Y2_16.out.below hB)
        have Y3_17 := hidE (Y3_16.out.below hB)
        have G_17 := hidE (G_16.out.below hB)
        have TY3_17 := hidE hX
        clear HB_16 ER_16 RA1_16 RA2_16 RA3_16 W_16 Y1_16 Y2_16 Y3_16 G_16 hB hX
        go_wp2_with fail
        refine (Y3_17.out.eq TY3_17.out).mono ?_
        rintro e w18 ⟨rfl, hB⟩
        have hz18 := hB.size
        clear TY3_17
        have HB_18 := hidE (B3E HB_17.out hB)
        have ER_18 := hidE (ER_17.out.below hB)
        have RA1_18 := hidE (RA1_17.out.below hB)
        have RA2_18 := hidE (RA2_17.out.below hB)
        have RA3_18 := hidE (RA3_17.out.below hB)
        have W_18 := hidE (W_17.out.below hB)
        have Y1_18 := hidE (Y1_17.out.below hB)
        have Y2_18 := hidE (Y2_17.out.below hB)
        have Y3_18 := hidE (Y3_17.out.below hB)
        have G_18 := hidE (G_17.out.below hB)
        clear HB_17 ER_17 RA1_17 RA2_17 RA3_17 W_17 Y1_17 Y2_17 Y3_17 G_17 hB
        go_wp2_with fail
        refine (Y1_18.out.mark 1 (by omega) (by omega)).mono ?_
        rintro e w19 ⟨rfl, -, hK⟩
        have hz19 := hK.size
        clear Y1_18
        have HB_19 := hidE (hK.below HB_18.out (by omega) (by omega))
        have ER_19 := hidE (ER_18.out.keep hK (by omega))
        have RA1_19 := hidE (RA1_18.out.keep hK (by omega))
        have RA2_19 := hidE (RA2_18.out.keep hK (by omega))
        have RA3_19 := hidE (RA3_18.out.keep hK (by omega))
        have W_19 := hidE (W_18.out.keep hK (by omega))
        have Y2_19 := hidE (Y2_18.out.keep hK (by omega))
        have Y3_19 := hidE (Y3_18.out.keep hK (by omega))
        have G_19 := hidE (G_18.out.keep hK (by omega))
        clear HB_18 ER_18 RA1_18 RA2_18 RA3_18 W_18 Y2_18 Y3_18 G_18 hK
        obtain ⟨k0, hk0⟩ : ∃ k0 : Nat, 1 + es.length * 3 = k0 := ⟨_, rfl⟩
        rw [hk0]
        go_wp2_with fail
        refine (Y2_19.out.mark k0 (by omega) (by omega)).mono ?_
        rintro e w20 ⟨rfl, -, hK⟩
        have hz20 := hK.size
        clear Y2_19
        have HB_20 := hidE (hK.below HB_19.out (by omega) (by omega))
        have ER_20 := hidE (ER_19.out.keep hK (by omega))
        have RA1_20 := hidE (RA1_19.out.keep hK (by omega))
        have RA2_20 := hidE (RA2_19.out.keep hK (by omega))
        have RA3_20 := hidE (RA3_19.out.keep hK (by omega))
        have W_20 := hidE (W_19.out.keep hK (by omega))
        have Y3_20 := hidE (Y3_19.out.keep hK (by omega))
        have G_20 := hidE (G_19.out.keep hK (by omega))
        clear HB_19 ER_19 RA1_19 RA2_19 RA3_19 W_19 Y3_19 G_19 hK
        obtain ⟨k1, hk1⟩ : ∃ k1 : Nat, k0 + fs.length * 3 = k1 := ⟨_, rfl⟩
        rw [hk1]
        go_wp2_with fail
        refine (Y3_20.out.mark k1 (by omega) (by omega)).mono ?_
        rintro e w21 ⟨rfl, -, hK⟩
        have hz21 := hK.size
        clear Y3_20
        have HB_21 := hidE (hK.below HB_20.out (by omega) (by omega))
        have ER_21 := hidE (ER_20.out.keep hK (by omega))
        have RA1_21 := hidE (RA1_20.out.keep hK (by omega))
        have RA2_21 := hidE (RA2_20.out.keep hK (by omega))
        have RA3_21 := hidE (RA3_20.out.keep hK (by omega))
        have W_21 := hidE (W_20.out.keep hK (by omega))
        have G_21 := hidE (G_20.out.keep hK (by omega))
        clear HB_20 ER_20 RA1_20 RA2_20 RA3_20 W_20 G_20 hK
        obtain ⟨k2, hk2⟩ : ∃ k2 : Nat, k1 + gs.length * 3 = k2 := ⟨_, rfl⟩
        rw [hk2]
        have hkp : ¬ ((k2 : Nat) : Int) < 0 := by omega
        clear hk0 hk1 hk2
        go_wp2_with fail
        refine (G_21.out.eq W_21.out).mono ?_
        rintro e w22 ⟨rfl, hB⟩
        have hz22 := hB.size
        have HB_22 := hidE (B3E HB_21.out hB)
        have ER_22 := hidE (ER_21.out.below hB)
        have RA1_22 := hidE (RA1_21.out.below hB)
        have RA2_22 := hidE (RA2_21.out.below hB)
        have RA3_22 := hidE (RA3_21.out.below hB)
        have W_22 := hidE (W_21.out.below hB)
        have G_22 := hidE (G_21.out.below hB)
        clear HB_21 ER_21 RA1_21 RA2_21 RA3_21 W_21 G_21 hB
        go_wp2_with fail
        refine (G_22.out.mark 1 (by omega) (by omega)).mono ?_
        rintro e w23 ⟨rfl, hM, hK⟩
        have hz23 := hK.size
        clear G_22
        have HB_23 := hidE (hK.below HB_22.out (by omega) (by omega))
        have ER_23 := hidE (ER_22.out.keep hK (by omega))
        have RA1_23 := hidE (RA1_22.out.keep hK (by omega))
        have RA2_23 := hidE (RA2_22.out.keep hK (by omega))
        have RA3_23 := hidE (RA3_22.out.keep hK (by omega))
        have W_23 := hidE (W_22.out.keep hK (by omega))
        have M_23 := hidE hM
        clear HB_22 ER_22 RA1_22 RA2_22 RA3_22 W_22 hK hM
        obtain ⟨mm, hmm⟩ : ∃ mm : Nat, 1 + (Mg.mergeE es fs gs).length * 3 = mm := ⟨_, rfl⟩
        rw [hmm]
        have HMM := hidE hmm
        have hm0 : ¬ ((mm : Nat) : Int) < 0 := by omega
        have hmne : (((mm : Nat) : Int) != ((mm : Nat) : Int)) = false := by simp
        clear hmm
        go_wp2_with fail
        refine (M_23.out.held (by omega) (by omega)).mono ?_
        rintro e w24 ⟨rfl, hB⟩
        have hz24 := hB.size
        have HB_24 := hidE (B3E HB_23.out hB)
        have ER_24 := hidE (ER_23.out.below hB)
        have RA1_24 := hidE (RA1_23.out.below hB)
        have RA2_24 := hidE (RA2_23.out.below hB)
        have RA3_24 := hidE (RA3_23.out.below hB)
        have W_24 := hidE (W_23.out.below hB)
        have M_24 := hidE (M_23.out.below hB)
        clear HB_23 ER_23 RA1_23 RA2_23 RA3_23 W_23 M_23 hB
        rw [HMM.out]
        go_wp2_with fail
        refine (RA1_24.out.rowZ.toB).mono ?_
        rintro e w25 ⟨vZ1, rfl, hX, hB⟩
        have hz25 := hB.size
        have HB_25 := hidE (B3E HB_24.out hB)
        have ER_25 := hidE (ER_24.out.below hB)
        have RA1_25 := hidE (RA1_24.out.below hB)
        have RA2_25 := hidE (RA2_24.out.below hB)
        have RA3_25 := hidE (RA3_24.out.below hB)
        have W_25 := hidE (W_24.out.below hB)
        have M_25 := hidE (M_24.out.below hB)
        have Z1_25 := hidE hX
        clear HB_24 ER_24 RA1_24 RA2_24 RA3_24 W_24 M_24 hB hX
        go_wp2_with fail
        refine (RA2_25.out.rowZ.toB).mono ?_
        rintro e w26 ⟨vZ2, rfl, hX, hB⟩
        have hz26 := hB.size
        have HB_26 := hidE (B3E HB_25.out hB)
        have ER_26 := hidE (ER_25.out.below hB)
        have RA1_26 := hidE (RA1_25.out.below hB)
        have RA2_26 := hidE (RA2_25.out.below hB)
        have RA3_26 := hidE (RA3_25.out.below hB)
        have W_26 := hidE (W_25.out.below hB)
        have M_26 := hidE (M_25.out.below hB)
        have Z1_26 := hidE (Z1_25.out.below hB)
        have Z2_26 := hidE hX
        clear HB_25 ER_25 RA1_25 RA2_25 RA3_25 W_25 M_25 Z1_25 hB hX
        go_wp2_with fail
        refine (RA3_26.out.rowZ.toB).mono ?_
        rintro e w27 ⟨vZ3, rfl, hX, hB⟩
        have hz27 := hB.size
        have HB_27 := hidE (B3E HB_26.out hB)
        have ER_27 := hidE (ER_26.out.below hB)
        have RA1_27 := hidE (RA1_26.out.below hB)
        have RA2_27 := hidE (RA2_26.out.below hB)
        have RA3_27 := hidE (RA3_26.out.below hB)
        have W_27 := hidE (W_26.out.below hB)
        have M_27 := hidE (M_26.out.below hB)
        have Z1_27 := hidE (Z1_26.out.below hB)
        have Z2_27 := hidE (Z2_26.out.below hB)
        have Z3_27 := hidE hX
        clear HB_26 ER_26 RA1_26 RA2_26 RA3_26 W_26 M_26 Z1_26 Z2_26 hB hX
        go_wp2_with fail
        refine (Mg.iMerge_any _ _ _ _ es fs gs ae bad ER_27.out.e.1 Z1_27.out.rowZ.row Z2_27.out.rowZ.row Z3_27.out.rowZ.row).mono ?_
        rintro e w28 ⟨vH, rfl, hO, hB⟩
        have hz28 := hB.size
        clear Z1_27
        clear Z2_27
        clear Z3_27
        have HB_28 := hidE (B3E HB_27.out hB)
        have ER_28 := hidE (ER_27.out.below hB)
        have RA1_28 := hidE (RA1_27.out.below hB)
        have RA2_28 := hidE (RA2_27.out.below hB)
        have RA3_28 := hidE (RA3_27.out.below hB)
        have W_28 := hidE (W_27.out.below hB)
        have M_28 := hidE (M_27.out.below hB)
        have H_28 := hidE (EB.of_own hO (by omega) HSm.out)
        clear HB_27 ER_27 RA1_27 RA2_27 RA3_27 W_27 M_27 hB
        clear hO
        rw [HBB.out]
        go_wp2_with fail
        refine (H_28.out.eq W_28.out).mono ?_
        rintro e w29 ⟨rfl, hB⟩
        have hz29 := hB.size
        clear H_28
        clear W_28
        have HB_29 := hidE (B3E HB_28.out hB)
        have ER_29 := hidE (ER_28.out.below hB)
        have RA1_29 := hidE (RA1_28.out.below hB)
        have RA2_29 := hidE (RA2_28.out.below hB)
        have RA3_29 := hidE (RA3_28.out.below hB)
        have M_29 := hidE (M_28.out.below hB)
        clear HB_28 ER_28 RA1_28 RA2_28 RA3_28 M_28 hB
        go_wp2_with fail
        refine (M_29.out.held (by omega) (by omega)).mono ?_
        rintro e w30 ⟨rfl, hB⟩
        have hz30 := hB.size
        have HB_30 := hidE (B3E HB_29.out hB)
        have ER_30 := hidE (ER_29.out.below hB)
        have RA1_30 := hidE (RA1_29.out.below hB)
        have RA2_30 := hidE (RA2_29.out.below hB)
        have RA3_30 := hidE (RA3_29.out.below hB)
        have M_30 := hidE (M_29.out.below hB)
        clear HB_29 ER_29 RA1_29 RA2_29 RA3_29 M_29 hB
        rw [HMM.out]
        go_wp2
        go_ret
        exact ⟨rfl, HB_30.out⟩
      · go_wp2
        go_ret
        exact ⟨rfl, HB_3.out⟩
    · go_wp2
      go_ret
      exact ⟨rfl, HB_2.out⟩
  · go_wp2
    go_ret
    exact ⟨rfl, HB_1.out⟩
end Go.Proofs.YteedhlljcfojfaaDoor
