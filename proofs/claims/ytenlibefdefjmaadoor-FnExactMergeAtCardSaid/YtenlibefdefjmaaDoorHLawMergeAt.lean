/-
  The walk of the law FnExactMergeAt, out of the contracts.
-/
import Derived.Test.YtenlibefdefjmaaDoorHLawR
import Derived.Test.YtenlibefdefjmaaDoorHMgSpec
import Derived.Test.YtenlibefdefjmaaDoorHMgIm
namespace Go.Proofs.YtenlibefdefjmaaDoor
open Go.RowKit Go.Lib

structure ErrsB (ae : Int → Addr) (w : World) : Prop where
  e : Errs2 w ae
theorem ErrsB.below {ae : Int → Addr} {w w' : World} (h : ErrsB ae w) (hb : Below w.heap.size w w') : ErrsB ae w' := ⟨h.e.below hb⟩
theorem EntSl.below {w w' : World} {a : Option Addr} {len cap : Nat} {es : List E} (h : EntSl w a len cap es) (hb : Below w.heap.size w w') : EntSl w' a len cap es := by
  obtain ⟨h0, h1, h2, h3, g, o, h4, h5⟩ := h
  exact ⟨h0, h1, h2, h3, g, o, h4, h5.below hb⟩
/-- An entry in a box. -/
structure BoxE (b : Nat) (x : E) (w : World) : Prop where
  c0 : w.cell? ⟨b, 0, none⟩ = some (.string x.p)
  c1 : w.cell? ⟨b, 1, none⟩ = some (.bool x.d)
  c2 : w.cell? ⟨b, 2, none⟩ = some (.string x.x)
theorem BoxE.below {b : Nat} {x : E} {w w' : World} (h : BoxE b x w) (hb : Below w.heap.size w w') : BoxE b x w' := by
  have lt := World.block_lt_of_cell? w ⟨b, 0, none⟩ h.c0
  exact ⟨(hb.cell (p := ⟨b, 0, none⟩) lt).trans h.c0, (hb.cell (p := ⟨b, 1, none⟩) lt).trans h.c1, (hb.cell (p := ⟨b, 2, none⟩) lt).trans h.c2⟩

set_option maxHeartbeats 4000000 in
set_option maxRecDepth 100000 in
theorem walk_fnExactMergeAt (ae : Int → Addr) (a : Option Addr) (len cap : Nat) (es : List E) (a' : Option Addr) (len' cap' : Nat) (fs : List E) (a'' : Option Addr) (len'' cap'' : Nat) (gs : List E) (s : ByteArray) (w : World) (hErr : Errs2 w ae) (hw : EntSl w a len cap es) (hw' : EntSl w a' len' cap' fs) (hw'' : EntSl w a'' len'' cap'' gs) :
    Calls Tryd.prog 3 #[.slice a len cap, .slice a' len' cap', .slice a'' len'' cap'', .string s] w fun r w' => r = .returned (.bool true) ∧ Below w.heap.size w w' := by
  by_cases hs : s.size ≤ 1048576
  · go_enter Tryd.func3, Tryd.ntmps3
    have HB_0 := hidE (Below.refl w.heap.size w)
    have ER_0 := hidE ((⟨hErr⟩ : ErrsB ae w))
    have A1_0 := hidE (hw)
    have A2_0 := hidE (hw')
    have A3_0 := hidE (hw'')
    clear hErr hw hw' hw''
    go_wp2_with fail
    refine (A1_0.out.szR _ (by omega) (by omega)).mono ?_
    rintro e w1 ⟨r1, rfl, p0, q0, hz, hB⟩
    clear A1_0
    have HB_1 := hidE (B3E HB_0.out hB)
    have ER_1 := hidE (ER_0.out.below hB)
    have A2_1 := hidE (A2_0.out.below hB)
    have A3_1 := hidE (A3_0.out.below hB)
    have ZA1_1 := hidE hz
    clear HB_0 ER_0 A2_0 A3_0 hB hz
    by_cases hr1 : 0 ≤ r1
    · have z0 := ZA1_1.out hr1
      clear ZA1_1
      have RA1_1 := hidE (z0)
      clear z0
      go_wp2_with fail
      refine (A2_1.out.szR _ (by omega) (by omega)).mono ?_
      rintro e w2 ⟨r2, rfl, p1, q1, hz, hB⟩
      clear A2_1
      have HB_2 := hidE (B3E HB_1.out hB)
      have ER_2 := hidE (ER_1.out.below hB)
      have A3_2 := hidE (A3_1.out.below hB)
      have RA1_2 := hidE (RA1_1.out.below hB)
      have ZA2_2 := hidE hz
      clear HB_1 ER_1 A3_1 RA1_1 hB hz
      by_cases hr2 : 0 ≤ r2
      · have z1 := ZA2_2.out hr2
        clear ZA2_2
        have RA2_2 := hidE (z1)
        clear z1
        go_wp2_with fail
        refine (A3_2.out.szR _ (by omega) (by omega)).mono ?_
        rintro e w3 ⟨r3, rfl, p2, q2, hz, hB⟩
        clear A3_2
        have HB_3 := hidE (B3E HB_2.out hB)
        have ER_3 := hidE (ER_2.out.below hB)
        have RA1_3 := hidE (RA1_2.out.below hB)
        have RA2_3 := hidE (RA2_2.out.below hB)
        have ZA3_3 := hidE hz
        clear HB_2 ER_2 RA1_2 RA2_2 hB hz
        by_cases hr3 : 0 ≤ r3
        · have z2 := ZA3_3.out hr3
          clear ZA3_3
          have RA3_3 := hidE (z2)
          clear z2
          go_wp2_with fail
          refine (RA1_3.out.to).mono ?_
          rintro e w4 ⟨vX1, rfl, hX, hB⟩
          have HB_4 := hidE (B3E HB_3.out hB)
          have ER_4 := hidE (ER_3.out.below hB)
          have RA1_4 := hidE (RA1_3.out.below hB)
          have RA2_4 := hidE (RA2_3.out.below hB)
          have RA3_4 := hidE (RA3_3.out.below hB)
          have X1_4 := hidE hX
          clear HB_3 ER_3 RA1_3 RA2_3 RA3_3 hB hX
          go_wp2_with fail
          refine (RA2_4.out.to).mono ?_
          rintro e w5 ⟨vX2, rfl, hX, hB⟩
          have HB_5 := hidE (B3E HB_4.out hB)
          have ER_5 := hidE (ER_4.out.below hB)
          have RA1_5 := hidE (RA1_4.out.below hB)
          have RA2_5 := hidE (RA2_4.out.below hB)
          have RA3_5 := hidE (RA3_4.out.below hB)
          have X1_5 := hidE (X1_4.out.below hB)
          have X2_5 := hidE hX
          clear HB_4 ER_4 RA1_4 RA2_4 RA3_4 X1_4 hB hX
          go_wp2_with fail
          refine (RA3_5.out.to).mono ?_
          rintro e w6 ⟨vX3, rfl, hX, hB⟩
          have HB_6 := hidE (B3E HB_5.out hB)
          have ER_6 := hidE (ER_5.out.below hB)
          have RA1_6 := hidE (RA1_5.out.below hB)
          have RA2_6 := hidE (RA2_5.out.below hB)
          have RA3_6 := hidE (RA3_5.out.below hB)
          have X1_6 := hidE (X1_5.out.below hB)
          have X2_6 := hidE (X2_5.out.below hB)
          have X3_6 := hidE hX
          clear HB_5 ER_5 RA1_5 RA2_5 RA3_5 X1_5 X2_5 hB hX
          go_wp2_with fail
          refine (Mg.sMergeAt_any _ _ _ _ es fs gs s X1_6.out.row X2_6.out.row X3_6.out.row).mono ?_
          rintro e w7 ⟨rfl, hB⟩
          clear X1_6
          clear X2_6
          clear X3_6
          have HB_7 := hidE (B3E HB_6.out hB)
          have ER_7 := hidE (ER_6.out.below hB)
          have RA1_7 := hidE (RA1_6.out.below hB)
          have RA2_7 := hidE (RA2_6.out.below hB)
          have RA3_7 := hidE (RA3_6.out.below hB)
          clear HB_6 ER_6 RA1_6 RA2_6 RA3_6 hB
          obtain ⟨⟨⟨mp, md, mx⟩, mb, mo⟩, hm⟩ : ∃ m, Mg.atE es fs gs s = m := ⟨_, rfl⟩
          have HM := hidE hm
          rw [hm]
          clear hm
          dsimp only
          obtain ⟨V, hV⟩ : ∃ V, w7.alloc (.cells #[.string mp, .bool md, .string mx] 25) = V := ⟨_, rfl⟩
          have hBV : Below w7.heap.size w7 V := by rw [← hV]; exact (Below.refl _ w7).alloc (Nat.le_refl _) _
          have hb : BoxE w7.heap.size ⟨mp, md, mx⟩ V := by rw [← hV]; exact ⟨by simp, by simp, by simp⟩
          have HB_8 := hidE (B3E HB_7.out hBV)
          have ER_8 := hidE (ER_7.out.below hBV)
          have RA1_8 := hidE (RA1_7.out.below hBV)
          have RA2_8 := hidE (RA2_7.out.below hBV)
          have RA3_8 := hidE (RA3_7.out.below hBV)
          have BW_8 := hidE hb
          clear HB_7 ER_7 RA1_7 RA2_7 RA3_7 hBV hb
          go_wp2_with fail
          refine (RA1_8.out.to).mono ?_
          rintro e w9 ⟨vY1, rfl, hX, hB⟩
          have HB_9 := hidE (B3E HB_8.out hB)
          have ER_9 := hidE (ER_8.out.below hB)
          have RA1_9 := hidE (RA1_8.out.below hB)
          have RA2_9 := hidE (RA2_8.out.below hB)
          have RA3_9 := hidE (RA3_8.out.below hB)
          have BW_9 := hidE (BW_8.out.below hB)
          have Y1_9 := hidE hX
          clear HB_8 ER_8 RA1_8 RA2_8 RA3_8 BW_8 hB hX
          clear hV
          go_wp2_with fail
          refine (RA2_9.out.to).mono ?_
          rintro e w10 ⟨vY2, rfl, hX, hB⟩
          have HB_10 := hidE (B3E HB_9.out hB)
          have ER_10 := hidE (ER_9.out.below hB)
          have RA1_10 := hidE (RA1_9.out.below hB)
          have RA2_10 := hidE (RA2_9.out.below hB)
          have RA3_10 := hidE (RA3_9.out.below hB)
          have BW_10 := hidE (BW_9.out.below hB)
          have Y1_10 := hidE (Y1_9.out.below hB)
          have Y2_10 := hidE hX
          clear HB_9 ER_9 RA1_9 RA2_9 RA3_9 BW_9 Y1_9 hB hX
          go_wp2_with fail
          refine (RA3_10.out.to).mono ?_
          rintro e w11 ⟨vY3, rfl, hX, hB⟩
          have HB_11 := hidE (B3E HB_10.out hB)
          have ER_11 := hidE (ER_10.out.below hB)
          have RA1_11 := hidE (RA1_10.out.below hB)
          have RA2_11 := hidE (RA2_10.out.below hB)
          have RA3_11 := hidE (RA3_10.out.below hB)
          have BW_11 := hidE (BW_10.out.below hB)
          have Y1_11 := hidE (Y1_10.out.below hB)
          have Y2_11 := hidE (Y2_10.out.below hB)
          have Y3_11 := hidE hX
          clear HB_10 ER_10 RA1_10 RA2_10 RA3_10 BW_10 Y1_10 Y2_10 hB hX
          go_wp2_with fail
          refine (Mg.iMergeAt_any _ _ _ _ es fs gs s ae ER_11.out.e (by omega) Y1_11.out.row Y2_11.out.row Y3_11.out.row).mono ?_
          rintro e w12 ⟨rfl, hB⟩
          have HB_12 := hidE (B3E HB_11.out hB)
          have ER_12 := hidE (ER_11.out.below hB)
          have RA1_12 := hidE (RA1_11.out.below hB)
          have RA2_12 := hidE (RA2_11.out.below hB)
          have RA3_12 := hidE (RA3_11.out.below hB)
          have BW_12 := hidE (BW_11.out.below hB)
          have Y1_12 := hidE (Y1_11.out.below hB)
          have Y2_12 := hidE (Y2_11.out.below hB)
          have Y3_12 := hidE (Y3_11.out.below hB)
          clear HB_11 ER_11 RA1_11 RA2_11 RA3_11 BW_11 Y1_11 Y2_11 Y3_11 hB
          rw [HM.out]
          dsimp only
          obtain ⟨U, hU⟩ : ∃ U, w12.alloc (.cells #[.string mp, .bool md, .string mx] 25) = U := ⟨_, rfl⟩
          have hBU : Below w12.heap.size w12 U := by rw [← hU]; exact (Below.refl _ w12).alloc (Nat.le_refl _) _
          have hb : BoxE w12.heap.size ⟨mp, md, mx⟩ U := by rw [← hU]; exact ⟨by simp, by simp, by simp⟩
          have HB_13 := hidE (B3E HB_12.out hBU)
          have ER_13 := hidE (ER_12.out.below hBU)
          have RA1_13 := hidE (RA1_12.out.below hBU)
          have RA2_13 := hidE (RA2_12.out.below hBU)
          have RA3_13 := hidE (RA3_12.out.below hBU)
          have BW_13 := hidE (BW_12.out.below hBU)
          have Y1_13 := hidE (Y1_12.out.below hBU)
          have Y2_13 := hidE (Y2_12.out.below hBU)
          have Y3_13 := hidE (Y3_12.out.below hBU)
          have BG_13 := hidE hb
          clear HB_12 ER_12 RA1_12 RA2_12 RA3_12 BW_12 Y1_12 Y2_12 Y3_12 hBU hb
          obtain ⟨x0, x1, x2⟩ := BW_13.out
          obtain ⟨y0, y1, y2⟩ := BG_13.out
          go_wp2_with fail
          refine (eqEnt_self _ ⟨mp, md, mx⟩).mono ?_
          rintro e w14 ⟨rfl, hB⟩
          clear BW_13
          clear BG_13
          have HB_14 := hidE (B3E HB_13.out hB)
          have ER_14 := hidE (ER_13.out.below hB)
          have RA1_14 := hidE (RA1_13.out.below hB)
          have RA2_14 := hidE (RA2_13.out.below hB)
          have RA3_14 := hidE (RA3_13.out.below hB)
          have Y1_14 := hidE (Y1_13.out.below hB)
          have Y2_14 := hidE (Y2_13.out.below hB)
          have Y3_14 := hidE (Y3_13.out.below hB)
          clear HB_13 ER_13 RA1_13 RA2_13 RA3_13 Y1_13 Y2_13 Y3_13 hB
          clear hU x0 x1 x2 y0 y1 y2
          go_wp2_with fail
          refine (RA1_14.out.to).mono ?_
          rintro e w15 ⟨vTY1, rfl, hX, hB⟩
          have HB_15 := hidE (B3E HB_14.out hB)
          have ER_15 := hidE (ER_14.out.below hB)
          have RA1_15 := hidE (RA1_14.out.below hB)
          have RA2_15 := hidE (RA2_14.out.below hB)
          have RA3_15 := hidE (RA3_14.out.below hB)
          have Y1_15 := hidE (Y1_14.out.below hB)
          have Y2_15 := hidE (Y2_14.out.below hB)
          have Y3_15 := hidE (Y3_14.out.below hB)
          have TY1_15 := hidE hX
          clear HB_14 ER_14 RA1_14 RA2_14 RA3_14 Y1_14 Y2_14 Y3_14 hB hX
          go_wp2_with fail
          refine (Y1_15.out.eq TY1_15.out).mono ?_
          rintro e w16 ⟨rfl, hB⟩
          clear Y1_15
          clear TY1_15
          have HB_16 := hidE (B3E HB_15.out hB)
          have ER_16 := hidE (ER_15.out.below hB)
          have RA1_16 := hidE (RA1_15.out.below hB)
          have RA2_16 := hidE (RA2_15.out.below hB)
          have RA3_16 := hidE (RA3_15.out.below hB)
          have Y2_16 := hidE (Y2_15.out.below hB)
          have Y3_16 := hidE (Y3_15.out.below hB)
          clear HB_15 ER_15 RA1_15 RA2_15 RA3_15 Y2_15 Y3_15 hB
          go_wp2_with fail
          refine (RA2_16.out.to).mono ?_
          rintro e w17 ⟨vTY2, rfl, hX, hB⟩
          have HB_17 := hidE (B3E HB_16.out hB)
          have ER_17 := hidE (ER_16.out.below hB)
          have RA1_17 := hidE (RA1_16.out.below hB)
          have RA2_17 := hidE (RA2_16.out.below hB)
          have RA3_17 := hidE (RA3_16.out.below hB)
          have Y2_17 := hidE (Y2_16.out.below hB)
          have Y3_17 := hidE (Y3_16.out.below hB)
          have TY2_17 := hidE hX
          clear HB_16 ER_16 RA1_16 RA2_16 RA3_16 Y2_16 Y3_16 hB hX
          go_wp2_with fail
          refine (Y2_17.out.eq TY2_17.out).mono ?_
          rintro e w18 ⟨rfl, hB⟩
          clear Y2_17
          clear TY2_17
          have HB_18 := hidE (B3E HB_17.out hB)
          have ER_18 := hidE (ER_17.out.below hB)
          have RA1_18 := hidE (RA1_17.out.below hB)
          have RA2_18 := hidE (RA2_17.out.below hB)
          have RA3_18 := hidE (RA3_17.out.below hB)
          have Y3_18 := hidE (Y3_17.out.below hB)
          clear HB_17 ER_17 RA1_17 RA2_17 RA3_17 Y3_17 hB
          go_wp2_with fail
          refine (RA3_18.out.to).mono ?_
          rintro e w19 ⟨vTY3, rfl, hX, hB⟩
          have HB_19 := hidE (B3E HB_18.out hB)
          have ER_19 := hidE (ER_18.out.below hB)
          have RA1_19 := hidE (RA1_18.out.below hB)
          have RA2_19 := hidE (RA2_18.out.below hB)
          have RA3_19 := hidE (RA3_18.out.below hB)
          have Y3_19 := hidE (Y3_18.out.below hB)
          have TY3_19 := hidE hX
          clear HB_18 ER_18 RA1_18 RA2_18 RA3_18 Y3_18 hB hX
          go_wp2_with fail
          refine (Y3_19.out.eq TY3_19.out).mono ?_
          rintro e w20 ⟨rfl, hB⟩
          clear Y3_19
          clear TY3_19
          have HB_20 := hidE (B3E HB_19.out hB)
          have ER_20 := hidE (ER_19.out.below hB)
          have RA1_20 := hidE (RA1_19.out.below hB)
          have RA2_20 := hidE (RA2_19.out.below hB)
          have RA3_20 := hidE (RA3_19.out.below hB)
          clear HB_19 ER_19 RA1_19 RA2_19 RA3_19 hB
          go_wp2
          go_ret
          exact ⟨rfl, HB_20.out⟩
        · go_wp2
          go_ret
          exact ⟨rfl, HB_3.out⟩
      · go_wp2
        go_ret
        exact ⟨rfl, HB_2.out⟩
    · go_wp2
      go_ret
      exact ⟨rfl, HB_1.out⟩
  · have hs' : (1048576 : Int) < s.size := by omega
    go_enter Tryd.func3, Tryd.ntmps3
    go_wp2
    go_ret
    exact ⟨rfl, Below.refl _ _⟩
end Go.Proofs.YtenlibefdefjmaaDoor
