/-
  The walk of the program's own MergeAt.
-/
import Derived.Test.YtenlibefdefjmaaDoorHMgMade
import Derived.Test.YtenlibefdefjmaaDoorHMgAll
namespace Go.Proofs.YtenlibefdefjmaaDoor.Mg
open Go.RowKit Go.Lib

theorem tget_get (t : List E) (s : ByteArray) (h : treeE t = true) : tgetE t s = getE t s := by unfold tgetE; rw [h]; rfl

set_option maxHeartbeats 4000000 in
set_option maxRecDepth 100000 in
theorem iMergeAt_any (w : World) (v1 v2 v3 : Value) (t a b : List E) (s : ByteArray) (ae : Int → Addr) (hErr : Errs2 w ae) (hs : s.size ≤ 16777216) (h1 : Row w v1 t) (h2 : Row w v2 a) (h3 : Row w v3 b) :
    Calls Tryd.prog 7 #[v1, v2, v3, .string s] w fun r w' => r = .returned (.tuple #[encE (atE t a b s).1, .bool (atE t a b s).2.1, .bool (atE t a b s).2.2]) ∧ Below w.heap.size w w' := by
  obtain ⟨a1, g1, o1, c1, rfl, -⟩ := id h1
  obtain ⟨a2, g2, o2, c2, rfl, -⟩ := id h2
  obtain ⟨a3, g3, o3, c3, rfl, -⟩ := id h3
  obtain ⟨W0, hW0⟩ : ∃ W0, (w.alloc (.cells #[.string ⟨#[]⟩, .bool false, .string ⟨#[]⟩] 25)).alloc (.cells #[.slice a1 t.length c1, .slice a2 a.length c2, .slice a3 b.length c3] 28) = W0 := ⟨_, rfl⟩
  have hb0 : Below w.heap.size w W0 := by rw [← hW0]; exact ((Below.refl _ w).alloc (Nat.le_refl _) _).alloc (by simp) _
  have hz0 : W0.heap.size = w.heap.size + 2 := by rw [← hW0]; simp
  have hR : Rows3 W0 (w.heap.size + 1) [t, a, b] := fun i hi => by
    rcases i with _ | _ | _ | i
    · exact ⟨_, by rw [← hW0]; simp, h1.below hb0⟩
    · exact ⟨_, by rw [← hW0]; simp, h2.below hb0⟩
    · exact ⟨_, by rw [← hW0]; simp, h3.below hb0⟩
    · simp at hi; omega
  have HA := hidE (allTrees_any W0 (w.heap.size + 1) 3 [t, a, b] ae (hErr.below hb0) (by simp) hR)
  rw [trees3_all] at HA
  have HB := hidE hb0
  have HK := hidE (fun (W : World) (h : Below W0.heap.size W0 W) => box3c (w := w) (p := .string ⟨#[]⟩) (q := .bool false) (r := .string ⟨#[]⟩) (T := 25) (W := W) (by
    have h1 : Below (w.heap.size + 1) (w.alloc (.cells #[.string ⟨#[]⟩, .bool false, .string ⟨#[]⟩] 25)) W0 := by
      rw [← hW0]
      have := (Below.refl (w.alloc (.cells #[.string ⟨#[]⟩, .bool false, .string ⟨#[]⟩] 25)).heap.size (w.alloc (.cells #[.string ⟨#[]⟩, .bool false, .string ⟨#[]⟩] 25))).alloc (Nat.le_refl _) (.cells #[.slice a1 t.length c1, .slice a2 a.length c2, .slice a3 b.length c3] 28)
      simpa using this
    have h2 := h1.trans (h.mono (by omega))
    simpa using h2))
  have HE := hidE (fun (W : World) (h : Below w.heap.size w W) => hErr.below h)
  have H1 := hidE (fun (W : World) (h : Below w.heap.size w W) => h1.below h)
  have H2 := hidE (fun (W : World) (h : Below w.heap.size w W) => h2.below h)
  have H3 := hidE (fun (W : World) (h : Below w.heap.size w W) => h3.below h)
  clear h1 h2 h3 hErr hR
  obtain ⟨⟨⟨mp, md, mx⟩, mb, mo⟩, hm⟩ : ∃ m, atE t a b s = m := ⟨_, rfl⟩
  rw [hm]
  have HMm := hidE hm
  clear hm
  dsimp only
  go_enter Tryd.func7, Tryd.ntmps7
  go_wp2_with fail
  clear hW0
  refine HA.out.mono ?_
  rintro e w1 ⟨rfl, hB1⟩
  have HB1 := hidE (B3G HB.out hB1)
  have hz1 := hB1.size
  have K0 : ∀ W, Below w1.heap.size w1 W → (W.cell? ⟨w.heap.size, 0, none⟩ = some (.string ⟨#[]⟩) ∧ W.cell? ⟨w.heap.size, 1, none⟩ = some (.bool false) ∧ W.cell? ⟨w.heap.size, 2, none⟩ = some (.string ⟨#[]⟩)) ∧ (W.frozen? ⟨w.heap.size, 0, none⟩ = false ∧ W.frozen? ⟨w.heap.size, 1, none⟩ = false ∧ W.frozen? ⟨w.heap.size, 2, none⟩ = false) := fun W hW => HK.out W (B3G hB1 hW)
  have HK1 := hidE K0
  clear hB1 HB K0 HK HA
  cases h3 : trees3 t a b with
  | false =>
    obtain ⟨rfl, rfl, rfl, rfl, rfl⟩ : mp = ⟨#[]⟩ ∧ md = false ∧ mx = ⟨#[]⟩ ∧ mb = false ∧ mo = false := by
      have := HMm.out
      rw [atE_no h3] at this
      simp [noneE] at this
      obtain ⟨⟨h1, h2, h3⟩, h4, h5⟩ := this
      exact ⟨h1.symm, h2, h3.symm, h4, h5⟩
    obtain ⟨⟨r0, r1, r2⟩, f0, f1, f2⟩ := HK1.out w1 (Below.refl _ _)
    go_wp2
    refine atSet3 (C := bodyPost Tryd.prog Tryd.f7 _ _ _) r0 r1 r2 HB1.out (Nat.le_refl _) ?_
    intro Wf s0 s1 s2 hBf
    exact bodyPost_ret (v := .tuple #[.agg #[.string ⟨#[]⟩, .bool false, .string ⟨#[]⟩], .bool false, .bool false]) (by simp [results, Tryd.f7, go_sem, s0, s1, s2]) rfl ⟨rfl, hBf⟩
  | true =>
    have hm := HMm.out
    rw [atE_yes h3] at hm
    clear HMm
    obtain ⟨t1, t2, t3⟩ : treeE t = true ∧ treeE a = true ∧ treeE b = true := by unfold trees3 at h3; simpa [Bool.and_eq_true] using h3
    have Q1 := hidE (fun (W : World) (h : Below w.heap.size w W) => toldOf_any W _ t s ae (HE.out W h) hs (H1.out W h))
    have Q2 := hidE (fun (W : World) (h : Below w.heap.size w W) => toldOf_any W _ a s ae (HE.out W h) hs (H2.out W h))
    have Q3 := hidE (fun (W : World) (h : Below w.heap.size w W) => toldOf_any W _ b s ae (HE.out W h) hs (H3.out W h))
    rw [tget_get t s t1] at Q1
    rw [tget_get a s t2] at Q2
    rw [tget_get b s t3] at Q3
    obtain ⟨x, hx⟩ : ∃ x, getE t s = x := ⟨_, rfl⟩
    obtain ⟨y, hy⟩ : ∃ y, getE a s = y := ⟨_, rfl⟩
    obtain ⟨z, hz⟩ : ∃ z, getE b s = z := ⟨_, rfl⟩
    rw [hx] at Q1 hm
    rw [hy] at Q2 hm
    rw [hz] at Q3 hm
    clear hx hy hz H1 H2 H3 HE h3 t1 t2 t3
    have HM := hidE (fun W => made_any W s x y z)
    rw [hm] at HM
    clear hm
    obtain ⟨⟨xp, xd, xx⟩, xb⟩ := x
    obtain ⟨⟨yp, yd, yx⟩, yb⟩ := y
    obtain ⟨⟨zp, zd, zx⟩, zb⟩ := z
    unfold encA at HM
    unfold encT at HM Q1 Q2 Q3
    dsimp only at HM Q1 Q2 Q3
    go_wp2_with fail
    refine (Q1.out _ HB1.out).mono ?_
    rintro e w2 ⟨rfl, hB2⟩
    have HB2 := hidE (B3G HB1.out hB2)
    have HL2 := hidE hB2
    clear hB2
    go_wp2_with fail
    refine (Q2.out _ HB2.out).mono ?_
    rintro e w3 ⟨rfl, hB3⟩
    have HB3 := hidE (B3G HB2.out hB3)
    have HL3 := hidE (B3G HL2.out hB3)
    clear hB3
    go_wp2_with fail
    refine (Q3.out _ HB3.out).mono ?_
    rintro e w4 ⟨rfl, hB4⟩
    have HB4 := hidE (B3G HB3.out hB4)
    have HL4 := hidE (B3G HL3.out hB4)
    clear hB4 Q1 Q2 Q3 HB1 HB2 HB3 HL2 HL3
    go_wp2_with fail
    refine (HM.out _).mono ?_
    rintro e w5 ⟨rfl, hB5⟩
    obtain ⟨V5, hV5⟩ : ∃ V5, w5.alloc (.cells #[.string mp, .bool md, .string mx, .bool mb] 39) = V5 := ⟨_, rfl⟩
    have hA5 : Below w5.heap.size w5 V5 := by rw [← hV5]; exact (Below.refl _ w5).alloc (Nat.le_refl _) _
    have hA4 := B3G ((Below.refl w4.heap.size w4).alloc (Nat.le_refl _) (.cells #[.string s, .string xp, .bool xd, .string xx, .bool xb, .string yp, .bool yd, .string yx, .bool yb, .string zp, .bool zd, .string zx, .bool zb] 42)) hB5
    have hA45 := B3G hA4 hA5
    have HB5 := hidE (B3G HB4.out hA45)
    obtain ⟨⟨r0, r1, r2⟩, f0, f1, f2⟩ := HK1.out V5 (B3G HL4.out hA45)
    have m0 : V5.cell? ⟨w5.heap.size, 0, none⟩ = some (.string mp) := by rw [← hV5]; simp
    have m1 : V5.cell? ⟨w5.heap.size, 1, none⟩ = some (.bool md) := by rw [← hV5]; simp
    have m2 : V5.cell? ⟨w5.heap.size, 2, none⟩ = some (.string mx) := by rw [← hV5]; simp
    have m3 : V5.cell? ⟨w5.heap.size, 3, none⟩ = some (.bool mb) := by rw [← hV5]; simp
    clear hB5 hA5 hA4 hA45 HB4 HL4 HK1 HM
    have hbd : Below V5.heap.size V5 V5.drew := (Below.refl _ V5).drew
    have lt := World.block_lt_of_cell? V5 ⟨w.heap.size, 0, none⟩ r0
    have d0 := (hbd.cell (p := ⟨w.heap.size, 0, none⟩) lt).trans r0
    have d1 := (hbd.cell (p := ⟨w.heap.size, 1, none⟩) lt).trans r1
    have d2 := (hbd.cell (p := ⟨w.heap.size, 2, none⟩) lt).trans r2
    have D0 := hidE d0
    have D1 := hidE d1
    have D2 := hidE d2
    clear d0 d1 d2 lt hbd
    cases mo with
    | true =>
      rw [show errA s true = .nilIface from rfl]
      go_wp2
      go_region_with (fail)
      all_goals go_wp2
      all_goals
        refine atSet3 (C := bodyPost Tryd.prog Tryd.f7 _ _ _) D0.out D1.out D2.out HB5.out.drew (Nat.le_refl _) ?_
        intro Wf s0 s1 s2 hBf
        exact bodyPost_ret (v := .tuple #[.agg #[.string mp, .bool md, .string mx], .bool mb, .bool true]) (by simp [results, Tryd.f7, go_sem, s0, s1, s2]) rfl ⟨rfl, hBf⟩
    | false =>
      rw [show errA s false = .iface 52 (.agg #[.string s]) from rfl]
      go_wp2
      go_region_with (fail)
      all_goals go_wp2
      all_goals
        refine atSet3 (C := bodyPost Tryd.prog Tryd.f7 _ _ _) D0.out D1.out D2.out HB5.out.drew (Nat.le_refl _) ?_
        intro Wf s0 s1 s2 hBf
        exact bodyPost_ret (v := .tuple #[.agg #[.string mp, .bool md, .string mx], .bool mb, .bool false]) (by simp [results, Tryd.f7, go_sem, s0, s1, s2]) rfl ⟨rfl, hBf⟩
end Go.Proofs.YtenlibefdefjmaaDoor.Mg
