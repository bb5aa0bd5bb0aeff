/-
  The walks of the program's own: doCode at what looking for a directory tells, and TreeList.
-/
import Derived.Test.YtbcogekeoklddaaGreatDoorHErrIs
import Derived.Test.YtbcogekeoklddaaGreatDoorHNamesI
import Derived.Test.YtbcogekeoklddaaGreatDoorHTreeOf
import Derived.Test.YtbcogekeoklddaaGreatDoorHPathOkI
namespace Go.Proofs.YtbcogekeoklddaaGreatDoor
open Go.RowKit Go.Shelf Go.Lib

attribute [local go_sem] Oper.semAt_some

/-- The two variables, and that they are two. -/
structure Errs2R (w : World) (ae : Int → Addr) : Prop where
  errs : Errs2 w ae
  apart : ae 3 ≠ ae 2
  row2 : ∃ c t, w.heap[(ae 2).block]? = some (.cells c t (0, 0))
  row3 : ∃ c t, w.heap[(ae 3).block]? = some (.cells c t (0, 0))
theorem heapB {w w' : World} {n : Nat} {o : Obj} (hb : Below w.heap.size w w') (h : w.heap[n]? = some o) : w'.heap[n]? = some o := by
  have hn : n < w.heap.size := by
    rcases Nat.lt_or_ge n w.heap.size with h1 | h1
    · exact h1
    · rw [Array.getElem?_eq_none h1] at h; cases h
  exact (hb.block n hn).trans h
theorem Errs2R.below {w w' : World} {ae : Int → Addr} (h : Errs2R w ae) (hb : Below w.heap.size w w') : Errs2R w' ae := by
  obtain ⟨h1, h2, ⟨c, t, h3⟩, ⟨c', t', h4⟩⟩ := h
  exact ⟨h1.below hb, h2, ⟨c, t, heapB hb h3⟩, ⟨c', t', heapB hb h4⟩⟩

set_option maxHeartbeats 1000000 in
set_option maxRecDepth 100000 in
theorem doCode_two (w : World) (ae : Int → Addr) (hE : Errs2R w ae) (c : Int) (hc : c = 2 ∨ c = 3) :
    Calls Tryz.prog 33 #[.iface 171 (.pointer (some (ae c)))] w fun e w' => e = .returned (.int .i64 c) ∧ w' = w := by
  obtain ⟨⟨k2, k3⟩, hne, ⟨c2, t2, r2⟩, ⟨c3, t3, r3⟩⟩ := hE
  rcases hc with rfl | rfl
  · have HS := hidE (is_same (ae 2) w)
    go_enter Tryz.func33, Tryz.ntmps33
    go_wp2_with (go_at_call 67; refine HS.out.mono ?_; rintro e w1 ⟨rfl, rfl⟩)
    go_ret
    exact ⟨rfl, rfl⟩
  · have HS := hidE (is_same (ae 3) w)
    have HO := hidE (is_other (ae 3) (ae 2) c3 c2 t3 t2 w hne r3 r2)
    go_enter Tryz.func33, Tryz.ntmps33
    go_wp2_with fail
    refine HO.out.mono ?_
    rintro e w1 ⟨rfl, rfl⟩
    go_wp2_with fail
    refine HS.out.mono ?_
    rintro e w1 ⟨rfl, rfl⟩
    go_wp2
    go_ret
    exact ⟨rfl, rfl⟩

/-- TreeList. -/
theorem dirC_some {es : List E} {s : ByteArray} (h : 0 < dirC es s) : dirC es s = 2 ∨ dirC es s = 3 := by
  unfold dirC at h ⊢
  split
  · exact .inl rfl
  · split
    · exact .inr rfl
    · rename_i h1 h2; rw [if_neg h1, if_neg h2] at h; omega
theorem dirC_none {es : List E} {s : ByteArray} (h : dirC es s ≤ 0) : dirC es s = 0 := by
  unfold dirC at h ⊢
  split
  · rename_i h1; rw [if_pos h1] at h; omega
  · split
    · rename_i h1 h2; rw [if_neg h1, if_pos h2] at h; omega
    · rfl
theorem listC_dir {es : List E} {s : ByteArray} (h : (treeE es && (isRoot s || pathB s)) = true) : listC es s = dirC es s := by
  unfold listC dirC; rw [h]; rfl
theorem listC_bad {es : List E} {s : ByteArray} (h : (treeE es && (isRoot s || pathB s)) = false) : listC es s = 1 := by
  unfold listC; rw [h]; rfl
theorem row_lowI {w : World} {base base' : Nat} {e : TypeId} {size : Nat} {v : Value} {n : Nat} {xs : List Value} (h : w.ownsRow base e size v n xs) (hb : base' ≤ base) : w.ownsRow base' e size v n xs := by
  obtain ⟨h1, h2 | ⟨g, cap, cur, e1, e2, e3⟩⟩ := h
  · exact ⟨h1, .inl h2⟩
  · exact ⟨h1, .inr ⟨g, cap, cur, e1, Nat.le_trans hb e2, e3⟩⟩

set_option maxHeartbeats 2000000 in
set_option maxRecDepth 100000 in
theorem iTreeList_any (w : World) (a : Option Addr) (g o cap : Nat) (es : List E) (s : ByteArray) (ae : Int → Addr) (hErr : Errs2R w ae) (hl : es.length ≤ 16777216) (hs : s.size ≤ 16777216) (hz : ∀ e ∈ es, e.p.size ≤ 16777216 ∧ e.x.size ≤ 16777216) (ha : 0 < es.length → a = some ⟨g, o, none⟩) (hE : Ents w g o es) :
    Calls Tryz.prog 19 #[.slice a es.length cap, .string s] w fun r w' => ∃ v, r = .returned (.tuple #[v, .int .i64 (listC es s)]) ∧ w'.ownsRow w.heap.size 9 1 v (listE es s).length ((listE es s).map Value.string) ∧ Below w.heap.size w w' := by
  have HT := hidE (treeOf_any w a g o cap es ae hErr.errs hl hz ha hE)
  have HEr := hidE hErr
  clear hErr hz ha hE
  cases ht : treeE es with
  | false =>
    have HC := hidE (listC_bad (es := es) (s := s) (by rw [ht]; rfl))
    rw [ht] at HT
    go_enter Tryz.func19, Tryz.ntmps19
    go_wp2_with fail
    refine HT.out.mono ?_
    rintro e w1 ⟨A, rfl, hB1, -⟩
    have HB1 := hidE (hB1.alloc hB1.size (.cells #[.bool true, .string ⟨#[]⟩, .map (some (A ⟨#[47]⟩))] 61))
    clear hB1
    go_wp2
    exact bodyPost_ret (v := .tuple #[.slice none 0 0, .int .i64 1]) (by simp [results, Tryz.results19, go_sem]) rfl ⟨_, by rw [HC.out], by rw [list_no HC.out (by decide)]; exact World.ownsRow_nil _ _ _ _, HB1.out⟩
  | true =>
    have T := (treeE_tr ht).1
    have HT2 := hidE ht
    rw [ht] at HT
    have HP := hidE (fun (W : World) => pOk_any s (by omega) W)
    cases hr : (s.toList == [47]) with
    | true =>
      have HC : listC es s = dirC es s := listC_dir (by rw [ht]; show (true && ((s.toList == [47]) || _)) = true; rw [hr]; rfl)
      have hr2 : s.toList = [47] := by simpa using hr
      go_enter Tryz.func19, Tryz.ntmps19
      go_wp2_with fail
      refine HT.out.mono ?_
      rintro e w1 ⟨A, rfl, hB1, hR⟩
      have hR := hR (by first | exact ht | exact trivial | rfl)
      have hBt : Below w1.heap.size w1 (w1.alloc (.cells #[.bool true, .string ⟨#[]⟩, .map (some (A ⟨#[47]⟩))] 61)) := (Below.refl _ w1).alloc (Nat.le_refl _) _
      have HBX := hidE (hB1.trans (hBt.mono hB1.size))
      have HRX := hidE (hR.below hBt)
      have HEX := hidE ((HEr.out.below hB1).below hBt)
      have HD := hidE (dirAt_any _ _ _ es A ae T HRX.out HEX.out.errs s (by omega))
      clear hB1 hR hBt ht
      go_wp2_with fail
      refine HD.out.mono ?_
      rintro e w3 ⟨rfl, hB3⟩
      have HB3 := hidE (HBX.out.trans (hB3.mono HBX.out.size))
      have HR3 := hidE (HRX.out.below hB3)
      have HE3 := hidE (HEX.out.below hB3)
      clear hB3 HD
      by_cases hc : 0 < dirC es s
      · have hc23 : dirC es s = 2 ∨ dirC es s = 3 := dirC_some hc
        have hv : dirV es A s = zeroN := by unfold dirV; rw [if_neg (by omega)]
        have he : errV ae (dirC es s) = .iface 171 (.pointer (some (ae (dirC es s)))) := by unfold errV; rw [if_neg (by omega)]
        rw [hv, he]
        have hBn : Below w3.heap.size w3 (w3.alloc (.cells #[.bool false, .string ⟨#[]⟩, .map none] 59)) := (Below.refl _ w3).alloc (Nat.le_refl _) _
        have HCd := hidE (doCode_two _ ae (HE3.out.below hBn) (dirC es s) hc23)
        have HB4 := hidE (HB3.out.trans (hBn.mono HB3.out.size))
        have HCc := hidE HC
        have hc0 : ¬ dirC es s = 0 := by omega
        obtain ⟨cc, hcc⟩ : ∃ cc, dirC es s = cc := ⟨_, rfl⟩
        have hcz : cc ≠ 0 := by rw [← hcc]; exact hc0
        have HZc := hidE hcz
        rw [hcc] at HCd HCc
        rw [hcc]
        clear hc hc23 hc0 hcc hcz hv he hBn
        go_wp2_with fail
        refine HCd.out.mono ?_
        rintro e w4 ⟨rfl, rfl⟩
        go_wp2
        exact bodyPost_ret (v := .tuple #[.slice none 0 0, .int .i64 cc]) (by simp [results, Tryz.results19, go_sem]) rfl ⟨_, by rw [HCc.out], by rw [list_no HCc.out HZc.out]; exact World.ownsRow_nil _ _ _ _, HB4.out⟩
      · have hc0 : dirC es s = 0 := dirC_none (by omega)
        have hdir := dirC_zero hc0
        obtain ⟨x, hx⟩ := atE_dir (A := A) hdir
        have hv : dirV es A s = .agg #[.bool true, .string x, .map (some (A s))] := by unfold dirV; rw [if_pos hc0, hx]
        have he : errV ae (dirC es s) = .nilIface := by unfold errV; rw [if_pos hc0]
        rw [hv, he]
        have hBn : Below w3.heap.size w3 (w3.alloc (.cells #[.bool true, .string x, .map (some (A s))] 59)) := (Below.refl _ w3).alloc (Nat.le_refl _) _
        have HNm := hidE (names_dir _ w.heap.size 16 es A T (HR3.out.below hBn) (by omega) s hdir true x)
        have HB4 := hidE (HB3.out.trans (hBn.mono HB3.out.size))
        have HCc : Hid (listC es s = 0) := by show _ = _; rw [HC, hc0]
        clear hc hc0 hv he hBn hx hdir
        go_wp2_with fail
        refine HNm.out.mono ?_
        rintro e w4 ⟨v, rfl, hown, hB5⟩
        have HO5 := hidE (row_lowI hown HB4.out.size)
        have HB5 := hidE (HB4.out.trans (hB5.mono HB4.out.size))
        clear hown hB5
        go_wp2
        exact bodyPost_ret (v := .tuple #[v, .int .i64 0]) (by simp [results, Tryz.results19, go_sem]) rfl ⟨_, by rw [HCc.out], by unfold listE; rw [if_pos HCc.out]; exact HO5.out, HB5.out⟩
    | false =>
      have hr2 : ¬ s.toList = [47] := by simpa using hr
      cases hp : pathB s with
      | false =>
        have HC := hidE (listC_bad (es := es) (s := s) (by rw [ht, hp]; show (true && ((s.toList == [47]) || _)) = false; rw [hr]; rfl))
        rw [hp] at HP
        go_enter Tryz.func19, Tryz.ntmps19
        go_wp2_with fail
        refine HT.out.mono ?_
        rintro e w1 ⟨A, rfl, hB1, hR⟩
        have hBt : Below w1.heap.size w1 (w1.alloc (.cells #[.bool true, .string ⟨#[]⟩, .map (some (A ⟨#[47]⟩))] 61)) := (Below.refl _ w1).alloc (Nat.le_refl _) _
        have HBX := hidE (hB1.trans (hBt.mono hB1.size))
        clear hB1 hR hBt ht
        go_wp2_with fail
        refine (HP.out _).mono ?_
        rintro e w2 ⟨rfl, hB2⟩
        have HB2 := hidE (HBX.out.trans (hB2.mono HBX.out.size))
        clear hB2
        go_wp2
        exact bodyPost_ret (v := .tuple #[.slice none 0 0, .int .i64 1]) (by simp [results, Tryz.results19, go_sem]) rfl ⟨_, by rw [HC.out], by rw [list_no HC.out (by decide)]; exact World.ownsRow_nil _ _ _ _, HB2.out⟩
      | true =>
      have HC : listC es s = dirC es s := listC_dir (by rw [ht, hp]; simp)
      rw [hp] at HP
      go_enter Tryz.func19, Tryz.ntmps19
      go_wp2_with fail
      refine HT.out.mono ?_
      rintro e w1 ⟨A, rfl, hB1, hR⟩
      have hR := hR (by first | exact ht | exact trivial | rfl)
      have hBt : Below w1.heap.size w1 (w1.alloc (.cells #[.bool true, .string ⟨#[]⟩, .map (some (A ⟨#[47]⟩))] 61)) := (Below.refl _ w1).alloc (Nat.le_refl _) _
      have HBt := hidE (hB1.trans (hBt.mono hB1.size))
      have HRt := hidE (hR.below hBt)
      have HEt := hidE ((HEr.out.below hB1).below hBt)
      clear hB1 hR hBt ht
      go_wp2_with fail
      refine (HP.out _).mono ?_
      rintro e w2 ⟨rfl, hB2⟩
      have k0 := hB2.cell (p := ⟨w1.heap.size, 0, none⟩) (by simp)
      have k1 := hB2.cell (p := ⟨w1.heap.size, 1, none⟩) (by simp)
      have k2 := hB2.cell (p := ⟨w1.heap.size, 2, none⟩) (by simp)
      simp at k0 k1 k2
      have HBX := hidE (HBt.out.trans (hB2.mono HBt.out.size))
      have HRX := hidE (HRt.out.below hB2)
      have HEX := hidE (HEt.out.below hB2)
      have HD := hidE (dirAt_any _ _ _ es A ae T HRX.out HEX.out.errs s (by omega))
      clear hB2 HBt HRt HEt
      go_wp2_with fail
      refine HD.out.mono ?_
      rintro e w3 ⟨rfl, hB3⟩
      have HB3 := hidE (HBX.out.trans (hB3.mono HBX.out.size))
      have HR3 := hidE (HRX.out.below hB3)
      have HE3 := hidE (HEX.out.below hB3)
      clear hB3 HD
      by_cases hc : 0 < dirC es s
      · have hc23 : dirC es s = 2 ∨ dirC es s = 3 := dirC_some hc
        have hv : dirV es A s = zeroN := by unfold dirV; rw [if_neg (by omega)]
        have he : errV ae (dirC es s) = .iface 171 (.pointer (some (ae (dirC es s)))) := by unfold errV; rw [if_neg (by omega)]
        rw [hv, he]
        have hBn : Below w3.heap.size w3 (w3.alloc (.cells #[.bool false, .string ⟨#[]⟩, .map none] 59)) := (Below.refl _ w3).alloc (Nat.le_refl _) _
        have HCd := hidE (doCode_two _ ae (HE3.out.below hBn) (dirC es s) hc23)
        have HB4 := hidE (HB3.out.trans (hBn.mono HB3.out.size))
        have HCc := hidE HC
        have hc0 : ¬ dirC es s = 0 := by omega
        obtain ⟨cc, hcc⟩ : ∃ cc, dirC es s = cc := ⟨_, rfl⟩
        have hcz : cc ≠ 0 := by rw [← hcc]; exact hc0
        have HZc := hidE hcz
        rw [hcc] at HCd HCc
        rw [hcc]
        clear hc hc23 hc0 hcc hcz hv he hBn
        go_wp2_with fail
        refine HCd.out.mono ?_
        rintro e w4 ⟨rfl, rfl⟩
        go_wp2
        exact bodyPost_ret (v := .tuple #[.slice none 0 0, .int .i64 cc]) (by simp [results, Tryz.results19, go_sem]) rfl ⟨_, by rw [HCc.out], by rw [list_no HCc.out HZc.out]; exact World.ownsRow_nil _ _ _ _, HB4.out⟩
      · have hc0 : dirC es s = 0 := dirC_none (by omega)
        have hdir := dirC_zero hc0
        obtain ⟨x, hx⟩ := atE_dir (A := A) hdir
        have hv : dirV es A s = .agg #[.bool true, .string x, .map (some (A s))] := by unfold dirV; rw [if_pos hc0, hx]
        have he : errV ae (dirC es s) = .nilIface := by unfold errV; rw [if_pos hc0]
        rw [hv, he]
        have hBn : Below w3.heap.size w3 (w3.alloc (.cells #[.bool true, .string x, .map (some (A s))] 59)) := (Below.refl _ w3).alloc (Nat.le_refl _) _
        have HNm := hidE (names_dir _ w.heap.size 16 es A T (HR3.out.below hBn) (by omega) s hdir true x)
        have HB4 := hidE (HB3.out.trans (hBn.mono HB3.out.size))
        have HCc : Hid (listC es s = 0) := by show _ = _; rw [HC, hc0]
        clear hc hc0 hv he hBn hx hdir
        go_wp2_with fail
        refine HNm.out.mono ?_
        rintro e w4 ⟨v, rfl, hown, hB5⟩
        have HO5 := hidE (row_lowI hown HB4.out.size)
        have HB5 := hidE (HB4.out.trans (hB5.mono HB4.out.size))
        clear hown hB5
        go_wp2
        exact bodyPost_ret (v := .tuple #[v, .int .i64 0]) (by simp [results, Tryz.results19, go_sem]) rfl ⟨_, by rw [HCc.out], by unfold listE; rw [if_pos HCc.out]; exact HO5.out, HB5.out⟩
end Go.Proofs.YtbcogekeoklddaaGreatDoor
