import Derived.Test.YtoaipphccjkphaaDoorHMgDr
import Derived.Test.YtoaipphccjkphaaDoorHMgLw
namespace Go.Proofs.YtoaipphccjkphaaDoor.Mg
open Go.RowKit Go.Lib
set_option maxHeartbeats 4000000 in
set_option maxRecDepth 100000 in
theorem walk_fnMergeSame (ae : Int → Addr) (bad : Value) (a : Option Addr) (len cap : Nat) (zs : List Int) (w : World) (hErr : Errs3 w ae bad) (hw : IsRow .u8 w a len cap zs) :
  Calls Tryd.prog 5 #[.slice a len cap] w fun e w' => e = .returned (.bool true) ∧ Below w.heap.size w w' := by
 have HC := hidR hw.cod; have HEr := hidE hErr; clear hw hErr; by_cases hl : len ≤ 1048576
 ·
  go_enter Tryd.func5, Tryd.ntmps5
  go_wp2_with fail
  refine (DrawMerge_any _ a len cap hl HC.out).mono ?_; rintro e w1 ⟨u1, u2, u3, t, x, y, rfl, h1, h2, h3, hB⟩; replace HEr := hidE (HEr.out.below hB); have HB := hidE hB; have H1 := hidE h1; have H2 := hidE h2; have H3 := hidE h3; clear h1 h2 h3 hB HC; obtain ⟨bb, hbb⟩ : ∃ bb, mergeB t x y = bb := ⟨_, rfl⟩
  obtain ⟨mm, hmm⟩ : ∃ mm, mergeE t x y = mm := ⟨_, rfl⟩
  have HBB := hidE hbb; have HMM := hidE hmm; have hbne : (bb != bb) = false := by simp
  have hbeq : (bb == bb) = true := by simp
  clear hbb hmm; go_wp2_with fail
  refine (iMg HEr.out H1.out H2.out H3.out bb mm HBB.out HMM.out).mono ?_; rintro e v1 ⟨u4, rfl, hr, hB⟩; replace HB := hidE (B3' HB.out hB); replace HEr := hidE (HEr.out.below hB); replace H1 := hidE (H1.out.below hB); replace H2 := hidE (H2.out.below hB); replace H3 := hidE (H3.out.below hB); have H4 := hidE hr; clear hr; clear hB; clear H4; go_wp2_with fail
  refine (sMg H1.out H2.out H3.out bb mm HBB.out HMM.out).mono ?_; rintro e v2 ⟨u4, rfl, hr, hB⟩; replace HB := hidE (B3' HB.out hB); replace HEr := hidE (HEr.out.below hB); replace H1 := hidE (H1.out.below hB); replace H2 := hidE (H2.out.below hB); replace H3 := hidE (H3.out.below hB); have H4 := hidE hr; clear hr; clear hB; clear H4; go_wp2_with fail
  refine (H1.out.sOk).mono ?_; rintro e v3 ⟨rfl, hB⟩; replace HB := hidE (B3' HB.out hB); replace HEr := hidE (HEr.out.below hB); replace H1 := hidE (H1.out.below hB); replace H2 := hidE (H2.out.below hB); replace H3 := hidE (H3.out.below hB); clear hB; cases ht : treeE t with
  | false =>
   go_wp2
   go_ret
   exact ⟨rfl, HB.out⟩
  | true =>
   go_wp2_with fail
   refine (H2.out.sOk).mono ?_; rintro e v4 ⟨rfl, hB⟩; replace HB := hidE (B3' HB.out hB); replace HEr := hidE (HEr.out.below hB); replace H1 := hidE (H1.out.below hB); replace H2 := hidE (H2.out.below hB); replace H3 := hidE (H3.out.below hB); clear hB; cases ha : treeE x with
   | false =>
    go_wp2
    go_ret
    exact ⟨rfl, HB.out⟩
   | true =>
    have p1 := hidE (merge_back ht ha); have p2 := hidE (merge_same ht ha); have p3 := hidE (merge_back ht ht); go_wp2_with fail
    refine (iMg HEr.out H1.out H2.out H1.out true x p1.out.1 p1.out.2).mono ?_; rintro e v5 ⟨u5, rfl, hr, hB⟩; replace HB := hidE (B3' HB.out hB); replace HEr := hidE (HEr.out.below hB); replace H1 := hidE (H1.out.below hB); replace H2 := hidE (H2.out.below hB); clear H3; have H5 := hidE hr; clear hr; clear hB; go_wp2_with fail
    refine (iMg HEr.out H1.out H2.out H2.out true x p2.out.1 p2.out.2).mono ?_; rintro e v6 ⟨u6, rfl, hr, hB⟩; replace HB := hidE (B3' HB.out hB); replace HEr := hidE (HEr.out.below hB); replace H1 := hidE (H1.out.below hB); replace H2 := hidE (H2.out.below hB); replace H5 := hidE (H5.out.below hB); have H6 := hidE hr; clear hr; clear hB; go_wp2_with fail
    refine (iMg HEr.out H1.out H1.out H1.out true t p3.out.1 p3.out.2).mono ?_; rintro e v7 ⟨u7, rfl, hr, hB⟩; replace HB := hidE (B3' HB.out hB); replace HEr := hidE (HEr.out.below hB); replace H1 := hidE (H1.out.below hB); replace H2 := hidE (H2.out.below hB); replace H5 := hidE (H5.out.below hB); replace H6 := hidE (H6.out.below hB); have H7 := hidE hr; clear hr; clear hB; go_wp2_with fail
    refine (H5.out.same H2.out).mono ?_; rintro e v8 ⟨rfl, hB⟩; replace HB := hidE (B3' HB.out hB); replace HEr := hidE (HEr.out.below hB); replace H1 := hidE (H1.out.below hB); replace H2 := hidE (H2.out.below hB); replace H5 := hidE (H5.out.below hB); replace H6 := hidE (H6.out.below hB); replace H7 := hidE (H7.out.below hB); clear hB; go_wp2_with fail
    refine (H6.out.same H2.out).mono ?_; rintro e v9 ⟨rfl, hB⟩; replace HB := hidE (B3' HB.out hB); replace HEr := hidE (HEr.out.below hB); replace H1 := hidE (H1.out.below hB); replace H2 := hidE (H2.out.below hB); replace H5 := hidE (H5.out.below hB); replace H6 := hidE (H6.out.below hB); replace H7 := hidE (H7.out.below hB); clear hB; go_wp2_with fail
    refine (H7.out.same H1.out).mono ?_; rintro e v10 ⟨rfl, hB⟩; replace HB := hidE (B3' HB.out hB); replace HEr := hidE (HEr.out.below hB); replace H1 := hidE (H1.out.below hB); replace H2 := hidE (H2.out.below hB); replace H5 := hidE (H5.out.below hB); replace H6 := hidE (H6.out.below hB); replace H7 := hidE (H7.out.below hB); clear hB; go_wp2
    go_ret
    exact ⟨rfl, HB.out⟩
 ·
  have hn : (1048576 : Int) < len := by omega
  go_enter Tryd.func5, Tryd.ntmps5
  go_wp2
  go_ret
  exact ⟨rfl, Below.refl _ _⟩
end Go.Proofs.YtoaipphccjkphaaDoor.Mg
