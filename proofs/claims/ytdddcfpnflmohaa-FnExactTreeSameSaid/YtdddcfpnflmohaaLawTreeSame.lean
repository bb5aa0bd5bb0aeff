/-
  The walk of the law FnExactTreeSame, out of the contracts.
-/
import Derived.Test.YtdddcfpnflmohaaLawTop
import Derived.Test.YtdddcfpnflmohaaSameI
namespace Go.Proofs.Ytdddcfpnflmohaa
open Go.RowKit Go.Lib
attribute [local go_sem] eq_ent guard_ent

set_option maxHeartbeats 800000 in
set_option maxRecDepth 100000 in
theorem walk_fnExactTreeSame (a : Option Addr) (len cap : Nat) (es : List E) (a' : Option Addr) (len' cap' : Nat) (fs : List E) (w : World) (hw : EntSl w a len cap es) (hw' : EntSl w a' len' cap' fs) :
    Calls Try.prog 3 #[.slice a len cap, .slice a' len' cap'] w fun r w' => r = .returned (.bool true) ∧ Below w.heap.size w w' := by
  obtain ⟨rfl, hcap, hm, hz, g, o, ha, hE⟩ := hw
  obtain ⟨rfl, hcap', hm', hz', g', o', ha', hF⟩ := hw'
  have HE := hidE hE
  have HF := hidE hF
  have HZ := hidE hz
  have HZ' := hidE hz'
  clear hE hz hF hz'
  go_enter Try.func3, Try.ntmps3
  go_wp2_with fail
  refine (szEntS_any _ a g o cap es _ (by omega) (by omega) hm HZ.out ha HE.out).mono ?_
  rintro e w1 ⟨r, rfl, r1, r2, r3, hB1⟩
  have HB := hidE hB1
  have HE1 := hidE (HE.out.below hB1)
  have HF1 := hidE (HF.out.below hB1)
  have HR := hidE r3
  clear hB1 r3 HE HF HZ
  by_cases hr : 0 ≤ r
  · obtain ⟨l1, l2⟩ := HR.out hr
    have hn : es.length ≤ 1048576 := by omega
    clear HR l2
    go_wp2_with fail
    refine (szEntS_any _ a' g' o' cap' fs _ (by omega) (by omega) hm' HZ'.out ha' HF1.out).mono ?_
    rintro e w2 ⟨q, rfl, q1, q2, q3, hB2⟩
    have HB2 := hidE (B3E HB.out hB2)
    have HE2 := hidE (HE1.out.below hB2)
    have HF2 := hidE (HF1.out.below hB2)
    have HQ := hidE q3
    clear hB2 q3 HE1 HF1 HZ' HB
    by_cases hq : 0 ≤ q
    · obtain ⟨m1, m2⟩ := HQ.out hq
      have hn' : fs.length ≤ 1048576 := by omega
      clear HQ m2
      go_wp2_with fail
      refine (toEntS_any _ a g o cap es hn ha HE2.out).mono ?_
      rintro e w3 ⟨rfl, hX3, _, hB3⟩
      have HB3 := hidE (B3E HB2.out hB3)
      have HE3 := hidE (HE2.out.below hB3)
      have HF3 := hidE (HF2.out.below hB3)
      have HX3 := hidE hX3
      clear hX3 hB3 HB2 HE2 HF2
      go_wp2_with fail
      refine (toEntS_any _ a' g' o' cap' fs hn' ha' HF3.out).mono ?_
      rintro e w4 ⟨rfl, hX4, _, hB4⟩
      have HB4 := hidE (B3E HB3.out hB4)
      have HE4 := hidE (HE3.out.below hB4)
      have HF4 := hidE (HF3.out.below hB4)
      have HX3' := hidE (HX3.out.below hB4)
      have HX4 := hidE hX4
      clear hX4 hB4 HB3 HE3 HF3 HX3
      go_wp2_with fail
      refine (sTreeSame_any _ _ w2.heap.size 0 es.length es _ w3.heap.size 0 fs.length fs (by omega) (by omega) (fun _ => rfl) (fun _ => rfl) HX3'.out HX4.out).mono ?_
      rintro e w5 ⟨rfl, hB5⟩
      have HB5 := hidE (B3E HB4.out hB5)
      have HE5 := hidE (HE4.out.below hB5)
      have HF5 := hidE (HF4.out.below hB5)
      clear hB5 HB4 HE4 HF4 HX3' HX4
      go_wp2_with fail
      refine (toEntS_any _ a g o cap es hn ha HE5.out).mono ?_
      rintro e w6 ⟨rfl, hX6, _, hB6⟩
      have HB6 := hidE (B3E HB5.out hB6)
      have HE6 := hidE (HE5.out.below hB6)
      have HF6 := hidE (HF5.out.below hB6)
      have HX6 := hidE hX6
      clear hX6 hB6 HB5 HE5 HF5
      go_wp2_with fail
      refine (toEntS_any _ a' g' o' cap' fs hn' ha' HF6.out).mono ?_
      rintro e w7 ⟨rfl, hX7, _, hB7⟩
      have HB7 := hidE (B3E HB6.out hB7)
      have HE7 := hidE (HE6.out.below hB7)
      have HF7 := hidE (HF6.out.below hB7)
      have HX6' := hidE (HX6.out.below hB7)
      have HX7 := hidE hX7
      clear hX7 hB7 HB6 HE6 HF6 HX6
      go_wp2_with fail
      refine (iTreeSame_any _ _ w5.heap.size 0 es.length es _ w6.heap.size 0 fs.length fs (by omega) (by omega) (fun _ => rfl) (fun _ => rfl) HX6'.out HX7.out).mono ?_
      rintro e w8 ⟨rfl, hB8⟩
      have HB8 := hidE (B3E HB7.out hB8)
      have HE8 := hidE (HE7.out.below hB8)
      have HF8 := hidE (HF7.out.below hB8)
      have HX68 := hidE (HX6'.out.below hB8)
      have HX78 := hidE (HX7.out.below hB8)
      clear hB8 HB7 HE7 HF7 HX6' HX7
      have hs1 := sameES_self es
      have hs2 := sameES_self fs
      cases hb : sameT es fs with
      | true =>
        go_wp2_with fail
        refine (toEntS_any _ a g o cap es hn ha HE8.out).mono ?_
        rintro e w9 ⟨rfl, hX9, _, hB9⟩
        have HB9 := hidE (B3E HB8.out hB9)
        have HF9 := hidE (HF8.out.below hB9)
        have HX69 := hidE (HX68.out.below hB9)
        have HX79 := hidE (HX78.out.below hB9)
        have HX9 := hidE hX9
        clear hX9 hB9 HB8 HE8 HF8 HX68 HX78
        go_wp2_with fail
        refine (eqEntS_any _ _ _ w5.heap.size 0 es.length w8.heap.size 0 es.length es es (by omega) (by omega) (fun _ => rfl) (fun _ => rfl) HX69.out HX9.out).mono ?_
        rintro e wa ⟨rfl, hBa⟩
        have HBa := hidE (B3E HB9.out hBa)
        have HFa := hidE (HF9.out.below hBa)
        have HX7a := hidE (HX79.out.below hBa)
        clear hBa HB9 HF9 HX69 HX79 HX9
        rw [hs1]
        go_wp2_with fail
        refine (toEntS_any _ a' g' o' cap' fs hn' ha' HFa.out).mono ?_
        rintro e wb ⟨rfl, hXb, _, hBb⟩
        have HBb := hidE (B3E HBa.out hBb)
        have HX7b := hidE (HX7a.out.below hBb)
        have HXb := hidE hXb
        clear hXb hBb HBa HFa HX7a
        go_wp2_with fail
        refine (eqEntS_any _ _ _ w6.heap.size 0 fs.length wa.heap.size 0 fs.length fs fs (by omega) (by omega) (fun _ => rfl) (fun _ => rfl) HX7b.out HXb.out).mono ?_
        rintro e wc ⟨rfl, hBc⟩
        have HBc := hidE (B3E HBb.out hBc)
        clear hBc HBb HX7b HXb
        rw [hs2]
        go_wp2
        go_ret
        exact ⟨rfl, HBc.out⟩
      | false =>
        go_wp2_with fail
        refine (toEntS_any _ a g o cap es hn ha HE8.out).mono ?_
        rintro e w9 ⟨rfl, hX9, _, hB9⟩
        have HB9 := hidE (B3E HB8.out hB9)
        have HF9 := hidE (HF8.out.below hB9)
        have HX69 := hidE (HX68.out.below hB9)
        have HX79 := hidE (HX78.out.below hB9)
        have HX9 := hidE hX9
        clear hX9 hB9 HB8 HE8 HF8 HX68 HX78
        go_wp2_with fail
        refine (eqEntS_any _ _ _ w5.heap.size 0 es.length w8.heap.size 0 es.length es es (by omega) (by omega) (fun _ => rfl) (fun _ => rfl) HX69.out HX9.out).mono ?_
        rintro e wa ⟨rfl, hBa⟩
        have HBa := hidE (B3E HB9.out hBa)
        have HFa := hidE (HF9.out.below hBa)
        have HX7a := hidE (HX79.out.below hBa)
        clear hBa HB9 HF9 HX69 HX79 HX9
        rw [hs1]
        go_wp2_with fail
        refine (toEntS_any _ a' g' o' cap' fs hn' ha' HFa.out).mono ?_
        rintro e wb ⟨rfl, hXb, _, hBb⟩
        have HBb := hidE (B3E HBa.out hBb)
        have HX7b := hidE (HX7a.out.below hBb)
        have HXb := hidE hXb
        clear hXb hBb HBa HFa HX7a
        go_wp2_with fail
        refine (eqEntS_any _ _ _ w6.heap.size 0 fs.length wa.heap.size 0 fs.length fs fs (by omega) (by omega) (fun _ => rfl) (fun _ => rfl) HX7b.out HXb.out).mono ?_
        rintro e wc ⟨rfl, hBc⟩
        have HBc := hidE (B3E HBb.out hBc)
        clear hBc HBb HX7b HXb
        rw [hs2]
        go_wp2
        go_ret
        exact ⟨rfl, HBc.out⟩
    · go_wp2
      go_ret
      exact ⟨rfl, HB2.out⟩
  · go_wp2
    go_ret
    exact ⟨rfl, HB.out⟩
end Go.Proofs.Ytdddcfpnflmohaa
