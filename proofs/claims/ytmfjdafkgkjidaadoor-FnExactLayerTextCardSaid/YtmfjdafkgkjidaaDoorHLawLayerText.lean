/-
  The walk of the law FnExactLayerText, out of the contracts.
-/
import Derived.Test.YtmfjdafkgkjidaaDoorHPk07
import Derived.Test.YtmfjdafkgkjidaaDoorHTxLay
namespace Go.Proofs.YtmfjdafkgkjidaaDoor.Mk
open Go.RowKit Go.Lib

set_option maxHeartbeats 800000 in
set_option maxRecDepth 100000 in
theorem walk_fnExactLayerText (a : Option Addr) (len cap : Nat) (es : List E) (w : World) (hWo : Words w) (hw : EntSl w a len cap es) :
    Calls Tryd.prog 6 #[.slice a len cap] w fun r w' => r = .returned (.bool true) ∧ Below w.heap.size w w' := by
  obtain ⟨rfl, hcap, hm, hz, g, o, ha, hE⟩ := hw
  have HE := hidE hE
  have HWo := hidE hWo
  clear hWo
  have HZ := hidE hz
  clear hE hz
  go_enter Tryd.func6, Tryd.ntmps6
  go_wp2_with fail
  refine (szEntS_any _ a g o cap es _ (by omega) (by omega) hm HZ.out ha HE.out).mono ?_
  rintro e w1 ⟨r, rfl, r1, r2, r3, hB1⟩
  have HB := hidE hB1
  have HE1 := hidE (HE.out.below hB1)
  have HR := hidE r3
  clear hB1 r3 HE HZ
  by_cases hr : 0 ≤ r
  · obtain ⟨l1, l2⟩ := HR.out hr
    have hn : es.length ≤ 1048576 := by omega
    have HL : Hid (∀ e ∈ es, e.p.size ≤ 1048576 ∧ e.x.size ≤ 1048576) := fun e he => ⟨by have := (l2 e he).1; omega, by have := (l2 e he).2; omega⟩
    clear HR l2
    go_wp2_with fail
    refine (toEntS_any _ a g o cap es hn ha HE1.out).mono ?_
    rintro e w2 ⟨rfl, hX2, _, hB2⟩
    have HB2 := hidE (B3E HB.out hB2)
    have HE2 := hidE (HE1.out.below hB2)
    have HX2 := hidE hX2
    clear hX2 hB2 HB HE1
    go_wp2_with fail
    refine (sText_any _ _ w1.heap.size 0 es.length es (by omega) (Nat.le_refl _) (fun e he => ⟨by have := (HL.out e he).1; omega, by have := (HL.out e he).2; omega⟩) (fun _ => rfl) HX2.out).mono ?_
    rintro e w3 ⟨rfl, hB3⟩
    have HB3 := hidE (B3E HB2.out hB3)
    have HE3 := hidE (HE2.out.below hB3)
    clear hB3 HB2 HE2 HX2
    go_wp2_with fail
    refine (toEntS_any _ a g o cap es hn ha HE3.out).mono ?_
    rintro e w4 ⟨rfl, hX4, _, hB4⟩
    have HB4 := hidE (B3E HB3.out hB4)
    have HE4 := hidE (HE3.out.below hB4)
    have HX4 := hidE hX4
    clear hX4 hB4 HB3 HE3
    go_wp2_with fail
    refine (iText_any _ _ w3.heap.size 0 es.length es (HWo.out.below HB4.out) (by omega) (fun e he => ⟨by have := (HL.out e he).1; omega, by have := (HL.out e he).2; omega⟩) (fun _ => rfl) HX4.out).mono ?_
    rintro e w5 ⟨rfl, hB5⟩
    have HB5 := hidE (B3E HB4.out hB5)
    have HE5 := hidE (HE4.out.below hB5)
    have HX5 := hidE (HX4.out.below hB5)
    clear hB5 HB4 HE4 HX4
    go_wp2_with fail
    refine (toEntS_any _ a g o cap es hn ha HE5.out).mono ?_
    rintro e w6 ⟨rfl, hX6, _, hB6⟩
    have HB6 := hidE (B3E HB5.out hB6)
    have HX5' := hidE (HX5.out.below hB6)
    have HX6 := hidE hX6
    clear hX6 hB6 HB5 HE5 HX5
    go_wp2_with fail
    refine (eqEntS_any _ _ _ w3.heap.size 0 es.length w5.heap.size 0 es.length es es (by omega) (by omega) (fun _ => rfl) (fun _ => rfl) HX5'.out HX6.out).mono ?_
    rintro e w7 ⟨rfl, hB7⟩
    have HB7 := hidE (B3E HB6.out hB7)
    have hs := sameES_self es
    clear hB7 HB6 HX5' HX6
    go_wp2
    go_ret
    exact ⟨rfl, HB7.out⟩
  · go_wp2
    go_ret
    exact ⟨rfl, HB.out⟩
end Go.Proofs.YtmfjdafkgkjidaaDoor.Mk
