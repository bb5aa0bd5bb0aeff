/-
  The walk of the law FnExactTreeGet, out of the contracts.
-/
import Derived.Test.YtfbhkcfecdbdeaaDoorLawTop
import Derived.Test.YtfbhkcfecdbdeaaDoorTreeGet
import Derived.Test.YtfbhkcfecdbdeaaDoorImplGet
namespace Go.Proofs.YtfbhkcfecdbdeaaDoor
open Go.RowKit Go.Lib

theorem sameE_self (e : E) : sameE e e = true := (sameE_iff e e).2 rfl

set_option maxHeartbeats 800000 in
set_option maxRecDepth 100000 in
theorem walk_fnExactTreeGet (ae : Int → Addr) (a : Option Addr) (len cap : Nat) (es : List E) (s : ByteArray) (w : World) (hErr : Errs2 w ae) (hw : EntSl w a len cap es) :
    Calls Tryd.prog 4 #[.slice a len cap, .string s] w fun r w' => r = .returned (.bool true) ∧ Below w.heap.size w w' := by
  obtain ⟨rfl, hcap, hm, hz, g, o, ha, hE⟩ := hw
  have HEr := hidE hErr
  have HE := hidE hE
  have HZ := hidE hz
  clear hE hz hErr
  by_cases hs : s.size ≤ 1048576
  · go_enter Tryd.func4, Tryd.ntmps4
    go_wp2_with fail
    refine (szEntS_any _ a g o cap es _ (by omega) (by omega) hm HZ.out ha HE.out).mono ?_
    rintro e w1 ⟨r, rfl, r1, r2, r3, hB1⟩
    have HB := hidE hB1
    have HE1 := hidE (HE.out.below hB1)
    have HR := hidE r3
    clear hB1 r3 HE HZ
    by_cases hr : 0 ≤ r
    · obtain ⟨l1, l2⟩ := HR.out hr
      have hn : es.length ≤ 1048576 := by omega
      have HL : Hid (∀ e ∈ es, e.p.size ≤ 16777216 ∧ e.x.size ≤ 16777216) := fun e he => ⟨by have := (l2 e he).1; omega, by have := (l2 e he).2; omega⟩
      clear HR l2
      go_wp2_with fail
      refine (toEntS_any _ a g o cap es hn ha HE1.out).mono ?_
      rintro e w2 ⟨rfl, hX2, _, hB2⟩
      have HB2 := hidE (B3E HB.out hB2)
      have HE2 := hidE (HE1.out.below hB2)
      have HX2 := hidE hX2
      clear hX2 hB2 HB HE1
      go_wp2_with fail
      refine (sTreeGet_any _ _ w1.heap.size 0 es.length es s (by omega) (Nat.le_refl _) HL.out (fun _ => rfl) HX2.out).mono ?_
      rintro e w3 ⟨rfl, hB3⟩
      obtain ⟨G, hG⟩ : ∃ G, tgetE es s = G := ⟨_, rfl⟩
      have HG := hidE hG
      rw [hG]
      clear hG
      have HB3 := hidE (B3E HB2.out hB3)
      have HE3 := hidE (HE2.out.below hB3)
      have hA3 : Below w3.heap.size w3 (w3.alloc (.cells #[.string G.1.p, .bool G.1.d, .string G.1.x] 30)) := (Below.refl _ w3).alloc (Nat.le_refl _) _
      have HB3' := hidE (B3E HB3.out hA3)
      have HE3' := hidE (HE3.out.below hA3)
      clear hB3 HB2 HE2 HX2 hA3
      go_wp2_with fail
      refine (toEntS_any _ a g o cap es hn ha HE3'.out).mono ?_
      rintro e w4 ⟨rfl, hX4, _, hB4⟩
      have HB4 := hidE (B3E HB3'.out hB4)
      have HE4 := hidE (HE3'.out.below hB4)
      have HK4 := hidE hB4
      simp only [World.size_alloc] at hX4
      have HX4 := hidE hX4
      clear hX4 hB4 HB3 HE3
      go_wp2_with fail
      refine (iTreeGet_any _ _ (w3.heap.size + 1) 0 es.length es s ae (HEr.out.below HB4.out) (by omega) (by omega) HL.out (fun _ => rfl) HX4.out).mono ?_
      rintro e w5 ⟨rfl, hB5⟩
      rw [HG.out]
      have HB5 := hidE (B3E HB4.out hB5)
      have HE5 := hidE (HE4.out.below hB5)
      have HX5 := hidE (HX4.out.below hB5)
      obtain ⟨b0, b1, b2⟩ := box3n (B3E HK4.out hB5)
      have b0' := fun o => cellOn o b0
      have b1' := fun o => cellOn o b1
      have b2' := fun o => cellOn o b2
      have hA5 : Below w5.heap.size w5 (w5.alloc (.cells #[.string G.1.p, .bool G.1.d, .string G.1.x] 30)) := (Below.refl _ w5).alloc (Nat.le_refl _) _
      have HB5' := hidE (B3E HB5.out hA5)
      have HE5' := hidE (HE5.out.below hA5)
      have HX5' := hidE (HX5.out.below hA5)
      clear hB5 HB4 HE4 HX4 HK4 hA5 HB5 HE5 HX5 b0 b1 b2
      go_wp2_with fail
      refine (eqEnt_any _ G.1 G.1).mono ?_
      rintro e w6 ⟨rfl, hB6⟩
      have hse := sameE_self G.1
      have HB6 := hidE (B3E HB5'.out hB6)
      have HE6 := hidE (HE5'.out.below hB6)
      have HX6 := hidE (HX5'.out.below hB6)
      clear hB6 HB5' HE5' HX5'
      rw [hse]
      go_wp2_with fail
      refine (toEntS_any _ a g o cap es hn ha HE6.out).mono ?_
      rintro e w7 ⟨rfl, hX7, _, hB7⟩
      have HB7 := hidE (B3E HB6.out hB7)
      have HX6' := hidE (HX6.out.below hB7)
      have HX7 := hidE hX7
      clear hX7 hB7 HB6 HE6 HX6
      go_wp2_with fail
      refine (eqEntS_any _ _ _ (w3.heap.size + 1) 0 es.length w6.heap.size 0 es.length es es (by omega) (by omega) (fun _ => rfl) (fun _ => rfl) HX6'.out HX7.out).mono ?_
      rintro e w8 ⟨rfl, hB8⟩
      have HB8 := hidE (B3E HB7.out hB8)
      have hs' := sameES_self es
      clear hB8 HB7 HX6' HX7
      rw [hs']
      go_wp2
      go_ret
      exact ⟨rfl, HB8.out⟩
    · go_wp2
      go_ret
      exact ⟨rfl, HB.out⟩
  · have hs' : (1048576 : Int) < s.size := by omega
    go_enter Tryd.func4, Tryd.ntmps4
    go_wp2
    go_ret
    exact ⟨rfl, Below.refl _ _⟩
end Go.Proofs.YtfbhkcfecdbdeaaDoor
