/-
  The walk of the law FnExactMarkText, out of the contracts.
-/
import Derived.Test.YtmfjdafkgkjidaaDoorHTxMark
namespace Go.Proofs.YtmfjdafkgkjidaaDoor.Mk
open Go.RowKit Go.Lib

set_option maxHeartbeats 800000 in
set_option maxRecDepth 100000 in
theorem iMarkText_any (e : E) (w : World) (hw : Words w) (hp : e.p.size ≤ 1073741824) (hx : e.x.size ≤ 1073741824) :
    Calls Tryd.prog 15 #[encE e] w fun r w' => r = .returned (.string (markT e)) ∧ Below w.heap.size w w' := by
  obtain ⟨p, d, x⟩ := e
  have hB : Below w.heap.size w (w.alloc (.cells #[.string p, .int .i64 d, .string x] 33)) := (Below.refl _ w).alloc (Nat.le_refl _) _
  have hc := appendMark_any (w.heap.size + 1) (.slice none 0 0) ⟨#[]⟩ ⟨p, d, x⟩ _ _ (BufB.nil 5 (W := w.alloc (.cells #[.string p, .int .i64 d, .string x] 33)) (by simp)) (hw.alloc _) (by decide) hp hx
  rw [nil_app] at hc
  have HC := hidE hc
  clear hc
  go_enter Tryd.func15, Tryd.ntmps15
  go_wp2_with (first | (go_at_call 31; refine HC.out.mono ?_; rintro e w1 ⟨v1, rfl, hb1⟩; have hcv := run_convert_buf (P := Tryd.prog) hb1 57 9 Tryd.underlying57 Tryd.underlying5 Tryd.underlying9) | fail)
  go_ret
  exact ⟨rfl, hB.trans (hb1.below.mono (by simp))⟩

set_option maxHeartbeats 800000 in
set_option maxRecDepth 100000 in
theorem sMarkText_any (e : E) (w : World) (hp : e.p.size ≤ 1073741824) (hx : e.x.size ≤ 1073741824) :
    Calls Tryd.prog 13 #[encE e] w fun r w' => r = .returned (.string (markT e)) ∧ Below w.heap.size w w' := by
  obtain ⟨p, d, x⟩ := e
  have hp' : p.size ≤ 1073741824 := hp
  have hx' : x.size ≤ 1073741824 := hx
  have hB : Below w.heap.size w (w.alloc (.cells #[.string p, .int .i64 d, .string x] 33)) := (Below.refl _ w).alloc (Nat.le_refl _) _
  have HC := hidE (fun W => sEntText_any ⟨p, false, x⟩ W hp hx)
  clear hp hx
  by_cases h2 : d = 2
  · subst h2
    have HE : Hid (markT ⟨p, 2, x⟩ = ⟨#[100, 32]⟩ ++ p) := by show lineT wD p [] = _; rw [lineT_nil]; rfl
    go_enter Tryd.func13, Tryd.ntmps13
    go_wp2
    go_ret
    exact ⟨retS HE.out.symm, hB⟩
  by_cases h3 : d = 3
  · subst h3
    have HE : Hid (markT ⟨p, 3, x⟩ = ⟨#[120, 32]⟩ ++ p) := by show lineT wX p [] = _; rw [lineT_nil]; rfl
    go_enter Tryd.func13, Tryd.ntmps13
    go_wp2
    go_ret
    exact ⟨retS HE.out.symm, hB⟩
  by_cases h4 : d = 4
  · subst h4
    have HE : Hid (markT ⟨p, 4, x⟩ = ⟨#[98, 32]⟩ ++ p) := by show lineT wB p [] = _; rw [lineT_nil]; rfl
    go_enter Tryd.func13, Tryd.ntmps13
    go_wp2
    go_ret
    exact ⟨retS HE.out.symm, hB⟩
  have HE : Hid (markT ⟨p, d, x⟩ = entT ⟨p, false, x⟩) := by show markT _ = _; unfold markT; rw [if_neg h2, if_neg h3, if_neg h4]
  go_enter Tryd.func13, Tryd.ntmps13
  go_wp2_with (first | (go_at_call 9; refine (HC.out _).mono ?_; rintro e w1 ⟨rfl, hB1⟩) | fail)
  go_ret
  exact ⟨retS HE.out.symm, hB.trans (hB1.mono (by simp))⟩

set_option maxHeartbeats 800000 in
set_option maxRecDepth 100000 in
theorem walk_fnExactMarkText (p x : ByteArray) (d : Int) (w : World) (hw : Words w) (hp : p.size ≤ maxLen) (hx : x.size ≤ maxLen) :
    Calls Tryd.prog 4 #[.agg #[.string p, .int .i64 d, .string x]] w fun r w' => r = .returned (.bool true) ∧ Below w.heap.size w w' := by
  have HB0 : Hid (Below w.heap.size w (w.alloc (.cells #[.string p, .int .i64 d, .string x] 30))) := (Below.refl _ w).alloc (Nat.le_refl _) _
  have HW := hidE hw
  clear hw
  go_enter Tryd.func4, Tryd.ntmps4
  go_wp2_with fail
  refine (szEnt_any _ p x d _ (by omega) (by omega) hp hx).mono ?_
  rintro e w1 ⟨r, rfl, r1, r2, r3, hB1⟩
  obtain ⟨c0, c1, c2⟩ := box3t hB1
  have HK1 := hidE hB1
  have HR := hidE r3
  clear hB1 r3
  by_cases hr : 0 ≤ r
  · obtain ⟨l1, l2⟩ := HR.out hr
    clear HR
    go_wp2_with fail
    refine (toEnt_any _ p x d).mono ?_
    rintro e w2 ⟨rfl, hB2⟩
    have HK2 := hidE (B3T HK1.out hB2)
    clear hB2 HK1 c0 c1 c2
    go_wp2_with fail
    refine (sMarkText_any ⟨p, d, x⟩ _ (by show p.size ≤ _; omega) (by show x.size ≤ _; omega)).mono ?_
    rintro e w3 ⟨rfl, hB3⟩
    have HK3 := hidE (B3T HK2.out hB3)
    obtain ⟨c0, c1, c2⟩ := box3t HK3.out
    clear hB3 HK2
    go_wp2_with fail
    refine (toEnt_any _ p x d).mono ?_
    rintro e w4 ⟨rfl, hB4⟩
    have HK4 := hidE (B3T HK3.out hB4)
    have hW4 := HW.out.below (HB0.out.trans (HK4.out.mono (by simp)))
    clear hB4 HK3 c0 c1 c2
    go_wp2_with fail
    refine (iMarkText_any ⟨p, d, x⟩ _ hW4 (by show p.size ≤ _; omega) (by show x.size ≤ _; omega)).mono ?_
    rintro e w5 ⟨rfl, hB5⟩
    have HK5 := hidE (B3T HK4.out hB5)
    clear hB5 HK4 hW4
    go_wp2
    go_ret
    exact ⟨rfl, HB0.out.trans (HK5.out.mono (by simp))⟩
  · go_wp2
    go_ret
    exact ⟨rfl, HB0.out.trans (HK1.out.mono (by simp))⟩
end Go.Proofs.YtmfjdafkgkjidaaDoor.Mk
