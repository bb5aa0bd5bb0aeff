/-
  The walk of the law FnExactEntText, out of the contracts.
-/
import Derived.Test.YtmfjdafkgkjidaaDoorHTxEnt
namespace Go.Proofs.YtmfjdafkgkjidaaDoor
open Go.RowKit Go.Lib

theorem B3T {a b c : World} (h : Below a.heap.size a b) (k : Below b.heap.size b c) : Below a.heap.size a c := h.trans (k.mono h.size)
theorem box3t {w w' : World} {a b c : Value} {T : TypeId} (h : Below (w.alloc (.cells #[a, b, c] T)).heap.size (w.alloc (.cells #[a, b, c] T)) w') :
    w'.cell? ⟨w.heap.size, 0, none⟩ = some a ∧ w'.cell? ⟨w.heap.size, 1, none⟩ = some b ∧ w'.cell? ⟨w.heap.size, 2, none⟩ = some c := by
  have hl : w.heap.size < (w.alloc (.cells #[a, b, c] T)).heap.size := by simp
  exact ⟨(h.cell (p := ⟨w.heap.size, 0, none⟩) hl).trans (by simp), (h.cell (p := ⟨w.heap.size, 1, none⟩) hl).trans (by simp), (h.cell (p := ⟨w.heap.size, 2, none⟩) hl).trans (by simp)⟩

set_option maxHeartbeats 800000 in
set_option maxRecDepth 100000 in
theorem walk_fnExactEntText (p x : ByteArray) (d : Bool) (w : World) (hw : Words w) (hp : p.size ≤ maxLen) (hx : x.size ≤ maxLen) :
    Calls Tryd.prog 3 #[.agg #[.string p, .bool d, .string x]] w fun r w' => r = .returned (.bool true) ∧ Below w.heap.size w w' := by
  have HB0 : Hid (Below w.heap.size w (w.alloc (.cells #[.string p, .bool d, .string x] 23))) := (Below.refl _ w).alloc (Nat.le_refl _) _
  have HW := hidE hw
  clear hw
  go_enter Tryd.func3, Tryd.ntmps3
  go_wp2_with fail
  refine (szEnt_any _ p x d _ (by omega) (by omega) hp hx).mono ?_
  rintro e w1 ⟨r, rfl, r1, r2, r3, hB1⟩
  obtain ⟨c0, c1, c2⟩ := box3t hB1
  have HK1 := hidE hB1
  have HR := hidE r3
  clear hB1 r3
  by_cases hr : 0 ≤ r
  · obtain ⟨l1, l2⟩ := HR.out hr
    clear HR
    go_wp2_with fail
    refine (toEnt_any _ p x d).mono ?_
    rintro e w2 ⟨rfl, hB2⟩
    have HK2 := hidE (B3T HK1.out hB2)
    clear hB2 HK1 c0 c1 c2
    go_wp2_with fail
    refine (sEntText_any ⟨p, d, x⟩ _ (by show p.size ≤ _; omega) (by show x.size ≤ _; omega)).mono ?_
    rintro e w3 ⟨rfl, hB3⟩
    have HK3 := hidE (B3T HK2.out hB3)
    obtain ⟨c0, c1, c2⟩ := box3t HK3.out
    clear hB3 HK2
    go_wp2_with fail
    refine (toEnt_any _ p x d).mono ?_
    rintro e w4 ⟨rfl, hB4⟩
    have HK4 := hidE (B3T HK3.out hB4)
    have hW4 := HW.out.below (HB0.out.trans (HK4.out.mono (by simp)))
    clear hB4 HK3 c0 c1 c2
    go_wp2_with fail
    refine (iEntText_any ⟨p, d, x⟩ _ hW4 (by show p.size ≤ _; omega) (by show x.size ≤ _; omega)).mono ?_
    rintro e w5 ⟨rfl, hB5⟩
    have HK5 := hidE (B3T HK4.out hB5)
    clear hB5 HK4 hW4
    go_wp2
    go_ret
    exact ⟨rfl, HB0.out.trans (HK5.out.mono (by simp))⟩
  · go_wp2
    go_ret
    exact ⟨rfl, HB0.out.trans (HK1.out.mono (by simp))⟩
end Go.Proofs.YtmfjdafkgkjidaaDoor
