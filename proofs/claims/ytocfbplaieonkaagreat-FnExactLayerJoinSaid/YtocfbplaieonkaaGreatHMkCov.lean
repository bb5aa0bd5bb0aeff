/-
  The walk of the program's own: whether what is beneath at a path is of no matter.
-/
import Derived.Test.YtocfbplaieonkaaGreatHMkHides
import Derived.Test.YtocfbplaieonkaaGreatHPk09
namespace Go.Proofs.YtocfbplaieonkaaGreat.Mk
open Go.RowKit Go.Shelf Go.Lib

theorem cov_is {es : List E} (T : TrM es) (A : ByteArray → Nat) {s : ByteArray} (hs : pathB s = true) : ((atV es A s).2 || (ups s).any (tellM es (fun d => d != 2))) = Ly.covM es s := by
  unfold Ly.covM
  rw [hides_is T, hs, Bool.true_and]
  cases h : lookE es s with
  | none => rw [atV_none (path_not_root hs) h]; rfl
  | some e => rw [atV_some T h]; rfl

set_option maxHeartbeats 1000000 in
set_option maxRecDepth 100000 in
theorem covers_any (base N : Nat) (es : List E) (A : ByteArray → Nat) (T : TrM es) (w : World) (R : Rep w base N es A) (s : ByteArray) (hs : pathB s = true) (hz : s.size ≤ 16777216) :
    Calls Tryz.prog 36 #[layV A, .string s] w fun e w' => e = .returned (.bool (Ly.covM es s)) ∧ Below w.heap.size w w' := by
  have HI := hid (cov_is T A hs)
  have HA := hid (fun (W : World) (hW : Below w.heap.size w W) => at_any base N es A T (s.size + 1) W (R.below hW) s (Nat.lt_succ_self _) hz)
  have HH := hid (fun (W : World) (hW : Below w.heap.size w W) => hides_any base N es A T W (R.below hW) s hz)
  go_enter Tryz.func36, Tryz.ntmps36
  go_wp2_with fail
  refine (HA.out _ ((Below.refl _ w).alloc (Nat.le_refl _) _)).mono ?_
  rintro e w1 ⟨rfl, hB1⟩
  have c0 := (hB1.cell (p := ⟨w.heap.size, 0, none⟩) (by simp))|>.trans (by simp : _ = some (.iface 78 (.agg #[])))
  have c1 := (hB1.cell (p := ⟨w.heap.size, 1, none⟩) (by simp))|>.trans (by simp : _ = some (.map (some (A ⟨#[47]⟩))))
  have hB : Below w.heap.size w w1 := ((Below.refl _ w).alloc (Nat.le_refl _) _).trans (hB1.mono (by simp))
  have HB := hid hB
  have HB1 := hid hB1
  clear hB1 hB
  cases h : lookE es s with
  | some e =>
    obtain ⟨te, ue, hse⟩ := sign_is e.d e.x
    have hq : Ly.covM es s = true := by rw [← HI.out, atV_some T h]; rfl
    rw [atV_some T h]
    unfold nodeV
    rw [hse]
    have HQ := hid hq
    clear hse hq h HI
    go_wp2
    go_ret
    exact ⟨by rw [HQ.out]; rfl, HB.out.alloc HB.out.size _⟩
  | none =>
    have hq : Ly.covM es s = (ups s).any (tellM es (fun d => d != 2)) := by rw [← HI.out, atV_none (path_not_root hs) h]; rfl
    rw [atV_none (path_not_root hs) h]
    have HQ := hid hq
    clear hq h HI
    have c0' := cellOn (.cells #[.nilIface, .map none] 43) c0
    have c1' := cellOn (.cells #[.nilIface, .map none] 43) c1
    go_wp2_with (go_at_call 53; refine (HH.out _ (HB.out.alloc HB.out.size _)).mono ?_; rintro e w3 ⟨rfl, hB3⟩)
    go_ret
    exact ⟨by rw [HQ.out]; rfl, (HB.out.alloc HB.out.size _).trans (hB3.mono (by have := HB.out.size; simp; omega))⟩
end Go.Proofs.YtocfbplaieonkaaGreat.Mk
