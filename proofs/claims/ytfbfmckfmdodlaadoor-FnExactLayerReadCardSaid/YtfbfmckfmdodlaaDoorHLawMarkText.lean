/-
  The walk of the law FnExactMarkText, out of the contracts.
-/
import Derived.Test.YtfbfmckfmdodlaaDoorHTxMark
import Derived.Test.YtfbfmckfmdodlaaDoorHPk04
namespace Go.Proofs.YtfbfmckfmdodlaaDoor.Mk
open Go.RowKit Go.Lib

set_option maxHeartbeats 800000 in
set_option maxRecDepth 100000 in
theorem sMarkText_any (e : E) (w : World) (hp : e.p.size ≤ 1073741824) (hx : e.x.size ≤ 1073741824) :
    Calls Tryd.prog 54 #[encE e] w fun r w' => r = .returned (.string (markT e)) ∧ Below w.heap.size w w' := by
  obtain ⟨p, d, x⟩ := e
  have hp' : p.size ≤ 1073741824 := hp
  have hx' : x.size ≤ 1073741824 := hx
  have hB : Below w.heap.size w (w.alloc (.cells #[.string p, .int .i64 d, .string x] 61)) := (Below.refl _ w).alloc (Nat.le_refl _) _
  have HC := hidE (fun W => sEntText_any ⟨p, false, x⟩ W hp hx)
  clear hp hx
  by_cases h2 : d = 2
  · subst h2
    have HE : Hid (markT ⟨p, 2, x⟩ = ⟨#[100, 32]⟩ ++ p) := by show lineT wD p [] = _; rw [lineT_nil]; rfl
    go_enter Tryd.func54, Tryd.ntmps54
    go_wp2
    go_ret
    exact ⟨retS HE.out.symm, hB⟩
  by_cases h3 : d = 3
  · subst h3
    have HE : Hid (markT ⟨p, 3, x⟩ = ⟨#[120, 32]⟩ ++ p) := by show lineT wX p [] = _; rw [lineT_nil]; rfl
    go_enter Tryd.func54, Tryd.ntmps54
    go_wp2
    go_ret
    exact ⟨retS HE.out.symm, hB⟩
  by_cases h4 : d = 4
  · subst h4
    have HE : Hid (markT ⟨p, 4, x⟩ = ⟨#[98, 32]⟩ ++ p) := by show lineT wB p [] = _; rw [lineT_nil]; rfl
    go_enter Tryd.func54, Tryd.ntmps54
    go_wp2
    go_ret
    exact ⟨retS HE.out.symm, hB⟩
  have HE : Hid (markT ⟨p, d, x⟩ = entT ⟨p, false, x⟩) := by show markT _ = _; unfold markT; rw [if_neg h2, if_neg h3, if_neg h4]
  go_enter Tryd.func54, Tryd.ntmps54
  go_wp2_with (first | (go_at_call 47; refine (HC.out _).mono ?_; rintro e w1 ⟨rfl, hB1⟩) | fail)
  go_ret
  exact ⟨retS HE.out.symm, hB.trans (hB1.mono (by simp))⟩

end Go.Proofs.YtfbfmckfmdodlaaDoor.Mk
