/-
  What the exact laws' mark of a number is, in a region that draws.
-/
import Derived.Test.YteedhlljcfojfaaDoorHLawMark
import Derived.Lib.QuietBelow
namespace Go.Proofs.YteedhlljcfojfaaDoor
open Go.RowKit Go.Lib Go.Sort

theorem cMark (W0 : World) (k : Nat) (z : Int) (hz : z = (k : Int)) (hk : 0 < k) (hk' : k ≤ 16777216) : ∀ d os, Calls Tryd.prog 25 #[.int .i64 z] (grow (redrawn W0 d) os) fun r w'' => r = .returned (.string (markS k)) ∧ ∃ p : Regrown, w'' = grow (redrawn W0 p.d) p.os :=
  fun _ _ => Calls.regrown_of (by subst hz; exact markText_any k hk hk' _)
end Go.Proofs.YteedhlljcfojfaaDoor
