/-
  The walks of the program's own LayerOk and LayerHides.
-/
import Derived.Test.YtocfbplaieonkaaGreatHMkLayOf
import Derived.Test.YtocfbplaieonkaaGreatHMkHides
namespace Go.Proofs.YtocfbplaieonkaaGreat.Mk
open Go.RowKit Go.Shelf Go.Lib

attribute [local go_sem] Oper.semAt_some

theorem layB_tr {es : List E} (h : layB es = true) : TrM es := by
  unfold layB at h
  rw [Bool.and_eq_true] at h
  have := tr_take es.length (Nat.le_refl _) h.1
  rwa [List.take_length] at this

end Go.Proofs.YtocfbplaieonkaaGreat.Mk
