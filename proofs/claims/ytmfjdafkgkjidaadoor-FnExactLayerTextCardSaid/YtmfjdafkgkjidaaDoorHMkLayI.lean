/-
  The walks of the program's own LayerOk.
-/
import Derived.Test.YtmfjdafkgkjidaaDoorHMkLayOf
namespace Go.Proofs.YtmfjdafkgkjidaaDoor.Mk
open Go.RowKit Go.Shelf Go.Lib

attribute [local go_sem] Oper.semAt_some

theorem layB_tr {es : List E} (h : layB es = true) : TrM es := by
  unfold layB at h
  rw [Bool.and_eq_true] at h
  have := tr_take es.length (Nat.le_refl _) h.1
  rwa [List.take_length] at this

set_option maxHeartbeats 1000000 in
theorem iLayerOk_any (w : World) (a : Option Addr) (g o cap : Nat) (es : List E) (hl : es.length ≤ 16777216) (hz : ∀ e ∈ es, e.p.size ≤ 16777216 ∧ e.x.size ≤ 16777216) (ha : 0 < es.length → a = some ⟨g, o, none⟩) (hE : Ents w g o es) :
    Calls Tryd.prog 37 #[.slice a es.length cap] w fun r w' => r = .returned (.bool (layB es)) ∧ Below w.heap.size w w' := by
  have HL := hidE (layerOf_any w a g o cap es hl hz ha hE)
  clear hE hz
  go_enter Tryd.func37, Tryd.ntmps37
  go_wp2_with (first | (go_at_call 51; refine HL.out.mono ?_; rintro e w1 ⟨A, rfl, hB1, -⟩) | fail)
  go_ret
  exact ⟨rfl, belowA hB1 _⟩

end Go.Proofs.YtmfjdafkgkjidaaDoor.Mk
