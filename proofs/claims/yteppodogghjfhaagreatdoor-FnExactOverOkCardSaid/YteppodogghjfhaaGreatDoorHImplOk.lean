/-
  The walk of the program's own TreeOk.
-/
import Derived.Test.YteppodogghjfhaaGreatDoorHPk12
namespace Go.Proofs.YteppodogghjfhaaGreatDoor
open Go.RowKit Go.Shelf Go.Lib

attribute [local go_sem] Oper.semAt_some

theorem iTreeOk_any (w : World) (a : Option Addr) (g o cap : Nat) (es : List E) (ae : Int → Addr) (hErr : Errs2 w ae) (hl : es.length ≤ 16777216) (hz : ∀ e ∈ es, e.p.size ≤ 16777216 ∧ e.x.size ≤ 16777216) (ha : 0 < es.length → a = some ⟨g, o, none⟩) (hE : Ents w g o es) :
    Calls Tryz.prog 75 #[.slice a es.length cap] w fun r w' => r = .returned (.bool (treeE es)) ∧ Below w.heap.size w w' := by
  have HT := hidE (treeOf_any w a g o cap es ae hErr hl hz ha hE)
  clear hErr hz ha hE
  go_enter Tryz.func75, Tryz.ntmps75
  go_wp2_with (go_at_call 83; refine HT.out.mono ?_; rintro e w1 ⟨A, rfl, hB1, -⟩)
  go_ret
  exact ⟨rfl, hB1.alloc hB1.size _⟩
end Go.Proofs.YteppodogghjfhaaGreatDoor
