/-
  The walks of the program's own LayerOk and LayerHides.
-/
import Derived.Test.YtkjpmngohocmlaaGreatDoorHPk15
import Derived.Test.YtkjpmngohocmlaaGreatDoorHPk10
namespace Go.Proofs.YtkjpmngohocmlaaGreatDoor.Mk
open Go.RowKit Go.Shelf Go.Lib

attribute [local go_sem] Oper.semAt_some

theorem layB_tr {es : List E} (h : layB es = true) : TrM es := by
  unfold layB at h
  rw [Bool.and_eq_true] at h
  have := tr_take es.length (Nat.le_refl _) h.1
  rwa [List.take_length] at this

set_option maxHeartbeats 1000000 in
theorem iLayerOk_any (w : World) (a : Option Addr) (g o cap : Nat) (es : List E) (hl : es.length ≤ 16777216) (hz : ∀ e ∈ es, e.p.size ≤ 16777216 ∧ e.x.size ≤ 16777216) (ha : 0 < es.length → a = some ⟨g, o, none⟩) (hE : Ents w g o es) :
    Calls Tryz.prog 13 #[.slice a es.length cap] w fun r w' => r = .returned (.bool (layB es)) ∧ Below w.heap.size w w' := by
  have HL := hidE (layerOf_any w a g o cap es hl hz ha hE)
  clear hE hz
  go_enter Tryz.func13, Tryz.ntmps13
  go_wp2_with (first | (go_at_call 32; refine HL.out.mono ?_; rintro e w1 ⟨A, rfl, hB1, -⟩) | fail)
  go_ret
  exact ⟨rfl, belowA hB1 _⟩

set_option maxHeartbeats 1000000 in
theorem iLayerHides_any (w : World) (a : Option Addr) (g o cap : Nat) (es : List E) (s : ByteArray) (hl : es.length ≤ 16777216) (hs : s.size ≤ 16777216) (hz : ∀ e ∈ es, e.p.size ≤ 16777216 ∧ e.x.size ≤ 16777216) (ha : 0 < es.length → a = some ⟨g, o, none⟩) (hE : Ents w g o es) :
    Calls Tryz.prog 16 #[.slice a es.length cap, .string s] w fun r w' => r = .returned (.bool (layHides es s)) ∧ Below w.heap.size w w' := by
  have HL := hidE (layerOf_any w a g o cap es hl hz ha hE)
  have HD : Hid (layHides es s = (layB es && (pathB s && hidesM es s))) := rfl
  clear hE hz
  cases hlay : layB es with
  | false =>
    rw [hlay] at HL
    rw [HD.out, hlay]
    go_enter Tryz.func16, Tryz.ntmps16
    go_wp2_with (first | (go_at_call 32; refine HL.out.mono ?_; rintro e w1 ⟨A, rfl, hB1, -⟩) | fail)
    go_ret
    exact ⟨rfl, belowA hB1 _⟩
  | true =>
    have T := layB_tr hlay
    rw [hlay] at HL
    rw [HD.out, hlay, Bool.true_and, ← hides_is T s]
    have HH := hidE (fun (W : World) (A : ByteArray → Nat) (b N : Nat) (hW : Rep W b N es A) => hides_any b N es A T W hW s hs)
    go_enter Tryz.func16, Tryz.ntmps16
    go_wp2_with (first | (go_at_call 32; refine HL.out.mono ?_; rintro e w1 ⟨A, rfl, hB1, hR1⟩; have hR2 := hR1 rfl; clear hR1) | (go_at_call 47; refine (HH.out _ _ _ _ (hR2.below (belowA (Below.refl _ w1) _))).mono ?_; rintro e w2 ⟨rfl, hB2⟩) | fail)
    go_ret
    exact ⟨rfl, belowT (belowA hB1 _) hB2⟩
end Go.Proofs.YtkjpmngohocmlaaGreatDoor.Mk
