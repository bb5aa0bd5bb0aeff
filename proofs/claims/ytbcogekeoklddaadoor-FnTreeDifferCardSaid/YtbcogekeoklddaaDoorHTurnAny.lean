/-
  The program's own TreeTurned, at every two lists.
-/
import Derived.Test.YtbcogekeoklddaaDoorHTurnI
namespace Go.Proofs.YtbcogekeoklddaaDoor
open Go.RowKit Go.Shelf Go.Lib Go.Maps

attribute [local go_sem] Oper.semAt_some

set_option maxHeartbeats 1000000 in
set_option maxRecDepth 100000 in
theorem iTurned_any (w : World) (a : Option Addr) (g o cap : Nat) (es : List E) (a' : Option Addr) (g' o' cap' : Nat) (fs : List E) (ae : Int → Addr) (hErr : Errs2 w ae) (hl : es.length ≤ 16777216) (hl' : fs.length ≤ 16777216)
    (hz : ∀ e ∈ es, e.p.size ≤ 16777216 ∧ e.x.size ≤ 16777216) (hz' : ∀ e ∈ fs, e.p.size ≤ 16777216 ∧ e.x.size ≤ 16777216) (ha : 0 < es.length → a = some ⟨g, o, none⟩) (ha' : 0 < fs.length → a' = some ⟨g', o', none⟩) (hE : Ents w g o es) (hF : Ents w g' o' fs) :
    Calls Tryd.prog 6 #[.slice a es.length cap, .slice a' fs.length cap'] w fun r w' => ∃ v, r = .returned v ∧ w'.ownsRow w.heap.size 9 1 v (turnedE es fs).length ((turnedE es fs).map Value.string) ∧ Below w.heap.size w w' := by
  cases hb : treeE es && treeE fs with
  | true =>
    have h1 : turnedE es fs = turnE es fs := by unfold turnedE; rw [hb]; rfl
    rw [h1]
    rw [Bool.and_eq_true] at hb
    exact iTurned_ok w a g o cap es a' g' o' cap' fs ae hErr hl hl' hz hz' ha ha' hE hF hb.1 hb.2
  | false =>
    have h1 : turnedE es fs = [] := by unfold turnedE; rw [hb]; rfl
    rw [h1]
    have HT := hidE (treeOf_any w a g o cap es ae hErr hl hz ha hE)
    have HU := hidE (fun (W : World) (hW : Below w.heap.size w W) => treeOf_any W a' g' o' cap' fs ae (hErr.below hW) hl' hz' ha' (hF.below hW))
    obtain ⟨b1, hb1⟩ : ∃ b, treeE es = b := ⟨_, rfl⟩
    obtain ⟨b2, hb2⟩ : ∃ b, treeE fs = b := ⟨_, rfl⟩
    rw [hb1] at HT hb
    rw [hb2] at HU hb
    clear hErr hz hz' ha ha' hE hF hb1 hb2
    cases b1 with
    | false =>
      go_enter Tryd.func6, Tryd.ntmps6
      go_wp2_with fail
      refine HT.out.mono ?_
      rintro e w1 ⟨A, rfl, hB1, -⟩
      have HB1 := hidE (hB1.alloc hB1.size (.cells #[.bool true, .string ⟨#[]⟩, .map (some (A ⟨#[47]⟩))] 53))
      clear hB1
      go_wp2_with fail
      refine (HU.out _ HB1.out).mono ?_
      rintro e w2 ⟨B, rfl, hB2, -⟩
      have hB3 := HB1.out.trans (hB2.mono HB1.out.size)
      have HB3 := hidE (hB3.alloc hB3.size (.cells #[.bool true, .string ⟨#[]⟩, .map (some (B ⟨#[47]⟩))] 53))
      clear hB2 hB3
      go_wp2
      go_ret
      exact ⟨_, rfl, World.ownsRow_nil _ _ _ _, HB3.out⟩
    | true =>
      cases b2 with
      | true => cases hb
      | false =>
        go_enter Tryd.func6, Tryd.ntmps6
        go_wp2_with fail
        refine HT.out.mono ?_
        rintro e w1 ⟨A, rfl, hB1, -⟩
        have HB1 := hidE (hB1.alloc hB1.size (.cells #[.bool true, .string ⟨#[]⟩, .map (some (A ⟨#[47]⟩))] 53))
        clear hB1
        go_wp2_with fail
        refine (HU.out _ HB1.out).mono ?_
        rintro e w2 ⟨B, rfl, hB2, -⟩
        have hB3 := HB1.out.trans (hB2.mono HB1.out.size)
        have HB3 := hidE (hB3.alloc hB3.size (.cells #[.bool true, .string ⟨#[]⟩, .map (some (B ⟨#[47]⟩))] 53))
        clear hB2 hB3
        go_wp2
        go_ret
        exact ⟨_, rfl, World.ownsRow_nil _ _ _ _, HB3.out⟩
end Go.Proofs.YtbcogekeoklddaaDoor
