/-
  The walk of the model's LayerHides.
-/
import Derived.Test.YtlgahgnjifhbhaaHPk08
namespace Go.Proofs.Ytlgahgnjifhbhaa.Mk
open Go.RowKit Go.Lib Go.Sort

set_option maxHeartbeats 1000000 in
set_option maxRecDepth 100000 in
theorem sLayerHides_any (w : World) (a : Option Addr) (g o cap : Nat) (es : List E) (s : ByteArray) (hl : es.length ≤ 16777216) (hcap : es.length ≤ cap) (hs : s.size ≤ 16777216) (hz : ∀ e ∈ es, e.p.size ≤ 16777216 ∧ e.x.size ≤ 16777216) (ha : 0 < es.length → a = some ⟨g, o, none⟩) (hE : Ents w g o es) :
    Calls Try.prog 7 #[.slice a es.length cap, .string s] w fun e w' => e = .returned (.bool (layHides es s)) ∧ Below w.heap.size w w' := by
  have HE := hidE hE
  have HO := hidE (fun (W : World) (hW : Ents W g o es) => sLayerOk_any W a g o cap es hl hcap hz ha hW)
  have HP := hidE (sOk_any s (by omega))
  have HH := hidE (fun (W : World) (hW : Ents W g o es) => l3Hides_any W a g o cap es s hl hs (fun e he => (hz e he).1) ha hW)
  have HD : Hid (layHides es s = (layB es && (pathB s && hidesM es s))) := rfl
  rw [HD.out]
  clear hE HD
  obtain ⟨bo, hbo⟩ : ∃ bo, layB es = bo := ⟨_, rfl⟩
  obtain ⟨bp, hbp⟩ : ∃ bp, pathB s = bp := ⟨_, rfl⟩
  obtain ⟨bh, hbh⟩ : ∃ bh, hidesM es s = bh := ⟨_, rfl⟩
  rw [hbo] at HO ⊢
  rw [hbp] at HP ⊢
  rw [hbh] at HH ⊢
  clear hbo hbp hbh
  go_enter Try.func7, Try.ntmps7
  go_wp2_with fail
  refine (HO.out _ HE.out).mono ?_
  rintro e w1 ⟨rfl, hB⟩
  have HB1 := hidE hB
  have HE1 := hidE (HE.out.below hB)
  clear hB
  cases bo with
  | false =>
    go_wp2
    go_ret
    exact ⟨rfl, HB1.out⟩
  | true =>
    go_wp2_with fail
    refine (HP.out _).mono ?_
    rintro e w2 ⟨rfl, hB⟩
    have HB2 := hidE (tBelow HB1.out hB)
    have HE2 := hidE (HE1.out.below hB)
    clear hB
    cases bp with
    | false =>
      go_wp2
      go_ret
      exact ⟨rfl, HB2.out⟩
    | true =>
      go_wp2_with fail
      refine (HH.out _ HE2.out).mono ?_
      rintro e w3 ⟨rfl, hB⟩
      have HB3 := hidE (tBelow HB2.out hB)
      clear hB
      go_wp2
      go_ret
      exact ⟨rfl, HB3.out⟩
end Go.Proofs.Ytlgahgnjifhbhaa.Mk
