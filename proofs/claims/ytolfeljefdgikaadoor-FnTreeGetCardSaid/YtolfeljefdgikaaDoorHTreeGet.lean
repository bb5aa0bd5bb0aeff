/-
  The walk of the model's TreeGet.
-/
import Derived.Test.YtolfeljefdgikaaDoorHPk05
namespace Go.Proofs.YtolfeljefdgikaaDoor
open Go.RowKit Go.Lib

set_option maxHeartbeats 400000 in
theorem sTreeGet_any (w : World) (a : Option Addr) (g o cap : Nat) (es : List E) (s : ByteArray) (hl : es.length ≤ 16777216) (hcap : es.length ≤ cap) (hz : ∀ e ∈ es, e.p.size ≤ 16777216 ∧ e.x.size ≤ 16777216) (ha : 0 < es.length → a = some ⟨g, o, none⟩) (hE : Ents w g o es) :
    Calls Tryd.prog 6 #[.slice a es.length cap, .string s] w fun r w' => r = .returned (.tuple #[encE (tgetE es s).1, .bool (tgetE es s).2]) ∧ Below w.heap.size w w' := by
  have hb : Below w.heap.size w (w.alloc (.cells #[.string ⟨#[]⟩, .bool false, .string ⟨#[]⟩] 27)) := (Below.refl _ w).alloc (Nat.le_refl _) _
  have HE := hidE (hE.below hb)
  have HB := hidE hb
  have HZ := hidE hz
  clear hE hb hz
  cases ht : treeE es with
  | false =>
    have e : tgetE es s = (noneE, false) := by unfold tgetE; rw [ht]; rfl
    rw [e]
    go_enter Tryd.func6, Tryd.ntmps6
    go_wp2_with fail
    refine (sTreeOk_any _ a g o cap es hl hcap HZ.out ha HE.out).mono ?_
    rintro e w1 ⟨rfl, hB1⟩
    have hz1 := hB1.size
    obtain ⟨hc, hf⟩ := bcellE hB1
    have HB1 := hidE (HB.out.trans (hB1.mono (by simp)))
    simp only [World.size_alloc] at hc hf hz1
    clear hB1 HB
    go_wp2
    exact bodyPost_ret (v := .tuple #[encE noneE, .bool false]) (by simp [results, Tryd.results6, go_sem, noneE, hc]) rfl ⟨rfl, ((HB1.out.setCell (p := ⟨w.heap.size, _, none⟩) (Nat.le_refl _) _).setCell (p := ⟨w.heap.size, _, none⟩) (Nat.le_refl _) _).setCell (p := ⟨w.heap.size, _, none⟩) (Nat.le_refl _) _⟩
  | true =>
    have e : tgetE es s = getE es s := by unfold tgetE; rw [ht]; rfl
    rw [e]
    obtain ⟨⟨p, d, x⟩, b, hg⟩ : ∃ e b, getE es s = (e, b) := ⟨_, _, rfl⟩
    rw [hg]
    go_enter Tryd.func6, Tryd.ntmps6
    go_wp2_with fail
    refine (sTreeOk_any _ a g o cap es hl hcap HZ.out ha HE.out).mono ?_
    rintro e w1 ⟨rfl, hB1⟩
    have HE1 := hidE (HE.out.below hB1)
    have HG := hidE (l2Get_any w1 a g o cap es s hl ha HE1.out)
    rw [hg] at HG
    go_wp2_with fail
    refine HG.out.mono ?_
    rintro e w2 ⟨rfl, hB2⟩
    have hB3 := hB1.trans (hB2.mono hB1.size)
    have hz1 := hB3.size
    obtain ⟨hc, hf⟩ := bcellE hB3
    have HB1 := hidE (HB.out.trans (hB3.mono (by simp)))
    simp only [World.size_alloc] at hc hf hz1
    clear hB1 hB2 hB3 HB HG HE1
    go_wp2
    exact bodyPost_ret (v := .tuple #[encE ⟨p, d, x⟩, .bool b]) (by simp [results, Tryd.results6, go_sem, hc]) rfl ⟨rfl, ((HB1.out.setCell (p := ⟨w.heap.size, _, none⟩) (Nat.le_refl _) _).setCell (p := ⟨w.heap.size, _, none⟩) (Nat.le_refl _) _).setCell (p := ⟨w.heap.size, _, none⟩) (Nat.le_refl _) _⟩
end Go.Proofs.YtolfeljefdgikaaDoor
