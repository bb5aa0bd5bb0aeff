/-
  What the row's step tells of a list of entries that came in.
-/
import Derived.Deep.Slices
import Derived.Deep.Strs
import Derived.Test.YteedhlljcfojfaaDoorHLawEnts
namespace Go.Proofs.YteedhlljcfojfaaDoor
open Go.RowKit Go.Lib Go.Deep

theorem Tryd.cellsL : Tryd.prog.cellsOf 37 = 3 := by kernel_rfl
theorem Tryd.cells9 : Tryd.prog.cellsOf 9 = 1 := by kernel_rfl
theorem Tryd.cells4 : Tryd.prog.cellsOf 4 = 1 := by kernel_rfl

theorem addr_add (b off k : Nat) : (⟨b, off, none⟩ : Addr).add k = ⟨b, off + k, none⟩ := by
  by_cases h : k = 0
  · subst h; simp [Addr.add]
  · simp [Addr.add, h]

/-- A list of entries lies there. -/
def EntSl (w : World) (a : Option Addr) (len cap : Nat) (es : List E) : Prop := es.length = len ∧ len ≤ cap ∧ len ≤ maxLen ∧ (∀ e ∈ es, e.p.size ≤ maxLen ∧ e.x.size ≤ maxLen) ∧ ∃ g o, (0 < es.length → a = some ⟨g, o, none⟩) ∧ Ents w g o es

set_option maxRecDepth 100000 in
theorem open_ents {H : Type} {enc : TypeId × Value → H} {w : World} {base : Nat} {spare : Nat → Bool} {held : Bool} {fuel : Nat} {a : Option Addr} {len cap : Nat} {x : DataW H × List MemPlace}
    (h : DataW.trod enc Tryd.prog w base spare held fuel 22 [.slice a len cap] = some x) : ∃ es, EntSl w a len cap es := by
  rcases open_slice Tryd.underlying22 h with ⟨h0, _⟩ | ⟨a', len', cap', m, n, D, Pl, h0, _, hl, hm, hmm, _, hx⟩
  · simp only [List.cons.injEq, Value.slice.injEq, and_true] at h0
    obtain ⟨rfl, rfl, rfl⟩ := h0
    exact ⟨[], rfl, Nat.le_refl _, Nat.zero_le _, fun e he => (by cases he), 0, 0, fun h => (by cases h), fun i hi => (by cases hi)⟩
  · simp only [List.cons.injEq, Value.slice.injEq, and_true] at h0
    obtain ⟨rfl, rfl, rfl⟩ := h0
    have hlm : len ≤ m := by rw [hmm]; split <;> omega
    have each : ∀ i, i < len → ∃ e : E, w.cell? (a'.add (i * 3)) = some (.string e.p) ∧ w.cell? (a'.add (i * 3 + 1)) = some (.bool e.d) ∧ w.cell? (a'.add (i * 3 + 2)) = some (.string e.x) ∧ e.p.size ≤ maxLen ∧ e.x.size ≤ maxLen := by
      intro i hi
      obtain ⟨cs', h1, h2⟩ := hx i (by omega)
      rw [Tryd.cellsL] at h1
      obtain ⟨_, hlen, hcell⟩ := World.cells?_some h1
      obtain ⟨y0, y1, y2, n', _, _, g0, g1, g2⟩ := trod_struct3 Tryd.underlying37 h2
      match cs', hlen with
      | [v0, v1, v2], _ =>
        have q0 : DataW.trod enc Tryd.prog w base spare held n' 9 [v0] = some y0 := by simpa [Tryd.cells9] using g0
        have q1 : DataW.trod enc Tryd.prog w base spare held n' 4 [v1] = some y1 := by simpa [Tryd.cells4] using g1
        have q2 : DataW.trod enc Tryd.prog w base spare held n' 9 [v2] = some y2 := by simpa [Tryd.cells9] using g2
        obtain ⟨p, e0, _, z0⟩ := DataW.trod_string Tryd.underlying9 q0
        obtain ⟨d, e1, _⟩ := DataW.trod_bool Tryd.underlying4 q1
        obtain ⟨x', e2, _, z2⟩ := DataW.trod_string Tryd.underlying9 q2
        simp only [List.cons.injEq, and_true] at e0 e1 e2
        subst e0 e1 e2
        have k0 := hcell 0 (by omega)
        have k1 := hcell 1 (by omega)
        have k2 := hcell 2 (by omega)
        rw [add_add] at k0 k1 k2
        exact ⟨⟨p, d, x'⟩, by simpa using k0, by simpa using k1, by simpa using k2, z0, z2⟩
    by_cases h0 : 0 < len
    · obtain ⟨f, hf⟩ := @choose_lt E ⟨⟨ByteArray.empty, false, ByteArray.empty⟩⟩ len _ each
      obtain ⟨b, off, spot⟩ := a'
      have hspot : spot = none := by simpa [Addr.add] using World.cell?_spot (hf 0 h0).1
      subst hspot
      refine ⟨(List.range len).map f, by simp, hl, Nat.le_trans hl hm, fun e he => ?_, b, off, fun _ => rfl, fun i hi => ?_⟩
      · obtain ⟨i, hi, rfl⟩ := List.mem_map.1 he
        exact ⟨(hf i (List.mem_range.1 hi)).2.2.2.1, (hf i (List.mem_range.1 hi)).2.2.2.2⟩
      · simp only [List.length_map, List.length_range] at hi
        obtain ⟨q0, q1, q2, _⟩ := hf i hi
        simp only [List.getElem_map, List.getElem_range]
        rw [addr_add] at q0 q1 q2
        exact ⟨q0, q1, q2⟩
    · obtain rfl : len = 0 := by omega
      exact ⟨[], rfl, hl, Nat.zero_le _, fun e he => (by cases he), 0, 0, fun h => (by cases h), fun i hi => (by cases hi)⟩
end Go.Proofs.YteedhlljcfojfaaDoor
