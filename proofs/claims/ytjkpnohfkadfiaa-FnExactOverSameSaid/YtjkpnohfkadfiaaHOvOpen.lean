/-
  What the row's step tells of a tree on layers that came in.
-/
import Derived.Deep.Slices
import Derived.Deep.Strs
import Derived.Test.YtjkpnohfkadfiaaHOvOver
namespace Go.Proofs.Ytjkpnohfkadfiaa.Ov
open Go.RowKit Go.Lib Go.Deep

theorem Try.cellsS : Try.prog.cellsOf 24 = 1 := by kernel_rfl

/-- A list of layers lies there. -/
def LSl (w : World) (a : Option Addr) (len cap : Nat) (ls : List (List Mk.E)) : Prop := ls.length = len ∧ len ≤ cap ∧ len ≤ maxLen ∧ (∀ l ∈ ls, l.length ≤ maxLen ∧ ∀ e ∈ l, e.p.size ≤ maxLen ∧ e.x.size ≤ maxLen) ∧ ∃ g o, (0 < ls.length → a = some ⟨g, o, none⟩) ∧ LL w g o ls

set_option maxRecDepth 100000 in
theorem open_SS {H : Type} {enc : TypeId × Value → H} {w : World} {base : Nat} {spare : Nat → Bool} {held : Bool} {fuel : Nat} {a : Option Addr} {len cap : Nat} {x : DataW H × List MemPlace}
    (h : DataW.trod enc Try.prog w base spare held fuel 23 [.slice a len cap] = some x) : ∃ ls, LSl w a len cap ls := by
  rcases open_slice Try.underlying23 h with ⟨h0, _⟩ | ⟨a', len', cap', m, n, D, Pl, h0, _, hl, hm, hmm, _, hx⟩
  · simp only [List.cons.injEq, Value.slice.injEq, and_true] at h0
    obtain ⟨rfl, rfl, rfl⟩ := h0
    exact ⟨[], rfl, Nat.le_refl _, Nat.zero_le _, fun e he => (by cases he), 0, 0, fun h => (by cases h), fun i hi => (by cases hi)⟩
  · simp only [List.cons.injEq, Value.slice.injEq, and_true] at h0
    obtain ⟨rfl, rfl, rfl⟩ := h0
    have hlm : len ≤ m := by rw [hmm]; split <;> omega
    have each : ∀ i, i < len → ∃ y : List Mk.E × Option Addr × Nat, w.cell? (a'.add i) = some (.slice y.2.1 y.1.length y.2.2) ∧ Mk.EntSl w y.2.1 y.1.length y.2.2 y.1 := by
      intro i hi
      obtain ⟨cs', h1, h2⟩ := hx i (by omega)
      rw [Try.cellsS] at h1
      obtain ⟨_, hlen, hcell⟩ := World.cells?_some h1
      have k0 := hcell 0 (by omega)
      rw [add_add] at k0
      have hsl : ∃ a2 len2 cap2, cs' = [.slice a2 len2 cap2] := by
        rcases open_slice Try.underlying24 h2 with ⟨e0, _⟩ | ⟨b', l', c', _, _, _, _, e0, _⟩
        · exact ⟨_, _, _, e0⟩
        · exact ⟨_, _, _, e0⟩
      obtain ⟨a2, len2, cap2, rfl⟩ := hsl
      obtain ⟨es, hes⟩ := Mk.open_ents h2
      obtain rfl : es.length = len2 := hes.1
      exact ⟨(es, a2, cap2), by simpa using k0, hes⟩
    by_cases h0 : 0 < len
    · obtain ⟨f, hf⟩ := @choose_lt (List Mk.E × Option Addr × Nat) ⟨([], none, 0)⟩ len _ each
      obtain ⟨b, off, spot⟩ := a'
      have hspot : spot = none := by simpa [Addr.add] using World.cell?_spot (hf 0 h0).1
      subst hspot
      refine ⟨(List.range len).map (fun i => (f i).1), by simp, hl, Nat.le_trans hl hm, fun l hl => ?_, b, off, fun _ => rfl, fun i hi => ?_⟩
      · obtain ⟨i, hi, rfl⟩ := List.mem_map.1 hl
        obtain ⟨_, _, e3, e4, _⟩ := (hf i (List.mem_range.1 hi)).2
        exact ⟨e3, e4⟩
      · simp only [List.length_map, List.length_range] at hi
        obtain ⟨q0, _, e2, _, _, g, o, e5, e6⟩ := hf i hi
        simp only [List.getElem_map, List.getElem_range]
        rw [Mk.addr_add] at q0
        exact ⟨_, g, o, _, q0, e5, e6, e2⟩
    · obtain rfl : len = 0 := by omega
      exact ⟨[], rfl, hl, Nat.zero_le _, fun e he => (by cases he), 0, 0, fun h => (by cases h), fun i hi => (by cases hi)⟩
theorem isSlice {H : Type} {enc : TypeId × Value → H} {w : World} {base : Nat} {spare : Nat → Bool} {held : Bool} {fuel : Nat} {t e : TypeId} {u : Value} {x : DataW H × List MemPlace} (ht : Try.prog.underlying t = some (.slice e))
    (h : DataW.trod enc Try.prog w base spare held fuel t [u] = some x) : ∃ a len cap, u = .slice a len cap := by
  rcases open_slice ht h with ⟨e0, _⟩ | ⟨b', l', c', _, _, _, _, e0, _⟩
  · exact ⟨_, _, _, by simpa using e0⟩
  · exact ⟨_, _, _, by simpa using e0⟩
theorem open_over {H : Type} {enc : TypeId × Value → H} {w : World} {base : Nat} {spare : Nat → Bool} {held : Bool} {n : Nat} {u0 u1 u2 : Value} {y0 y1 y2 : DataW H × List MemPlace}
    (o0 : DataW.trod enc Try.prog w base spare held n 22 [u0] = some y0) (o1 : DataW.trod enc Try.prog w base spare held n 23 [u1] = some y1) (o2 : DataW.trod enc Try.prog w base spare held n 24 [u2] = some y2) :
    ∃ x, Arg w (.agg #[u0, u1, u2]) x ∧ Sz maxLen x := by
  obtain ⟨a0, l0, c0, rfl⟩ := isSlice Try.underlying22 o0
  obtain ⟨a1, l1, c1, rfl⟩ := isSlice Try.underlying23 o1
  obtain ⟨a2, l2, c2, rfl⟩ := isSlice Try.underlying24 o2
  obtain ⟨es, rfl, _, b2, b3, g0, q0, b4, b5⟩ := open_ents o0
  obtain ⟨ls, rfl, _, d2, d3, g1, q1, d4, d5⟩ := open_SS o1
  obtain ⟨ms, rfl, _, f2, f3, g2, q2, f4, f5⟩ := Mk.open_ents o2
  exact ⟨⟨es, ls, ms⟩, ⟨⟨a0, g0, q0, c0, a1, g1, q1, c1, a2, g2, q2, c2, rfl, b4, d4, f4, b5, d5, f5⟩⟩, ⟨b2, b3, d2, d3, f2, f3⟩⟩
end Go.Proofs.Ytjkpnohfkadfiaa.Ov
