/-
  Lists of entries as rows, for the exact laws.
-/
import Derived.Test.YteedhlljcfojfaaDoorHLawTop
import Derived.Test.YteedhlljcfojfaaDoorHPk13
namespace Go.Proofs.YteedhlljcfojfaaDoor
open Go.RowKit Go.Lib

/-- A list of entries that lies in a world and is small enough for the laws. -/
def RowZ (w : World) (v : Value) (es : List E) : Prop := ∃ a g o cap, v = .slice a es.length cap ∧ es.length ≤ 1048576 ∧ es.length ≤ cap ∧ (∀ e ∈ es, e.p.size ≤ 16777216 ∧ e.x.size ≤ 16777216) ∧ (0 < es.length → a = some ⟨g, o, none⟩) ∧ Ents w g o es
theorem RowZ.below {w w' : World} {v : Value} {es : List E} (h : RowZ w v es) (hb : Below w.heap.size w w') : RowZ w' v es := by
  obtain ⟨a, g, o, cap, rfl, h1, h2, h3, h4, h5⟩ := h
  exact ⟨a, g, o, cap, rfl, h1, h2, h3, h4, h5.below hb⟩
theorem RowZ.row {w : World} {v : Value} {es : List E} (h : RowZ w v es) : Mg.Row w v es := by
  obtain ⟨a, g, o, cap, rfl, h1, h2, h3, h4, h5⟩ := h
  exact ⟨a, g, o, cap, rfl, by omega, h2, h3, h4, h5⟩
theorem EntSl.szR {w : World} {a : Option Addr} {len cap : Nat} {es : List E} (h : EntSl w a len cap es) (left : Int) (h0 : 0 ≤ left) (hl : left ≤ 1048576) :
    Calls Tryd.prog 5 #[.slice a len cap, .int .i64 left] w fun e w' => ∃ r : Int, e = .returned (.int .i64 r) ∧ r ≤ left ∧ -1 ≤ r ∧ (0 ≤ r → RowZ w' (.slice a len cap) es) ∧ Below w.heap.size w w' := by
  obtain ⟨rfl, hcap, hm, hz, g, o, ha, hE⟩ := h
  refine (szEntS_any w a g o cap es left h0 hl hm hz ha hE).mono ?_
  rintro e w1 ⟨r, rfl, r1, r2, r3, hB⟩
  exact ⟨r, rfl, r1, r2, fun h => ⟨a, g, o, cap, rfl, by have := (r3 h).1; omega, hcap, fun e he => by have := (r3 h).2 e he; omega, ha, hE.below hB⟩, hB⟩
theorem RowZ.to {w : World} {v : Value} {es : List E} (h : RowZ w v es) : Calls Tryd.prog 7 #[v] w fun e w' => ∃ v', e = .returned v' ∧ RowZ w' v' es ∧ Below w.heap.size w w' := by
  obtain ⟨a, g, o, cap, rfl, h1, h2, h3, h4, h5⟩ := h
  refine (toEntS_any w a g o cap es h1 h4 h5).mono ?_
  rintro e w1 ⟨rfl, hX, _, hB⟩
  exact ⟨_, rfl, ⟨_, w.heap.size, 0, _, rfl, h1, Nat.le_refl _, h3, fun _ => rfl, hX⟩, hB⟩
theorem RowZ.eq {w : World} {v v' : Value} {es : List E} (h : RowZ w v es) (h' : RowZ w v' es) : Calls Tryd.prog 10 #[v, v'] w fun e w' => e = .returned (.bool true) ∧ Below w.heap.size w w' := by
  obtain ⟨a, g, o, cap, rfl, h1, h2, h3, h4, h5⟩ := h
  obtain ⟨a', g', o', cap', rfl, k1, k2, k3, k4, k5⟩ := h'
  refine (eqEntS_any w a a' g o cap g' o' cap' es es (by omega) (by omega) h4 k4 h5 k5).mono ?_
  rintro e w1 ⟨rfl, hB⟩
  exact ⟨by rw [sameES_self], hB⟩
theorem sameE_selfR (e : E) : sameE e e = true := (sameE_iff e e).2 rfl
theorem eqEnt_self (w : World) (x : E) : Calls Tryd.prog 24 #[.agg #[.string x.p, .bool x.d, .string x.x], .agg #[.string x.p, .bool x.d, .string x.x]] w fun e w' => e = .returned (.bool true) ∧ Below w.heap.size w w' := by
  refine (eqEnt_any w x x).mono ?_
  rintro e w1 ⟨rfl, hB⟩
  exact ⟨by rw [sameE_selfR], hB⟩
end Go.Proofs.YteedhlljcfojfaaDoor
