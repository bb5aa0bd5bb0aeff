/-
  Lists of entries as rows; the walk of the model's l8Right.
-/
import Derived.Test.YtenlibefdefjmaaDoorHPk00
import Derived.Test.YtenlibefdefjmaaDoorHGet
import Derived.Test.YtenlibefdefjmaaDoorHPk07
namespace Go.Proofs.YtenlibefdefjmaaDoor.Mg
open Go.RowKit Go.Lib

/-- A list of entries that lies in a world. -/
def Row (w : World) (v : Value) (es : List E) : Prop := ∃ a g o cap, v = .slice a es.length cap ∧ es.length ≤ 16777216 ∧ es.length ≤ cap ∧ (∀ e ∈ es, e.p.size ≤ 16777216 ∧ e.x.size ≤ 16777216) ∧ (0 < es.length → a = some ⟨g, o, none⟩) ∧ Ents w g o es
theorem Row.below {w w' : World} {v : Value} {es : List E} (h : Row w v es) (hb : Below w.heap.size w w') : Row w' v es := by
  obtain ⟨a, g, o, cap, rfl, h1, h2, h3, h4, h5⟩ := h
  exact ⟨a, g, o, cap, rfl, h1, h2, h3, h4, h5.below hb⟩
theorem Row.sOk {w : World} {v : Value} {es : List E} (h : Row w v es) : Calls Tryd.prog 17 #[v] w fun r w' => r = .returned (.bool (treeE es)) ∧ Below w.heap.size w w' := by
  obtain ⟨a, g, o, cap, rfl, h1, h2, h3, h4, h5⟩ := h
  exact sTreeOk_any w a g o cap es h1 h2 h3 h4 h5
theorem Row.sGet {w : World} {v : Value} {es : List E} (h : Row w v es) (s : ByteArray) : Calls Tryd.prog 18 #[v, .string s] w fun r w' => r = .returned (.tuple #[encE (getE es s).1, .bool (getE es s).2]) ∧ Below w.heap.size w w' := by
  obtain ⟨a, g, o, cap, rfl, h1, h2, h3, h4, h5⟩ := h
  exact l2Get_any w a g o cap es s h1 h4 h5

set_option maxHeartbeats 1000000 in
set_option maxRecDepth 100000 in
theorem sl8Right_any (w : World) (v1 v2 v3 : Value) (t a b : List E) (h1 : Row w v1 t) (h2 : Row w v2 a) (h3 : Row w v3 b) :
    Calls Tryd.prog 11 #[v1, v2, v3] w fun r w' => r = .returned (.bool (trees3 t a b)) ∧ Below w.heap.size w w' := by
  have K1 := hidE h1.sOk
  have K2 := hidE (fun (W : World) (h : Below w.heap.size w W) => (h2.below h).sOk)
  have K3 := hidE (fun (W : World) (h : Below w.heap.size w W) => (h3.below h).sOk)
  clear h1 h2 h3
  unfold trees3
  obtain ⟨x, hx⟩ : ∃ x, treeE t = x := ⟨_, rfl⟩
  obtain ⟨y, hy⟩ : ∃ y, treeE a = y := ⟨_, rfl⟩
  obtain ⟨z, hz⟩ : ∃ z, treeE b = z := ⟨_, rfl⟩
  rw [hx] at K1 ⊢
  rw [hy] at K2 ⊢
  rw [hz] at K3 ⊢
  clear hx hy hz
  cases x with
  | false =>
    go_enter Tryd.func11, Tryd.ntmps11
    go_wp2_with fail
    refine K1.out.mono ?_
    rintro e w1 ⟨rfl, hB1⟩
    have HB1 := hidE hB1
    clear hB1
    go_wp2
    go_ret
    exact ⟨rfl, HB1.out⟩
  | true =>
    cases y with
    | false =>
      go_enter Tryd.func11, Tryd.ntmps11
      go_wp2_with fail
      refine K1.out.mono ?_
      rintro e w1 ⟨rfl, hB1⟩
      have HB1 := hidE hB1
      clear hB1
      go_wp2_with fail
      refine (K2.out _ HB1.out).mono ?_
      rintro e w2 ⟨rfl, hB2⟩
      have HB2 := hidE (HB1.out.trans (hB2.mono HB1.out.size))
      clear hB2
      go_wp2
      go_ret
      exact ⟨rfl, HB2.out⟩
    | true =>
      go_enter Tryd.func11, Tryd.ntmps11
      go_wp2_with fail
      refine K1.out.mono ?_
      rintro e w1 ⟨rfl, hB1⟩
      have HB1 := hidE hB1
      clear hB1
      go_wp2_with fail
      refine (K2.out _ HB1.out).mono ?_
      rintro e w2 ⟨rfl, hB2⟩
      have HB2 := hidE (HB1.out.trans (hB2.mono HB1.out.size))
      clear hB2
      go_wp2_with fail
      refine (K3.out _ HB2.out).mono ?_
      rintro e w3 ⟨rfl, hB3⟩
      have HB3 := hidE (HB2.out.trans (hB3.mono HB2.out.size))
      clear hB3
      go_wp2
      go_ret
      exact ⟨rfl, HB3.out⟩

theorem box3c {w W : World} {p q r : Value} {T : TypeId} (h : Below (w.alloc (.cells #[p, q, r] T)).heap.size (w.alloc (.cells #[p, q, r] T)) W) :
    (W.cell? ⟨w.heap.size, 0, none⟩ = some p ∧ W.cell? ⟨w.heap.size, 1, none⟩ = some q ∧ W.cell? ⟨w.heap.size, 2, none⟩ = some r) ∧
    (W.frozen? ⟨w.heap.size, 0, none⟩ = false ∧ W.frozen? ⟨w.heap.size, 1, none⟩ = false ∧ W.frozen? ⟨w.heap.size, 2, none⟩ = false) := by
  have lt : w.heap.size < (w.alloc (.cells #[p, q, r] T)).heap.size := by simp
  have hb := box3one w T p q r
  exact ⟨⟨(h.cell (p := ⟨w.heap.size, 0, none⟩) lt).trans (hb 0 p rfl).1, (h.cell (p := ⟨w.heap.size, 1, none⟩) lt).trans (hb 1 q rfl).1, (h.cell (p := ⟨w.heap.size, 2, none⟩) lt).trans (hb 2 r rfl).1⟩,
    (h.frozen (p := ⟨w.heap.size, 0, none⟩) lt).trans (hb 0 p rfl).2, (h.frozen (p := ⟨w.heap.size, 1, none⟩) lt).trans (hb 1 q rfl).2, (h.frozen (p := ⟨w.heap.size, 2, none⟩) lt).trans (hb 2 r rfl).2⟩
theorem B3G {a b c : World} (h : Below a.heap.size a b) (k : Below b.heap.size b c) : Below a.heap.size a c := h.trans (k.mono h.size)

end Go.Proofs.YtenlibefdefjmaaDoor.Mg
