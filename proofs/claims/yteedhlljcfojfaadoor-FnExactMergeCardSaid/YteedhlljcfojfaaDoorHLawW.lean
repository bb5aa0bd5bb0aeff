/-
  Lists that lie in windows of their own, for the laws: what a mark of one leaves of the others.
-/
import Derived.Test.YteedhlljcfojfaaDoorHLawR
import Derived.Test.YteedhlljcfojfaaDoorHLawRows
import Derived.Test.YteedhlljcfojfaaDoorHLawRowsE
import Derived.Test.YteedhlljcfojfaaDoorHLawMarks
import Derived.Test.YteedhlljcfojfaaDoorHLawHeld
namespace Go.Proofs.YteedhlljcfojfaaDoor
open Go.RowKit Go.Lib

theorem EntSl.below {w w' : World} {a : Option Addr} {len cap : Nat} {es : List E} (h : EntSl w a len cap es) (hb : Below w.heap.size w w') : EntSl w' a len cap es := by
  obtain ⟨h0, h1, h2, h3, g, o, h4, h5⟩ := h
  exact ⟨h0, h1, h2, h3, g, o, h4, h5.below hb⟩
/-- What is turned lies in the window from lo to hi, or is new. -/
structure Keep (lo hi : Nat) (w w' : World) : Prop where
  os : w'.os = w.os
  tape : w'.tape = w.tape
  output : w'.output = w.output
  size : w.heap.size ≤ w'.heap.size
  block : ∀ b, b < w.heap.size → b < lo ∨ hi ≤ b → w'.heap[b]? = w.heap[b]?
theorem Keep.of_below {w w' : World} (lo hi : Nat) (h : Below w.heap.size w w') : Keep lo hi w w' := ⟨h.os, h.tape, h.output, h.size, fun b hb _ => h.block b hb⟩
theorem Keep.of_but {w w' : World} {lo hi r : Nat} (h : But r w w') (h1 : lo ≤ r) (h2 : r < hi) : Keep lo hi w w' := ⟨h.1, h.2.1, h.2.2.1, h.2.2.2.1, fun b hb hw => h.2.2.2.2 b hb (by omega)⟩
theorem Keep.below {w w' W : World} {lo hi n : Nat} (h : Below n W w) (k : Keep lo hi w w') (hn : n ≤ lo) (hs : n ≤ W.heap.size) : Below n W w' := by
  have h0 := h.size
  exact ⟨k.os.trans h.os, k.tape.trans h.tape, k.output.trans h.output, Nat.le_trans h.size k.size, fun b hb => (k.block b (by omega) (.inl (by omega))).trans (h.block b hb)⟩
/-- The cells of a block that is kept. -/
theorem Keep.cell {w w' : World} {lo hi g : Nat} (k : Keep lo hi w w') (hg : g < w.heap.size) (hw : g < lo ∨ hi ≤ g) (i : Nat) : w'.cell? ⟨g, i, none⟩ = w.cell? ⟨g, i, none⟩ ∧ w'.frozen? ⟨g, i, none⟩ = w.frozen? ⟨g, i, none⟩ := by
  have h := k.block g hg hw
  constructor
  · unfold World.cell?; rw [h]
  · unfold World.frozen?; rw [h]

/-- Entries in a window. -/
def EB (lo hi : Nat) (w : World) (v : Value) (es : List E) : Prop := ∃ a g cap, v = .slice a es.length cap ∧ es.length ≤ 1048576 ∧ es.length ≤ cap ∧ (∀ e ∈ es, e.p.size ≤ 16777216 ∧ e.x.size ≤ 16777216) ∧
  (0 < es.length → a = some ⟨g, 0, none⟩ ∧ lo ≤ g ∧ g < hi) ∧ Ents w g 0 es ∧ Room w g (es.length * 3)
theorem EB.below {lo hi : Nat} {w w' : World} {v : Value} {es : List E} (h : EB lo hi w v es) (hb : Below w.heap.size w w') : EB lo hi w' v es := by
  obtain ⟨a, g, cap, rfl, h1, h2, h3, h4, h5, h6⟩ := h
  exact ⟨a, g, cap, rfl, h1, h2, h3, h4, h5.below hb, h6.below hb⟩
theorem EB.keep {lo hi lo' hi' : Nat} {w w' : World} {v : Value} {es : List E} (h : EB lo hi w v es) (k : Keep lo' hi' w w') (hd : hi ≤ lo' ∨ hi' ≤ lo) : EB lo hi w' v es := by
  obtain ⟨a, g, cap, rfl, h1, h2, h3, h4, h5, h6⟩ := h
  refine ⟨a, g, cap, rfl, h1, h2, h3, h4, fun i hi => ?_, fun i hi => ?_⟩
  · have hg := h4 (by omega)
    have hl : g < w.heap.size := World.block_lt_of_cell? w ⟨g, 0 + i * 3, none⟩ (h5 i hi).1
    have hc := fun j => (k.cell hl (by omega) j).1
    rw [hc, hc, hc]; exact h5 i hi
  · have hg := h4 (by omega)
    obtain ⟨⟨u, hu⟩, hf⟩ := h6 i hi
    have hl : g < w.heap.size := World.block_lt_of_cell? w ⟨g, i, none⟩ hu
    have hc := k.cell hl (by omega) i
    exact ⟨⟨u, hc.1.trans hu⟩, hc.2.trans hf⟩
theorem EB.rowZ {lo hi : Nat} {w : World} {v : Value} {es : List E} (h : EB lo hi w v es) : RowZ w v es := by
  obtain ⟨a, g, cap, rfl, h1, h2, h3, h4, h5, h6⟩ := h
  exact ⟨a, g, 0, cap, rfl, h1, h2, h3, fun h => (h4 h).1, h5⟩
theorem RowZ.toB {w : World} {v : Value} {es : List E} (h : RowZ w v es) : Calls Tryd.prog 7 #[v] w fun e w' => ∃ v', e = .returned v' ∧ EB w.heap.size w'.heap.size w' v' es ∧ Below w.heap.size w w' := by
  obtain ⟨a, g, o, cap, rfl, h1, h2, h3, h4, h5⟩ := h
  refine (toEntS_any w a g o cap es h1 h4 h5).mono ?_
  rintro e w1 ⟨rfl, hX, hR, hB⟩
  exact ⟨_, rfl, ⟨_, w.heap.size, _, rfl, h1, Nat.le_refl _, h3, fun h => ⟨rfl, Nat.le_refl _, World.block_lt_of_cell? w1 ⟨w.heap.size, 0 + 0 * 3, none⟩ (hX 0 h).1⟩, hX, hR⟩, hB⟩
theorem EB.of_own {w : World} {base : Nat} {v : Value} {es : List E} (h : OwnE w base v es) (hl : es.length ≤ 1048576) (hs : ∀ e ∈ es, e.p.size ≤ 16777216 ∧ e.x.size ≤ 16777216) : EB base w.heap.size w v es := by
  obtain ⟨a, g, cap, e, ha, hE, hR, hb⟩ := row_entsE h
  obtain ⟨a', g', cap', e', -, -, hc⟩ := h.ents
  rw [e] at e'
  injection e' with _ _ e3
  exact ⟨a, g, cap, e, hl, by omega, hs, fun h => ⟨ha h, hb, World.block_lt_of_cell? w ⟨g, 0 + 0 * 3, none⟩ (hE 0 h).1⟩, hE, hR⟩
/-- Entries in a window that hold marks. -/
def EM (lo hi : Nat) (w : World) (v : Value) (n k : Nat) : Prop := ∃ a g cap, v = .slice a n cap ∧ n ≤ 1048576 ∧ (0 < n → a = some ⟨g, 0, none⟩ ∧ lo ≤ g ∧ g < hi) ∧ Ents w g 0 (markEs n k)
theorem EM.below {lo hi : Nat} {w w' : World} {v : Value} {n k : Nat} (h : EM lo hi w v n k) (hb : Below w.heap.size w w') : EM lo hi w' v n k := by
  obtain ⟨a, g, cap, rfl, h1, h4, h5⟩ := h
  exact ⟨a, g, cap, rfl, h1, h4, h5.below hb⟩
theorem EB.mark {lo hi : Nat} {w : World} {v : Value} {es : List E} (h : EB lo hi w v es) (k : Nat) (hk : 0 < k) (hk' : k ≤ 8388608) :
    Calls Tryd.prog 11 #[v, .int .i64 k] w fun r w' => r = .returned (.int .i64 ((k + es.length * 3 : Nat) : Int)) ∧ EM lo hi w' v es.length k ∧ Keep lo hi w w' := by
  obtain ⟨a, g, cap, rfl, h1, h2, h3, h4, h5, h6⟩ := h
  by_cases h0 : 0 < es.length
  · obtain ⟨ha, g1, g2⟩ := h4 h0
    refine (markEntS_any w a g cap es.length k h1 hk hk' (fun _ => ha) h6 (fun _ => World.block_lt_of_cell? w ⟨g, 0 + 0 * 3, none⟩ (h5 0 h0).1)).mono ?_
    rintro e w1 ⟨rfl, hE, -, hb⟩
    exact ⟨rfl, ⟨a, g, cap, rfl, h1, fun _ => ⟨ha, g1, g2⟩, hE⟩, Keep.of_but hb g1 g2⟩
  · refine (markEntS_any w a w.heap.size cap es.length k h1 hk hk' (fun h => absurd h h0) (fun i hi => by omega) (fun h => absurd h h0)).mono ?_
    rintro e w1 ⟨rfl, hE, -, hb⟩
    exact ⟨rfl, ⟨a, _, cap, rfl, h1, fun h => absurd h h0, hE⟩, ⟨hb.1, hb.2.1, hb.2.2.1, hb.2.2.2.1, fun b hb' _ => hb.2.2.2.2 b hb' (by omega)⟩⟩
theorem EM.held {lo hi : Nat} {w : World} {v : Value} {n k : Nat} (h : EM lo hi w v n k) (hk : 0 < k) (hk' : k ≤ 1048576) :
    Calls Tryd.prog 16 #[v, .int .i64 k] w fun r w' => r = .returned (.int .i64 ((k + n * 3 : Nat) : Int)) ∧ Below w.heap.size w w' := by
  obtain ⟨a, g, cap, rfl, h1, h4, h5⟩ := h
  exact heldEntS_any w a g cap n k h1 hk hk' (fun h => (h4 h).1) h5
/-- Texts in a window. -/
def SB (lo hi : Nat) (w : World) (v : Value) (ss : List ByteArray) : Prop := ∃ a g cap, v = .slice a ss.length cap ∧ ss.length ≤ 1048576 ∧ (0 < ss.length → a = some ⟨g, 0, none⟩ ∧ lo ≤ g ∧ g < hi) ∧ Strs w g 0 ss ∧ Room w g ss.length
theorem SB.below {lo hi : Nat} {w w' : World} {v : Value} {ss : List ByteArray} (h : SB lo hi w v ss) (hb : Below w.heap.size w w') : SB lo hi w' v ss := by
  obtain ⟨a, g, cap, rfl, h1, h4, h5, h6⟩ := h
  exact ⟨a, g, cap, rfl, h1, h4, h5.below hb, h6.below hb⟩
theorem SB.keep {lo hi lo' hi' : Nat} {w w' : World} {v : Value} {ss : List ByteArray} (h : SB lo hi w v ss) (k : Keep lo' hi' w w') (hd : hi ≤ lo' ∨ hi' ≤ lo) : SB lo hi w' v ss := by
  obtain ⟨a, g, cap, rfl, h1, h4, h5, h6⟩ := h
  refine ⟨a, g, cap, rfl, h1, h4, fun i hi => ?_, fun i hi => ?_⟩
  · have hg := h4 (by omega)
    have hl : g < w.heap.size := World.block_lt_of_cell? w ⟨g, 0 + i, none⟩ (h5 i hi)
    rw [(k.cell hl (by omega) _).1]; exact h5 i hi
  · have hg := h4 (by omega)
    obtain ⟨⟨u, hu⟩, hf⟩ := h6 i hi
    have hl : g < w.heap.size := World.block_lt_of_cell? w ⟨g, i, none⟩ hu
    have hc := k.cell hl (by omega) i
    exact ⟨⟨u, hc.1.trans hu⟩, hc.2.trans hf⟩
theorem SB.of_own {w : World} {base : Nat} {v : Value} {ss : List ByteArray} (h : w.ownsRow base 9 1 v ss.length (ss.map Value.string)) (hl : ss.length ≤ 1048576) : SB base w.heap.size w v ss := by
  obtain ⟨a, g, cap, e, ha, hE, hR, hb⟩ := row_strs h
  exact ⟨a, g, cap, e, hl, fun h => ⟨ha h, hb, World.block_lt_of_cell? w ⟨g, 0 + 0, none⟩ (hE 0 h)⟩, hE, hR⟩
theorem SB.eq {lo hi lo' hi' : Nat} {w : World} {v v' : Value} {ss : List ByteArray} (h : SB lo hi w v ss) (h' : SB lo' hi' w v' ss) : Calls Tryd.prog 9 #[v, v'] w fun e w' => e = .returned (.bool true) ∧ Below w.heap.size w w' := by
  obtain ⟨a, g, cap, rfl, h1, h4, h5, h6⟩ := h
  obtain ⟨a', g', cap', rfl, k1, k4, k5, k6⟩ := h'
  refine (eqStringS_any w a a' g 0 cap g' 0 cap' ss ss (by omega) (by omega) (fun h => (h4 h).1) (fun h => (k4 h).1) h5 k5).mono ?_
  rintro e w1 ⟨rfl, hB⟩
  exact ⟨by rw [sameSS_refl], hB⟩
theorem EB.eq {lo hi lo' hi' : Nat} {w : World} {v v' : Value} {es : List E} (h : EB lo hi w v es) (h' : EB lo' hi' w v' es) : Calls Tryd.prog 10 #[v, v'] w fun e w' => e = .returned (.bool true) ∧ Below w.heap.size w w' := h.rowZ.eq h'.rowZ
/-- Texts in a window that hold marks. -/
def SM (lo hi : Nat) (w : World) (v : Value) (n k : Nat) : Prop := ∃ a g cap, v = .slice a n cap ∧ n ≤ 1048576 ∧ (0 < n → a = some ⟨g, 0, none⟩ ∧ lo ≤ g ∧ g < hi) ∧ Strs w g 0 (markSs n k)
theorem SM.below {lo hi : Nat} {w w' : World} {v : Value} {n k : Nat} (h : SM lo hi w v n k) (hb : Below w.heap.size w w') : SM lo hi w' v n k := by
  obtain ⟨a, g, cap, rfl, h1, h4, h5⟩ := h
  exact ⟨a, g, cap, rfl, h1, h4, h5.below hb⟩
theorem SB.mark {lo hi : Nat} {w : World} {v : Value} {ss : List ByteArray} (h : SB lo hi w v ss) (k : Nat) (hk : 0 < k) (hk' : k ≤ 1048576) :
    Calls Tryd.prog 12 #[v, .int .i64 k] w fun r w' => r = .returned (.int .i64 ((k + ss.length : Nat) : Int)) ∧ SM lo hi w' v ss.length k ∧ Keep lo hi w w' := by
  obtain ⟨a, g, cap, rfl, h1, h4, h5, h6⟩ := h
  by_cases h0 : 0 < ss.length
  · obtain ⟨ha, g1, g2⟩ := h4 h0
    refine (markStringS_any w a g cap ss.length k h1 hk hk' (fun _ => ha) h6).mono ?_
    rintro e w1 ⟨rfl, hE, -, hb⟩
    exact ⟨rfl, ⟨a, g, cap, rfl, h1, fun _ => ⟨ha, g1, g2⟩, hE⟩, Keep.of_but hb g1 g2⟩
  · refine (markStringS_any w a w.heap.size cap ss.length k h1 hk hk' (fun h => absurd h h0) (fun i hi => by omega)).mono ?_
    rintro e w1 ⟨rfl, hE, -, hb⟩
    exact ⟨rfl, ⟨a, _, cap, rfl, h1, fun h => absurd h h0, hE⟩, ⟨hb.1, hb.2.1, hb.2.2.1, hb.2.2.2.1, fun b hb' _ => hb.2.2.2.2 b hb' (by omega)⟩⟩
theorem SM.held {lo hi : Nat} {w : World} {v : Value} {n k : Nat} (h : SM lo hi w v n k) (hk : 0 < k) (hk' : k ≤ 1048576) :
    Calls Tryd.prog 13 #[v, .int .i64 k] w fun r w' => r = .returned (.int .i64 ((k + n : Nat) : Int)) ∧ Below w.heap.size w w' := by
  obtain ⟨a, g, cap, rfl, h1, h4, h5⟩ := h
  exact heldStringS_any w a g cap n k h1 hk hk' (fun h => (h4 h).1) h5
/-- Entries that lie below n. -/
def AB (n : Nat) (w : World) (v : Value) (es : List E) : Prop := ∃ a g o cap, v = .slice a es.length cap ∧ es.length ≤ 1048576 ∧ es.length ≤ cap ∧ (∀ e ∈ es, e.p.size ≤ 16777216 ∧ e.x.size ≤ 16777216) ∧ (0 < es.length → a = some ⟨g, o, none⟩ ∧ g < n) ∧ Ents w g o es
theorem RowZ.ab {w : World} {v : Value} {es : List E} (h : RowZ w v es) : AB w.heap.size w v es := by
  obtain ⟨a, g, o, cap, rfl, h1, h2, h3, h4, h5⟩ := h
  exact ⟨a, g, o, cap, rfl, h1, h2, h3, fun h => ⟨h4 h, World.block_lt_of_cell? w ⟨g, o + 0 * 3, none⟩ (h5 0 h).1⟩, h5⟩
theorem AB.rowZ {n : Nat} {w : World} {v : Value} {es : List E} (h : AB n w v es) : RowZ w v es := by
  obtain ⟨a, g, o, cap, rfl, h1, h2, h3, h4, h5⟩ := h
  exact ⟨a, g, o, cap, rfl, h1, h2, h3, fun h => (h4 h).1, h5⟩
theorem AB.below {n : Nat} {w w' : World} {v : Value} {es : List E} (h : AB n w v es) (hb : Below w.heap.size w w') : AB n w' v es := by
  obtain ⟨a, g, o, cap, rfl, h1, h2, h3, h4, h5⟩ := h
  exact ⟨a, g, o, cap, rfl, h1, h2, h3, h4, h5.below hb⟩
theorem AB.keep {n lo hi : Nat} {w w' : World} {v : Value} {es : List E} (h : AB n w v es) (k : Keep lo hi w w') (hd : n ≤ lo) : AB n w' v es := by
  obtain ⟨a, g, o, cap, rfl, h1, h2, h3, h4, h5⟩ := h
  refine ⟨a, g, o, cap, rfl, h1, h2, h3, h4, fun i hi => ?_⟩
  have hg := h4 (by omega)
  have hl : g < w.heap.size := World.block_lt_of_cell? w ⟨g, o + i * 3, none⟩ (h5 i hi).1
  have hc := fun j => (k.cell hl (by omega) j).1
  rw [hc, hc, hc]; exact h5 i hi
end Go.Proofs.YteedhlljcfojfaaDoor
