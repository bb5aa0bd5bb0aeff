import Derived.WalkKit
import Derived.OwnWalk
import Derived.WalkSpells
import Derived.WalkLawsBesides
import Derived.Laws.BitsAllLaws
import Derived.Laws.Pointers
import Derived.Deep.QuietTactic
import Derived.BigQuiet
import Derived.Outline
import Derived.Below
import Derived.Test.YtoaipphccjkphaaDoorProg
namespace Go.Proofs.YtoaipphccjkphaaDoor
open Go.RowKit Go.Lib
theorem hidR {p : Prop} (h : p) : Hid p := h
theorem xor_i64 (a b : Nat) (ha : a < 4611686018427387904) (hb : b < 4611686018427387904) :
  0 ≤ bits .xor .i64 (a : Int) (b : Int) ∧ bits .xor .i64 (a : Int) (b : Int) < 4611686018427387904 := by
 have hx : a ^^^ b < 2 ^ 62 := Nat.xor_lt_two_pow (by omega) (by omega)
 have h1 : (BitVec.ofInt 64 (a : Int)).toNat = a := by
  rw [BitVec.ofInt_natCast, BitVec.toNat_ofNat]; exact Nat.mod_eq_of_lt (by omega)
 have h2 : (BitVec.ofInt 64 (b : Int)).toNat = b := by
  rw [BitVec.ofInt_natCast, BitVec.toNat_ofNat]; exact Nat.mod_eq_of_lt (by omega)
 have e : bits .xor .i64 (a : Int) (b : Int) = ((a ^^^ b : Nat) : Int) := by
  show IntKind.i64.wrap ((BitVec.ofInt 64 (a : Int) ^^^ BitVec.ofInt 64 (b : Int)).toNat : Int) = _
  rw [BitVec.toNat_xor, h1, h2]; simp [IntKind.wrap, IntKind.bits, IntKind.signed]; omega
 rw [e]; omega
theorem xor_int (x y : Int) (hx : 0 ≤ x) (hx' : x < 4611686018427387904) (hy : 0 ≤ y) (hy' : y < 4611686018427387904) : 0 ≤ bits .xor .i64 x y := by
 obtain ⟨a, rfl⟩ := Int.eq_ofNat_of_zero_le hx; obtain ⟨b, rfl⟩ := Int.eq_ofNat_of_zero_le hy; exact (xor_i64 a b (by omega) (by omega)).1
theorem tmod_range {x n : Int} (hx : 0 ≤ x) (hn : 1 ≤ n) : 0 ≤ x.tmod n ∧ x.tmod n < n := by
 rw [Int.tmod_eq_emod_of_nonneg hx]; exact ⟨Int.emod_nonneg _ (by omega), Int.emod_lt_of_pos _ (by omega)⟩
set_option maxHeartbeats 1000000 in
set_option maxRecDepth 100000 in
theorem pick_none (w : World) (r : Nat) (a : Option Addr) (cap p : Nat) (n : Int) (hn : 1 ≤ n) (hp : p ≤ 10000)
  (c0 : w.cell? ⟨r, 0, none⟩ = some (.slice a 0 cap)) (c1 : w.cell? ⟨r, 1, none⟩ = some (.int .i64 p)) (f1 : w.frozen? ⟨r, 1, none⟩ = false) :
  Calls Tryd.prog 43 #[.pointer (some ⟨r, 0, none⟩), .int .i64 n] w fun e w' => ∃ j : Int, e = .returned (.int .i64 j) ∧ 0 ≤ j ∧ j < n ∧ ∃ q, w' = (w.setCell ⟨r, 1, none⟩ (.int .i64 ((p : Int) + 1))).drewN q := by
 go_enter Tryd.func43, Tryd.ntmps43
 go_wp2
 go_ret
 exact ⟨0, rfl, by omega, by omega, 0, rfl⟩
set_option maxHeartbeats 1000000 in
set_option maxRecDepth 100000 in
theorem pick_in (w : World) (r xb xo len cap p : Nat) (n z : Int) (hn : 1 ≤ n) (hn' : n ≤ 100000) (hp : p < len) (hl : len ≤ 2000) (hz : 0 ≤ z) (hz' : z ≤ 255)
  (c0 : w.cell? ⟨r, 0, none⟩ = some (.slice (some ⟨xb, xo, none⟩) len cap)) (c1 : w.cell? ⟨r, 1, none⟩ = some (.int .i64 p)) (f1 : w.frozen? ⟨r, 1, none⟩ = false) (hx : xb ≠ r)
  (cz : w.cell? ⟨xb, xo + p, none⟩ = some (.int .u8 z)) :
  Calls Tryd.prog 43 #[.pointer (some ⟨r, 0, none⟩), .int .i64 n] w fun e w' => ∃ j : Int, e = .returned (.int .i64 j) ∧ 0 ≤ j ∧ j < n ∧ ∃ q, w' = (w.setCell ⟨r, 1, none⟩ (.int .i64 ((p : Int) + 1))).drewN q := by
 have hl0 : ((len : Int) == 0) = false := by rw [beq_eq_false_iff_ne]; omega
 go_enter Tryd.func43, Tryd.ntmps43
 go_wp2
 go_ret
 exact ⟨z % n, rfl, Int.emod_nonneg _ (by omega), Int.emod_lt_of_pos _ (by omega), 0, rfl⟩
set_option maxHeartbeats 2000000 in
set_option maxRecDepth 100000 in
theorem pick_out (w : World) (r xb xo len cap p : Nat) (n z z2 : Int) (hn : 1 ≤ n) (hn' : n ≤ 100000) (hp : len ≤ p) (hp' : p ≤ 10000) (hl : 1 ≤ len) (hl' : len ≤ 2000) (hz : 0 ≤ z) (hz' : z ≤ 255) (hy : 0 ≤ z2) (hy' : z2 ≤ 255)
  (c0 : w.cell? ⟨r, 0, none⟩ = some (.slice (some ⟨xb, xo, none⟩) len cap)) (c1 : w.cell? ⟨r, 1, none⟩ = some (.int .i64 p)) (f1 : w.frozen? ⟨r, 1, none⟩ = false) (hx : xb ≠ r)
  (cz : w.cell? ⟨xb, xo + p % len, none⟩ = some (.int .u8 z)) (cz2 : w.cell? ⟨xb, xo + (p * 7 + 3) % len, none⟩ = some (.int .u8 z2)) :
  Calls Tryd.prog 43 #[.pointer (some ⟨r, 0, none⟩), .int .i64 n] w fun e w' => ∃ j : Int, e = .returned (.int .i64 j) ∧ 0 ≤ j ∧ j < n ∧ ∃ q, w' = (w.setCell ⟨r, 1, none⟩ (.int .i64 ((p : Int) + 1))).drewN q := by
 have hl0 : ((len : Int) == 0) = false := by rw [beq_eq_false_iff_ne]; omega
 have m1 : 0 ≤ (p : Int) % (len : Int) := Int.emod_nonneg _ (by omega); have m2 : (p : Int) % (len : Int) < (len : Int) := Int.emod_lt_of_pos _ (by omega); have m3 : 0 ≤ ((p : Int) * 7 + 3) % (len : Int) := Int.emod_nonneg _ (by omega); have m4 : ((p : Int) * 7 + 3) % (len : Int) < (len : Int) := Int.emod_lt_of_pos _ (by omega); have m5 : 0 ≤ (p : Int) / (len : Int) := Int.ediv_nonneg (by omega) (by omega); have m6 : (p : Int) / (len : Int) ≤ 10000 := Int.le_trans (Int.ediv_le_self _ (by omega)) (by omega); go_enter Tryd.func43, Tryd.ntmps43
 go_wp2
 go_quiet (fail)
 go_wp2
 go_ret
 have hq : 0 ≤ z * 131 + z2 * 1117 + (p : Int) * 29 + (p : Int) / (len : Int) * 53 := by omega
 have hq' : z * 131 + z2 * 1117 + (p : Int) * 29 + (p : Int) / (len : Int) * 53 < 4611686018427387904 := by omega
 have hb := xor_int _ ((z * 131 + z2 * 1117 + (p : Int) * 29 + (p : Int) / (len : Int) * 53) / 64) hq hq' (by omega) (by omega); exact ⟨_, rfl, (tmod_range hb hn).1, (tmod_range hb hn).2, _, rfl⟩
/-! ### The reader, and what a pick leaves -/
def Rd (w : World) (r p : Nat) : Prop := ∃ (a : Option Addr) (xb xo len cap : Nat), w.cell? ⟨r, 0, none⟩ = some (.slice a len cap) ∧ w.cell? ⟨r, 1, none⟩ = some (.int .i64 p) ∧ w.frozen? ⟨r, 1, none⟩ = false ∧
 len ≤ 2000 ∧ (0 < len → a = some ⟨xb, xo, none⟩ ∧ xb < r) ∧ ∀ i, i < len → ∃ z : Int, w.cell? ⟨xb, xo + i, none⟩ = some (.int .u8 z) ∧ 0 ≤ z ∧ z ≤ 255
def Kept (r : Nat) (w w' : World) : Prop := w'.os = w.os ∧ w'.tape = w.tape ∧ w'.output = w.output ∧ w.heap.size ≤ w'.heap.size ∧ ∀ b, b < w.heap.size → b ≠ r → w'.heap[b]? = w.heap[b]?
theorem cell_ltR {W : World} {b o : Nat} {v : Value} (h : W.cell? ⟨b, o, none⟩ = some v) : b < W.heap.size := World.block_lt_of_cell? W ⟨b, o, none⟩ h
theorem Kept.refl (r : Nat) (w : World) : Kept r w w := ⟨rfl, rfl, rfl, Nat.le_refl _, fun _ _ _ => rfl⟩
theorem Kept.trans {r : Nat} {a b c : World} (h : Kept r a b) (k : Kept r b c) : Kept r a c :=
 ⟨k.1.trans h.1, k.2.1.trans h.2.1, k.2.2.1.trans h.2.2.1, Nat.le_trans h.2.2.2.1 k.2.2.2.1, fun x hx hr => (k.2.2.2.2 x (Nat.lt_of_lt_of_le hx h.2.2.2.1) hr).trans (h.2.2.2.2 x hx hr)⟩
theorem Kept.of_below {r : Nat} {w w' : World} (h : Below w.heap.size w w') : Kept r w w' := ⟨h.os, h.tape, h.output, h.size, fun b hb _ => h.block b hb⟩
theorem Kept.below {r : Nat} {w w' : World} (h : Kept r w w') {B : Nat} (hB : B ≤ r) (hr : r ≤ w.heap.size) : Below B w w' :=
 ⟨h.1, h.2.1, h.2.2.1, h.2.2.2.1, fun k hk => h.2.2.2.2 k (by omega) (by omega)⟩
theorem Kept.cell {r : Nat} {w w' : World} (h : Kept r w w') {b o : Nat} {v : Value} (hb : b ≠ r) (hc : w.cell? ⟨b, o, none⟩ = some v) : w'.cell? ⟨b, o, none⟩ = some v :=
 (World.cell?_of_block (h.2.2.2.2 b (cell_ltR hc) hb)).trans hc
theorem Kept.set {r : Nat} (w : World) (o : Nat) (v : Value) (q : Nat) : Kept r w ((w.setCell ⟨r, o, none⟩ v).drewN q) :=
 ⟨rfl, rfl, rfl, by show w.heap.size ≤ (w.heap.modify _ _).size; rw [Array.size_modify]; exact Nat.le_refl _, fun b _ hr => Below.heap_setCell w ⟨r, o, none⟩ v b hr⟩
theorem Rd.lt {w : World} {r p : Nat} (h : Rd w r p) : r < w.heap.size := by
 obtain ⟨_, _, _, _, _, c0, _⟩ := h; exact cell_ltR c0
theorem Rd.below {w w' : World} {r p : Nat} (h : Rd w r p) (hb : Below w.heap.size w w') : Rd w' r p := by
 have hr := h.lt; obtain ⟨a, xb, xo, len, cap, c0, c1, f1, hl, ha, hz⟩ := h; refine ⟨a, xb, xo, len, cap, (hb.cell (p := ⟨r, 0, none⟩) hr).trans c0, (hb.cell (p := ⟨r, 1, none⟩) hr).trans c1, (hb.frozen (p := ⟨r, 1, none⟩) hr).trans f1, hl, ha, fun i hi => ?_⟩; obtain ⟨z, cz, z0, z1⟩ := hz i hi; exact ⟨z, (hb.cell (p := ⟨xb, xo + i, none⟩) (cell_ltR cz)).trans cz, z0, z1⟩
theorem Rd.step {w : World} {r p : Nat} (h : Rd w r p) (q : Nat) : Rd ((w.setCell ⟨r, 1, none⟩ (.int .i64 ((p : Int) + 1))).drewN q) r (p + 1) := by
 obtain ⟨a, xb, xo, len, cap, c0, c1, f1, hl, ha, hz⟩ := h; have e0 : (w.setCell ⟨r, 1, none⟩ (.int .i64 ((p : Int) + 1))).cell? ⟨r, 0, none⟩ = w.cell? ⟨r, 0, none⟩ := World.cell?_setCell_other _ _ _ _ (by simp); refine ⟨a, xb, xo, len, cap, e0.trans c0, (World.cell?_setCell_same' _ _ _ (by rw [c1]; rfl)).trans (by simp), by rw [World.frozen?_drewN, World.frozen?_setCell]; exact f1, hl, ha, fun i hi => ?_⟩; obtain ⟨z, cz, z0, z1⟩ := hz i hi; have hx := (ha (by omega)).2; exact ⟨z, (Kept.set (r := r) w 1 _ q).cell (by omega) cz, z0, z1⟩
theorem pick_any (w : World) (r p : Nat) (n : Int) (hn : 1 ≤ n) (hn' : n ≤ 100000) (hp : p ≤ 10000) (h : Rd w r p) :
  Calls Tryd.prog 43 #[.pointer (some ⟨r, 0, none⟩), .int .i64 n] w fun e w' => ∃ j : Int, e = .returned (.int .i64 j) ∧ 0 ≤ j ∧ j < n ∧ Rd w' r (p + 1) ∧ Kept r w w' := by
 have h' := h; obtain ⟨a, xb, xo, len, cap, c0, c1, f1, hl, ha, hz⟩ := h
 have fin : ∀ (e : Ending) (w' : World), (∃ j : Int, e = .returned (.int .i64 j) ∧ 0 ≤ j ∧ j < n ∧ ∃ q, w' = (w.setCell ⟨r, 1, none⟩ (.int .i64 ((p : Int) + 1))).drewN q) →
   ∃ j : Int, e = .returned (.int .i64 j) ∧ 0 ≤ j ∧ j < n ∧ Rd w' r (p + 1) ∧ Kept r w w' := by
  rintro e w' ⟨j, he, h0, h1, q, rfl⟩; exact ⟨j, he, h0, h1, h'.step q, Kept.set w 1 _ q⟩
 by_cases h0 : len = 0
 ·
  subst h0; exact (pick_none w r a cap p n hn hp c0 c1 f1).mono fin
 ·
  obtain ⟨rfl, hx⟩ := ha (by omega); by_cases hpl : p < len
  ·
   obtain ⟨z, cz, z0, z1⟩ := hz p hpl; exact (pick_in w r xb xo len cap p n z hn hn' hpl hl z0 z1 c0 c1 f1 (by omega) cz).mono fin
  ·
   obtain ⟨z, cz, z0, z1⟩ := hz (p % len) (Nat.mod_lt _ (by omega)); obtain ⟨y, cy, y0, y1⟩ := hz ((p * 7 + 3) % len) (Nat.mod_lt _ (by omega)); exact (pick_out w r xb xo len cap p n z y hn hn' (by omega) hp (by omega) hl z0 z1 y0 y1 c0 c1 f1 (by omega) cz cy).mono fin
end Go.Proofs.YtoaipphccjkphaaDoor
