import Derived.WalkKit
import Derived.OwnWalk
import Derived.WalkSpells
import Derived.WalkLawsBesides
import Derived.Laws.Pointers
import Derived.Deep.QuietTactic
import Derived.BigQuiet
import Derived.Outline
import Derived.Below
import Derived.Lib.QuietBelow
import Derived.Test.YteppodogghjfhaaGreatDoorProg
import Derived.Test.YteppodogghjfhaaGreatDoorHPk09
import Derived.Laws.MakeOwn
import Derived.Laws.ResultCell
import Derived.Maps.AppendAt
import Derived.Test.YteppodogghjfhaaGreatDoorHPk00
import Derived.Laws.StructEq
import Derived.Laws.Small
import Derived.KernelRfl
import Derived.Laws.Tables
import Derived.Lib.FrozenHead

namespace Go.Proofs.YteppodogghjfhaaGreatDoor.Mk
open Go.RowKit Go.Lib Go.Sort
set_option maxHeartbeats 400000 in
theorem szEnt_any (w : World) (p x : ByteArray) (d : Int) (left : Int) (hl : 0 ≤ left) (hl' : left ≤ 1048576) (hp : p.size ≤ maxLen) (hx : x.size ≤ maxLen) :
  Calls Tryz.prog 65 #[.agg #[.string p, .int .i64 d, .string x], .int .i64 left] w fun e w' => ∃ r : Int, e = .returned (.int .i64 r) ∧ r ≤ left ∧ -1 ≤ r ∧ (0 ≤ r → (p.size : Int) ≤ left ∧ (x.size : Int) ≤ left) ∧ Below w.heap.size w w' := by
 unfold maxLen at hp hx; have hB : ∀ t, Below w.heap.size w (w.alloc (.cells #[.string p, .int .i64 d, .string x] t)) := fun t => (Below.refl _ w).alloc (Nat.le_refl _) _; have HB := hidE hB; clear hB; by_cases h1 : (p.size : Int) ≤ left
 ·
  by_cases h2 : (p.size : Int) + (x.size : Int) ≤ left
  ·
   go_enter Tryz.func65, Tryz.ntmps65
   go_wp2
   go_ret
   exact ⟨_, rfl, by omega, by omega, fun _ => ⟨by omega, by omega⟩, HB.out _⟩
  ·
   go_enter Tryz.func65, Tryz.ntmps65
   go_wp2
   go_ret
   exact ⟨_, rfl, by omega, by omega, fun h => by omega, HB.out _⟩
 ·
  go_enter Tryz.func65, Tryz.ntmps65
  go_wp2
  go_ret
  exact ⟨_, rfl, by omega, by omega, fun h => by omega, HB.out _⟩
set_option maxHeartbeats 400000 in
theorem toEnt_any (w : World) (p x : ByteArray) (d : Int) :
  Calls Tryz.prog 74 #[.agg #[.string p, .int .i64 d, .string x]] w fun e w' => e = .returned (.agg #[.string p, .int .i64 d, .string x]) ∧ Below w.heap.size w w' := by
 have hB : ∀ t t' t'', Below w.heap.size w (((w.alloc (.cells #[.string p, .int .i64 d, .string x] t)).alloc (.cells #[.string p, .int .i64 d, .string x] t')).alloc (.cells #[.string p, .int .i64 d, .string x] t'')) := fun _ _ _ => (((Below.refl _ w).alloc (Nat.le_refl _) _).alloc (by simp) _).alloc (by simp; omega) _; have HB := hidE hB; clear hB; go_enter Tryz.func74, Tryz.ntmps74
 go_wp2
 exact bodyPost_ret (v := .agg #[.string p, .int .i64 d, .string x]) (by simp [results, Tryz.results74, go_sem]) rfl ⟨rfl, HB.out _ _ _⟩
theorem Tryz.infoE : (Tryz.prog.info? 99).map (fun i => (i.zero, i.size, i.bytes)) = some (some (.agg #[.string ByteArray.empty, .int .i64 0, .string ByteArray.empty]), 3, 40) := by kernel_rfl
def Room (w : World) (g n : Nat) : Prop := ∀ i, i < n → (∃ v, w.cell? ⟨g, i, none⟩ = some v) ∧ w.frozen? ⟨g, i, none⟩ = false
theorem Room.below {w w' : World} {g n : Nat} (h : Room w g n) (hb : Below w.heap.size w w') : Room w' g n := fun i hi => by
 obtain ⟨⟨v, hv⟩, hf⟩ := h i hi; have lt : g < w.heap.size := World.block_lt_of_cell? w ⟨g, i, none⟩ hv; exact ⟨⟨v, (hb.cell (p := ⟨g, i, none⟩) lt).trans hv⟩, (hb.frozen (p := ⟨g, i, none⟩) lt).trans hf⟩
theorem Room.set {w : World} {g n : Nat} (h : Room w g n) (b j : Nat) (v : Value) : Room (w.setCell ⟨b, j, none⟩ v) g n := fun i hi => by
 obtain ⟨⟨u, hu⟩, hf⟩ := h i hi; obtain ⟨u', hu'⟩ := cell?_setCell_some (w := w) (p := ⟨b, j, none⟩) (x := v) (q := ⟨g, i, none⟩) (v := u) hu; exact ⟨⟨u', hu'⟩, by rw [World.frozen?_setCell]; exact hf⟩
theorem cell_ne (w : World) (g i j : Nat) (v : Value) (h : i ≠ j) : (w.setCell ⟨g, i, none⟩ v).cell? ⟨g, j, none⟩ = w.cell? ⟨g, j, none⟩ := World.cell?_setCell_other _ _ _ _ (fun q => by have e := congrArg Addr.off q; dsimp only at e; omega)
theorem cell_eq {w : World} {g i : Nat} {u : Value} (v : Value) (h : w.cell? ⟨g, i, none⟩ = some u) : (w.setCell ⟨g, i, none⟩ v).cell? ⟨g, i, none⟩ = some v := World.cell?_setCell_same' _ _ _ (by rw [h]; rfl)
theorem Ents.put {w : World} {g k : Nat} {es : List E} (hk : k < es.length) (h : Ents w g 0 (es.take k)) {v0 v1 v2 : Value} (e0 : w.cell? ⟨g, k * 3, none⟩ = some v0) (e1 : w.cell? ⟨g, k * 3 + 1, none⟩ = some v1) (e2 : w.cell? ⟨g, k * 3 + 2, none⟩ = some v2) :
  Ents (((w.setCell ⟨g, k * 3, none⟩ (.string es[k].p)).setCell ⟨g, k * 3 + 1, none⟩ (.int .i64 es[k].d)).setCell ⟨g, k * 3 + 2, none⟩ (.string es[k].x)) g 0 (es.take (k + 1)) := by
 intro i hi; rw [List.length_take] at hi; rw [List.getElem_take]; by_cases e : i = k
 ·
  subst e; refine ⟨?_, ?_, ?_⟩
  ·
   rw [Nat.zero_add, cell_ne _ _ _ _ _ (by omega), cell_ne _ _ _ _ _ (by omega)]; exact cell_eq _ e0
  ·
   rw [Nat.zero_add, cell_ne _ _ _ _ _ (by omega)]; exact cell_eq _ ((cell_ne _ _ _ _ _ (by omega)).trans e1)
  ·
   rw [Nat.zero_add]; exact cell_eq _ ((cell_ne _ _ _ _ _ (by omega)).trans ((cell_ne _ _ _ _ _ (by omega)).trans e2))
 ·
  have hlt : i < k := by omega
  obtain ⟨q0, q1, q2⟩ := h i (by rw [List.length_take]; omega); rw [List.getElem_take] at q0 q1 q2; rw [Nat.zero_add] at *; refine ⟨?_, ?_, ?_⟩
  ·
   rw [cell_ne _ _ _ _ _ (by omega), cell_ne _ _ _ _ _ (by omega), cell_ne _ _ _ _ _ (by omega)]; exact q0
  ·
   rw [cell_ne _ _ _ _ _ (by omega), cell_ne _ _ _ _ _ (by omega), cell_ne _ _ _ _ _ (by omega)]; exact q1
  ·
   rw [cell_ne _ _ _ _ _ (by omega), cell_ne _ _ _ _ _ (by omega), cell_ne _ _ _ _ _ (by omega)]; exact q2
set_option maxHeartbeats 800000 in
set_option maxRecDepth 100000 in
theorem toEntS_any (w : World) (a : Option Addr) (g o cap : Nat) (es : List E) (hn : es.length ≤ 1048576) (ha : 0 < es.length → a = some ⟨g, o, none⟩) (hE : Ents w g o es) :
  Calls Tryz.prog 41 #[.slice a es.length cap] w fun e w' => e = .returned (.slice (some ⟨w.heap.size, 0, none⟩) es.length es.length) ∧ Ents w' w.heap.size 0 es ∧ Room w' w.heap.size (es.length * 3) ∧ Below w.heap.size w w' := by
 have HE := hidE hE; clear hE; obtain ⟨i0, hi, hz0, hz1, hz2⟩ := info_parts Tryz.infoE; obtain ⟨M, hM⟩ : ∃ M, M = madeCells (Value.agg #[.string ByteArray.empty, .int .i64 0, .string ByteArray.empty]).cells (((es.length : Nat) : Int).toNat * i0.size) := ⟨_, rfl⟩
 have hMs : M.size = es.length * 3 := by rw [hM, size_madeCells, hz1]; simp
 have hmk : ∀ W : World, (Instr.makeSlice 31 (.int .i64 (es.length : Int)) (.int .i64 (es.length : Int))).run Tryz.prog W = .ok (.slice (some ⟨W.heap.size, 0, none⟩) es.length es.length) (W.alloc (.cells M 99)) := fun W => by
  have h := run_make (P := Tryz.prog) W 31 99 i0 (.agg #[.string ByteArray.empty, .int .i64 0, .string ByteArray.empty]) Tryz.underlying31 hi hz0 .i64 .i64 (es.length : Int) (es.length : Int) (by omega) (by omega) (by rw [hz2]; omega) (by omega); rw [← hM] at h
  simpa using h
 have HR : Hid (Room (w.alloc (.cells M 99)) w.heap.size (es.length * 3)) := fun i hi => ⟨⟨M[i]'(by omega), by rw [World.cell?_alloc_new, Array.getElem?_eq_getElem (by omega)]⟩, by simp⟩; clear hM hi hz0 hz1 hz2; have HB0 := hidE ((Below.refl w.heap.size w).alloc (Nat.le_refl _) (.cells M 99)); go_enter Tryz.func41, Tryz.ntmps41
 go_wp2
 go_loopw [4] (fun iv wl => ∃ k : Nat, k ≤ es.length ∧ iv = .int .i64 k ∧ Hid (Below w.heap.size w wl) ∧ Hid (Room wl w.heap.size (es.length * 3)) ∧ Hid (Ents wl w.heap.size 0 (es.take k))) (fun iv _ => es.length - (RowKit.intOf iv).toNat)
 case atStart => exact ⟨0, Nat.zero_le _, rfl, HB0, HR, fun i hi => by simp at hi⟩
 case round =>
  clear HB0 HR hmk; obtain ⟨k, hk, rfl, HB, HR, HT⟩ := hrel; by_cases hlt : k < es.length
  ·
   obtain rfl := ha (by omega); obtain ⟨c0, c1, c2⟩ := (HE.out.below HB.out) k hlt; go_wp2_with fail
   refine (toEnt_any _ _ _ _).mono ?_; rintro e w2 ⟨rfl, hB2⟩; have HB2 := hidE (HB.out.trans (hB2.mono HB.out.size)); have HR2 := hidE (HR.out.below hB2); have HT2 := hidE (HT.out.below hB2); clear hB2 HB HR HT c0 c1 c2; obtain ⟨⟨v0, e0⟩, f0⟩ := HR2.out (k * 3) (by omega); obtain ⟨⟨v1, e1⟩, f1⟩ := HR2.out (k * 3 + 1) (by omega); obtain ⟨⟨v2, e2⟩, f2⟩ := HR2.out (k * 3 + 2) (by omega); go_wp2
   go_roundw
   case rel => exact ⟨k + 1, by omega, by go_num, ((HB2.out.setCell (p := ⟨w.heap.size, _, none⟩) (Nat.le_refl _) _).setCell (p := ⟨w.heap.size, _, none⟩) (Nat.le_refl _) _).setCell (p := ⟨w.heap.size, _, none⟩) (Nat.le_refl _) _, ((HR2.out.set _ _ _).set _ _ _).set _ _ _, HT2.out.put hlt e0 e1 e2⟩
   case measure => simp [RowKit.intOf]; omega
  ·
   go_wp2
   go_ret
   have := HT.out; rw [List.take_of_length_le (by omega)] at this; exact ⟨rfl, this, HR.out, HB.out⟩
def sameE (e f : E) : Bool := (e.p.toList == f.p.toList) && ((e.d == f.d) && (e.x.toList == f.x.toList))
def sameES (es fs : List E) : Bool := decide (es.length = fs.length) && (List.range es.length).all (fun i => match es[i]?, fs[i]? with | some e, some f => sameE e f | _, _ => true)
theorem sameE_iff (e f : E) : sameE e f = true ↔ e = f := by
 unfold sameE; rw [Bool.and_eq_true, Bool.and_eq_true, beq_iff_eq, beq_iff_eq, beq_iff_eq]
 constructor
 ·
  rintro ⟨h1, h2, h3⟩; cases e; cases f; simp only [E.mk.injEq]; exact ⟨toList_inj h1, h2, toList_inj h3⟩
 ·
  rintro rfl; exact ⟨rfl, rfl, rfl⟩
set_option maxHeartbeats 400000 in
theorem eqEnt_any (w : World) (e f : E) :
  Calls Tryz.prog 79 #[encE e, encE f] w fun r w' => r = .returned (.bool (sameE e f)) ∧ Below w.heap.size w w' := by
 obtain ⟨p, d, x⟩ := e; obtain ⟨p', d', x'⟩ := f; have hB : ∀ t t', Below w.heap.size w ((w.alloc (.cells #[.string p, .int .i64 d, .string x] t)).alloc (.cells #[.string p', .int .i64 d', .string x'] t')) := fun _ _ => ((Below.refl _ w).alloc (Nat.le_refl _) _).alloc (by simp) _; have HB := hidE hB; clear hB; cases h1 : (p.toList == p'.toList) with
 | false =>
  have n1 : ¬ p.toList = p'.toList := fun q => by rw [q, beq_self_eq_true] at h1; cases h1
  go_enter Tryz.func79, Tryz.ntmps79
  go_wp2
  go_ret
  exact ⟨ret_bE (by unfold sameE; rw [h1]; rfl), HB.out _ _⟩
 | true =>
  have n1 : p.toList = p'.toList := beq_iff_eq.1 h1; cases h2 : (d == d') with
  | false =>
   go_enter Tryz.func79, Tryz.ntmps79
   go_wp2
   go_ret
   exact ⟨ret_bE (by unfold sameE; rw [h1, h2]; rfl), HB.out _ _⟩
  | true =>
   obtain rfl : d = d' := beq_iff_eq.1 h2; cases h3 : (x.toList == x'.toList) with
   | false =>
    have n3 : ¬ x.toList = x'.toList := fun q => by rw [q, beq_self_eq_true] at h3; cases h3
    go_enter Tryz.func79, Tryz.ntmps79
    go_wp2
    go_ret
    exact ⟨ret_bE (by unfold sameE; rw [h1, h2, h3]; rfl), HB.out _ _⟩
   | true =>
    have n3 : x.toList = x'.toList := beq_iff_eq.1 h3; go_enter Tryz.func79, Tryz.ntmps79
    go_wp2
    go_ret
    exact ⟨ret_bE (by unfold sameE; rw [h1, h2, h3]; rfl), HB.out _ _⟩
theorem cEq (W0 : World) (e f : E) (b : Bool) (h : sameE e f = b) : ∀ d os, Calls Tryz.prog 79 #[encE e, encE f] (grow (redrawn W0 d) os) fun r w'' => r = .returned (.bool b) ∧ ∃ p : Regrown, w'' = grow (redrawn W0 p.d) p.os :=
 fun _ _ => Calls.regrown_of (by rw [← h]; exact eqEnt_any _ e f)
theorem sameES_no {es fs : List E} {i : Nat} (hl : es.length = fs.length) (h : i < es.length) (hb : sameE es[i] (fs[i]'(by omega)) = false) : false = sameES es fs := by
 unfold sameES
 have : (List.range es.length).all (fun i => match es[i]?, fs[i]? with | some e, some f => sameE e f | _, _ => true) = false := by
  rw [List.all_eq_false]; refine ⟨i, List.mem_range.2 h, ?_⟩; rw [List.getElem?_eq_getElem h, List.getElem?_eq_getElem (by omega)]; simp [hb]
 rw [this, Bool.and_false]
set_option maxHeartbeats 800000 in
set_option maxRecDepth 100000 in
theorem eqEntS_any (w : World) (a a' : Option Addr) (g o cap g' o' cap' : Nat) (es fs : List E) (hn : es.length ≤ 16777216) (_hn' : fs.length ≤ 16777216) (ha : 0 < es.length → a = some ⟨g, o, none⟩) (ha' : 0 < fs.length → a' = some ⟨g', o', none⟩) (hE : Ents w g o es) (hE' : Ents w g' o' fs) :
  Calls Tryz.prog 44 #[.slice a es.length cap, .slice a' fs.length cap'] w fun r w' => r = .returned (.bool (sameES es fs)) ∧ Below w.heap.size w w' := by
 have HE := hidE hE; have HE' := hidE hE'; clear hE hE'; by_cases hlen : es.length = fs.length
 ·
  have HL := hidE hlen; have hb : ((es.length : Int) != (fs.length : Int)) = false := by rw [hlen]; simp
  have hle : fs.length ≤ es.length := by omega
  have hge : es.length ≤ fs.length := by omega
  clear hlen; go_enter Tryz.func44, Tryz.ntmps44
  go_wp2
  go_loopw [5] (fun iv wl => ∃ k : Nat, k ≤ es.length ∧ iv = .int .i64 k ∧ Hid (Below w.heap.size w wl) ∧ Hid ((List.range k).all (fun i => match es[i]?, fs[i]? with | some e, some f => sameE e f | _, _ => true) = true)) (fun iv _ => es.length - (RowKit.intOf iv).toNat)
  case atStart => exact ⟨0, Nat.zero_le _, rfl, Below.refl _ _, rfl⟩
  case round =>
   obtain ⟨k, hk, rfl, HB, HA⟩ := hrel; by_cases hlt : k < es.length
   ·
    have hlt' : k < fs.length := by omega
    obtain rfl := ha (by omega); obtain rfl := ha' (by omega); obtain ⟨c0, c1, c2⟩ := (HE.out.below HB.out) k hlt; obtain ⟨d0, d1, d2⟩ := (HE'.out.below HB.out) k hlt'; have k0 := cell_regrown c0; have k1 := cell_regrown c1; have k2 := cell_regrown c2; have q0 := cell_regrown d0; have q1 := cell_regrown d1; have q2 := cell_regrown d2; clear c0 c1 c2 d0 d1 d2; cases hs : sameE es[k] fs[k] with
    | true =>
     have a1 := cEq wr es[k] fs[k] true hs; have HA2 := hidE (all_range_succ _ k HA.out (by rw [List.getElem?_eq_getElem hlt, List.getElem?_eq_getElem hlt']; exact hs)); go_wp2
     refine wp_region_quiet_below (by kernel_rfl) (by kernel_rfl) ?_
     repeat (go_big_quiet_step (first | exact a1 _ _))
     refine wpQuiet_nil ?_; intro _ hw'; obtain ⟨⟨dq, osq⟩, hw''⟩ := hw'; subst hw''; have HBq := hidE (HB.out.trans ((below_regrown wr dq osq).mono HB.out.size)); clear HB k0 k1 k2 q0 q1 q2 a1; go_wp2
     go_roundw
     case rel => exact ⟨k + 1, by omega, by go_num, HBq, HA2⟩
     case measure => simp [RowKit.intOf]; omega
    | false =>
     have a1 := cEq wr es[k] fs[k] false hs; have HN := hidE (sameES_no HL.out hlt hs); go_wp2
     refine wp_region_quiet_below (by kernel_rfl) (by kernel_rfl) ?_
     repeat (go_big_quiet_step (first | exact a1 _ _))
     refine wpQuiet_nil ?_; intro _ hw'; obtain ⟨⟨dq, osq⟩, hw''⟩ := hw'; subst hw''; have HBq := hidE (HB.out.trans ((below_regrown wr dq osq).mono HB.out.size)); clear HB k0 k1 k2 q0 q1 q2 a1; go_wp2
     go_ret
     exact ⟨ret_bE HN.out, HBq.out⟩
   ·
    go_wp2
    go_ret
    have HT : sameES es fs = true := by
     unfold sameES; have := HA.out; rw [show k = es.length from by omega] at this; rw [decide_eq_true HL.out, this]; rfl
    exact ⟨ret_bE HT.symm, HB.out⟩
 ·
  have hb : ((es.length : Int) == (fs.length : Int)) = false := by rw [beq_eq_false_iff_ne]; omega
  go_enter Tryz.func44, Tryz.ntmps44
  go_wp2
  go_ret
  exact ⟨ret_bE (by unfold sameES; rw [decide_eq_false hlen]; rfl), Below.refl _ _⟩
end Go.Proofs.YteppodogghjfhaaGreatDoor.Mk

namespace Go.Proofs.YteppodogghjfhaaGreatDoor
open Go.RowKit Go.Lib Go.Sort
set_option maxHeartbeats 400000 in
theorem szEnt_any (w : World) (p x : ByteArray) (d : Bool) (left : Int) (hl : 0 ≤ left) (hl' : left ≤ 1048576) (hp : p.size ≤ maxLen) (hx : x.size ≤ maxLen) :
  Calls Tryz.prog 64 #[.agg #[.string p, .bool d, .string x], .int .i64 left] w fun e w' => ∃ r : Int, e = .returned (.int .i64 r) ∧ r ≤ left ∧ -1 ≤ r ∧ (0 ≤ r → (p.size : Int) ≤ left ∧ (x.size : Int) ≤ left) ∧ Below w.heap.size w w' := by
 unfold maxLen at hp hx; have hB : ∀ t, Below w.heap.size w (w.alloc (.cells #[.string p, .bool d, .string x] t)) := fun t => (Below.refl _ w).alloc (Nat.le_refl _) _; have HB := hidE hB; clear hB; by_cases h1 : (p.size : Int) ≤ left
 ·
  by_cases h2 : (p.size : Int) + (x.size : Int) ≤ left
  ·
   go_enter Tryz.func64, Tryz.ntmps64
   go_wp2
   go_ret
   exact ⟨_, rfl, by omega, by omega, fun _ => ⟨by omega, by omega⟩, HB.out _⟩
  ·
   go_enter Tryz.func64, Tryz.ntmps64
   go_wp2
   go_ret
   exact ⟨_, rfl, by omega, by omega, fun h => by omega, HB.out _⟩
 ·
  go_enter Tryz.func64, Tryz.ntmps64
  go_wp2
  go_ret
  exact ⟨_, rfl, by omega, by omega, fun h => by omega, HB.out _⟩
set_option maxHeartbeats 400000 in
theorem toEnt_any (w : World) (p x : ByteArray) (d : Bool) :
  Calls Tryz.prog 73 #[.agg #[.string p, .bool d, .string x]] w fun e w' => e = .returned (.agg #[.string p, .bool d, .string x]) ∧ Below w.heap.size w w' := by
 have hB : ∀ t t' t'', Below w.heap.size w (((w.alloc (.cells #[.string p, .bool d, .string x] t)).alloc (.cells #[.string p, .bool d, .string x] t')).alloc (.cells #[.string p, .bool d, .string x] t'')) := fun _ _ _ => (((Below.refl _ w).alloc (Nat.le_refl _) _).alloc (by simp) _).alloc (by simp; omega) _; have HB := hidE hB; clear hB; go_enter Tryz.func73, Tryz.ntmps73
 go_wp2
 exact bodyPost_ret (v := .agg #[.string p, .bool d, .string x]) (by simp [results, Tryz.results73, go_sem]) rfl ⟨rfl, HB.out _ _ _⟩
theorem Tryz.infoE : (Tryz.prog.info? 43).map (fun i => (i.zero, i.size, i.bytes)) = some (some (.agg #[.string ByteArray.empty, .bool false, .string ByteArray.empty]), 3, 40) := by kernel_rfl
def Room (w : World) (g n : Nat) : Prop := ∀ i, i < n → (∃ v, w.cell? ⟨g, i, none⟩ = some v) ∧ w.frozen? ⟨g, i, none⟩ = false
theorem Room.below {w w' : World} {g n : Nat} (h : Room w g n) (hb : Below w.heap.size w w') : Room w' g n := fun i hi => by
 obtain ⟨⟨v, hv⟩, hf⟩ := h i hi; have lt : g < w.heap.size := World.block_lt_of_cell? w ⟨g, i, none⟩ hv; exact ⟨⟨v, (hb.cell (p := ⟨g, i, none⟩) lt).trans hv⟩, (hb.frozen (p := ⟨g, i, none⟩) lt).trans hf⟩
theorem Room.set {w : World} {g n : Nat} (h : Room w g n) (b j : Nat) (v : Value) : Room (w.setCell ⟨b, j, none⟩ v) g n := fun i hi => by
 obtain ⟨⟨u, hu⟩, hf⟩ := h i hi; obtain ⟨u', hu'⟩ := cell?_setCell_some (w := w) (p := ⟨b, j, none⟩) (x := v) (q := ⟨g, i, none⟩) (v := u) hu; exact ⟨⟨u', hu'⟩, by rw [World.frozen?_setCell]; exact hf⟩
theorem cell_ne (w : World) (g i j : Nat) (v : Value) (h : i ≠ j) : (w.setCell ⟨g, i, none⟩ v).cell? ⟨g, j, none⟩ = w.cell? ⟨g, j, none⟩ := World.cell?_setCell_other _ _ _ _ (fun q => by have e := congrArg Addr.off q; dsimp only at e; omega)
theorem cell_eq {w : World} {g i : Nat} {u : Value} (v : Value) (h : w.cell? ⟨g, i, none⟩ = some u) : (w.setCell ⟨g, i, none⟩ v).cell? ⟨g, i, none⟩ = some v := World.cell?_setCell_same' _ _ _ (by rw [h]; rfl)
theorem Ents.put {w : World} {g k : Nat} {es : List E} (hk : k < es.length) (h : Ents w g 0 (es.take k)) {v0 v1 v2 : Value} (e0 : w.cell? ⟨g, k * 3, none⟩ = some v0) (e1 : w.cell? ⟨g, k * 3 + 1, none⟩ = some v1) (e2 : w.cell? ⟨g, k * 3 + 2, none⟩ = some v2) :
  Ents (((w.setCell ⟨g, k * 3, none⟩ (.string es[k].p)).setCell ⟨g, k * 3 + 1, none⟩ (.bool es[k].d)).setCell ⟨g, k * 3 + 2, none⟩ (.string es[k].x)) g 0 (es.take (k + 1)) := by
 intro i hi; rw [List.length_take] at hi; rw [List.getElem_take]; by_cases e : i = k
 ·
  subst e; refine ⟨?_, ?_, ?_⟩
  ·
   rw [Nat.zero_add, cell_ne _ _ _ _ _ (by omega), cell_ne _ _ _ _ _ (by omega)]; exact cell_eq _ e0
  ·
   rw [Nat.zero_add, cell_ne _ _ _ _ _ (by omega)]; exact cell_eq _ ((cell_ne _ _ _ _ _ (by omega)).trans e1)
  ·
   rw [Nat.zero_add]; exact cell_eq _ ((cell_ne _ _ _ _ _ (by omega)).trans ((cell_ne _ _ _ _ _ (by omega)).trans e2))
 ·
  have hlt : i < k := by omega
  obtain ⟨q0, q1, q2⟩ := h i (by rw [List.length_take]; omega); rw [List.getElem_take] at q0 q1 q2; rw [Nat.zero_add] at *; refine ⟨?_, ?_, ?_⟩
  ·
   rw [cell_ne _ _ _ _ _ (by omega), cell_ne _ _ _ _ _ (by omega), cell_ne _ _ _ _ _ (by omega)]; exact q0
  ·
   rw [cell_ne _ _ _ _ _ (by omega), cell_ne _ _ _ _ _ (by omega), cell_ne _ _ _ _ _ (by omega)]; exact q1
  ·
   rw [cell_ne _ _ _ _ _ (by omega), cell_ne _ _ _ _ _ (by omega), cell_ne _ _ _ _ _ (by omega)]; exact q2
set_option maxHeartbeats 800000 in
set_option maxRecDepth 100000 in
theorem toEntS_any (w : World) (a : Option Addr) (g o cap : Nat) (es : List E) (hn : es.length ≤ 1048576) (ha : 0 < es.length → a = some ⟨g, o, none⟩) (hE : Ents w g o es) :
  Calls Tryz.prog 39 #[.slice a es.length cap] w fun e w' => e = .returned (.slice (some ⟨w.heap.size, 0, none⟩) es.length es.length) ∧ Ents w' w.heap.size 0 es ∧ Room w' w.heap.size (es.length * 3) ∧ Below w.heap.size w w' := by
 have HE := hidE hE; clear hE; obtain ⟨i0, hi, hz0, hz1, hz2⟩ := info_parts Tryz.infoE; obtain ⟨M, hM⟩ : ∃ M, M = madeCells (Value.agg #[.string ByteArray.empty, .bool false, .string ByteArray.empty]).cells (((es.length : Nat) : Int).toNat * i0.size) := ⟨_, rfl⟩
 have hMs : M.size = es.length * 3 := by rw [hM, size_madeCells, hz1]; simp
 have hmk : ∀ W : World, (Instr.makeSlice 29 (.int .i64 (es.length : Int)) (.int .i64 (es.length : Int))).run Tryz.prog W = .ok (.slice (some ⟨W.heap.size, 0, none⟩) es.length es.length) (W.alloc (.cells M 43)) := fun W => by
  have h := run_make (P := Tryz.prog) W 29 43 i0 (.agg #[.string ByteArray.empty, .bool false, .string ByteArray.empty]) Tryz.underlying29 hi hz0 .i64 .i64 (es.length : Int) (es.length : Int) (by omega) (by omega) (by rw [hz2]; omega) (by omega); rw [← hM] at h
  simpa using h
 have HR : Hid (Room (w.alloc (.cells M 43)) w.heap.size (es.length * 3)) := fun i hi => ⟨⟨M[i]'(by omega), by rw [World.cell?_alloc_new, Array.getElem?_eq_getElem (by omega)]⟩, by simp⟩; clear hM hi hz0 hz1 hz2; have HB0 := hidE ((Below.refl w.heap.size w).alloc (Nat.le_refl _) (.cells M 43)); go_enter Tryz.func39, Tryz.ntmps39
 go_wp2
 go_loopw [4] (fun iv wl => ∃ k : Nat, k ≤ es.length ∧ iv = .int .i64 k ∧ Hid (Below w.heap.size w wl) ∧ Hid (Room wl w.heap.size (es.length * 3)) ∧ Hid (Ents wl w.heap.size 0 (es.take k))) (fun iv _ => es.length - (RowKit.intOf iv).toNat)
 case atStart => exact ⟨0, Nat.zero_le _, rfl, HB0, HR, fun i hi => by simp at hi⟩
 case round =>
  clear HB0 HR hmk; obtain ⟨k, hk, rfl, HB, HR, HT⟩ := hrel; by_cases hlt : k < es.length
  ·
   obtain rfl := ha (by omega); obtain ⟨c0, c1, c2⟩ := (HE.out.below HB.out) k hlt; go_wp2_with fail
   refine (toEnt_any _ _ _ _).mono ?_; rintro e w2 ⟨rfl, hB2⟩; have HB2 := hidE (HB.out.trans (hB2.mono HB.out.size)); have HR2 := hidE (HR.out.below hB2); have HT2 := hidE (HT.out.below hB2); clear hB2 HB HR HT c0 c1 c2; obtain ⟨⟨v0, e0⟩, f0⟩ := HR2.out (k * 3) (by omega); obtain ⟨⟨v1, e1⟩, f1⟩ := HR2.out (k * 3 + 1) (by omega); obtain ⟨⟨v2, e2⟩, f2⟩ := HR2.out (k * 3 + 2) (by omega); go_wp2
   go_roundw
   case rel => exact ⟨k + 1, by omega, by go_num, ((HB2.out.setCell (p := ⟨w.heap.size, _, none⟩) (Nat.le_refl _) _).setCell (p := ⟨w.heap.size, _, none⟩) (Nat.le_refl _) _).setCell (p := ⟨w.heap.size, _, none⟩) (Nat.le_refl _) _, ((HR2.out.set _ _ _).set _ _ _).set _ _ _, HT2.out.put hlt e0 e1 e2⟩
   case measure => simp [RowKit.intOf]; omega
  ·
   go_wp2
   go_ret
   have := HT.out; rw [List.take_of_length_le (by omega)] at this; exact ⟨rfl, this, HR.out, HB.out⟩
def sameE (e f : E) : Bool := (e.p.toList == f.p.toList) && ((e.d == f.d) && (e.x.toList == f.x.toList))
def sameES (es fs : List E) : Bool := decide (es.length = fs.length) && (List.range es.length).all (fun i => match es[i]?, fs[i]? with | some e, some f => sameE e f | _, _ => true)
theorem sameE_iff (e f : E) : sameE e f = true ↔ e = f := by
 unfold sameE; rw [Bool.and_eq_true, Bool.and_eq_true, beq_iff_eq, beq_iff_eq, beq_iff_eq]
 constructor
 ·
  rintro ⟨h1, h2, h3⟩; cases e; cases f; simp only [E.mk.injEq]; exact ⟨toList_inj h1, h2, toList_inj h3⟩
 ·
  rintro rfl; exact ⟨rfl, rfl, rfl⟩
set_option maxHeartbeats 400000 in
theorem eqEnt_any (w : World) (e f : E) :
  Calls Tryz.prog 24 #[encE e, encE f] w fun r w' => r = .returned (.bool (sameE e f)) ∧ Below w.heap.size w w' := by
 obtain ⟨p, d, x⟩ := e; obtain ⟨p', d', x'⟩ := f; have hB : ∀ t t', Below w.heap.size w ((w.alloc (.cells #[.string p, .bool d, .string x] t)).alloc (.cells #[.string p', .bool d', .string x'] t')) := fun _ _ => ((Below.refl _ w).alloc (Nat.le_refl _) _).alloc (by simp) _; have HB := hidE hB; clear hB; cases h1 : (p.toList == p'.toList) with
 | false =>
  have n1 : ¬ p.toList = p'.toList := fun q => by rw [q, beq_self_eq_true] at h1; cases h1
  go_enter Tryz.func24, Tryz.ntmps24
  go_wp2
  go_ret
  exact ⟨ret_bE (by unfold sameE; rw [h1]; rfl), HB.out _ _⟩
 | true =>
  have n1 : p.toList = p'.toList := beq_iff_eq.1 h1; cases h2 : (d == d') with
  | false =>
   go_enter Tryz.func24, Tryz.ntmps24
   go_wp2
   go_ret
   exact ⟨ret_bE (by unfold sameE; rw [h1, h2]; rfl), HB.out _ _⟩
  | true =>
   obtain rfl : d = d' := beq_iff_eq.1 h2; cases h3 : (x.toList == x'.toList) with
   | false =>
    have n3 : ¬ x.toList = x'.toList := fun q => by rw [q, beq_self_eq_true] at h3; cases h3
    go_enter Tryz.func24, Tryz.ntmps24
    go_wp2
    go_ret
    exact ⟨ret_bE (by unfold sameE; rw [h1, h2, h3]; rfl), HB.out _ _⟩
   | true =>
    have n3 : x.toList = x'.toList := beq_iff_eq.1 h3; go_enter Tryz.func24, Tryz.ntmps24
    go_wp2
    go_ret
    exact ⟨ret_bE (by unfold sameE; rw [h1, h2, h3]; rfl), HB.out _ _⟩
theorem cEq (W0 : World) (e f : E) (b : Bool) (h : sameE e f = b) : ∀ d os, Calls Tryz.prog 24 #[encE e, encE f] (grow (redrawn W0 d) os) fun r w'' => r = .returned (.bool b) ∧ ∃ p : Regrown, w'' = grow (redrawn W0 p.d) p.os :=
 fun _ _ => Calls.regrown_of (by rw [← h]; exact eqEnt_any _ e f)
theorem sameES_no {es fs : List E} {i : Nat} (hl : es.length = fs.length) (h : i < es.length) (hb : sameE es[i] (fs[i]'(by omega)) = false) : false = sameES es fs := by
 unfold sameES
 have : (List.range es.length).all (fun i => match es[i]?, fs[i]? with | some e, some f => sameE e f | _, _ => true) = false := by
  rw [List.all_eq_false]; refine ⟨i, List.mem_range.2 h, ?_⟩; rw [List.getElem?_eq_getElem h, List.getElem?_eq_getElem (by omega)]; simp [hb]
 rw [this, Bool.and_false]
set_option maxHeartbeats 800000 in
set_option maxRecDepth 100000 in
theorem eqEntS_any (w : World) (a a' : Option Addr) (g o cap g' o' cap' : Nat) (es fs : List E) (hn : es.length ≤ 16777216) (_hn' : fs.length ≤ 16777216) (ha : 0 < es.length → a = some ⟨g, o, none⟩) (ha' : 0 < fs.length → a' = some ⟨g', o', none⟩) (hE : Ents w g o es) (hE' : Ents w g' o' fs) :
  Calls Tryz.prog 16 #[.slice a es.length cap, .slice a' fs.length cap'] w fun r w' => r = .returned (.bool (sameES es fs)) ∧ Below w.heap.size w w' := by
 have HE := hidE hE; have HE' := hidE hE'; clear hE hE'; by_cases hlen : es.length = fs.length
 ·
  have HL := hidE hlen; have hb : ((es.length : Int) != (fs.length : Int)) = false := by rw [hlen]; simp
  have hle : fs.length ≤ es.length := by omega
  have hge : es.length ≤ fs.length := by omega
  clear hlen; go_enter Tryz.func16, Tryz.ntmps16
  go_wp2
  go_loopw [5] (fun iv wl => ∃ k : Nat, k ≤ es.length ∧ iv = .int .i64 k ∧ Hid (Below w.heap.size w wl) ∧ Hid ((List.range k).all (fun i => match es[i]?, fs[i]? with | some e, some f => sameE e f | _, _ => true) = true)) (fun iv _ => es.length - (RowKit.intOf iv).toNat)
  case atStart => exact ⟨0, Nat.zero_le _, rfl, Below.refl _ _, rfl⟩
  case round =>
   obtain ⟨k, hk, rfl, HB, HA⟩ := hrel; by_cases hlt : k < es.length
   ·
    have hlt' : k < fs.length := by omega
    obtain rfl := ha (by omega); obtain rfl := ha' (by omega); obtain ⟨c0, c1, c2⟩ := (HE.out.below HB.out) k hlt; obtain ⟨d0, d1, d2⟩ := (HE'.out.below HB.out) k hlt'; have k0 := cell_regrown c0; have k1 := cell_regrown c1; have k2 := cell_regrown c2; have q0 := cell_regrown d0; have q1 := cell_regrown d1; have q2 := cell_regrown d2; clear c0 c1 c2 d0 d1 d2; cases hs : sameE es[k] fs[k] with
    | true =>
     have a1 := cEq wr es[k] fs[k] true hs; have HA2 := hidE (all_range_succ _ k HA.out (by rw [List.getElem?_eq_getElem hlt, List.getElem?_eq_getElem hlt']; exact hs)); go_wp2
     refine wp_region_quiet_below (by kernel_rfl) (by kernel_rfl) ?_
     repeat (go_big_quiet_step (first | exact a1 _ _))
     refine wpQuiet_nil ?_; intro _ hw'; obtain ⟨⟨dq, osq⟩, hw''⟩ := hw'; subst hw''; have HBq := hidE (HB.out.trans ((below_regrown wr dq osq).mono HB.out.size)); clear HB k0 k1 k2 q0 q1 q2 a1; go_wp2
     go_roundw
     case rel => exact ⟨k + 1, by omega, by go_num, HBq, HA2⟩
     case measure => simp [RowKit.intOf]; omega
    | false =>
     have a1 := cEq wr es[k] fs[k] false hs; have HN := hidE (sameES_no HL.out hlt hs); go_wp2
     refine wp_region_quiet_below (by kernel_rfl) (by kernel_rfl) ?_
     repeat (go_big_quiet_step (first | exact a1 _ _))
     refine wpQuiet_nil ?_; intro _ hw'; obtain ⟨⟨dq, osq⟩, hw''⟩ := hw'; subst hw''; have HBq := hidE (HB.out.trans ((below_regrown wr dq osq).mono HB.out.size)); clear HB k0 k1 k2 q0 q1 q2 a1; go_wp2
     go_ret
     exact ⟨ret_bE HN.out, HBq.out⟩
   ·
    go_wp2
    go_ret
    have HT : sameES es fs = true := by
     unfold sameES; have := HA.out; rw [show k = es.length from by omega] at this; rw [decide_eq_true HL.out, this]; rfl
    exact ⟨ret_bE HT.symm, HB.out⟩
 ·
  have hb : ((es.length : Int) == (fs.length : Int)) = false := by rw [beq_eq_false_iff_ne]; omega
  go_enter Tryz.func16, Tryz.ntmps16
  go_wp2
  go_ret
  exact ⟨ret_bE (by unfold sameES; rw [decide_eq_false hlen]; rfl), Below.refl _ _⟩
end Go.Proofs.YteppodogghjfhaaGreatDoor
namespace Go.Proofs.YteppodogghjfhaaGreatDoor.Mk
open Go.RowKit Go.Lib
theorem rowE_append (es fs : List E) : rowE (es ++ fs) = rowE es ++ rowE fs := by unfold rowE; exact List.flatMap_append
theorem rowE_one (e : E) : rowE [e] = cellsE e := by unfold rowE; simp
theorem rowE_at : ∀ (es : List E) (i : Nat) (h : i < es.length), (rowE es)[i * 3]? = some (.string es[i].p) ∧ (rowE es)[i * 3 + 1]? = some (.int .i64 es[i].d) ∧ (rowE es)[i * 3 + 2]? = some (.string es[i].x)
 | e :: r, 0, _ => ⟨rfl, rfl, rfl⟩
 | e :: r, i + 1, h => by
  obtain ⟨q0, q1, q2⟩ := rowE_at r i (by simpa using h)
  have hd : ∀ j, (rowE (e :: r))[3 + j]? = (rowE r)[j]? := fun j => by
   show (cellsE e ++ rowE r)[3 + j]? = _
   rw [List.getElem?_append_right (by show 3 ≤ _; omega)]; show (rowE r)[3 + j - 3]? = _
   rw [Nat.add_sub_cancel_left]
  refine ⟨?_, ?_, ?_⟩
  ·
   rw [show (i + 1) * 3 = 3 + i * 3 from by omega, hd]; exact q0
  ·
   rw [show (i + 1) * 3 + 1 = 3 + (i * 3 + 1) from by omega, hd]; exact q1
  ·
   rw [show (i + 1) * 3 + 2 = 3 + (i * 3 + 2) from by omega, hd]; exact q2
theorem rowE_one' {e : E} : ∀ u ∈ cellsE e, u.oneCell' = true := by
 intro u hu; simp [cellsE] at hu; rcases hu with rfl | rfl | rfl <;> rfl
abbrev OwnE (w : World) (base : Nat) (v : Value) (es : List E) : Prop := w.ownsRow base 99 3 v es.length (rowE es)
theorem add0 (g j : Nat) : (⟨g, 0, none⟩ : Addr).add j = ⟨g, 0 + j, none⟩ := by
 cases j with
 | zero => rfl
 | succ j => simp [Addr.add]
theorem OwnE.ents {w : World} {base : Nat} {v : Value} {es : List E} (h : OwnE w base v es) :
  ∃ a g cap, v = .slice a es.length cap ∧ (0 < es.length → a = some ⟨g, 0, none⟩) ∧ Ents w g 0 es ∧ es.length ≤ cap := by
 have hc := fun (g : Nat) (hg : v.ownBlock = some g) => World.ownsRow.cells h hg; obtain ⟨_, ⟨rfl, e0⟩ | ⟨g, cap, cur, rfl, _, _, hcap, _⟩⟩ := h
 ·
  exact ⟨none, 0, 0, by rw [e0], fun h => by omega, fun i hi => by omega, by omega⟩
 ·
  refine ⟨_, g, cap, rfl, fun _ => rfl, fun i hi => ?_, hcap⟩; obtain ⟨q0, q1, q2⟩ := rowE_at es i hi; refine ⟨?_, ?_, ?_⟩
  ·
   have := hc g rfl _ _ q0; rw [add0] at this; exact this
  ·
   have := hc g rfl _ _ q1; rw [add0, ← Nat.add_assoc] at this; exact this
  ·
   have := hc g rfl _ _ q2; rw [add0, ← Nat.add_assoc] at this; exact this
theorem OwnE.below {w w' : World} {base : Nat} {v : Value} {es : List E} (h : OwnE w base v es) (hb : Below w.heap.size w w') : OwnE w' base v es :=
 World.ownsRow.kept (row := none) h ⟨hb.os, hb.tape, hb.output, hb.size, fun b hb' _ => hb.block b hb'⟩ (by
  cases hob : v.ownBlock with
  | none => exact .inl rfl
  | some q => exact .inr (by simp))
theorem OwnE.lower {w : World} {base base' : Nat} {v : Value} {es : List E} (h : OwnE w base v es) (hb : base' ≤ base) : OwnE w base' v es := by
 obtain ⟨h1, h2 | ⟨g, cap, cur, e1, e2, e3⟩⟩ := h
 ·
  exact ⟨h1, .inl h2⟩
 ·
  exact ⟨h1, .inr ⟨g, cap, cur, e1, Nat.le_trans hb e2, e3⟩⟩
theorem OwnE.made (w : World) {base : Nat} (hb : base ≤ w.heap.size) : OwnE (w.alloc (.cells #[] 99)) base (.slice (some ⟨w.heap.size, 0, none⟩) 0 0) [] := World.ownsRow_made w #[] 0 hb (Nat.zero_le _) rfl
theorem OwnE.push {w : World} {base : Nat} {v : Value} {es : List E} {e : E} (h : w.ownsRow base 99 3 v (es.length + 1) (rowE es ++ cellsE e)) : OwnE w base v (es ++ [e]) := by
 show World.ownsRow w base 99 3 v (es ++ [e]).length (rowE (es ++ [e]))
 rw [rowE_append, rowE_one, List.length_append]; exact h
theorem Tryz.infoE' : (Tryz.prog.info? 99).map (fun i => (i.zero, i.size, i.bytes)) = some (some (.agg #[.string ByteArray.empty, .int .i64 0, .string ByteArray.empty]), 3, 40) := by kernel_rfl
theorem cells_new (w : World) (e : E) : ∀ j u, (cellsE e)[j]? = some u → (w.alloc (.cells #[.string e.p, .int .i64 e.d, .string e.x] 99)).cell? ((⟨w.heap.size, 0, none⟩ : Addr).add j) = some u := by
 intro j u hj
 match j, hj with
 | 0, hj => simp [cellsE] at hj; subst hj; simp [Addr.add]
 | 1, hj => simp [cellsE] at hj; subst hj; simp [Addr.add]
 | 2, hj => simp [cellsE] at hj; subst hj; simp [Addr.add]
 | j + 3, hj => simp [cellsE] at hj
end Go.Proofs.YteppodogghjfhaaGreatDoor.Mk
namespace Go.Proofs.YteppodogghjfhaaGreatDoor
open Go.RowKit Go.Lib
theorem eq_entP (a b c a' b' c' : _) (w : World) : (Op.equalIn 10000 43 (.agg #[.string a, .bool b, .string c]) (.agg #[.string a', .bool b', .string c'])).run Tryz.prog w = .ok ((a.toList == a'.toList) && (b == b') && (c.toList == c'.toList)) w := by
 have u9 := Tryz.underlying9; have u4 := Tryz.underlying4; have a9 := Tryz.isAgg9; have a4 := Tryz.isAgg4; have z9 := Tryz.sizeOf9; have z4 := Tryz.sizeOf4; have hS : Tryz.prog.underlying 43 = some (.struct (Tryz.prog.fieldsOf 43)) := by kernel_rfl
 have hp : Tryz.prog.stoodInHeld 43 = false := by kernel_rfl
 rw [show (10000 : Nat) = 9999 + 1 from rfl, run_equalIn_agg w 9999 43 _ _ hS hp]; simp only [Program.fieldsOf, Tryz.underlying43]; go_simp; cases h1 : (a.toList == a'.toList) <;> cases h2 : (b == b') <;> cases h3 : (c.toList == c'.toList) <;> simp_all
theorem guard_entP (op : BinOp) (x y : Operand) (xs ys : Array Value) (w : World) : (eqGuard op 43 x y (.agg xs) (.agg ys)).run Tryz.prog w = .ok () w := run_eqGuard_agg w op 43 x y xs ys (by kernel_rfl)
end Go.Proofs.YteppodogghjfhaaGreatDoor
namespace Go.Proofs.YteppodogghjfhaaGreatDoor.Mk
open Go.RowKit Go.Lib
theorem run_append_no (w : World) (i0 : TypeInfo) (hi : Tryz.prog.info? 99 = some i0) (ty : TypeId) (base : Option Addr) (n cap : Nat) (hle : n ≤ cap) (ax : Option Addr) (c : Nat) :
  (Builtin.append_ #[31, 31] ty #[.slice base n cap, .slice ax 0 c]).run Tryz.prog w = .ok (.slice base n cap) w := by
 cases base <;> cases ax <;> simp [Builtin.append_, run_underlying Tryz.underlying31, sizeOf, typeInfo, hi, Builtin.lenOf, hle, Builtin.firstCells, loadCells, loadCellsFrom, storeCells]
theorem rowE_oneCell {es : List E} : ∀ u ∈ rowE es, u.oneCell' = true := by
 intro u hu; unfold rowE at hu; obtain ⟨e, _, h⟩ := List.mem_flatMap.1 hu; exact rowE_one' u h
theorem rowE_cells {w : World} {g o : Nat} {fs : List E} (hF : Ents w g o fs) : ∀ j u, (rowE fs)[j]? = some u → w.cell? ((⟨g, o, none⟩ : Addr).add j) = some u := by
 intro j u hj; have hlt : j < fs.length * 3 := by rw [← rowE_len]; exact (List.getElem?_eq_some_iff.1 hj).1
 have hq : j / 3 < fs.length := by omega
 obtain ⟨q0, q1, q2⟩ := rowE_at fs (j / 3) hq; obtain ⟨c0, c1, c2⟩ := hF (j / 3) hq
 have ad : (⟨g, o, none⟩ : Addr).add j = ⟨g, o + j, none⟩ := by
  cases j with
  | zero => rfl
  | succ j => simp [Addr.add]
 rw [ad]; have h3 : j = j / 3 * 3 ∨ j = j / 3 * 3 + 1 ∨ j = j / 3 * 3 + 2 := by omega
 rcases h3 with h | h | h
 ·
  rw [← h] at q0 c0; rw [q0] at hj; rw [c0, ← hj]
 ·
  rw [← h] at q1; rw [Nat.add_assoc, ← h] at c1; rw [q1] at hj; rw [c1, ← hj]
 ·
  rw [← h] at q2; rw [Nat.add_assoc, ← h] at c2; rw [q2] at hj; rw [c2, ← hj]
theorem wpE_append {w : World} {ops : Array Oper} {rest : List Oper} {o : Oper} {a : Act} {Q : Exit → Act → World → Prop} (hgd : o.guard = none) (s x : Operand)
  (ho : o.op = .call { callee := .builtin .append, args := #[s, x], argTypes := #[31, 31] })
  (base : Nat) (v : Value) (es : List E) (hs : a.eval s = v) (hown : OwnE w base v es)
  (ax : Option Addr) (c g of : Nat) (fs : List E) (m : Nat) (hm : fs.length = m) (hx : a.eval x = .slice ax m c) (hax : 0 < fs.length → ax = some ⟨g, of, none⟩) (hF : Ents w g of fs)
  (hl : es.length + fs.length ≤ 2097152) (hbase : base ≤ w.heap.size)
  (h : ∀ v' w', OwnE w' base v' (es ++ fs) → w.grownBy w' v.ownBlock → wpList Tryz.prog ops Q rest (a.put o.dst v') w') : wpList Tryz.prog ops Q (o :: rest) a w := by
 obtain ⟨i0, hi, hz0, hz1, hz2⟩ := info_parts Tryz.infoE'; subst hm; by_cases hm : 0 < fs.length
 ·
  obtain rfl := hax hm; refine wpList_append_own _ hgd s x 31 ho base 99 i0 _ 3 40 Tryz.underlying31 hi hz0 hz1 hz2 rfl (by decide) v es.length (rowE es) hs hown _ _ _ (rowE fs) hx (rowE_len fs) (rowE_cells hF) rowE_oneCell (by unfold maxLen; omega) (by omega) hbase ?_; intro v' w' ho' hg _; refine h v' w' ?_ hg; show World.ownsRow w' base 99 3 v' (es ++ fs).length (rowE (es ++ fs))
  rw [rowE_append, List.length_append]; exact ho'
 ·
  have h0 : fs = [] := List.length_eq_zero_iff.1 (by omega); subst h0; refine wpList_plain hgd fun K hK => ?_; unfold Oper.wp execOp
  have hv : ∃ b n cap, v = .slice b n cap ∧ n ≤ cap := by
   obtain ⟨_, ⟨rfl, _⟩ | ⟨g, cap, cur, rfl, _, _, hcap, _⟩⟩ := hown
   ·
    exact ⟨_, _, _, rfl, Nat.le_refl _⟩
   ·
    exact ⟨_, _, _, rfl, hcap⟩
  obtain ⟨b, n, cap, rfl, hle⟩ := hv; have hr := run_append_no w i0 hi o.type b n cap hle ax c; have hx' : a.eval x = .slice ax 0 c := hx; simp only [ho, resolve, invoke, builtin, Sem.run_bind, Sem.run_pure, Result.andThen_ok, List.map_toArray, List.map_cons, List.map_nil, hs, hx', hr]; exact hK _ _ (h _ _ (by rw [List.append_nil]; exact hown) ⟨rfl, rfl, rfl, Nat.le_refl _, fun _ _ _ => rfl⟩)
theorem ents_drop {w : World} {g o : Nat} {es : List E} (h : Ents w g o es) (o' j : Nat) (hj : o' = o + j * 3 ∨ es.length ≤ j) : Ents w g o' (es.drop j) := by
 intro i hi; rw [List.length_drop] at hi; rcases hj with rfl | hj
 ·
  rw [List.getElem_drop]; have := h (j + i) (by omega); rw [show o + (j + i) * 3 = o + j * 3 + i * 3 from by omega] at this; exact this
 ·
  omega
theorem ents_new (w : World) (f : E) : Ents (w.alloc (.cells #[.string f.p, .int .i64 f.d, .string f.x] 99)) w.heap.size 0 [f] := by
 intro i hi; have : i = 0 := by simpa using hi
 subst this; exact ⟨by simp, by simp, by simp⟩
theorem below_draws2 {B : Nat} {a w : World} (h : Below B a w) (n : Nat) : Below B a (w.drewN n) := h.trans ⟨rfl, rfl, rfl, Nat.le_refl _, fun _ _ => rfl⟩
theorem OwnE.drew {w : World} {base : Nat} {v : Value} {es : List E} (h : OwnE w base v es) (n : Nat) : OwnE (w.drewN n) base v es := h.below (below_draws2 (Below.refl _ w) n)
theorem box3 {w w' : World} {a b c : Value} {T : TypeId} (h : Below (w.alloc (.cells #[a, b, c] T)).heap.size (w.alloc (.cells #[a, b, c] T)) w') :
  w'.cell? ⟨w.heap.size, 0, none⟩ = some a ∧ w'.cell? ⟨w.heap.size, 1, none⟩ = some b ∧ w'.cell? ⟨w.heap.size, 2, none⟩ = some c := by
 have lt : w.heap.size < (w.alloc (.cells #[a, b, c] T)).heap.size := by simp
 exact ⟨(h.cell (p := ⟨w.heap.size, 0, none⟩) lt).trans (by simp), (h.cell (p := ⟨w.heap.size, 1, none⟩) lt).trans (by simp), (h.cell (p := ⟨w.heap.size, 2, none⟩) lt).trans (by simp)⟩
set_option maxHeartbeats 1600000 in
set_option maxRecDepth 100000 in
theorem l3Put_any (w : World) (a : Option Addr) (g o cap : Nat) (es : List E) (p : ByteArray) (d : Int) (x : ByteArray) (hl : es.length ≤ 1048576) (hcap : es.length ≤ cap) (ha : 0 < es.length → a = some ⟨g, o, none⟩) (hE : Ents w g o es) :
  Calls Tryz.prog 72 #[.slice a es.length cap, .agg #[.string p, .int .i64 d, .string x]] w fun r w' => ∃ v, r = .returned v ∧ OwnE w' w.heap.size v (putE es ⟨p, d, x⟩) ∧ Below w.heap.size w w' := by
 obtain ⟨W0, hW0⟩ : ∃ W0, W0 = w.alloc (.cells #[.string p, .int .i64 d, .string x] 99) := ⟨_, rfl⟩
 have hs0 : W0.heap.size = w.heap.size + 1 := by rw [hW0]; simp
 have HW := hidE hW0; have HB0 : Hid (Below w.heap.size w W0) := by rw [hW0]; exact (Below.refl _ w).alloc (Nat.le_refl _) _
 have HE := hidE (Ents.below hE HB0.out); clear hE; go_enter Tryz.func72, Tryz.ntmps72
 go_wp2
 rw [← hW0]; rw [← hs0]; have HS0 := hidE hs0; clear hW0 hs0
 go_loopw [5, 6] (fun v iv wl => ∃ k : Nat, k ≤ es.length ∧ iv = .int .i64 k ∧ Hid (OwnE wl W0.heap.size v (es.take k)) ∧ Hid (Below W0.heap.size W0 wl) ∧ Hid ((es.take k).all (ltP ⟨p, d, x⟩) = true)) (fun _ iv _ => es.length - (RowKit.intOf iv).toNat)
 case atStart => exact ⟨0, Nat.zero_le _, rfl, OwnE.made W0 (Nat.le_refl _), (Below.refl _ W0).alloc (Nat.le_refl _) _, rfl⟩
 case round =>
  obtain ⟨k, hk, rfl, HO, HB, HA⟩ := hrel; have hz3 := HB.out.size
  obtain ⟨b0, b1, b2⟩ : wr.cell? ⟨w.heap.size, 0, none⟩ = some (.string p) ∧ wr.cell? ⟨w.heap.size, 1, none⟩ = some (.int .i64 d) ∧ wr.cell? ⟨w.heap.size, 2, none⟩ = some (.string x) := by
   have := HB.out; rw [HW.out] at this; exact box3 this
  by_cases hlt : k < es.length
  ·
   obtain rfl := ha (by omega); obtain ⟨c0, c1, c2⟩ := (HE.out.below HB.out) k hlt; cases hb : Op.bytesLess es[k].p.toList p.toList with
   | true =>
    have HA2 : Hid ((es.take (k + 1)).all (ltP ⟨p, d, x⟩) = true) := by
     show _ = _
     rw [List.take_succ_eq_append_getElem hlt, List.all_append, HA.out]; simp [ltP, hb]
    go_wp2
    go_quiet (fail)
    have HO1 := hidE (HO.out.drew nq); have HB1 := hidE (below_draws2 HB.out nq); clear HO HB
    go_wp2_with (first
     | (at_builtin; refine wpE_append rfl _ _ rfl W0.heap.size _ (es.take k) rfl (World.ownsRow.alloc HO1.out _) _ _ wr.heap.size 0 [es[k]] 1 rfl rfl (fun _ => rfl) (ents_new _ _) ?c1 ?c2 ?_)
     | fail)
    case c1 => rw [List.length_take]; simp; omega
    case c2 => simp; omega
    intro v' w4 hown' hgrow; have HB4 := hidE ((HB1.out.alloc hz3 _).grown hgrow (by simp; omega) (fun q hq => (World.ownsRow.lt HO1.out q hq).1))
    have HO4 : Hid (OwnE w4 W0.heap.size v' (es.take (k + 1))) := by
     show OwnE _ _ _ _
     first | exact hown' | (rw [List.take_succ_eq_append_getElem hlt]; exact hown')
    clear hown' hgrow HO1 HB1; go_wp2
    go_roundw
    case rel => exact ⟨k + 1, by omega, by go_num, HO4, HB4, HA2⟩
    case measure => simp [RowKit.intOf]; omega
   | false =>
    obtain ⟨S1, S2⟩ := span_at (q := ltP ⟨p, d, x⟩) es k hk HA.out (fun _ => hb); have HP : Hid (putE es ⟨p, d, x⟩ = es.take k ++ [⟨p, d, x⟩] ++ restE ⟨p, d, x⟩ (es.drop k)) := by show _ = _; unfold putE; rw [S1, S2]
    clear S1 S2; cases hq : (es[k].p.toList == p.toList) with
    | true =>
     have HP2 : Hid (putE es ⟨p, d, x⟩ = es.take k ++ [⟨p, d, x⟩] ++ es.drop (k + 1)) := by
      show _ = _; rw [HP.out, List.drop_eq_getElem_cons hlt]; exact congrArg _ (if_pos hq)
     have HQ := hidE hq; clear HP hq; go_wp2
     go_quiet (fail)
     have HO1 := hidE (HO.out.drew nq); have HB1 := hidE (below_draws2 HB.out nq); clear HO HB
     go_wp2_with (first
      | (at_builtin; refine wpE_append rfl _ _ rfl W0.heap.size _ (es.take k) rfl (World.ownsRow.alloc HO1.out _) _ _ wr.heap.size 0 [⟨p, d, x⟩] 1 rfl rfl (fun _ => rfl) (ents_new _ ⟨p, d, x⟩) ?c1 ?c2 ?_)
      | fail)
     case c1 => rw [List.length_take]; simp; omega
     case c2 => simp; omega
     intro v' w4 hown' hgrow; have HB4 := hidE ((HB1.out.alloc hz3 _).grown hgrow (by simp; omega) (fun q hq => (World.ownsRow.lt HO1.out q hq).1)); have HO4 : Hid (OwnE w4 W0.heap.size v' (es.take k ++ [⟨p, d, x⟩])) := hown'; have hz4 := HB4.out.size; clear hown' hgrow HO1 HB1 b0 b1 b2 c0 c1 c2
     obtain ⟨b0, b1, b2⟩ : w4.cell? ⟨w.heap.size, 0, none⟩ = some (.string p) ∧ w4.cell? ⟨w.heap.size, 1, none⟩ = some (.int .i64 d) ∧ w4.cell? ⟨w.heap.size, 2, none⟩ = some (.string x) := by
      have := HB4.out; rw [HW.out] at this; exact box3 this
     obtain ⟨c0, c1, c2⟩ := (HE.out.below HB4.out) k hlt; have hq := HQ.out; have hq' : es[k].p.toList = p.toList := by simpa using hq
     by_cases hce : cap ≤ (k + 1)
     ·
      have hce' : cap = (k + 1) := by omega
      have hce2 : cap - (k + 1) = 0 := by omega
      go_wp2
      go_quiet (fail)
      have HO5 := hidE (HO4.out.drew nq); have HB5 := hidE (below_draws2 HB4.out nq); clear HO4 HB4
      go_wp2_with (first
       | (at_builtin; refine wpE_append rfl _ _ rfl W0.heap.size v' (es.take k ++ [⟨p, d, x⟩]) rfl HO5.out _ _ g o (es.drop (k + 1)) (es.length - (k + 1)) (List.length_drop ..) rfl (fun h => absurd h (by rw [List.length_drop]; omega)) ?hF ?c1 ?c2 ?_)
       | fail)
      case hF => exact ents_drop (HE.out.below HB5.out) _ _ (by omega)
      case c1 => rw [List.length_append, List.length_take, List.length_drop]; simp; omega
      case c2 => exact HB5.out.size
      intro v5 w5 ho5 hg5; have HB6 := hidE (HB5.out.grown hg5 HB5.out.size (fun q hq => (World.ownsRow.lt HO5.out q hq).1))
      have HO6 : Hid (OwnE w5 W0.heap.size v5 (es.take k ++ [⟨p, d, x⟩] ++ es.drop (k + 1))) := by
       show OwnE _ _ _ _
       first | exact ho5 | simpa using ho5
      clear ho5 hg5 HO5 HB5; go_wp2
      go_ret
      exact ⟨_, rfl, by rw [HP2.out]; exact HO6.out.lower (by rw [HS0.out]; omega), HB0.out.trans (HB6.out.mono (by rw [HS0.out]; omega))⟩
     ·
      have hce' : (k + 1) < cap := by omega
      have hce2 : ¬ (cap - (k + 1) = 0) := by omega
      go_wp2
      go_quiet (fail)
      have HO5 := hidE (HO4.out.drew nq); have HB5 := hidE (below_draws2 HB4.out nq); clear HO4 HB4
      go_wp2_with (first
       | (at_builtin; refine wpE_append rfl _ _ rfl W0.heap.size v' (es.take k ++ [⟨p, d, x⟩]) rfl HO5.out _ _ g (o + (k + 1) * 3) (es.drop (k + 1)) (es.length - (k + 1)) (List.length_drop ..) rfl (fun _ => rfl) ?hF ?c1 ?c2 ?_)
       | fail)
      case hF => exact ents_drop (HE.out.below HB5.out) _ _ (by omega)
      case c1 => rw [List.length_append, List.length_take, List.length_drop]; simp; omega
      case c2 => exact HB5.out.size
      intro v5 w5 ho5 hg5; have HB6 := hidE (HB5.out.grown hg5 HB5.out.size (fun q hq => (World.ownsRow.lt HO5.out q hq).1))
      have HO6 : Hid (OwnE w5 W0.heap.size v5 (es.take k ++ [⟨p, d, x⟩] ++ es.drop (k + 1))) := by
       show OwnE _ _ _ _
       first | exact ho5 | simpa using ho5
      clear ho5 hg5 HO5 HB5; go_wp2
      go_ret
      exact ⟨_, rfl, by rw [HP2.out]; exact HO6.out.lower (by rw [HS0.out]; omega), HB0.out.trans (HB6.out.mono (by rw [HS0.out]; omega))⟩
    | false =>
     have HP2 : Hid (putE es ⟨p, d, x⟩ = es.take k ++ [⟨p, d, x⟩] ++ es.drop k) := by
      show _ = _; rw [HP.out, List.drop_eq_getElem_cons hlt]; exact congrArg _ (if_neg (by rw [hq]; decide))
     have HQ := hidE hq; clear HP hq; go_wp2
     go_quiet (fail)
     have HO1 := hidE (HO.out.drew nq); have HB1 := hidE (below_draws2 HB.out nq); clear HO HB
     go_wp2_with (first
      | (at_builtin; refine wpE_append rfl _ _ rfl W0.heap.size _ (es.take k) rfl (World.ownsRow.alloc HO1.out _) _ _ wr.heap.size 0 [⟨p, d, x⟩] 1 rfl rfl (fun _ => rfl) (ents_new _ ⟨p, d, x⟩) ?c1 ?c2 ?_)
      | fail)
     case c1 => rw [List.length_take]; simp; omega
     case c2 => simp; omega
     intro v' w4 hown' hgrow; have HB4 := hidE ((HB1.out.alloc hz3 _).grown hgrow (by simp; omega) (fun q hq => (World.ownsRow.lt HO1.out q hq).1)); have HO4 : Hid (OwnE w4 W0.heap.size v' (es.take k ++ [⟨p, d, x⟩])) := hown'; have hz4 := HB4.out.size; clear hown' hgrow HO1 HB1 b0 b1 b2 c0 c1 c2
     obtain ⟨b0, b1, b2⟩ : w4.cell? ⟨w.heap.size, 0, none⟩ = some (.string p) ∧ w4.cell? ⟨w.heap.size, 1, none⟩ = some (.int .i64 d) ∧ w4.cell? ⟨w.heap.size, 2, none⟩ = some (.string x) := by
      have := HB4.out; rw [HW.out] at this; exact box3 this
     obtain ⟨c0, c1, c2⟩ := (HE.out.below HB4.out) k hlt; have hq := HQ.out; have hq' : ¬ (es[k].p.toList = p.toList) := by simpa using hq
     by_cases hce : cap ≤ k
     ·
      exact absurd hlt (by omega)
     ·
      have hce' : k < cap := by omega
      have hce2 : ¬ (cap - k = 0) := by omega
      go_wp2
      go_quiet (fail)
      have HO5 := hidE (HO4.out.drew nq); have HB5 := hidE (below_draws2 HB4.out nq); clear HO4 HB4
      go_wp2_with (first
       | (at_builtin; refine wpE_append rfl _ _ rfl W0.heap.size v' (es.take k ++ [⟨p, d, x⟩]) rfl HO5.out _ _ g (o + k * 3) (es.drop k) (es.length - k) (List.length_drop ..) rfl (fun _ => rfl) ?hF ?c1 ?c2 ?_)
       | fail)
      case hF => exact ents_drop (HE.out.below HB5.out) _ _ (by omega)
      case c1 => rw [List.length_append, List.length_take, List.length_drop]; simp; omega
      case c2 => exact HB5.out.size
      intro v5 w5 ho5 hg5; have HB6 := hidE (HB5.out.grown hg5 HB5.out.size (fun q hq => (World.ownsRow.lt HO5.out q hq).1))
      have HO6 : Hid (OwnE w5 W0.heap.size v5 (es.take k ++ [⟨p, d, x⟩] ++ es.drop k)) := by
       show OwnE _ _ _ _
       first | exact ho5 | simpa using ho5
      clear ho5 hg5 HO5 HB5; go_wp2
      go_ret
      exact ⟨_, rfl, by rw [HP2.out]; exact HO6.out.lower (by rw [HS0.out]; omega), HB0.out.trans (HB6.out.mono (by rw [HS0.out]; omega))⟩
  ·
   obtain ⟨S1, S2⟩ := span_at (q := ltP ⟨p, d, x⟩) es k hk HA.out (fun h => absurd h hlt); have HP2 : Hid (putE es ⟨p, d, x⟩ = es.take k ++ [⟨p, d, x⟩]) := by show _ = _; unfold putE; rw [S1, S2, List.drop_of_length_le (by omega)]; exact List.append_nil _
   clear S1 S2; have hkl : es.length ≤ k := by omega
   go_wp2
   go_quiet (fail)
   have HO1 := hidE (HO.out.drew nq); have HB1 := hidE (below_draws2 HB.out nq); clear HO HB
   go_wp2_with (first
    | (at_builtin; refine wpE_append rfl _ _ rfl W0.heap.size _ (es.take k) rfl (World.ownsRow.alloc HO1.out _) _ _ wr.heap.size 0 [⟨p, d, x⟩] 1 rfl rfl (fun _ => rfl) (ents_new _ ⟨p, d, x⟩) ?c1 ?c2 ?_)
    | fail)
   case c1 => rw [List.length_take]; simp; omega
   case c2 => simp; omega
   intro v' w4 hown' hgrow; have HB4 := hidE ((HB1.out.alloc hz3 _).grown hgrow (by simp; omega) (fun q hq => (World.ownsRow.lt HO1.out q hq).1)); have HO4 : Hid (OwnE w4 W0.heap.size v' (es.take k ++ [⟨p, d, x⟩])) := hown'; have hz4 := HB4.out.size; clear hown' hgrow HO1 HB1 b0 b1 b2; cases a with
   | none =>
    by_cases hce : cap ≤ k
    ·
     have hce' : cap = k := by omega
     have hce2 : cap - k = 0 := by omega
     go_wp2
     go_quiet (fail)
     have HO5 := hidE (HO4.out.drew nq); have HB5 := hidE (below_draws2 HB4.out nq); clear HO4 HB4
     go_wp2_with (first
      | (at_builtin; refine wpE_append rfl _ _ rfl W0.heap.size v' (es.take k ++ [⟨p, d, x⟩]) rfl HO5.out _ _ 0 0 [] (es.length - k) (by show 0 = _; omega) rfl (fun h => absurd h (by decide)) (fun i hi => absurd hi (by simp)) ?c1 ?c2 ?_)
      | (at_builtin; refine wpE_append rfl _ _ rfl W0.heap.size v' (es.take k ++ [⟨p, d, x⟩]) rfl HO5.out _ _ 0 0 [] 0 rfl rfl (fun h => absurd h (by decide)) (fun i hi => absurd hi (by simp)) ?c1 ?c2 ?_)
      | fail)
     case c1 => simp; omega
     case c2 => exact HB5.out.size
     intro v5 w5 ho5 hg5; have HB6 := hidE (HB5.out.grown hg5 HB5.out.size (fun q hq => (World.ownsRow.lt HO5.out q hq).1))
     have HO6 : Hid (OwnE w5 W0.heap.size v5 (es.take k ++ [⟨p, d, x⟩])) := by
      show OwnE _ _ _ _
      first | exact ho5 | simpa using ho5
     clear ho5 hg5 HO5 HB5; go_wp2
     go_ret
     exact ⟨_, rfl, by rw [HP2.out]; exact HO6.out.lower (by rw [HS0.out]; omega), HB0.out.trans (HB6.out.mono (by rw [HS0.out]; omega))⟩
    ·
     have hce' : k < cap := by omega
     have hce2 : ¬ (cap - k = 0) := by omega
     go_wp2
     go_quiet (fail)
     have HO5 := hidE (HO4.out.drew nq); have HB5 := hidE (below_draws2 HB4.out nq); clear HO4 HB4
     go_wp2_with (first
      | (at_builtin; refine wpE_append rfl _ _ rfl W0.heap.size v' (es.take k ++ [⟨p, d, x⟩]) rfl HO5.out _ _ 0 0 [] (es.length - k) (by show 0 = _; omega) rfl (fun h => absurd h (by decide)) (fun i hi => absurd hi (by simp)) ?c1 ?c2 ?_)
      | (at_builtin; refine wpE_append rfl _ _ rfl W0.heap.size v' (es.take k ++ [⟨p, d, x⟩]) rfl HO5.out _ _ 0 0 [] 0 rfl rfl (fun h => absurd h (by decide)) (fun i hi => absurd hi (by simp)) ?c1 ?c2 ?_)
      | fail)
     case c1 => simp; omega
     case c2 => exact HB5.out.size
     intro v5 w5 ho5 hg5; have HB6 := hidE (HB5.out.grown hg5 HB5.out.size (fun q hq => (World.ownsRow.lt HO5.out q hq).1))
     have HO6 : Hid (OwnE w5 W0.heap.size v5 (es.take k ++ [⟨p, d, x⟩])) := by
      show OwnE _ _ _ _
      first | exact ho5 | simpa using ho5
     clear ho5 hg5 HO5 HB5; go_wp2
     go_ret
     exact ⟨_, rfl, by rw [HP2.out]; exact HO6.out.lower (by rw [HS0.out]; omega), HB0.out.trans (HB6.out.mono (by rw [HS0.out]; omega))⟩
   | some ad =>
    by_cases hce : cap ≤ k
    ·
     have hce' : cap = k := by omega
     have hce2 : cap - k = 0 := by omega
     go_wp2
     go_quiet (fail)
     have HO5 := hidE (HO4.out.drew nq); have HB5 := hidE (below_draws2 HB4.out nq); clear HO4 HB4
     go_wp2_with (first
      | (at_builtin; refine wpE_append rfl _ _ rfl W0.heap.size v' (es.take k ++ [⟨p, d, x⟩]) rfl HO5.out _ _ 0 0 [] (es.length - k) (by show 0 = _; omega) rfl (fun h => absurd h (by decide)) (fun i hi => absurd hi (by simp)) ?c1 ?c2 ?_)
      | (at_builtin; refine wpE_append rfl _ _ rfl W0.heap.size v' (es.take k ++ [⟨p, d, x⟩]) rfl HO5.out _ _ 0 0 [] 0 rfl rfl (fun h => absurd h (by decide)) (fun i hi => absurd hi (by simp)) ?c1 ?c2 ?_)
      | fail)
     case c1 => simp; omega
     case c2 => exact HB5.out.size
     intro v5 w5 ho5 hg5; have HB6 := hidE (HB5.out.grown hg5 HB5.out.size (fun q hq => (World.ownsRow.lt HO5.out q hq).1))
     have HO6 : Hid (OwnE w5 W0.heap.size v5 (es.take k ++ [⟨p, d, x⟩])) := by
      show OwnE _ _ _ _
      first | exact ho5 | simpa using ho5
     clear ho5 hg5 HO5 HB5; go_wp2
     go_ret
     exact ⟨_, rfl, by rw [HP2.out]; exact HO6.out.lower (by rw [HS0.out]; omega), HB0.out.trans (HB6.out.mono (by rw [HS0.out]; omega))⟩
    ·
     have hce' : k < cap := by omega
     have hce2 : ¬ (cap - k = 0) := by omega
     go_wp2
     go_quiet (fail)
     have HO5 := hidE (HO4.out.drew nq); have HB5 := hidE (below_draws2 HB4.out nq); clear HO4 HB4
     go_wp2_with (first
      | (at_builtin; refine wpE_append rfl _ _ rfl W0.heap.size v' (es.take k ++ [⟨p, d, x⟩]) rfl HO5.out _ _ 0 0 [] (es.length - k) (by show 0 = _; omega) rfl (fun h => absurd h (by decide)) (fun i hi => absurd hi (by simp)) ?c1 ?c2 ?_)
      | (at_builtin; refine wpE_append rfl _ _ rfl W0.heap.size v' (es.take k ++ [⟨p, d, x⟩]) rfl HO5.out _ _ 0 0 [] 0 rfl rfl (fun h => absurd h (by decide)) (fun i hi => absurd hi (by simp)) ?c1 ?c2 ?_)
      | fail)
     case c1 => simp; omega
     case c2 => exact HB5.out.size
     intro v5 w5 ho5 hg5; have HB6 := hidE (HB5.out.grown hg5 HB5.out.size (fun q hq => (World.ownsRow.lt HO5.out q hq).1))
     have HO6 : Hid (OwnE w5 W0.heap.size v5 (es.take k ++ [⟨p, d, x⟩])) := by
      show OwnE _ _ _ _
      first | exact ho5 | simpa using ho5
     clear ho5 hg5 HO5 HB5; go_wp2
     go_ret
     exact ⟨_, rfl, by rw [HP2.out]; exact HO6.out.lower (by rw [HS0.out]; omega), HB0.out.trans (HB6.out.mono (by rw [HS0.out]; omega))⟩
end Go.Proofs.YteppodogghjfhaaGreatDoor.Mk
namespace Go.Proofs.YteppodogghjfhaaGreatDoor
open Go.RowKit Go.Lib
theorem eq_ent (a b c a' b' c' : _) (w : World) : (Op.equalIn 10000 43 (.agg #[.string a, .bool b, .string c]) (.agg #[.string a', .bool b', .string c'])).run Tryz.prog w = .ok ((a.toList == a'.toList) && (b == b') && (c.toList == c'.toList)) w := by
 have u9 := Tryz.underlying9; have u4 := Tryz.underlying4; have a9 := Tryz.isAgg9; have a4 := Tryz.isAgg4; have z9 := Tryz.sizeOf9; have z4 := Tryz.sizeOf4; have hS : Tryz.prog.underlying 43 = some (.struct (Tryz.prog.fieldsOf 43)) := by kernel_rfl
 have hp : Tryz.prog.stoodInHeld 43 = false := by kernel_rfl
 rw [show (10000 : Nat) = 9999 + 1 from rfl, run_equalIn_agg w 9999 43 _ _ hS hp]; simp only [Program.fieldsOf, Tryz.underlying43]; go_simp; cases h1 : (a.toList == a'.toList) <;> cases h2 : (b == b') <;> cases h3 : (c.toList == c'.toList) <;> simp_all
theorem guard_ent (op : BinOp) (x y : Operand) (xs ys : Array Value) (w : World) : (eqGuard op 43 x y (.agg xs) (.agg ys)).run Tryz.prog w = .ok () w := run_eqGuard_agg w op 43 x y xs ys (by kernel_rfl)
end Go.Proofs.YteppodogghjfhaaGreatDoor
namespace Go.Proofs.YteppodogghjfhaaGreatDoor.Mk
open Go.RowKit Go.Lib
theorem eq_ent (a b c a' b' c' : _) (w : World) : (Op.equalIn 10000 99 (.agg #[.string a, .int .i64 b, .string c]) (.agg #[.string a', .int .i64 b', .string c'])).run Tryz.prog w = .ok ((a.toList == a'.toList) && (b == b') && (c.toList == c'.toList)) w := by
 have u9 := Tryz.underlying9; have u4 := Tryz.underlying3; have a9 := Tryz.isAgg9; have a3 := Tryz.isAgg3; have z9 := Tryz.sizeOf9; have z4 := Tryz.sizeOf3; have hS : Tryz.prog.underlying 99 = some (.struct (Tryz.prog.fieldsOf 99)) := by kernel_rfl
 have hp : Tryz.prog.stoodInHeld 99 = false := by kernel_rfl
 rw [show (10000 : Nat) = 9999 + 1 from rfl, run_equalIn_agg w 9999 99 _ _ hS hp]; simp only [Program.fieldsOf, Tryz.underlying99]; go_simp; cases h1 : (a.toList == a'.toList) <;> cases h2 : (b == b') <;> cases h3 : (c.toList == c'.toList) <;> simp_all
theorem guard_ent (op : BinOp) (x y : Operand) (xs ys : Array Value) (w : World) : (eqGuard op 99 x y (.agg xs) (.agg ys)).run Tryz.prog w = .ok () w := run_eqGuard_agg w op 99 x y xs ys (by kernel_rfl)
attribute [local go_sem] eq_ent guard_ent
theorem same_len : ∀ (es fs : List E), es.length ≠ fs.length → sameT es fs = false
 | [], [], h => absurd rfl h
 | [], _ :: _, _ => rfl
 | _ :: _, [], _ => rfl
 | e :: r, f :: q, h => by
  unfold sameT; rw [same_len r q (fun e => h (by simp [e])), Bool.and_false]
theorem below_draws' {B : Nat} {a w : World} (h : Below B a w) (n : Nat) : Below B a (w.drewN n) := h.trans ⟨rfl, rfl, rfl, Nat.le_refl _, fun _ _ => rfl⟩
set_option maxHeartbeats 800000 in
set_option maxRecDepth 100000 in
theorem sTreeSame_any (w : World) (a : Option Addr) (g o cap : Nat) (es : List E) (a' : Option Addr) (g' o' cap' : Nat) (fs : List E) (hl : es.length ≤ 16777216) (_hl' : fs.length ≤ 16777216) (ha : 0 < es.length → a = some ⟨g, o, none⟩) (ha' : 0 < fs.length → a' = some ⟨g', o', none⟩) (hE : Ents w g o es) (hF : Ents w g' o' fs) :
  Calls Tryz.prog 37 #[.slice a es.length cap, .slice a' fs.length cap'] w fun e w' => e = .returned (.bool (sameT es fs)) ∧ Below w.heap.size w w' := by
 have HE := hidE hE; have HF := hidE hF; clear hE hF; by_cases hn : es.length = fs.length
 ·
  have hb : ((es.length : Int) != (fs.length : Int)) = false := by rw [hn]; simp
  have hle : fs.length ≤ es.length := by omega
  have hge : es.length ≤ fs.length := by omega
  clear hn; go_enter Tryz.func37, Tryz.ntmps37
  go_wp2
  go_loopw [5] (fun iv wl => ∃ k : Nat, k ≤ es.length ∧ iv = .int .i64 k ∧ Hid (Below w.heap.size w wl) ∧ Hid (sameT es fs = sameT (es.drop k) (fs.drop k))) (fun iv _ => es.length - (RowKit.intOf iv).toNat)
  case atStart => exact ⟨0, Nat.zero_le _, rfl, Below.refl _ _, rfl⟩
  case round =>
   obtain ⟨k, hk, rfl, HB, HS⟩ := hrel; by_cases hlt : k < es.length
   ·
    have hlt' : k < fs.length := by omega
    obtain rfl := ha (by omega); obtain rfl := ha' (by omega); obtain ⟨c0, c1, c2⟩ := (HE.out.below HB.out) k hlt; obtain ⟨c0', c1', c2'⟩ := (HF.out.below HB.out) k hlt'; have HD := hidE (same_drop es fs k hlt hlt'); by_cases h1 : es[k].p.toList = fs[k].p.toList
    ·
     by_cases h2 : es[k].d = fs[k].d
     ·
      by_cases h3 : es[k].x.toList = fs[k].x.toList
      ·
       have HN : Hid (sameT es fs = sameT (es.drop (k + 1)) (fs.drop (k + 1))) := by show _ = _; rw [HS.out, HD.out]; unfold sameT1; simp [*]
       go_wp2
       go_quiet (fail)
       go_wp2
       go_roundw
       case rel => exact ⟨k + 1, by omega, by go_num, below_draws' HB.out _, HN⟩
       case measure => simp [RowKit.intOf]; omega
      ·
       have HN : Hid (sameT es fs = false) := by show _ = _; rw [HS.out, HD.out]; unfold sameT1; simp [*]
       go_wp2
       go_quiet (fail)
       go_wp2
       go_ret
       exact ⟨ret_bE HN.out.symm, below_draws' HB.out _⟩
     ·
      have HN : Hid (sameT es fs = false) := by show _ = _; rw [HS.out, HD.out]; unfold sameT1; simp [*]
      go_wp2
      go_quiet (fail)
      go_wp2
      go_ret
      exact ⟨ret_bE HN.out.symm, below_draws' HB.out _⟩
    ·
     have HN : Hid (sameT es fs = false) := by show _ = _; rw [HS.out, HD.out]; unfold sameT1; simp [*]
     go_wp2
     go_quiet (fail)
     go_wp2
     go_ret
     exact ⟨ret_bE HN.out.symm, below_draws' HB.out _⟩
   ·
    go_wp2
    go_ret
    exact ⟨ret_bE (by rw [HS.out, List.drop_of_length_le (by omega), List.drop_of_length_le (by omega)]; rfl), HB.out⟩
 ·
  have hn2 : ((es.length : Int) == (fs.length : Int)) = false := by rw [beq_eq_false_iff_ne]; omega
  go_enter Tryz.func37, Tryz.ntmps37
  go_wp2
  go_ret
  exact ⟨ret_bE (same_len es fs hn).symm, Below.refl _ _⟩
end Go.Proofs.YteppodogghjfhaaGreatDoor.Mk
namespace Go.Proofs.YteppodogghjfhaaGreatDoor.Mk
open Go.RowKit Go.Lib
attribute [local go_sem] eq_ent guard_ent
set_option maxHeartbeats 800000 in
set_option maxRecDepth 100000 in
theorem equal_any (w : World) (a : Option Addr) (g o cap : Nat) (es : List E) (a' : Option Addr) (g' o' cap' : Nat) (fs : List E) (hl : es.length ≤ 16777216) (_hl' : fs.length ≤ 16777216) (ha : 0 < es.length → a = some ⟨g, o, none⟩) (ha' : 0 < fs.length → a' = some ⟨g', o', none⟩) (hE : Ents w g o es) (hF : Ents w g' o' fs) :
  Calls Tryz.prog 107 #[.slice a es.length cap, .slice a' fs.length cap'] w fun e w' => e = .returned (.bool (sameT es fs)) ∧ Below w.heap.size w w' := by
 have HE := hidE hE; have HF := hidE hF; clear hE hF; by_cases hn : es.length = fs.length
 ·
  have hb : ((es.length : Int) != (fs.length : Int)) = false := by rw [hn]; simp
  have hle : fs.length ≤ es.length := by omega
  have hge : es.length ≤ fs.length := by omega
  clear hn; go_enter Tryz.func107, Tryz.ntmps107
  go_wp2
  go_loopw [13] (fun iv wl => ∃ k : Nat, k ≤ es.length ∧ iv = .int .i64 k ∧ Hid (Below w.heap.size w wl) ∧ Hid (sameT es fs = sameT (es.drop k) (fs.drop k))) (fun iv _ => es.length - (RowKit.intOf iv).toNat)
  case atStart => exact ⟨0, Nat.zero_le _, rfl, Below.refl _ _, rfl⟩
  case round =>
   obtain ⟨k, hk, rfl, HB, HS⟩ := hrel; by_cases hlt : k < es.length
   ·
    have hlt' : k < fs.length := by omega
    obtain rfl := ha (by omega); obtain rfl := ha' (by omega); obtain ⟨c0, c1, c2⟩ := (HE.out.below HB.out) k hlt; obtain ⟨c0', c1', c2'⟩ := (HF.out.below HB.out) k hlt'; have HD := hidE (same_drop es fs k hlt hlt'); by_cases h1 : es[k].p.toList = fs[k].p.toList
    ·
     by_cases h2 : es[k].d = fs[k].d
     ·
      by_cases h3 : es[k].x.toList = fs[k].x.toList
      ·
       have HN : Hid (sameT es fs = sameT (es.drop (k + 1)) (fs.drop (k + 1))) := by show _ = _; rw [HS.out, HD.out]; unfold sameT1; simp [*]
       go_wp2
       go_quiet (fail)
       go_wp2
       go_roundw
       case rel => exact ⟨k + 1, by omega, by go_num, below_draws' HB.out _, HN⟩
       case measure => simp [RowKit.intOf]; omega
      ·
       have HN : Hid (sameT es fs = false) := by show _ = _; rw [HS.out, HD.out]; unfold sameT1; simp [*]
       go_wp2
       go_quiet (fail)
       go_wp2
       go_ret
       exact ⟨ret_bE HN.out.symm, below_draws' HB.out _⟩
     ·
      have HN : Hid (sameT es fs = false) := by show _ = _; rw [HS.out, HD.out]; unfold sameT1; simp [*]
      go_wp2
      go_quiet (fail)
      go_wp2
      go_ret
      exact ⟨ret_bE HN.out.symm, below_draws' HB.out _⟩
    ·
     have HN : Hid (sameT es fs = false) := by show _ = _; rw [HS.out, HD.out]; unfold sameT1; simp [*]
     go_wp2
     go_quiet (fail)
     go_wp2
     go_ret
     exact ⟨ret_bE HN.out.symm, below_draws' HB.out _⟩
   ·
    go_wp2
    go_ret
    exact ⟨ret_bE (by rw [HS.out, List.drop_of_length_le (by omega), List.drop_of_length_le (by omega)]; rfl), HB.out⟩
 ·
  have hn2 : ((es.length : Int) == (fs.length : Int)) = false := by rw [beq_eq_false_iff_ne]; omega
  go_enter Tryz.func107, Tryz.ntmps107
  go_wp2
  go_ret
  exact ⟨ret_bE (same_len es fs hn).symm, Below.refl _ _⟩
theorem iTreeSame_any (w : World) (a : Option Addr) (g o cap : Nat) (es : List E) (a' : Option Addr) (g' o' cap' : Nat) (fs : List E) (hl : es.length ≤ 16777216) (hl' : fs.length ≤ 16777216) (ha : 0 < es.length → a = some ⟨g, o, none⟩) (ha' : 0 < fs.length → a' = some ⟨g', o', none⟩) (hE : Ents w g o es) (hF : Ents w g' o' fs) :
  Calls Tryz.prog 77 #[.slice a es.length cap, .slice a' fs.length cap'] w fun e w' => e = .returned (.bool (sameT es fs)) ∧ Below w.heap.size w w' := by
 have HQ := hidE (equal_any w a g o cap es a' g' o' cap' fs hl hl' ha ha' hE hF); clear hE hF ha ha'; go_enter Tryz.func77, Tryz.ntmps77
 go_wp2_with (go_at_call 107; refine HQ.out.mono ?_; rintro e w1 ⟨rfl, hB1⟩)
 go_ret
 exact ⟨rfl, hB1⟩
end Go.Proofs.YteppodogghjfhaaGreatDoor.Mk
namespace Go.Proofs.YteppodogghjfhaaGreatDoor
open Go.RowKit Go.Lib
structure OnlyB3 (b : Nat) (w w' : World) : Prop where
 os : w'.os = w.os
 tape : w'.tape = w.tape
 output : w'.output = w.output
 size : w'.heap.size = w.heap.size
 block : ∀ k, k ≠ b → w'.heap[k]? = w.heap[k]?
theorem OnlyB3.trans {b : Nat} {x y z : World} (h : OnlyB3 b x y) (k : OnlyB3 b y z) : OnlyB3 b x z :=
 ⟨k.os.trans h.os, k.tape.trans h.tape, k.output.trans h.output, k.size.trans h.size, fun i hi => (k.block i hi).trans (h.block i hi)⟩
theorem OnlyB3.setRow (b : Nat) (w : World) (cs : Array Value) : OnlyB3 b w (w.setRow b cs) := ⟨rfl, rfl, rfl, setRow_size _ _ _, fun k hk => setRow_other w b k cs hk⟩
theorem OnlyB3.below {b n : Nat} {x y z : World} (k : OnlyB3 b y z) (h : Below n x y) (hb : n ≤ b) : Below n x z :=
 ⟨k.os.trans h.os, k.tape.trans h.tape, k.output.trans h.output, by rw [k.size]; exact h.size, fun i hi => (k.block i (by omega)).trans (h.block i hi)⟩
theorem cell_off3 (w : World) (b i j : Nat) (v : Value) (h : i ≠ j) : (w.setCell ⟨b, i, none⟩ v).cell? ⟨b, j, none⟩ = w.cell? ⟨b, j, none⟩ := World.cell?_setCell_other _ _ _ _ (fun q => by have e := congrArg Addr.off q; dsimp only at e; omega)
theorem set3_rules {w : World} {b : Nat} {c0 c1 c2 : Value} {T : TypeId} (h : w.heap[b]? = some (.cells #[c0, c1, c2] T (0, 0))) :
  (w.cell? ⟨b, 0, none⟩ = some c0 ∧ w.frozen? ⟨b, 0, none⟩ = false) ∧ (∀ u, (w.setCell ⟨b, 0, none⟩ u).cell? ⟨b, 1, none⟩ = some c1 ∧ (w.setCell ⟨b, 0, none⟩ u).frozen? ⟨b, 1, none⟩ = false) ∧
  (∀ u x, ((w.setCell ⟨b, 0, none⟩ u).setCell ⟨b, 1, none⟩ x).cell? ⟨b, 2, none⟩ = some c2 ∧ ((w.setCell ⟨b, 0, none⟩ u).setCell ⟨b, 1, none⟩ x).frozen? ⟨b, 2, none⟩ = false) := by
 have hf : ∀ j, w.frozen? ⟨b, j, none⟩ = false := fun j => by simp [World.frozen?, h]
 have hc : ∀ j, w.cell? ⟨b, j, none⟩ = #[c0, c1, c2][j]? := fun j => cell_of_row w b j _ _ _ h; refine ⟨⟨hc 0, hf 0⟩, fun u => ⟨?_, ?_⟩, fun u x => ⟨?_, ?_⟩⟩
 ·
  rw [cell_off3 _ _ _ _ _ (by omega)]; exact hc 1
 ·
  rw [World.frozen?_setCell]; exact hf 1
 ·
  rw [cell_off3 _ _ _ _ _ (by omega), cell_off3 _ _ _ _ _ (by omega)]; exact hc 2
 ·
  rw [World.frozen?_setCell, World.frozen?_setCell]; exact hf 2
theorem set3_is {w : World} {b : Nat} {c0 c1 c2 : Value} {T : TypeId} (h : w.heap[b]? = some (.cells #[c0, c1, c2] T (0, 0))) (u x y : Value) :
  OnlyB3 b w (((w.setCell ⟨b, 0, none⟩ u).setCell ⟨b, 1, none⟩ x).setCell ⟨b, 2, none⟩ y) ∧ (((w.setCell ⟨b, 0, none⟩ u).setCell ⟨b, 1, none⟩ x).setCell ⟨b, 2, none⟩ y).heap[b]? = some (.cells #[u, x, y] T (0, 0)) := by
 rw [setCell_eq_setRow w b 0 _ T (0, 0) u h]; have h1 := setRow_heap w b _ (#[c0, c1, c2].setIfInBounds 0 u) T (0, 0) h; rw [setCell_eq_setRow _ b 1 _ T (0, 0) x h1]; have h2 := setRow_heap _ b _ ((#[c0, c1, c2].setIfInBounds 0 u).setIfInBounds 1 x) T (0, 0) h1; rw [setCell_eq_setRow _ b 2 _ T (0, 0) y h2]; exact ⟨((OnlyB3.setRow b w _).trans (OnlyB3.setRow b _ _)).trans (OnlyB3.setRow b _ _), setRow_heap _ b _ _ T (0, 0) h2⟩
end Go.Proofs.YteppodogghjfhaaGreatDoor
