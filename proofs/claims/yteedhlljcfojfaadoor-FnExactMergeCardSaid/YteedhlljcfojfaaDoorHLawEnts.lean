/-
  The walks of what the exact laws do with lists of entries: their sizes, a copy of the other type, and whether two are the same.
-/
import Derived.Laws.MakeOwn
import Derived.Laws.ResultCell
import Derived.Lib.QuietBelow
import Derived.Test.YteedhlljcfojfaaDoorHPk16
namespace Go.Proofs.YteedhlljcfojfaaDoor
open Go.RowKit Go.Lib Go.Sort

set_option maxHeartbeats 400000 in
theorem szEnt_any (w : World) (p x : ByteArray) (d : Bool) (left : Int) (hl : 0 ≤ left) (hl' : left ≤ 1048576) (hp : p.size ≤ maxLen) (hx : x.size ≤ maxLen) :
    Calls Tryd.prog 17 #[.agg #[.string p, .bool d, .string x], .int .i64 left] w fun e w' => ∃ r : Int, e = .returned (.int .i64 r) ∧ r ≤ left ∧ -1 ≤ r ∧ (0 ≤ r → (p.size : Int) ≤ left ∧ (x.size : Int) ≤ left) ∧ Below w.heap.size w w' := by
  unfold maxLen at hp hx
  have hB : ∀ t, Below w.heap.size w (w.alloc (.cells #[.string p, .bool d, .string x] t)) := fun t => (Below.refl _ w).alloc (Nat.le_refl _) _
  have HB := hidE hB
  clear hB
  by_cases h1 : (p.size : Int) ≤ left
  · by_cases h2 : (p.size : Int) + (x.size : Int) ≤ left
    · go_enter Tryd.func17, Tryd.ntmps17
      go_wp2
      go_ret
      exact ⟨_, rfl, by omega, by omega, fun _ => ⟨by omega, by omega⟩, HB.out _⟩
    · go_enter Tryd.func17, Tryd.ntmps17
      go_wp2
      go_ret
      exact ⟨_, rfl, by omega, by omega, fun h => by omega, HB.out _⟩
  · go_enter Tryd.func17, Tryd.ntmps17
    go_wp2
    go_ret
    exact ⟨_, rfl, by omega, by omega, fun h => by omega, HB.out _⟩

set_option maxHeartbeats 800000 in
set_option maxRecDepth 100000 in
theorem szEntS_any (w : World) (a : Option Addr) (g o cap : Nat) (es : List E) (left : Int) (h0 : 0 ≤ left) (hl : left ≤ 1048576) (hn : es.length ≤ maxLen) (hz : ∀ e ∈ es, e.p.size ≤ maxLen ∧ e.x.size ≤ maxLen) (ha : 0 < es.length → a = some ⟨g, o, none⟩) (hE : Ents w g o es) :
    Calls Tryd.prog 5 #[.slice a es.length cap, .int .i64 left] w fun e w' => ∃ r : Int, e = .returned (.int .i64 r) ∧ r ≤ left ∧ -1 ≤ r ∧ (0 ≤ r → (es.length : Int) ≤ left ∧ ∀ e ∈ es, (e.p.size : Int) ≤ left ∧ (e.x.size : Int) ≤ left) ∧ Below w.heap.size w w' := by
  have HE := hidE hE
  have HZ := hidE hz
  clear hE hz
  unfold maxLen at hn
  by_cases hlen : (es.length : Int) ≤ left
  · go_enter Tryd.func5, Tryd.ntmps5
    go_wp2
    go_loopw [1, 5] (fun lv iv wl => ∃ (k : Nat) (r : Int), k ≤ es.length ∧ iv = .int .i64 k ∧ lv = .int .i64 r ∧ 0 ≤ r ∧ r ≤ left ∧ Hid (Below w.heap.size w wl) ∧ Hid (∀ j (h : j < es.length), j < k → (es[j].p.size : Int) ≤ left ∧ (es[j].x.size : Int) ≤ left)) (fun _ iv _ => es.length - (RowKit.intOf iv).toNat)
    case atStart => exact ⟨0, left - es.length, Nat.zero_le _, rfl, rfl, by omega, by omega, Below.refl _ _, fun j _ h => by omega⟩
    case round =>
      obtain ⟨k, r, hk, rfl, rfl, r0, r1, HB, HA⟩ := hrel
      by_cases hlt : k < es.length
      · obtain rfl := ha (by omega)
        obtain ⟨c0, c1, c2⟩ := (HE.out.below HB.out) k hlt
        obtain ⟨z0, z1⟩ := HZ.out es[k] (List.getElem_mem _)
        go_wp2_with fail
        refine (szEnt_any _ _ _ _ r r0 (by omega) z0 z1).mono ?_
        rintro e w2 ⟨r2, rfl, q0, q1, q2, hB2⟩
        have HB2 := hidE (HB.out.trans (hB2.mono HB.out.size))
        have HQ := hidE q2
        clear hB2 q2 HB c0 c1 c2
        by_cases hr2 : 0 ≤ r2
        · go_wp2
          go_roundw
          case rel => exact ⟨k + 1, r2, by omega, by go_num, rfl, hr2, by omega, HB2, fun j hj hjk => by
            by_cases e : j = k
            · subst e; have := HQ.out hr2; exact ⟨by omega, by omega⟩
            · exact HA.out j hj (by omega)⟩
          case measure => simp [RowKit.intOf]; omega
        · go_wp2
          go_ret
          exact ⟨_, rfl, by omega, by omega, fun h => by omega, HB2.out⟩
      · go_wp2
        go_ret
        refine ⟨_, rfl, r1, by omega, fun _ => ⟨hlen, fun e he => ?_⟩, HB.out⟩
        obtain ⟨j, hj, ej⟩ := List.getElem_of_mem he
        rw [← ej]
        exact HA.out j hj (by omega)
  · go_enter Tryd.func5, Tryd.ntmps5
    go_wp2
    go_ret
    exact ⟨_, rfl, by omega, by omega, fun h => by omega, Below.refl _ _⟩

set_option maxHeartbeats 400000 in
theorem toEnt_any (w : World) (p x : ByteArray) (d : Bool) :
    Calls Tryd.prog 21 #[.agg #[.string p, .bool d, .string x]] w fun e w' => e = .returned (.agg #[.string p, .bool d, .string x]) ∧ Below w.heap.size w w' := by
  have hB : ∀ t t' t'', Below w.heap.size w (((w.alloc (.cells #[.string p, .bool d, .string x] t)).alloc (.cells #[.string p, .bool d, .string x] t')).alloc (.cells #[.string p, .bool d, .string x] t'')) := fun _ _ _ => (((Below.refl _ w).alloc (Nat.le_refl _) _).alloc (by simp) _).alloc (by simp; omega) _
  have HB := hidE hB
  clear hB
  go_enter Tryd.func21, Tryd.ntmps21
  go_wp2
  exact bodyPost_ret (v := .agg #[.string p, .bool d, .string x]) (by simp [results, Tryd.results21, go_sem]) rfl ⟨rfl, HB.out _ _ _⟩

theorem Tryd.infoE : (Tryd.prog.info? 39).map (fun i => (i.zero, i.size, i.bytes)) = some (some (.agg #[.string ByteArray.empty, .bool false, .string ByteArray.empty]), 3, 40) := by kernel_rfl

/-- There is room for so many cells in a block. -/
def Room (w : World) (g n : Nat) : Prop := ∀ i, i < n → (∃ v, w.cell? ⟨g, i, none⟩ = some v) ∧ w.frozen? ⟨g, i, none⟩ = false
theorem Room.below {w w' : World} {g n : Nat} (h : Room w g n) (hb : Below w.heap.size w w') : Room w' g n := fun i hi => by
  obtain ⟨⟨v, hv⟩, hf⟩ := h i hi
  have lt : g < w.heap.size := World.block_lt_of_cell? w ⟨g, i, none⟩ hv
  exact ⟨⟨v, (hb.cell (p := ⟨g, i, none⟩) lt).trans hv⟩, (hb.frozen (p := ⟨g, i, none⟩) lt).trans hf⟩
theorem Room.set {w : World} {g n : Nat} (h : Room w g n) (b j : Nat) (v : Value) : Room (w.setCell ⟨b, j, none⟩ v) g n := fun i hi => by
  obtain ⟨⟨u, hu⟩, hf⟩ := h i hi
  obtain ⟨u', hu'⟩ := cell?_setCell_some (w := w) (p := ⟨b, j, none⟩) (x := v) (q := ⟨g, i, none⟩) (v := u) hu
  exact ⟨⟨u', hu'⟩, by rw [World.frozen?_setCell]; exact hf⟩

theorem cell_ne (w : World) (g i j : Nat) (v : Value) (h : i ≠ j) : (w.setCell ⟨g, i, none⟩ v).cell? ⟨g, j, none⟩ = w.cell? ⟨g, j, none⟩ := World.cell?_setCell_other _ _ _ _ (fun q => by have e := congrArg Addr.off q; dsimp only at e; omega)
theorem cell_eq {w : World} {g i : Nat} {u : Value} (v : Value) (h : w.cell? ⟨g, i, none⟩ = some u) : (w.setCell ⟨g, i, none⟩ v).cell? ⟨g, i, none⟩ = some v := World.cell?_setCell_same' _ _ _ (by rw [h]; rfl)
/-- One entry more is written behind those that lie there. -/
theorem Ents.put {w : World} {g k : Nat} {es : List E} (hk : k < es.length) (h : Ents w g 0 (es.take k)) {v0 v1 v2 : Value} (e0 : w.cell? ⟨g, k * 3, none⟩ = some v0) (e1 : w.cell? ⟨g, k * 3 + 1, none⟩ = some v1) (e2 : w.cell? ⟨g, k * 3 + 2, none⟩ = some v2) :
    Ents (((w.setCell ⟨g, k * 3, none⟩ (.string es[k].p)).setCell ⟨g, k * 3 + 1, none⟩ (.bool es[k].d)).setCell ⟨g, k * 3 + 2, none⟩ (.string es[k].x)) g 0 (es.take (k + 1)) := by
  intro i hi
  rw [List.length_take] at hi
  rw [List.getElem_take]
  by_cases e : i = k
  · subst e
    refine ⟨?_, ?_, ?_⟩
    · rw [Nat.zero_add, cell_ne _ _ _ _ _ (by omega), cell_ne _ _ _ _ _ (by omega)]; exact cell_eq _ e0
    · rw [Nat.zero_add, cell_ne _ _ _ _ _ (by omega)]; exact cell_eq _ ((cell_ne _ _ _ _ _ (by omega)).trans e1)
    · rw [Nat.zero_add]; exact cell_eq _ ((cell_ne _ _ _ _ _ (by omega)).trans ((cell_ne _ _ _ _ _ (by omega)).trans e2))
  · have hlt : i < k := by omega
    obtain ⟨q0, q1, q2⟩ := h i (by rw [List.length_take]; omega)
    rw [List.getElem_take] at q0 q1 q2
    rw [Nat.zero_add] at *
    refine ⟨?_, ?_, ?_⟩
    · rw [cell_ne _ _ _ _ _ (by omega), cell_ne _ _ _ _ _ (by omega), cell_ne _ _ _ _ _ (by omega)]; exact q0
    · rw [cell_ne _ _ _ _ _ (by omega), cell_ne _ _ _ _ _ (by omega), cell_ne _ _ _ _ _ (by omega)]; exact q1
    · rw [cell_ne _ _ _ _ _ (by omega), cell_ne _ _ _ _ _ (by omega), cell_ne _ _ _ _ _ (by omega)]; exact q2

set_option maxHeartbeats 800000 in
set_option maxRecDepth 100000 in
theorem toEntS_any (w : World) (a : Option Addr) (g o cap : Nat) (es : List E) (hn : es.length ≤ 1048576) (ha : 0 < es.length → a = some ⟨g, o, none⟩) (hE : Ents w g o es) :
    Calls Tryd.prog 7 #[.slice a es.length cap] w fun e w' => e = .returned (.slice (some ⟨w.heap.size, 0, none⟩) es.length es.length) ∧ Ents w' w.heap.size 0 es ∧ Room w' w.heap.size (es.length * 3) ∧ Below w.heap.size w w' := by
  have HE := hidE hE
  clear hE
  obtain ⟨i0, hi, hz0, hz1, hz2⟩ := info_parts Tryd.infoE
  obtain ⟨M, hM⟩ : ∃ M, M = madeCells (Value.agg #[.string ByteArray.empty, .bool false, .string ByteArray.empty]).cells (((es.length : Nat) : Int).toNat * i0.size) := ⟨_, rfl⟩
  have hMs : M.size = es.length * 3 := by rw [hM, size_madeCells, hz1]; simp
  have hmk : ∀ W : World, (Instr.makeSlice 26 (.int .i64 (es.length : Int)) (.int .i64 (es.length : Int))).run Tryd.prog W = .ok (.slice (some ⟨W.heap.size, 0, none⟩) es.length es.length) (W.alloc (.cells M 39)) := fun W => by
    have h := run_make (P := Tryd.prog) W 26 39 i0 (.agg #[.string ByteArray.empty, .bool false, .string ByteArray.empty]) Tryd.underlying26 hi hz0 .i64 .i64 (es.length : Int) (es.length : Int) (by omega) (by omega) (by rw [hz2]; omega) (by omega)
    rw [← hM] at h
    simpa using h
  have HR : Hid (Room (w.alloc (.cells M 39)) w.heap.size (es.length * 3)) := fun i hi => ⟨⟨M[i]'(by omega), by rw [World.cell?_alloc_new, Array.getElem?_eq_getElem (by omega)]⟩, by simp⟩
  clear hM hi hz0 hz1 hz2
  have HB0 := hidE ((Below.refl w.heap.size w).alloc (Nat.le_refl _) (.cells M 39))
  go_enter Tryd.func7, Tryd.ntmps7
  go_wp2
  go_loopw [4] (fun iv wl => ∃ k : Nat, k ≤ es.length ∧ iv = .int .i64 k ∧ Hid (Below w.heap.size w wl) ∧ Hid (Room wl w.heap.size (es.length * 3)) ∧ Hid (Ents wl w.heap.size 0 (es.take k))) (fun iv _ => es.length - (RowKit.intOf iv).toNat)
  case atStart => exact ⟨0, Nat.zero_le _, rfl, HB0, HR, fun i hi => by simp at hi⟩
  case round =>
    clear HB0 HR hmk
    obtain ⟨k, hk, rfl, HB, HR, HT⟩ := hrel
    by_cases hlt : k < es.length
    · obtain rfl := ha (by omega)
      obtain ⟨c0, c1, c2⟩ := (HE.out.below HB.out) k hlt
      go_wp2_with fail
      refine (toEnt_any _ _ _ _).mono ?_
      rintro e w2 ⟨rfl, hB2⟩
      have HB2 := hidE (HB.out.trans (hB2.mono HB.out.size))
      have HR2 := hidE (HR.out.below hB2)
      have HT2 := hidE (HT.out.below hB2)
      clear hB2 HB HR HT c0 c1 c2
      obtain ⟨⟨v0, e0⟩, f0⟩ := HR2.out (k * 3) (by omega)
      obtain ⟨⟨v1, e1⟩, f1⟩ := HR2.out (k * 3 + 1) (by omega)
      obtain ⟨⟨v2, e2⟩, f2⟩ := HR2.out (k * 3 + 2) (by omega)
      go_wp2
      go_roundw
      case rel => exact ⟨k + 1, by omega, by go_num, ((HB2.out.setCell (p := ⟨w.heap.size, _, none⟩) (Nat.le_refl _) _).setCell (p := ⟨w.heap.size, _, none⟩) (Nat.le_refl _) _).setCell (p := ⟨w.heap.size, _, none⟩) (Nat.le_refl _) _, ((HR2.out.set _ _ _).set _ _ _).set _ _ _, HT2.out.put hlt e0 e1 e2⟩
      case measure => simp [RowKit.intOf]; omega
    · go_wp2
      go_ret
      have := HT.out
      rw [List.take_of_length_le (by omega)] at this
      exact ⟨rfl, this, HR.out, HB.out⟩

def sameE (e f : E) : Bool := (e.p.toList == f.p.toList) && ((e.d == f.d) && (e.x.toList == f.x.toList))
def sameES (es fs : List E) : Bool := decide (es.length = fs.length) && (List.range es.length).all (fun i => match es[i]?, fs[i]? with | some e, some f => sameE e f | _, _ => true)
theorem sameE_iff (e f : E) : sameE e f = true ↔ e = f := by
  unfold sameE
  rw [Bool.and_eq_true, Bool.and_eq_true, beq_iff_eq, beq_iff_eq, beq_iff_eq]
  constructor
  · rintro ⟨h1, h2, h3⟩
    cases e; cases f
    simp only [E.mk.injEq]
    exact ⟨toList_inj h1, h2, toList_inj h3⟩
  · rintro rfl; exact ⟨rfl, rfl, rfl⟩

set_option maxHeartbeats 400000 in
theorem eqEnt_any (w : World) (e f : E) :
    Calls Tryd.prog 24 #[encE e, encE f] w fun r w' => r = .returned (.bool (sameE e f)) ∧ Below w.heap.size w w' := by
  obtain ⟨p, d, x⟩ := e
  obtain ⟨p', d', x'⟩ := f
  have hB : ∀ t t', Below w.heap.size w ((w.alloc (.cells #[.string p, .bool d, .string x] t)).alloc (.cells #[.string p', .bool d', .string x'] t')) := fun _ _ => ((Below.refl _ w).alloc (Nat.le_refl _) _).alloc (by simp) _
  have HB := hidE hB
  clear hB
  cases h1 : (p.toList == p'.toList) with
  | false =>
    have n1 : ¬ p.toList = p'.toList := fun q => by rw [q, beq_self_eq_true] at h1; cases h1
    go_enter Tryd.func24, Tryd.ntmps24
    go_wp2
    go_ret
    exact ⟨ret_bE (by unfold sameE; rw [h1]; rfl), HB.out _ _⟩
  | true =>
    have n1 : p.toList = p'.toList := beq_iff_eq.1 h1
    cases h2 : (d == d') with
    | false =>
      go_enter Tryd.func24, Tryd.ntmps24
      go_wp2
      go_ret
      exact ⟨ret_bE (by unfold sameE; rw [h1, h2]; rfl), HB.out _ _⟩
    | true =>
      obtain rfl : d = d' := beq_iff_eq.1 h2
      cases h3 : (x.toList == x'.toList) with
      | false =>
        have n3 : ¬ x.toList = x'.toList := fun q => by rw [q, beq_self_eq_true] at h3; cases h3
        go_enter Tryd.func24, Tryd.ntmps24
        go_wp2
        go_ret
        exact ⟨ret_bE (by unfold sameE; rw [h1, h2, h3]; rfl), HB.out _ _⟩
      | true =>
        have n3 : x.toList = x'.toList := beq_iff_eq.1 h3
        go_enter Tryd.func24, Tryd.ntmps24
        go_wp2
        go_ret
        exact ⟨ret_bE (by unfold sameE; rw [h1, h2, h3]; rfl), HB.out _ _⟩

/-- The contract, in every world that has grown out of W0. -/
theorem cEq (W0 : World) (e f : E) (b : Bool) (h : sameE e f = b) : ∀ d os, Calls Tryd.prog 24 #[encE e, encE f] (grow (redrawn W0 d) os) fun r w'' => r = .returned (.bool b) ∧ ∃ p : Regrown, w'' = grow (redrawn W0 p.d) p.os :=
  fun _ _ => Calls.regrown_of (by rw [← h]; exact eqEnt_any _ e f)
theorem sameES_no {es fs : List E} {i : Nat} (hl : es.length = fs.length) (h : i < es.length) (hb : sameE es[i] (fs[i]'(by omega)) = false) : false = sameES es fs := by
  unfold sameES
  have : (List.range es.length).all (fun i => match es[i]?, fs[i]? with | some e, some f => sameE e f | _, _ => true) = false := by
    rw [List.all_eq_false]
    refine ⟨i, List.mem_range.2 h, ?_⟩
    rw [List.getElem?_eq_getElem h, List.getElem?_eq_getElem (by omega)]
    simp [hb]
  rw [this, Bool.and_false]

set_option maxHeartbeats 800000 in
set_option maxRecDepth 100000 in
theorem eqEntS_any (w : World) (a a' : Option Addr) (g o cap g' o' cap' : Nat) (es fs : List E) (hn : es.length ≤ 16777216) (_hn' : fs.length ≤ 16777216) (ha : 0 < es.length → a = some ⟨g, o, none⟩) (ha' : 0 < fs.length → a' = some ⟨g', o', none⟩) (hE : Ents w g o es) (hE' : Ents w g' o' fs) :
    Calls Tryd.prog 10 #[.slice a es.length cap, .slice a' fs.length cap'] w fun r w' => r = .returned (.bool (sameES es fs)) ∧ Below w.heap.size w w' := by
  have HE := hidE hE
  have HE' := hidE hE'
  clear hE hE'
  by_cases hlen : es.length = fs.length
  · have HL := hidE hlen
    have hb : ((es.length : Int) != (fs.length : Int)) = false := by rw [hlen]; simp
    have hle : fs.length ≤ es.length := by omega
    have hge : es.length ≤ fs.length := by omega
    clear hlen
    go_enter Tryd.func10, Tryd.ntmps10
    go_wp2
    go_loopw [5] (fun iv wl => ∃ k : Nat, k ≤ es.length ∧ iv = .int .i64 k ∧ Hid (Below w.heap.size w wl) ∧ Hid ((List.range k).all (fun i => match es[i]?, fs[i]? with | some e, some f => sameE e f | _, _ => true) = true)) (fun iv _ => es.length - (RowKit.intOf iv).toNat)
    case atStart => exact ⟨0, Nat.zero_le _, rfl, Below.refl _ _, rfl⟩
    case round =>
      obtain ⟨k, hk, rfl, HB, HA⟩ := hrel
      by_cases hlt : k < es.length
      · have hlt' : k < fs.length := by omega
        obtain rfl := ha (by omega)
        obtain rfl := ha' (by omega)
        obtain ⟨c0, c1, c2⟩ := (HE.out.below HB.out) k hlt
        obtain ⟨d0, d1, d2⟩ := (HE'.out.below HB.out) k hlt'
        have k0 := cell_regrown c0
        have k1 := cell_regrown c1
        have k2 := cell_regrown c2
        have q0 := cell_regrown d0
        have q1 := cell_regrown d1
        have q2 := cell_regrown d2
        clear c0 c1 c2 d0 d1 d2
        cases hs : sameE es[k] fs[k] with
        | true =>
          have a1 := cEq wr es[k] fs[k] true hs
          have HA2 := hidE (all_range_succ _ k HA.out (by rw [List.getElem?_eq_getElem hlt, List.getElem?_eq_getElem hlt']; exact hs))
          go_wp2
          refine wp_region_quiet_below (by kernel_rfl) (by kernel_rfl) ?_
          repeat (go_big_quiet_step (first | exact a1 _ _))
          refine wpQuiet_nil ?_
          intro _ hw'
          obtain ⟨⟨dq, osq⟩, hw''⟩ := hw'
          subst hw''
          have HBq := hidE (HB.out.trans ((below_regrown wr dq osq).mono HB.out.size))
          clear HB k0 k1 k2 q0 q1 q2 a1
          go_wp2
          go_roundw
          case rel => exact ⟨k + 1, by omega, by go_num, HBq, HA2⟩
          case measure => simp [RowKit.intOf]; omega
        | false =>
          have a1 := cEq wr es[k] fs[k] false hs
          have HN := hidE (sameES_no HL.out hlt hs)
          go_wp2
          refine wp_region_quiet_below (by kernel_rfl) (by kernel_rfl) ?_
          repeat (go_big_quiet_step (first | exact a1 _ _))
          refine wpQuiet_nil ?_
          intro _ hw'
          obtain ⟨⟨dq, osq⟩, hw''⟩ := hw'
          subst hw''
          have HBq := hidE (HB.out.trans ((below_regrown wr dq osq).mono HB.out.size))
          clear HB k0 k1 k2 q0 q1 q2 a1
          go_wp2
          go_ret
          exact ⟨ret_bE HN.out, HBq.out⟩
      · go_wp2
        go_ret
        have HT : sameES es fs = true := by
          unfold sameES
          have := HA.out
          rw [show k = es.length from by omega] at this
          rw [decide_eq_true HL.out, this]; rfl
        exact ⟨ret_bE HT.symm, HB.out⟩
  · have hb : ((es.length : Int) == (fs.length : Int)) = false := by rw [beq_eq_false_iff_ne]; omega
    go_enter Tryd.func10, Tryd.ntmps10
    go_wp2
    go_ret
    exact ⟨ret_bE (by unfold sameES; rw [decide_eq_false hlen]; rfl), Below.refl _ _⟩
end Go.Proofs.YteedhlljcfojfaaDoor
