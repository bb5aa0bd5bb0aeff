/-
  The walks of what the exact laws do with lists of entries: their sizes, a copy of the other type, and whether two are the same.
-/
import Derived.Laws.MakeOwn
import Derived.Laws.ResultCell
import Derived.Lib.QuietBelow
import Derived.Test.YtfbfmckfmdodlaaDoorHPk04
namespace Go.Proofs.YtfbfmckfmdodlaaDoor
open Go.RowKit Go.Lib Go.Sort

theorem Tryd.infoE : (Tryd.prog.info? 44).map (fun i => (i.zero, i.size, i.bytes)) = some (some (.agg #[.string ByteArray.empty, .bool false, .string ByteArray.empty]), 3, 40) := by kernel_rfl

/-- There is room for so many cells in a block. -/
def Room (w : World) (g n : Nat) : Prop := ∀ i, i < n → (∃ v, w.cell? ⟨g, i, none⟩ = some v) ∧ w.frozen? ⟨g, i, none⟩ = false
theorem Room.below {w w' : World} {g n : Nat} (h : Room w g n) (hb : Below w.heap.size w w') : Room w' g n := fun i hi => by
  obtain ⟨⟨v, hv⟩, hf⟩ := h i hi
  have lt : g < w.heap.size := World.block_lt_of_cell? w ⟨g, i, none⟩ hv
  exact ⟨⟨v, (hb.cell (p := ⟨g, i, none⟩) lt).trans hv⟩, (hb.frozen (p := ⟨g, i, none⟩) lt).trans hf⟩
theorem Room.set {w : World} {g n : Nat} (h : Room w g n) (b j : Nat) (v : Value) : Room (w.setCell ⟨b, j, none⟩ v) g n := fun i hi => by
  obtain ⟨⟨u, hu⟩, hf⟩ := h i hi
  obtain ⟨u', hu'⟩ := cell?_setCell_some (w := w) (p := ⟨b, j, none⟩) (x := v) (q := ⟨g, i, none⟩) (v := u) hu
  exact ⟨⟨u', hu'⟩, by rw [World.frozen?_setCell]; exact hf⟩

theorem cell_ne (w : World) (g i j : Nat) (v : Value) (h : i ≠ j) : (w.setCell ⟨g, i, none⟩ v).cell? ⟨g, j, none⟩ = w.cell? ⟨g, j, none⟩ := World.cell?_setCell_other _ _ _ _ (fun q => by have e := congrArg Addr.off q; dsimp only at e; omega)
theorem cell_eq {w : World} {g i : Nat} {u : Value} (v : Value) (h : w.cell? ⟨g, i, none⟩ = some u) : (w.setCell ⟨g, i, none⟩ v).cell? ⟨g, i, none⟩ = some v := World.cell?_setCell_same' _ _ _ (by rw [h]; rfl)
/-- One entry more is written behind those that lie there. -/
theorem Ents.put {w : World} {g k : Nat} {es : List E} (hk : k < es.length) (h : Ents w g 0 (es.take k)) {v0 v1 v2 : Value} (e0 : w.cell? ⟨g, k * 3, none⟩ = some v0) (e1 : w.cell? ⟨g, k * 3 + 1, none⟩ = some v1) (e2 : w.cell? ⟨g, k * 3 + 2, none⟩ = some v2) :
    Ents (((w.setCell ⟨g, k * 3, none⟩ (.string es[k].p)).setCell ⟨g, k * 3 + 1, none⟩ (.bool es[k].d)).setCell ⟨g, k * 3 + 2, none⟩ (.string es[k].x)) g 0 (es.take (k + 1)) := by
  intro i hi
  rw [List.length_take] at hi
  rw [List.getElem_take]
  by_cases e : i = k
  · subst e
    refine ⟨?_, ?_, ?_⟩
    · rw [Nat.zero_add, cell_ne _ _ _ _ _ (by omega), cell_ne _ _ _ _ _ (by omega)]; exact cell_eq _ e0
    · rw [Nat.zero_add, cell_ne _ _ _ _ _ (by omega)]; exact cell_eq _ ((cell_ne _ _ _ _ _ (by omega)).trans e1)
    · rw [Nat.zero_add]; exact cell_eq _ ((cell_ne _ _ _ _ _ (by omega)).trans ((cell_ne _ _ _ _ _ (by omega)).trans e2))
  · have hlt : i < k := by omega
    obtain ⟨q0, q1, q2⟩ := h i (by rw [List.length_take]; omega)
    rw [List.getElem_take] at q0 q1 q2
    rw [Nat.zero_add] at *
    refine ⟨?_, ?_, ?_⟩
    · rw [cell_ne _ _ _ _ _ (by omega), cell_ne _ _ _ _ _ (by omega), cell_ne _ _ _ _ _ (by omega)]; exact q0
    · rw [cell_ne _ _ _ _ _ (by omega), cell_ne _ _ _ _ _ (by omega), cell_ne _ _ _ _ _ (by omega)]; exact q1
    · rw [cell_ne _ _ _ _ _ (by omega), cell_ne _ _ _ _ _ (by omega), cell_ne _ _ _ _ _ (by omega)]; exact q2

def sameE (e f : E) : Bool := (e.p.toList == f.p.toList) && ((e.d == f.d) && (e.x.toList == f.x.toList))
def sameES (es fs : List E) : Bool := decide (es.length = fs.length) && (List.range es.length).all (fun i => match es[i]?, fs[i]? with | some e, some f => sameE e f | _, _ => true)
theorem sameE_iff (e f : E) : sameE e f = true ↔ e = f := by
  unfold sameE
  rw [Bool.and_eq_true, Bool.and_eq_true, beq_iff_eq, beq_iff_eq, beq_iff_eq]
  constructor
  · rintro ⟨h1, h2, h3⟩
    cases e; cases f
    simp only [E.mk.injEq]
    exact ⟨toList_inj h1, h2, toList_inj h3⟩
  · rintro rfl; exact ⟨rfl, rfl, rfl⟩

set_option maxHeartbeats 400000 in
theorem eqEnt_any (w : World) (e f : E) :
    Calls Tryd.prog 28 #[encE e, encE f] w fun r w' => r = .returned (.bool (sameE e f)) ∧ Below w.heap.size w w' := by
  obtain ⟨p, d, x⟩ := e
  obtain ⟨p', d', x'⟩ := f
  have hB : ∀ t t', Below w.heap.size w ((w.alloc (.cells #[.string p, .bool d, .string x] t)).alloc (.cells #[.string p', .bool d', .string x'] t')) := fun _ _ => ((Below.refl _ w).alloc (Nat.le_refl _) _).alloc (by simp) _
  have HB := hidE hB
  clear hB
  cases h1 : (p.toList == p'.toList) with
  | false =>
    have n1 : ¬ p.toList = p'.toList := fun q => by rw [q, beq_self_eq_true] at h1; cases h1
    go_enter Tryd.func28, Tryd.ntmps28
    go_wp2
    go_ret
    exact ⟨ret_bE (by unfold sameE; rw [h1]; rfl), HB.out _ _⟩
  | true =>
    have n1 : p.toList = p'.toList := beq_iff_eq.1 h1
    cases h2 : (d == d') with
    | false =>
      go_enter Tryd.func28, Tryd.ntmps28
      go_wp2
      go_ret
      exact ⟨ret_bE (by unfold sameE; rw [h1, h2]; rfl), HB.out _ _⟩
    | true =>
      obtain rfl : d = d' := beq_iff_eq.1 h2
      cases h3 : (x.toList == x'.toList) with
      | false =>
        have n3 : ¬ x.toList = x'.toList := fun q => by rw [q, beq_self_eq_true] at h3; cases h3
        go_enter Tryd.func28, Tryd.ntmps28
        go_wp2
        go_ret
        exact ⟨ret_bE (by unfold sameE; rw [h1, h2, h3]; rfl), HB.out _ _⟩
      | true =>
        have n3 : x.toList = x'.toList := beq_iff_eq.1 h3
        go_enter Tryd.func28, Tryd.ntmps28
        go_wp2
        go_ret
        exact ⟨ret_bE (by unfold sameE; rw [h1, h2, h3]; rfl), HB.out _ _⟩

/-- The contract, in every world that has grown out of W0. -/
theorem cEq (W0 : World) (e f : E) (b : Bool) (h : sameE e f = b) : ∀ d os, Calls Tryd.prog 28 #[encE e, encE f] (grow (redrawn W0 d) os) fun r w'' => r = .returned (.bool b) ∧ ∃ p : Regrown, w'' = grow (redrawn W0 p.d) p.os :=
  fun _ _ => Calls.regrown_of (by rw [← h]; exact eqEnt_any _ e f)
theorem sameES_no {es fs : List E} {i : Nat} (hl : es.length = fs.length) (h : i < es.length) (hb : sameE es[i] (fs[i]'(by omega)) = false) : false = sameES es fs := by
  unfold sameES
  have : (List.range es.length).all (fun i => match es[i]?, fs[i]? with | some e, some f => sameE e f | _, _ => true) = false := by
    rw [List.all_eq_false]
    refine ⟨i, List.mem_range.2 h, ?_⟩
    rw [List.getElem?_eq_getElem h, List.getElem?_eq_getElem (by omega)]
    simp [hb]
  rw [this, Bool.and_false]

set_option maxHeartbeats 800000 in
set_option maxRecDepth 100000 in
theorem eqEntS_any (w : World) (a a' : Option Addr) (g o cap g' o' cap' : Nat) (es fs : List E) (hn : es.length ≤ 16777216) (_hn' : fs.length ≤ 16777216) (ha : 0 < es.length → a = some ⟨g, o, none⟩) (ha' : 0 < fs.length → a' = some ⟨g', o', none⟩) (hE : Ents w g o es) (hE' : Ents w g' o' fs) :
    Calls Tryd.prog 8 #[.slice a es.length cap, .slice a' fs.length cap'] w fun r w' => r = .returned (.bool (sameES es fs)) ∧ Below w.heap.size w w' := by
  have HE := hidE hE
  have HE' := hidE hE'
  clear hE hE'
  by_cases hlen : es.length = fs.length
  · have HL := hidE hlen
    have hb : ((es.length : Int) != (fs.length : Int)) = false := by rw [hlen]; simp
    have hle : fs.length ≤ es.length := by omega
    have hge : es.length ≤ fs.length := by omega
    clear hlen
    go_enter Tryd.func8, Tryd.ntmps8
    go_wp2
    go_loopw [5] (fun iv wl => ∃ k : Nat, k ≤ es.length ∧ iv = .int .i64 k ∧ Hid (Below w.heap.size w wl) ∧ Hid ((List.range k).all (fun i => match es[i]?, fs[i]? with | some e, some f => sameE e f | _, _ => true) = true)) (fun iv _ => es.length - (RowKit.intOf iv).toNat)
    case atStart => exact ⟨0, Nat.zero_le _, rfl, Below.refl _ _, rfl⟩
    case round =>
      obtain ⟨k, hk, rfl, HB, HA⟩ := hrel
      by_cases hlt : k < es.length
      · have hlt' : k < fs.length := by omega
        obtain rfl := ha (by omega)
        obtain rfl := ha' (by omega)
        obtain ⟨c0, c1, c2⟩ := (HE.out.below HB.out) k hlt
        obtain ⟨d0, d1, d2⟩ := (HE'.out.below HB.out) k hlt'
        have k0 := cell_regrown c0
        have k1 := cell_regrown c1
        have k2 := cell_regrown c2
        have q0 := cell_regrown d0
        have q1 := cell_regrown d1
        have q2 := cell_regrown d2
        clear c0 c1 c2 d0 d1 d2
        cases hs : sameE es[k] fs[k] with
        | true =>
          have a1 := cEq wr es[k] fs[k] true hs
          have HA2 := hidE (all_range_succ _ k HA.out (by rw [List.getElem?_eq_getElem hlt, List.getElem?_eq_getElem hlt']; exact hs))
          go_wp2
          refine wp_region_quiet_below (by kernel_rfl) (by kernel_rfl) ?_
          repeat (go_big_quiet_step (first | exact a1 _ _))
          refine wpQuiet_nil ?_
          intro _ hw'
          obtain ⟨⟨dq, osq⟩, hw''⟩ := hw'
          subst hw''
          have HBq := hidE (HB.out.trans ((below_regrown wr dq osq).mono HB.out.size))
          clear HB k0 k1 k2 q0 q1 q2 a1
          go_wp2
          go_roundw
          case rel => exact ⟨k + 1, by omega, by go_num, HBq, HA2⟩
          case measure => simp [RowKit.intOf]; omega
        | false =>
          have a1 := cEq wr es[k] fs[k] false hs
          have HN := hidE (sameES_no HL.out hlt hs)
          go_wp2
          refine wp_region_quiet_below (by kernel_rfl) (by kernel_rfl) ?_
          repeat (go_big_quiet_step (first | exact a1 _ _))
          refine wpQuiet_nil ?_
          intro _ hw'
          obtain ⟨⟨dq, osq⟩, hw''⟩ := hw'
          subst hw''
          have HBq := hidE (HB.out.trans ((below_regrown wr dq osq).mono HB.out.size))
          clear HB k0 k1 k2 q0 q1 q2 a1
          go_wp2
          go_ret
          exact ⟨ret_bE HN.out, HBq.out⟩
      · go_wp2
        go_ret
        have HT : sameES es fs = true := by
          unfold sameES
          have := HA.out
          rw [show k = es.length from by omega] at this
          rw [decide_eq_true HL.out, this]; rfl
        exact ⟨ret_bE HT.symm, HB.out⟩
  · have hb : ((es.length : Int) == (fs.length : Int)) = false := by rw [beq_eq_false_iff_ne]; omega
    go_enter Tryd.func8, Tryd.ntmps8
    go_wp2
    go_ret
    exact ⟨ret_bE (by unfold sameES; rw [decide_eq_false hlen]; rfl), Below.refl _ _⟩
end Go.Proofs.YtfbfmckfmdodlaaDoor
