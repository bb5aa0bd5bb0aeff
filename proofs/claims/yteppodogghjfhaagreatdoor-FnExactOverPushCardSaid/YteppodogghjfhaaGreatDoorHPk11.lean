import Derived.Deep.Slices
import Derived.Deep.Strs
import Derived.Test.YteppodogghjfhaaGreatDoorHPk10
import Derived.Lib.QuietBelow
namespace Go.Proofs.YteppodogghjfhaaGreatDoor.Mk
open Go.RowKit Go.Lib Go.Deep
theorem Tryz.cellsL : Tryz.prog.cellsOf 96 = 3 := by kernel_rfl
theorem Tryz.cells9 : Tryz.prog.cellsOf 9 = 1 := by kernel_rfl
theorem Tryz.cells4 : Tryz.prog.cellsOf 3 = 1 := by kernel_rfl
theorem addr_add (b off k : Nat) : (⟨b, off, none⟩ : Addr).add k = ⟨b, off + k, none⟩ := by
 by_cases h : k = 0
 ·
  subst h; simp [Addr.add]
 ·
  simp [Addr.add, h]
def EntSl (w : World) (a : Option Addr) (len cap : Nat) (es : List E) : Prop := es.length = len ∧ len ≤ cap ∧ len ≤ maxLen ∧ (∀ e ∈ es, e.p.size ≤ maxLen ∧ e.x.size ≤ maxLen) ∧ ∃ g o, (0 < es.length → a = some ⟨g, o, none⟩) ∧ Ents w g o es
set_option maxRecDepth 100000 in
theorem open_ents {H : Type} {enc : TypeId × Value → H} {w : World} {base : Nat} {spare : Nat → Bool} {held : Bool} {fuel : Nat} {a : Option Addr} {len cap : Nat} {x : DataW H × List MemPlace}
  (h : DataW.trod enc Tryz.prog w base spare held fuel 24 [.slice a len cap] = some x) : ∃ es, EntSl w a len cap es := by
 rcases open_slice Tryz.underlying24 h with ⟨h0, _⟩ | ⟨a', len', cap', m, n, D, Pl, h0, _, hl, hm, hmm, _, hx⟩
 ·
  simp only [List.cons.injEq, Value.slice.injEq, and_true] at h0; obtain ⟨rfl, rfl, rfl⟩ := h0; exact ⟨[], rfl, Nat.le_refl _, Nat.zero_le _, fun e he => (by cases he), 0, 0, fun h => (by cases h), fun i hi => (by cases hi)⟩
 ·
  simp only [List.cons.injEq, Value.slice.injEq, and_true] at h0; obtain ⟨rfl, rfl, rfl⟩ := h0; have hlm : len ≤ m := by rw [hmm]; split <;> omega
  have each : ∀ i, i < len → ∃ e : E, w.cell? (a'.add (i * 3)) = some (.string e.p) ∧ w.cell? (a'.add (i * 3 + 1)) = some (.int .i64 e.d) ∧ w.cell? (a'.add (i * 3 + 2)) = some (.string e.x) ∧ e.p.size ≤ maxLen ∧ e.x.size ≤ maxLen := by
   intro i hi; obtain ⟨cs', h1, h2⟩ := hx i (by omega); rw [Tryz.cellsL] at h1; obtain ⟨_, hlen, hcell⟩ := World.cells?_some h1; obtain ⟨y0, y1, y2, n', _, _, g0, g1, g2⟩ := trod_struct3 Tryz.underlying96 h2
   match cs', hlen with
   | [v0, v1, v2], _ =>
    have q0 : DataW.trod enc Tryz.prog w base spare held n' 9 [v0] = some y0 := by simpa [Tryz.cells9] using g0
    have q1 : DataW.trod enc Tryz.prog w base spare held n' 3 [v1] = some y1 := by simpa [Tryz.cells4] using g1
    have q2 : DataW.trod enc Tryz.prog w base spare held n' 9 [v2] = some y2 := by simpa [Tryz.cells9] using g2
    obtain ⟨p, e0, _, z0⟩ := DataW.trod_string Tryz.underlying9 q0; obtain ⟨d, e1, _⟩ := DataW.trod_int Tryz.underlying3 q1; obtain ⟨x', e2, _, z2⟩ := DataW.trod_string Tryz.underlying9 q2; simp only [List.cons.injEq, and_true] at e0 e1 e2; subst e0 e1 e2; have k0 := hcell 0 (by omega); have k1 := hcell 1 (by omega); have k2 := hcell 2 (by omega); rw [add_add] at k0 k1 k2; exact ⟨⟨p, d, x'⟩, by simpa using k0, by simpa using k1, by simpa using k2, z0, z2⟩
  by_cases h0 : 0 < len
  ·
   obtain ⟨f, hf⟩ := @choose_lt E ⟨⟨ByteArray.empty, 0, ByteArray.empty⟩⟩ len _ each; obtain ⟨b, off, spot⟩ := a'; have hspot : spot = none := by simpa [Addr.add] using World.cell?_spot (hf 0 h0).1
   subst hspot; refine ⟨(List.range len).map f, by simp, hl, Nat.le_trans hl hm, fun e he => ?_, b, off, fun _ => rfl, fun i hi => ?_⟩
   ·
    obtain ⟨i, hi, rfl⟩ := List.mem_map.1 he; exact ⟨(hf i (List.mem_range.1 hi)).2.2.2.1, (hf i (List.mem_range.1 hi)).2.2.2.2⟩
   ·
    simp only [List.length_map, List.length_range] at hi; obtain ⟨q0, q1, q2, _⟩ := hf i hi; simp only [List.getElem_map, List.getElem_range]; rw [addr_add] at q0 q1 q2; exact ⟨q0, q1, q2⟩
  ·
   obtain rfl : len = 0 := by omega
   exact ⟨[], rfl, hl, Nat.zero_le _, fun e he => (by cases he), 0, 0, fun h => (by cases h), fun i hi => (by cases hi)⟩
theorem sameES_self (es : List E) : sameES es es = true := by
 unfold sameES; rw [decide_eq_true rfl, Bool.true_and, List.all_eq_true]; intro i hi; rw [List.getElem?_eq_getElem (List.mem_range.1 hi)]; exact (sameE_iff _ _).2 rfl
theorem B3E {a b c : World} (h : Below a.heap.size a b) (k : Below b.heap.size b c) : Below a.heap.size a c := h.trans (k.mono h.size)
end Go.Proofs.YteppodogghjfhaaGreatDoor.Mk
namespace Go.Proofs.YteppodogghjfhaaGreatDoor.Ov
open Go.RowKit Go.Lib Go.Sort Go.Proofs.YteppodogghjfhaaGreatDoor.Mk
def LL (w : World) (g o : Nat) (ls : List (List Mk.E)) : Prop :=
 ∀ i (h : i < ls.length), ∃ a gg oo cap, w.cell? ⟨g, o + i, none⟩ = some (.slice a ls[i].length cap) ∧ (0 < ls[i].length → a = some ⟨gg, oo, none⟩) ∧ Mk.Ents w gg oo ls[i] ∧ ls[i].length ≤ cap
theorem LL.below {w w' : World} {g o : Nat} {ls : List (List Mk.E)} (h : LL w g o ls) (hb : Below w.heap.size w w') : LL w' g o ls := fun i hi => by
 obtain ⟨a, gg, oo, cap, c, ha, hE, hc⟩ := h i hi; exact ⟨a, gg, oo, cap, (hb.cell (p := ⟨g, o + i, none⟩) (World.block_lt_of_cell? w ⟨g, o + i, none⟩ c)).trans c, ha, hE.below hb, hc⟩
def LO (w : World) (g : Nat) (ls : List (List Mk.E)) : Prop :=
 ∀ i (h : i < ls.length), ∃ gg, w.cell? ⟨g, i, none⟩ = some (.slice (some ⟨gg, 0, none⟩) ls[i].length ls[i].length) ∧ g < gg ∧ Mk.Ents w gg 0 ls[i]
theorem LO.below {w w' : World} {g : Nat} {ls : List (List Mk.E)} (h : LO w g ls) (hb : Below w.heap.size w w') : LO w' g ls := fun i hi => by
 obtain ⟨gg, c, hg, hE⟩ := h i hi; exact ⟨gg, (hb.cell (p := ⟨g, i, none⟩) (World.block_lt_of_cell? w ⟨g, i, none⟩ c)).trans c, hg, hE.below hb⟩
theorem entsOther {w : World} {g b j o : Nat} {es : List Mk.E} (h : Mk.Ents w g o es) (hb : g ≠ b) (v : Value) : Mk.Ents (w.setCell ⟨b, j, none⟩ v) g o es := fun i hi => by
 obtain ⟨c0, c1, c2⟩ := h i hi; have ne : ∀ k, (w.setCell ⟨b, j, none⟩ v).cell? ⟨g, k, none⟩ = w.cell? ⟨g, k, none⟩ := fun k => World.cell?_setCell_other _ _ _ _ (fun q => hb (congrArg Addr.block q).symm); exact ⟨(ne _).trans c0, (ne _).trans c1, (ne _).trans c2⟩
theorem Tryz.infoL : (Tryz.prog.info? 31).map (fun i => (i.zero, i.size, i.bytes)) = some (some (.slice none 0 0), 1, 24) := by kernel_rfl
end Go.Proofs.YteppodogghjfhaaGreatDoor.Ov
namespace Go.Proofs.YteppodogghjfhaaGreatDoor
open Go.RowKit Go.Lib Go.Deep
theorem Tryz.cellsL : Tryz.prog.cellsOf 93 = 3 := by kernel_rfl
theorem Tryz.cells9 : Tryz.prog.cellsOf 9 = 1 := by kernel_rfl
theorem Tryz.cells4 : Tryz.prog.cellsOf 4 = 1 := by kernel_rfl
theorem addr_add (b off k : Nat) : (⟨b, off, none⟩ : Addr).add k = ⟨b, off + k, none⟩ := by
 by_cases h : k = 0
 ·
  subst h; simp [Addr.add]
 ·
  simp [Addr.add, h]
def EntSl (w : World) (a : Option Addr) (len cap : Nat) (es : List E) : Prop := es.length = len ∧ len ≤ cap ∧ len ≤ maxLen ∧ (∀ e ∈ es, e.p.size ≤ maxLen ∧ e.x.size ≤ maxLen) ∧ ∃ g o, (0 < es.length → a = some ⟨g, o, none⟩) ∧ Ents w g o es
set_option maxRecDepth 100000 in
theorem open_ents {H : Type} {enc : TypeId × Value → H} {w : World} {base : Nat} {spare : Nat → Bool} {held : Bool} {fuel : Nat} {a : Option Addr} {len cap : Nat} {x : DataW H × List MemPlace}
  (h : DataW.trod enc Tryz.prog w base spare held fuel 22 [.slice a len cap] = some x) : ∃ es, EntSl w a len cap es := by
 rcases open_slice Tryz.underlying22 h with ⟨h0, _⟩ | ⟨a', len', cap', m, n, D, Pl, h0, _, hl, hm, hmm, _, hx⟩
 ·
  simp only [List.cons.injEq, Value.slice.injEq, and_true] at h0; obtain ⟨rfl, rfl, rfl⟩ := h0; exact ⟨[], rfl, Nat.le_refl _, Nat.zero_le _, fun e he => (by cases he), 0, 0, fun h => (by cases h), fun i hi => (by cases hi)⟩
 ·
  simp only [List.cons.injEq, Value.slice.injEq, and_true] at h0; obtain ⟨rfl, rfl, rfl⟩ := h0; have hlm : len ≤ m := by rw [hmm]; split <;> omega
  have each : ∀ i, i < len → ∃ e : E, w.cell? (a'.add (i * 3)) = some (.string e.p) ∧ w.cell? (a'.add (i * 3 + 1)) = some (.bool e.d) ∧ w.cell? (a'.add (i * 3 + 2)) = some (.string e.x) ∧ e.p.size ≤ maxLen ∧ e.x.size ≤ maxLen := by
   intro i hi; obtain ⟨cs', h1, h2⟩ := hx i (by omega); rw [Tryz.cellsL] at h1; obtain ⟨_, hlen, hcell⟩ := World.cells?_some h1; obtain ⟨y0, y1, y2, n', _, _, g0, g1, g2⟩ := trod_struct3 Tryz.underlying93 h2
   match cs', hlen with
   | [v0, v1, v2], _ =>
    have q0 : DataW.trod enc Tryz.prog w base spare held n' 9 [v0] = some y0 := by simpa [Tryz.cells9] using g0
    have q1 : DataW.trod enc Tryz.prog w base spare held n' 4 [v1] = some y1 := by simpa [Tryz.cells4] using g1
    have q2 : DataW.trod enc Tryz.prog w base spare held n' 9 [v2] = some y2 := by simpa [Tryz.cells9] using g2
    obtain ⟨p, e0, _, z0⟩ := DataW.trod_string Tryz.underlying9 q0; obtain ⟨d, e1, _⟩ := DataW.trod_bool Tryz.underlying4 q1; obtain ⟨x', e2, _, z2⟩ := DataW.trod_string Tryz.underlying9 q2; simp only [List.cons.injEq, and_true] at e0 e1 e2; subst e0 e1 e2; have k0 := hcell 0 (by omega); have k1 := hcell 1 (by omega); have k2 := hcell 2 (by omega); rw [add_add] at k0 k1 k2; exact ⟨⟨p, d, x'⟩, by simpa using k0, by simpa using k1, by simpa using k2, z0, z2⟩
  by_cases h0 : 0 < len
  ·
   obtain ⟨f, hf⟩ := @choose_lt E ⟨⟨ByteArray.empty, false, ByteArray.empty⟩⟩ len _ each; obtain ⟨b, off, spot⟩ := a'; have hspot : spot = none := by simpa [Addr.add] using World.cell?_spot (hf 0 h0).1
   subst hspot; refine ⟨(List.range len).map f, by simp, hl, Nat.le_trans hl hm, fun e he => ?_, b, off, fun _ => rfl, fun i hi => ?_⟩
   ·
    obtain ⟨i, hi, rfl⟩ := List.mem_map.1 he; exact ⟨(hf i (List.mem_range.1 hi)).2.2.2.1, (hf i (List.mem_range.1 hi)).2.2.2.2⟩
   ·
    simp only [List.length_map, List.length_range] at hi; obtain ⟨q0, q1, q2, _⟩ := hf i hi; simp only [List.getElem_map, List.getElem_range]; rw [addr_add] at q0 q1 q2; exact ⟨q0, q1, q2⟩
  ·
   obtain rfl : len = 0 := by omega
   exact ⟨[], rfl, hl, Nat.zero_le _, fun e he => (by cases he), 0, 0, fun h => (by cases h), fun i hi => (by cases hi)⟩
theorem sameES_self (es : List E) : sameES es es = true := by
 unfold sameES; rw [decide_eq_true rfl, Bool.true_and, List.all_eq_true]; intro i hi; rw [List.getElem?_eq_getElem (List.mem_range.1 hi)]; exact (sameE_iff _ _).2 rfl
theorem B3E {a b c : World} (h : Below a.heap.size a b) (k : Below b.heap.size b c) : Below a.heap.size a c := h.trans (k.mono h.size)
end Go.Proofs.YteppodogghjfhaaGreatDoor
namespace Go.Proofs.YteppodogghjfhaaGreatDoor.Ov
open Go.RowKit Go.Lib Go.Sort Go.Proofs.YteppodogghjfhaaGreatDoor.Mk
def sameSS (ls ks : List (List Mk.E)) : Bool := decide (ls.length = ks.length) && (List.range ls.length).all (fun i => match ls[i]?, ks[i]? with | some e, some f => Mk.sameES e f | _, _ => true)
theorem sameSS_no {es fs : List (List Mk.E)} {i : Nat} (hl : es.length = fs.length) (h : i < es.length) (hb : Mk.sameES es[i] (fs[i]'(by omega)) = false) : false = sameSS es fs := by
 unfold sameSS
 have : (List.range es.length).all (fun i => match es[i]?, fs[i]? with | some e, some f => Mk.sameES e f | _, _ => true) = false := by
  rw [List.all_eq_false]; refine ⟨i, List.mem_range.2 h, ?_⟩; rw [List.getElem?_eq_getElem h, List.getElem?_eq_getElem (by omega)]; simp [hb]
 rw [this, Bool.and_false]
theorem sameSS_self (es : List (List Mk.E)) : sameSS es es = true := by
 unfold sameSS; rw [decide_eq_true rfl, Bool.true_and, List.all_eq_true]; intro i hi; rw [List.getElem?_eq_getElem (List.mem_range.1 hi)]; exact Mk.sameES_self _
set_option maxHeartbeats 800000 in
set_option maxRecDepth 100000 in
theorem eqSS_any (w : World) (a a' : Option Addr) (g o cap g' o' cap' : Nat) (es fs : List (List Mk.E)) (hn : es.length ≤ 16777216) (_hn' : fs.length ≤ 16777216) (hz : ∀ l ∈ es, l.length ≤ 16777216) (hz' : ∀ l ∈ fs, l.length ≤ 16777216) (ha : 0 < es.length → a = some ⟨g, o, none⟩) (ha' : 0 < fs.length → a' = some ⟨g', o', none⟩) (hE : LL w g o es) (hE' : LL w g' o' fs) :
  Calls Tryz.prog 43 #[.slice a es.length cap, .slice a' fs.length cap'] w fun r w' => r = .returned (.bool (sameSS es fs)) ∧ Below w.heap.size w w' := by
 have HE := hidE hE; have HE' := hidE hE'; have HZ := hidE hz; have HZ' := hidE hz'; clear hE hE' hz hz'; by_cases hlen : es.length = fs.length
 ·
  have HL := hidE hlen; have hb : ((es.length : Int) != (fs.length : Int)) = false := by rw [hlen]; simp
  have hle : fs.length ≤ es.length := by omega
  have hge : es.length ≤ fs.length := by omega
  clear hlen; go_enter Tryz.func43, Tryz.ntmps43
  go_wp2
  go_loopw [5] (fun iv wl => ∃ k : Nat, k ≤ es.length ∧ iv = .int .i64 k ∧ Hid (Below w.heap.size w wl) ∧ Hid ((List.range k).all (fun i => match es[i]?, fs[i]? with | some e, some f => Mk.sameES e f | _, _ => true) = true)) (fun iv _ => es.length - (RowKit.intOf iv).toNat)
  case atStart => exact ⟨0, Nat.zero_le _, rfl, Below.refl _ _, rfl⟩
  case round =>
   obtain ⟨k, hk, rfl, HB, HA⟩ := hrel; by_cases hlt : k < es.length
   ·
    have hlt' : k < fs.length := by omega
    obtain rfl := ha (by omega); obtain rfl := ha' (by omega); obtain ⟨a1, g1, o1, cap1, c0, ha1, hE1, hc1⟩ := (HE.out.below HB.out) k hlt; obtain ⟨a2, g2, o2, cap2, d0, ha2, hE2, hc2⟩ := (HE'.out.below HB.out) k hlt'; have k0 := cell_regrown c0; have q0 := cell_regrown d0
    have x1 : ∀ d os, Calls Tryz.prog 44 #[.slice a1 es[k].length cap1, .slice a2 fs[k].length cap2] (grow (redrawn wr d) os) fun r w'' => r = .returned (.bool (Mk.sameES es[k] fs[k])) ∧ ∃ p : Regrown, w'' = grow (redrawn wr p.d) p.os := fun d os =>
     Calls.regrown_of (Mk.eqEntS_any _ a1 a2 g1 o1 cap1 g2 o2 cap2 es[k] fs[k] (HZ.out _ (List.getElem_mem _)) (HZ'.out _ (List.getElem_mem _)) ha1 ha2 (hE1.below (below_regrown wr d os)) (hE2.below (below_regrown wr d os)))
    clear c0 d0 hE1 hE2 ha1 ha2; cases hs : Mk.sameES es[k] fs[k] with
    | true =>
     rw [hs] at x1; have HA2 := hidE (all_range_succ _ k HA.out (by rw [List.getElem?_eq_getElem hlt, List.getElem?_eq_getElem hlt']; exact hs)); go_wp2
     refine wp_region_quiet_below (by kernel_rfl) (by kernel_rfl) ?_
     repeat (go_big_quiet_step (first | exact x1 _ _))
     refine wpQuiet_nil ?_; intro _ hw'; obtain ⟨⟨dq, osq⟩, hw''⟩ := hw'; subst hw''; have HBq := hidE (HB.out.trans ((below_regrown wr dq osq).mono HB.out.size)); clear HB k0 q0 x1; go_wp2
     go_roundw
     case rel => exact ⟨k + 1, by omega, by go_num, HBq, HA2⟩
     case measure => simp [RowKit.intOf]; omega
    | false =>
     rw [hs] at x1; have HN := hidE (sameSS_no HL.out hlt hs); go_wp2
     refine wp_region_quiet_below (by kernel_rfl) (by kernel_rfl) ?_
     repeat (go_big_quiet_step (first | exact x1 _ _))
     refine wpQuiet_nil ?_; intro _ hw'; obtain ⟨⟨dq, osq⟩, hw''⟩ := hw'; subst hw''; have HBq := hidE (HB.out.trans ((below_regrown wr dq osq).mono HB.out.size)); clear HB k0 q0 x1; go_wp2
     go_ret
     exact ⟨Mk.ret_bE HN.out, HBq.out⟩
   ·
    go_wp2
    go_ret
    have HT : sameSS es fs = true := by
     unfold sameSS; have := HA.out; rw [show k = es.length from by omega] at this; rw [decide_eq_true HL.out, this]; rfl
    exact ⟨Mk.ret_bE HT.symm, HB.out⟩
 ·
  have hb : ((es.length : Int) == (fs.length : Int)) = false := by rw [beq_eq_false_iff_ne]; omega
  go_enter Tryz.func43, Tryz.ntmps43
  go_wp2
  go_ret
  exact ⟨Mk.ret_bE (by unfold sameSS; rw [decide_eq_false hlen]; rfl), Below.refl _ _⟩
structure O where
 b : List E
 l : List (List Mk.E)
 u : List Mk.E
structure Arg (w : World) (v : Value) (x : O) : Prop where
 ex : ∃ a0 g0 o0 c0 a1 g1 o1 c1 a2 g2 o2 c2, v = .agg #[.slice a0 x.b.length c0, .slice a1 x.l.length c1, .slice a2 x.u.length c2] ∧ (0 < x.b.length → a0 = some ⟨g0, o0, none⟩) ∧ (0 < x.l.length → a1 = some ⟨g1, o1, none⟩) ∧ (0 < x.u.length → a2 = some ⟨g2, o2, none⟩) ∧ Ents w g0 o0 x.b ∧ LL w g1 o1 x.l ∧ Mk.Ents w g2 o2 x.u
theorem Arg.below {w w' : World} {v : Value} {x : O} (h : Arg w v x) (hb : Below w.heap.size w w') : Arg w' v x := by
 obtain ⟨a0, g0, o0, c0, a1, g1, o1, c1, a2, g2, o2, c2, h1, h2, h3, h4, h5, h6, h7⟩ := h.ex; exact ⟨⟨a0, g0, o0, c0, a1, g1, o1, c1, a2, g2, o2, c2, h1, h2, h3, h4, h5.below hb, h6.below hb, h7.below hb⟩⟩
structure Sz (n : Nat) (x : O) : Prop where
 b0 : x.b.length ≤ n
 b1 : ∀ e ∈ x.b, e.p.size ≤ n ∧ e.x.size ≤ n
 l0 : x.l.length ≤ n
 l1 : ∀ l ∈ x.l, l.length ≤ n ∧ ∀ e ∈ l, e.p.size ≤ n ∧ e.x.size ≤ n
 u0 : x.u.length ≤ n
 u1 : ∀ e ∈ x.u, e.p.size ≤ n ∧ e.x.size ≤ n
theorem B3 {a b c : World} (h : Below a.heap.size a b) (k : Below b.heap.size b c) : Below a.heap.size a c := h.trans (k.mono h.size)
theorem bA {w X : World} (h : Below w.heap.size w X) (o : Obj) : Below w.heap.size w (X.alloc o) := h.alloc h.size o
structure C3 (W : World) (b : Nat) (u v x : Value) : Prop where
 c0 : W.cell? ⟨b, 0, none⟩ = some u
 c1 : W.cell? ⟨b, 1, none⟩ = some v
 c2 : W.cell? ⟨b, 2, none⟩ = some x
 f0 : W.frozen? ⟨b, 0, none⟩ = false
 f1 : W.frozen? ⟨b, 1, none⟩ = false
 f2 : W.frozen? ⟨b, 2, none⟩ = false
theorem C3.new (w : World) (u v x : Value) (T : TypeId) : C3 (w.alloc (.cells #[u, v, x] T)) w.heap.size u v x := ⟨by simp, by simp, by simp, by simp, by simp, by simp⟩
theorem C3.below {W W' : World} {b : Nat} {u v x : Value} (h : C3 W b u v x) (hB : Below W.heap.size W W') : C3 W' b u v x := by
 have lt := World.block_lt_of_cell? W ⟨b, 0, none⟩ h.c0; exact ⟨(hB.cell (p := ⟨b, 0, none⟩) lt).trans h.c0, (hB.cell (p := ⟨b, 1, none⟩) lt).trans h.c1, (hB.cell (p := ⟨b, 2, none⟩) lt).trans h.c2, (hB.frozen (p := ⟨b, 0, none⟩) lt).trans h.f0, (hB.frozen (p := ⟨b, 1, none⟩) lt).trans h.f1, (hB.frozen (p := ⟨b, 2, none⟩) lt).trans h.f2⟩
theorem C3.on {W : World} {b : Nat} {u v x : Value} (h : C3 W b u v x) (o : Obj) : C3 (W.alloc o) b u v x := h.below (bA (Below.refl _ W) o)
theorem cOther (W : World) (b c i j : Nat) (v : Value) (h : c ≠ b) : (W.setCell ⟨b, j, none⟩ v).cell? ⟨c, i, none⟩ = W.cell? ⟨c, i, none⟩ := World.cell?_setCell_other _ _ _ _ (fun q => h (congrArg Addr.block q).symm)
theorem C3.other {W : World} {b c j : Nat} {u v x : Value} (h : C3 W c u v x) (hc : c ≠ b) (y : Value) : C3 (W.setCell ⟨b, j, none⟩ y) c u v x :=
 ⟨(cOther _ _ _ _ _ _ hc).trans h.c0, (cOther _ _ _ _ _ _ hc).trans h.c1, (cOther _ _ _ _ _ _ hc).trans h.c2, by rw [World.frozen?_setCell]; exact h.f0, by rw [World.frozen?_setCell]; exact h.f1, by rw [World.frozen?_setCell]; exact h.f2⟩
theorem C3.set0 {W : World} {b : Nat} {u v x : Value} (h : C3 W b u v x) (y : Value) : C3 (W.setCell ⟨b, 0, none⟩ y) b y v x :=
 ⟨Mk.cell_eq _ h.c0, (Mk.cell_ne _ _ _ _ _ (by decide)).trans h.c1, (Mk.cell_ne _ _ _ _ _ (by decide)).trans h.c2, by rw [World.frozen?_setCell]; exact h.f0, by rw [World.frozen?_setCell]; exact h.f1, by rw [World.frozen?_setCell]; exact h.f2⟩
theorem C3.set1 {W : World} {b : Nat} {u v x : Value} (h : C3 W b u v x) (y : Value) : C3 (W.setCell ⟨b, 1, none⟩ y) b u y x :=
 ⟨(Mk.cell_ne _ _ _ _ _ (by decide)).trans h.c0, Mk.cell_eq _ h.c1, (Mk.cell_ne _ _ _ _ _ (by decide)).trans h.c2, by rw [World.frozen?_setCell]; exact h.f0, by rw [World.frozen?_setCell]; exact h.f1, by rw [World.frozen?_setCell]; exact h.f2⟩
theorem C3.set2 {W : World} {b : Nat} {u v x : Value} (h : C3 W b u v x) (y : Value) : C3 (W.setCell ⟨b, 2, none⟩ y) b u v y :=
 ⟨(Mk.cell_ne _ _ _ _ _ (by decide)).trans h.c0, (Mk.cell_ne _ _ _ _ _ (by decide)).trans h.c1, Mk.cell_eq _ h.c2, by rw [World.frozen?_setCell]; exact h.f0, by rw [World.frozen?_setCell]; exact h.f1, by rw [World.frozen?_setCell]; exact h.f2⟩
set_option maxHeartbeats 800000 in
set_option maxRecDepth 100000 in
theorem eqOver_any (w : World) (v v' : Value) (x y : O) (hS : Sz 16777216 x) (hS' : Sz 16777216 y) (hA : Arg w v x) (hA' : Arg w v' y) :
  Calls Tryz.prog 13 #[v, v'] w fun e w' => e = .returned (.bool (sameES x.b y.b && (sameSS x.l y.l && Mk.sameES x.u y.u))) ∧ Below w.heap.size w w' := by
 obtain ⟨a0, g0, o0, c0, a1, g1, o1, c1, a2, g2, o2, c2, rfl, h2, h3, h4, h5, h6, h7⟩ := hA.ex; obtain ⟨a0', g0', o0', c0', a1', g1', o1', c1', a2', g2', o2', c2', rfl, h2', h3', h4', h5', h6', h7'⟩ := hA'.ex; have HE := hidE h5; have HL := hidE h6; have HU := hidE h7; have HE' := hidE h5'; have HL' := hidE h6'; have HU' := hidE h7'; have HS := hidE hS; have HS' := hidE hS'; clear hA h5 h6 h7 hS hA' h5' h6' h7' hS'; have BX := (C3.new w (.slice a0 x.b.length c0) (.slice a1 x.l.length c1) (.slice a2 x.u.length c2) 33).on (.cells #[.slice a0' y.b.length c0', .slice a1' y.l.length c1', .slice a2' y.u.length c2'] 33); have BY := C3.new (w.alloc (.cells #[.slice a0 x.b.length c0, .slice a1 x.l.length c1, .slice a2 x.u.length c2] 33)) (.slice a0' y.b.length c0') (.slice a1' y.l.length c1') (.slice a2' y.u.length c2') 33; simp only [World.size_alloc] at BY; obtain ⟨W0, hW0⟩ : ∃ W0, W0 = (w.alloc (.cells #[.slice a0 x.b.length c0, .slice a1 x.l.length c1, .slice a2 x.u.length c2] 33)).alloc (.cells #[.slice a0' y.b.length c0', .slice a1' y.l.length c1', .slice a2' y.u.length c2'] 33) := ⟨_, rfl⟩
 have hB0 : Below w.heap.size w W0 := by rw [hW0]; exact bA (bA (Below.refl _ w) _) _
 rw [← hW0] at BX BY; have HB0 := hidE hB0; have HX := hidE BX; have HY := hidE BY; clear BX BY hB0; go_enter Tryz.func13, Tryz.ntmps13
 go_wp2_with fail
 rw [← hW0]; clear hW0; refine (eqEntS_any _ a0 a0' g0 o0 c0 g0' o0' c0' x.b y.b HS.out.b0 HS'.out.b0 h2 h2' (HE.out.below HB0.out) (HE'.out.below HB0.out)).mono ?_; rintro e w1 ⟨rfl, hB⟩; have HB1 := hidE (B3 HB0.out hB); have HX1 := hidE (HX.out.below hB); have HY1 := hidE (HY.out.below hB); clear hB HB0 HX HY; cases hs1 : sameES x.b y.b with
 | false =>
  go_wp2
  go_ret
  exact ⟨by rw [hs1]; rfl, HB1.out⟩
 | true =>
  obtain ⟨k0, k1, k2, -, -, -⟩ := HX1.out; obtain ⟨l0, l1, l2, -, -, -⟩ := HY1.out; go_wp2_with fail
  refine (eqSS_any _ a1 a1' g1 o1 c1 g1' o1' c1' x.l y.l HS.out.l0 HS'.out.l0 (fun l hl => (HS.out.l1 l hl).1) (fun l hl => (HS'.out.l1 l hl).1) h3 h3' (HL.out.below HB1.out) (HL'.out.below HB1.out)).mono ?_; rintro e w2 ⟨rfl, hB⟩; have HB2 := hidE (B3 HB1.out hB); have HX2 := hidE (HX1.out.below hB); have HY2 := hidE (HY1.out.below hB); clear hB HB1 HX1 HY1 k0 k1 k2 l0 l1 l2; cases hs2 : sameSS x.l y.l with
  | false =>
   go_wp2
   go_ret
   exact ⟨by rw [hs1, hs2]; rfl, HB2.out⟩
  | true =>
   obtain ⟨k0, k1, k2, -, -, -⟩ := HX2.out; obtain ⟨l0, l1, l2, -, -, -⟩ := HY2.out; go_wp2_with fail
   refine (Mk.eqEntS_any _ a2 a2' g2 o2 c2 g2' o2' c2' x.u y.u HS.out.u0 HS'.out.u0 h4 h4' (HU.out.below HB2.out) (HU'.out.below HB2.out)).mono ?_; rintro e w3 ⟨rfl, hB⟩; have HB3 := hidE (B3 HB2.out hB); clear hB HB2 HX2 HY2 k0 k1 k2 l0 l1 l2; cases hs3 : Mk.sameES x.u y.u with
   | false =>
    go_wp2
    go_ret
    exact ⟨by rw [hs1, hs2, hs3]; rfl, HB3.out⟩
   | true =>
    go_wp2
    go_ret
    exact ⟨by rw [hs1, hs2, hs3]; rfl, HB3.out⟩
end Go.Proofs.YteppodogghjfhaaGreatDoor.Ov
namespace Go.Proofs.YteppodogghjfhaaGreatDoor
open Go.RowKit Go.Lib Go.Sort
set_option maxHeartbeats 800000 in
set_option maxRecDepth 100000 in
theorem szEntST_any (w : World) (a : Option Addr) (g o cap : Nat) (es : List E) (left : Int) (h0 : 0 ≤ left) (hl : left ≤ 1048576) (hn : es.length ≤ maxLen) (hz : ∀ e ∈ es, e.p.size ≤ maxLen ∧ e.x.size ≤ maxLen) (ha : 0 < es.length → a = some ⟨g, o, none⟩) (hE : Ents w g o es) :
  Calls Tryz.prog 32 #[.slice a es.length cap, .int .i64 left] w fun e w' => ∃ r : Int, e = .returned (.int .i64 r) ∧ r ≤ left ∧ -1 ≤ r ∧ (0 ≤ r → r ≤ left - es.length) ∧ (0 ≤ r → (es.length : Int) ≤ left ∧ ∀ e ∈ es, (e.p.size : Int) ≤ left ∧ (e.x.size : Int) ≤ left) ∧ Below w.heap.size w w' := by
 have HE := hidE hE; have HZ := hidE hz; clear hE hz; unfold maxLen at hn; by_cases hlen : (es.length : Int) ≤ left
 ·
  go_enter Tryz.func32, Tryz.ntmps32
  go_wp2
  go_loopw [1, 5] (fun lv iv wl => ∃ (k : Nat) (r : Int), k ≤ es.length ∧ iv = .int .i64 k ∧ lv = .int .i64 r ∧ 0 ≤ r ∧ r ≤ left - es.length ∧ Hid (Below w.heap.size w wl) ∧ Hid (∀ j (h : j < es.length), j < k → (es[j].p.size : Int) ≤ left ∧ (es[j].x.size : Int) ≤ left)) (fun _ iv _ => es.length - (RowKit.intOf iv).toNat)
  case atStart => exact ⟨0, left - es.length, Nat.zero_le _, rfl, rfl, by omega, by omega, Below.refl _ _, fun j _ h => by omega⟩
  case round =>
   obtain ⟨k, r, hk, rfl, rfl, r0, r1, HB, HA⟩ := hrel; by_cases hlt : k < es.length
   ·
    obtain rfl := ha (by omega); obtain ⟨c0, c1, c2⟩ := (HE.out.below HB.out) k hlt; obtain ⟨z0, z1⟩ := HZ.out es[k] (List.getElem_mem _); go_wp2_with fail
    refine (szEnt_any _ _ _ _ r r0 (by omega) z0 z1).mono ?_; rintro e w2 ⟨r2, rfl, q0, q1, q2, hB2⟩; have HB2 := hidE (HB.out.trans (hB2.mono HB.out.size)); have HQ := hidE q2; clear hB2 q2 HB c0 c1 c2; by_cases hr2 : 0 ≤ r2
    ·
     go_wp2
     go_roundw
     case rel => exact ⟨k + 1, r2, by omega, by go_num, rfl, hr2, by omega, HB2, fun j hj hjk => by
      by_cases e : j = k
      ·
       subst e; have := HQ.out hr2; exact ⟨by omega, by omega⟩
      ·
       exact HA.out j hj (by omega)⟩
     case measure => simp [RowKit.intOf]; omega
    ·
     go_wp2
     go_ret
     exact ⟨_, rfl, by omega, by omega, fun h => by omega, fun h => by omega, HB2.out⟩
   ·
    go_wp2
    go_ret
    refine ⟨_, rfl, by omega, by omega, fun _ => r1, fun _ => ⟨hlen, fun e he => ?_⟩, HB.out⟩; obtain ⟨j, hj, ej⟩ := List.getElem_of_mem he; rw [← ej]; exact HA.out j hj (by omega)
 ·
  go_enter Tryz.func32, Tryz.ntmps32
  go_wp2
  go_ret
  exact ⟨_, rfl, by omega, by omega, fun h => by omega, fun h => by omega, Below.refl _ _⟩
namespace Mk
set_option maxHeartbeats 800000 in
set_option maxRecDepth 100000 in
theorem szEntST_any (w : World) (a : Option Addr) (g o cap : Nat) (es : List E) (left : Int) (h0 : 0 ≤ left) (hl : left ≤ 1048576) (hn : es.length ≤ maxLen) (hz : ∀ e ∈ es, e.p.size ≤ maxLen ∧ e.x.size ≤ maxLen) (ha : 0 < es.length → a = some ⟨g, o, none⟩) (hE : Ents w g o es) :
  Calls Tryz.prog 34 #[.slice a es.length cap, .int .i64 left] w fun e w' => ∃ r : Int, e = .returned (.int .i64 r) ∧ r ≤ left ∧ -1 ≤ r ∧ (0 ≤ r → r ≤ left - es.length) ∧ (0 ≤ r → (es.length : Int) ≤ left ∧ ∀ e ∈ es, (e.p.size : Int) ≤ left ∧ (e.x.size : Int) ≤ left) ∧ Below w.heap.size w w' := by
 have HE := hidE hE; have HZ := hidE hz; clear hE hz; unfold maxLen at hn; by_cases hlen : (es.length : Int) ≤ left
 ·
  go_enter Tryz.func34, Tryz.ntmps34
  go_wp2
  go_loopw [1, 5] (fun lv iv wl => ∃ (k : Nat) (r : Int), k ≤ es.length ∧ iv = .int .i64 k ∧ lv = .int .i64 r ∧ 0 ≤ r ∧ r ≤ left - es.length ∧ Hid (Below w.heap.size w wl) ∧ Hid (∀ j (h : j < es.length), j < k → (es[j].p.size : Int) ≤ left ∧ (es[j].x.size : Int) ≤ left)) (fun _ iv _ => es.length - (RowKit.intOf iv).toNat)
  case atStart => exact ⟨0, left - es.length, Nat.zero_le _, rfl, rfl, by omega, by omega, Below.refl _ _, fun j _ h => by omega⟩
  case round =>
   obtain ⟨k, r, hk, rfl, rfl, r0, r1, HB, HA⟩ := hrel; by_cases hlt : k < es.length
   ·
    obtain rfl := ha (by omega); obtain ⟨c0, c1, c2⟩ := (HE.out.below HB.out) k hlt; obtain ⟨z0, z1⟩ := HZ.out es[k] (List.getElem_mem _); go_wp2_with fail
    refine (szEnt_any _ _ _ _ r r0 (by omega) z0 z1).mono ?_; rintro e w2 ⟨r2, rfl, q0, q1, q2, hB2⟩; have HB2 := hidE (HB.out.trans (hB2.mono HB.out.size)); have HQ := hidE q2; clear hB2 q2 HB c0 c1 c2; by_cases hr2 : 0 ≤ r2
    ·
     go_wp2
     go_roundw
     case rel => exact ⟨k + 1, r2, by omega, by go_num, rfl, hr2, by omega, HB2, fun j hj hjk => by
      by_cases e : j = k
      ·
       subst e; have := HQ.out hr2; exact ⟨by omega, by omega⟩
      ·
       exact HA.out j hj (by omega)⟩
     case measure => simp [RowKit.intOf]; omega
    ·
     go_wp2
     go_ret
     exact ⟨_, rfl, by omega, by omega, fun h => by omega, fun h => by omega, HB2.out⟩
   ·
    go_wp2
    go_ret
    refine ⟨_, rfl, by omega, by omega, fun _ => r1, fun _ => ⟨hlen, fun e he => ?_⟩, HB.out⟩; obtain ⟨j, hj, ej⟩ := List.getElem_of_mem he; rw [← ej]; exact HA.out j hj (by omega)
 ·
  go_enter Tryz.func34, Tryz.ntmps34
  go_wp2
  go_ret
  exact ⟨_, rfl, by omega, by omega, fun h => by omega, fun h => by omega, Below.refl _ _⟩
end Mk
namespace Ov
def totM (ls : List (List Mk.E)) : Nat := (ls.map List.length).sum
theorem totM_succ {ls : List (List Mk.E)} {k : Nat} (h : k < ls.length) : totM (ls.take (k + 1)) = totM (ls.take k) + ls[k].length := by
 unfold totM; rw [List.take_succ_eq_append_getElem h, List.map_append, List.sum_append]; simp
def totO (x : O) : Nat := x.b.length + (x.l.length + totM x.l) + x.u.length
set_option maxHeartbeats 800000 in
set_option maxRecDepth 100000 in
theorem szSST_any (w : World) (a : Option Addr) (g o cap : Nat) (ls : List (List Mk.E)) (left : Int) (h0 : 0 ≤ left) (hl : left ≤ 1048576) (hn : ls.length ≤ maxLen) (hz : ∀ l ∈ ls, l.length ≤ maxLen ∧ ∀ e ∈ l, e.p.size ≤ maxLen ∧ e.x.size ≤ maxLen) (ha : 0 < ls.length → a = some ⟨g, o, none⟩) (hE : LL w g o ls) :
  Calls Tryz.prog 33 #[.slice a ls.length cap, .int .i64 left] w fun e w' => ∃ r : Int, e = .returned (.int .i64 r) ∧ r ≤ left ∧ -1 ≤ r ∧ (0 ≤ r → r ≤ left - ls.length - totM ls) ∧ (0 ≤ r → (ls.length : Int) ≤ left ∧ ∀ l ∈ ls, (l.length : Int) ≤ left ∧ ∀ e ∈ l, (e.p.size : Int) ≤ left ∧ (e.x.size : Int) ≤ left) ∧ Below w.heap.size w w' := by
 have HE := hidE hE; have HZ := hidE hz; clear hE hz; unfold maxLen at hn; by_cases hlen : (ls.length : Int) ≤ left
 ·
  go_enter Tryz.func33, Tryz.ntmps33
  go_wp2
  go_loopw [1, 5] (fun lv iv wl => ∃ (k : Nat) (r : Int), k ≤ ls.length ∧ iv = .int .i64 k ∧ lv = .int .i64 r ∧ 0 ≤ r ∧ r ≤ left - ls.length - totM (ls.take k) ∧ Hid (Below w.heap.size w wl) ∧ Hid (∀ j (h : j < ls.length), j < k → (ls[j].length : Int) ≤ left ∧ ∀ e ∈ ls[j], (e.p.size : Int) ≤ left ∧ (e.x.size : Int) ≤ left)) (fun _ iv _ => ls.length - (RowKit.intOf iv).toNat)
  case atStart => exact ⟨0, left - ls.length, Nat.zero_le _, rfl, rfl, by omega, by simp [totM], Below.refl _ _, fun j _ h => by omega⟩
  case round =>
   obtain ⟨k, r, hk, rfl, rfl, r0, r1, HB, HA⟩ := hrel; by_cases hlt : k < ls.length
   ·
    obtain rfl := ha (by omega); obtain ⟨a2, g2, o2, cap2, c0, ha2, hE2, hc2⟩ := (HE.out.below HB.out) k hlt; obtain ⟨z0, z1⟩ := HZ.out ls[k] (List.getElem_mem _); go_wp2_with fail
    refine (Mk.szEntST_any _ a2 g2 o2 cap2 ls[k] r r0 (by omega) z0 z1 ha2 hE2).mono ?_; rintro e w2 ⟨r2, rfl, q0, q1, qt, q2, hB2⟩; have hts := totM_succ (ls := ls) hlt; have HB2 := hidE (HB.out.trans (hB2.mono HB.out.size)); have HQ := hidE q2; clear hB2 q2 HB c0 hE2 ha2; by_cases hr2 : 0 ≤ r2
    ·
     go_wp2
     go_roundw
     case rel => exact ⟨k + 1, r2, by omega, by go_num, rfl, hr2, by have := qt hr2; omega, HB2, fun j hj hjk => by
      by_cases e : j = k
      ·
       subst e; have := HQ.out hr2; exact ⟨by omega, fun e he => by have := this.2 e he; omega⟩
      ·
       exact HA.out j hj (by omega)⟩
     case measure => simp [RowKit.intOf]; omega
    ·
     go_wp2
     go_ret
     exact ⟨_, rfl, by omega, by omega, fun h => by omega, fun h => by omega, HB2.out⟩
   ·
    go_wp2
    go_ret
    rw [List.take_of_length_le (by omega)] at r1; refine ⟨_, rfl, by omega, by omega, fun _ => r1, fun _ => ⟨hlen, fun l hl => ?_⟩, HB.out⟩; obtain ⟨j, hj, ej⟩ := List.getElem_of_mem hl; rw [← ej]; exact HA.out j hj (by omega)
 ·
  go_enter Tryz.func33, Tryz.ntmps33
  go_wp2
  go_ret
  exact ⟨_, rfl, by omega, by omega, fun h => by omega, fun h => by omega, Below.refl _ _⟩
set_option maxHeartbeats 800000 in
set_option maxRecDepth 100000 in
theorem szOverT_any (w : World) (v : Value) (x : O) (left : Int) (h0 : 0 ≤ left) (hl : left ≤ 1048576) (hS : Sz maxLen x) (hA : Arg w v x) :
  Calls Tryz.prog 9 #[v, .int .i64 left] w fun e w' => ∃ r : Int, e = .returned (.int .i64 r) ∧ r ≤ left ∧ -1 ≤ r ∧ (0 ≤ r → Sz 1048576 x ∧ (totO x : Int) + r ≤ left) ∧ Below w.heap.size w w' := by
 obtain ⟨a0, g0, o0, c0, a1, g1, o1, c1, a2, g2, o2, c2, rfl, h2, h3, h4, h5, h6, h7⟩ := hA.ex; have HE := hidE h5; have HL := hidE h6; have HU := hidE h7; have HS := hidE hS; have BX := C3.new w (.slice a0 x.b.length c0) (.slice a1 x.l.length c1) (.slice a2 x.u.length c2) 26; obtain ⟨W0, hW0⟩ : ∃ W0, W0 = w.alloc (.cells #[.slice a0 x.b.length c0, .slice a1 x.l.length c1, .slice a2 x.u.length c2] 26) := ⟨_, rfl⟩
 have hB0 : Below w.heap.size w W0 := by rw [hW0]; exact bA (Below.refl _ w) _
 rw [← hW0] at BX; have HB0 := hidE hB0; have HX := hidE BX; clear hA h5 h6 h7 hS BX hB0; go_enter Tryz.func9, Tryz.ntmps9
 go_wp2_with fail
 rw [← hW0]; clear hW0; refine (szEntST_any _ a0 g0 o0 c0 x.b left h0 hl HS.out.b0 HS.out.b1 h2 (HE.out.below HB0.out)).mono ?_; rintro e w1 ⟨r1, rfl, p1, q1, s1, t1, hB⟩; have HB1 := hidE (B3 HB0.out hB); have HX1 := hidE (HX.out.below hB); have HT1 := hidE t1; clear hB t1 HB0 HX; by_cases hr1 : 0 ≤ r1
 ·
  obtain ⟨k0, k1, k2, -, -, -⟩ := HX1.out; go_wp2_with fail
  refine (szSST_any _ a1 g1 o1 c1 x.l r1 hr1 (by omega) HS.out.l0 HS.out.l1 h3 (HL.out.below HB1.out)).mono ?_; rintro e w2 ⟨r2, rfl, p2, q2, s2, t2, hB⟩; have HB2 := hidE (B3 HB1.out hB); have HX2 := hidE (HX1.out.below hB); have HT2 := hidE t2; clear hB t2 HB1 HX1 k0 k1 k2; by_cases hr2 : 0 ≤ r2
  ·
   obtain ⟨k0, k1, k2, -, -, -⟩ := HX2.out; go_wp2_with fail
   refine (Mk.szEntST_any _ a2 g2 o2 c2 x.u r2 hr2 (by omega) HS.out.u0 HS.out.u1 h4 (HU.out.below HB2.out)).mono ?_; rintro e w3 ⟨r3, rfl, p3, q3, s3, t3, hB⟩; have HB3 := hidE (B3 HB2.out hB); have HT3 := hidE t3; clear hB t3 HB2 HX2 k0 k1 k2; by_cases hr3 : 0 ≤ r3
   ·
    go_wp2
    go_ret
    refine ⟨_, rfl, by omega, by omega, fun _ => ?_, HB3.out⟩; obtain ⟨u1, u2⟩ := HT1.out hr1; obtain ⟨v1, v2⟩ := HT2.out hr2; obtain ⟨z1, z2⟩ := HT3.out hr3; refine ⟨⟨by omega, fun e he => by have := u2 e he; omega, by omega, fun l hl => ⟨by have := (v2 l hl).1; omega, fun e he => by have := (v2 l hl).2 e he; omega⟩, by omega, fun e he => by have := z2 e he; omega⟩, ?_⟩; have := s1 hr1; have := s2 hr2; have := s3 hr3; unfold totO; omega
   ·
    go_wp2
    go_ret
    exact ⟨_, rfl, by omega, by omega, fun h => by omega, HB3.out⟩
  ·
   go_wp2
   go_ret
   exact ⟨_, rfl, by omega, by omega, fun h => by omega, HB2.out⟩
 ·
  go_wp2
  go_ret
  exact ⟨_, rfl, by omega, by omega, fun h => by omega, HB1.out⟩
end Ov
end Go.Proofs.YteppodogghjfhaaGreatDoor
namespace Go.Proofs.YteppodogghjfhaaGreatDoor.Ov
open Go.RowKit Go.Lib Go.Deep
theorem Tryz.cellsS : Tryz.prog.cellsOf 24 = 1 := by kernel_rfl
def LSl (w : World) (a : Option Addr) (len cap : Nat) (ls : List (List Mk.E)) : Prop := ls.length = len ∧ len ≤ cap ∧ len ≤ maxLen ∧ (∀ l ∈ ls, l.length ≤ maxLen ∧ ∀ e ∈ l, e.p.size ≤ maxLen ∧ e.x.size ≤ maxLen) ∧ ∃ g o, (0 < ls.length → a = some ⟨g, o, none⟩) ∧ LL w g o ls
set_option maxRecDepth 100000 in
theorem open_SS {H : Type} {enc : TypeId × Value → H} {w : World} {base : Nat} {spare : Nat → Bool} {held : Bool} {fuel : Nat} {a : Option Addr} {len cap : Nat} {x : DataW H × List MemPlace}
  (h : DataW.trod enc Tryz.prog w base spare held fuel 23 [.slice a len cap] = some x) : ∃ ls, LSl w a len cap ls := by
 rcases open_slice Tryz.underlying23 h with ⟨h0, _⟩ | ⟨a', len', cap', m, n, D, Pl, h0, _, hl, hm, hmm, _, hx⟩
 ·
  simp only [List.cons.injEq, Value.slice.injEq, and_true] at h0; obtain ⟨rfl, rfl, rfl⟩ := h0; exact ⟨[], rfl, Nat.le_refl _, Nat.zero_le _, fun e he => (by cases he), 0, 0, fun h => (by cases h), fun i hi => (by cases hi)⟩
 ·
  simp only [List.cons.injEq, Value.slice.injEq, and_true] at h0; obtain ⟨rfl, rfl, rfl⟩ := h0; have hlm : len ≤ m := by rw [hmm]; split <;> omega
  have each : ∀ i, i < len → ∃ y : List Mk.E × Option Addr × Nat, w.cell? (a'.add i) = some (.slice y.2.1 y.1.length y.2.2) ∧ Mk.EntSl w y.2.1 y.1.length y.2.2 y.1 := by
   intro i hi; obtain ⟨cs', h1, h2⟩ := hx i (by omega); rw [Tryz.cellsS] at h1; obtain ⟨_, hlen, hcell⟩ := World.cells?_some h1; have k0 := hcell 0 (by omega); rw [add_add] at k0
   have hsl : ∃ a2 len2 cap2, cs' = [.slice a2 len2 cap2] := by
    rcases open_slice Tryz.underlying24 h2 with ⟨e0, _⟩ | ⟨b', l', c', _, _, _, _, e0, _⟩
    ·
     exact ⟨_, _, _, e0⟩
    ·
     exact ⟨_, _, _, e0⟩
   obtain ⟨a2, len2, cap2, rfl⟩ := hsl; obtain ⟨es, hes⟩ := Mk.open_ents h2; obtain rfl : es.length = len2 := hes.1; exact ⟨(es, a2, cap2), by simpa using k0, hes⟩
  by_cases h0 : 0 < len
  ·
   obtain ⟨f, hf⟩ := @choose_lt (List Mk.E × Option Addr × Nat) ⟨([], none, 0)⟩ len _ each; obtain ⟨b, off, spot⟩ := a'; have hspot : spot = none := by simpa [Addr.add] using World.cell?_spot (hf 0 h0).1
   subst hspot; refine ⟨(List.range len).map (fun i => (f i).1), by simp, hl, Nat.le_trans hl hm, fun l hl => ?_, b, off, fun _ => rfl, fun i hi => ?_⟩
   ·
    obtain ⟨i, hi, rfl⟩ := List.mem_map.1 hl; obtain ⟨_, _, e3, e4, _⟩ := (hf i (List.mem_range.1 hi)).2; exact ⟨e3, e4⟩
   ·
    simp only [List.length_map, List.length_range] at hi; obtain ⟨q0, _, e2, _, _, g, o, e5, e6⟩ := hf i hi; simp only [List.getElem_map, List.getElem_range]; rw [Mk.addr_add] at q0; exact ⟨_, g, o, _, q0, e5, e6, e2⟩
  ·
   obtain rfl : len = 0 := by omega
   exact ⟨[], rfl, hl, Nat.zero_le _, fun e he => (by cases he), 0, 0, fun h => (by cases h), fun i hi => (by cases hi)⟩
theorem isSlice {H : Type} {enc : TypeId × Value → H} {w : World} {base : Nat} {spare : Nat → Bool} {held : Bool} {fuel : Nat} {t e : TypeId} {u : Value} {x : DataW H × List MemPlace} (ht : Tryz.prog.underlying t = some (.slice e))
  (h : DataW.trod enc Tryz.prog w base spare held fuel t [u] = some x) : ∃ a len cap, u = .slice a len cap := by
 rcases open_slice ht h with ⟨e0, _⟩ | ⟨b', l', c', _, _, _, _, e0, _⟩
 ·
  exact ⟨_, _, _, by simpa using e0⟩
 ·
  exact ⟨_, _, _, by simpa using e0⟩
theorem open_over {H : Type} {enc : TypeId × Value → H} {w : World} {base : Nat} {spare : Nat → Bool} {held : Bool} {n : Nat} {u0 u1 u2 : Value} {y0 y1 y2 : DataW H × List MemPlace}
  (o0 : DataW.trod enc Tryz.prog w base spare held n 22 [u0] = some y0) (o1 : DataW.trod enc Tryz.prog w base spare held n 23 [u1] = some y1) (o2 : DataW.trod enc Tryz.prog w base spare held n 24 [u2] = some y2) :
  ∃ x, Arg w (.agg #[u0, u1, u2]) x ∧ Sz maxLen x := by
 obtain ⟨a0, l0, c0, rfl⟩ := isSlice Tryz.underlying22 o0; obtain ⟨a1, l1, c1, rfl⟩ := isSlice Tryz.underlying23 o1; obtain ⟨a2, l2, c2, rfl⟩ := isSlice Tryz.underlying24 o2; obtain ⟨es, rfl, _, b2, b3, g0, q0, b4, b5⟩ := open_ents o0; obtain ⟨ls, rfl, _, d2, d3, g1, q1, d4, d5⟩ := open_SS o1; obtain ⟨ms, rfl, _, f2, f3, g2, q2, f4, f5⟩ := Mk.open_ents o2; exact ⟨⟨es, ls, ms⟩, ⟨⟨a0, g0, q0, c0, a1, g1, q1, c1, a2, g2, q2, c2, rfl, b4, d4, f4, b5, d5, f5⟩⟩, ⟨b2, b3, d2, d3, f2, f3⟩⟩
end Go.Proofs.YteppodogghjfhaaGreatDoor.Ov
