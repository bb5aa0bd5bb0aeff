import Derived.Deep.RegionHeld3
import Derived.Lib.QuietBelow
import Derived.Test.YteppodogghjfhaaGreatDoorHPk28
import Derived.Test.YteppodogghjfhaaGreatDoorHLyDfW
import Derived.Test.YteppodogghjfhaaGreatDoorHPk10
import Derived.Test.YteppodogghjfhaaGreatDoorHPk11
import Derived.Test.YteppodogghjfhaaGreatDoorHPk20
namespace Go.Proofs.YteppodogghjfhaaGreatDoor.Ov
open Go.RowKit Go.Lib Go.Sort
theorem RE.sDiff {w : World} {v v' : Value} {es fs : List E} (h : RE w v es) (h' : RE w v' fs) (hte : treeE es = true) (htf : treeE fs = true) :
  Calls Tryz.prog 38 #[v, v'] w fun r w' => ∃ u, r = .returned u ∧ RM w' u (Ly.diffE es fs) ∧ Mk.LieB w' w.heap.size u (Ly.diffE es fs) ∧ Below w.heap.size w w' := by
 obtain ⟨a, g, o, cap, rfl, h1, h2, h3, h4, h5⟩ := h; obtain ⟨a', g', o', cap', rfl, k1, k2, k3, k4, k5⟩ := h'; refine (Ly.l3Diff_any w a g o cap es a' g' o' cap' fs hte htf h2 h4 k4 h5 k5).mono ?_; rintro e w1 ⟨u, rfl, ho, hB⟩; have := Ly.diff_sz h3 k3; rw [← Ly.diff_yes hte htf] at ho; exact ⟨_, rfl, lie_rm ho (by omega) this.2, ho, hB⟩
theorem RM.sSame {w : World} {v v' : Value} {es fs : List Mk.E} (h : RM w v es) (h' : RM w v' fs) : Calls Tryz.prog 37 #[v, v'] w fun r w' => r = .returned (.bool (Mk.sameT es fs)) ∧ Below w.heap.size w w' := by
 obtain ⟨a, g, o, cap, rfl, h1, h2, h3, h4, h5⟩ := h; obtain ⟨a', g', o', cap', rfl, k1, k2, k3, k4, k5⟩ := h'; exact Mk.sTreeSame_any w a g o cap es a' g' o' cap' fs (by omega) (by omega) h4 k4 h5 k5
theorem Lie.sm {w : World} {v : Value} {x : O} (h : Lie w v x) : SmE x.b ∧ (∀ l ∈ x.l, SmM l) ∧ SmM x.u := by
 obtain ⟨v0, v1, v2, rfl, h0, ⟨a, g, o, c, e, q1, q2, q3, q4⟩, h2⟩ := h; exact ⟨h0.sm, fun l hl => by obtain ⟨i, hi, rfl⟩ := List.getElem_of_mem hl; obtain ⟨u, _, r⟩ := q4 i hi; exact r.sm, h2.sm⟩
theorem lw_re {w : World} {base : Nat} {v : Value} {x : O} (h : OwnE w base v (lwE x)) (hs : SmE x.b ∧ (∀ l ∈ x.l, SmM l) ∧ SmM x.u) : RE w v (lwE x) := by
 cases hl : lwB x with
 | false => rw [lwE_no hl] at h ⊢; exact own_re h (Nat.zero_le _) (fun e he => by cases he)
 | true =>
  have h2 := (lw_parts hl).2.2.2; exact own_re h (by omega) (by rw [lwE_yes hl]; exact low_sm _ _ hs.2.1 hs.1)
theorem lw_sm {x : O} (hs : SmE x.b ∧ (∀ l ∈ x.l, SmM l) ∧ SmM x.u) : SmE (lwE x) := by
 cases hl : lwB x with
 | false => rw [lwE_no hl]; exact fun e he => by cases he
 | true => rw [lwE_yes hl]; exact low_sm _ _ hs.2.1 hs.1
theorem vw_sm {x : O} (hs : SmE x.b ∧ (∀ l ∈ x.l, SmM l) ∧ SmM x.u) : (vwE x).length ≤ 16 ∧ SmE (vwE x) := by
 cases hl : lwB x with
 | false => rw [vwE_no hl]; exact ⟨Nat.zero_le _, fun e he => by cases he⟩
 | true => rw [vwE_yes hl]; exact onE_szV hs.2.2 (lw_sm hs)
theorem vw_re {w : World} {base : Nat} {v : Value} {x : O} (h : OwnE w base v (vwE x)) (hs : SmE x.b ∧ (∀ l ∈ x.l, SmM l) ∧ SmM x.u) : RE w v (vwE x) := by
 have := vw_sm hs; exact own_re h (by omega) this.2
set_option maxHeartbeats 2000000 in
set_option maxRecDepth 100000 in
theorem sOverOk_any (w : World) (v : Value) (x : O) (h : Lie w v x) :
  Calls Tryz.prog 10 #[v] w fun r w' => r = .returned (.bool (okB x)) ∧ Below w.heap.size w w' := by
 have hL := h; have hs := h.sm; obtain ⟨v0, v1, v2, rfl, h0, h1, h2⟩ := h; obtain ⟨a0, g0, o0, c0, rfl, -⟩ := id h0; obtain ⟨a1, g1, o1, c1, rfl, -⟩ := id h1; obtain ⟨a2, g2, o2, c2, rfl, -⟩ := id h2; obtain ⟨W0, hW0⟩ : ∃ W0, w.alloc (.cells #[.slice a0 x.b.length c0, .slice a1 x.l.length c1, .slice a2 x.u.length c2] 33) = W0 := ⟨_, rfl⟩
 have hb0 : Below w.heap.size w W0 := by rw [← hW0]; exact (Below.refl _ w).alloc (Nat.le_refl _) _
 have HX := hidE (fun (W : World) (hb : Below W0.heap.size W0 W) => (show C3 W0 w.heap.size (.slice a0 x.b.length c0) (.slice a1 x.l.length c1) (.slice a2 x.u.length c2) from by have := C3.new w (.slice a0 x.b.length c0) (.slice a1 x.l.length c1) (.slice a2 x.u.length c2) 33; rw [hW0] at this; exact this).below hb); have HB := hidE hb0; have HLo := hidE (sl4Lower_any W0 _ x (hL.below hb0)); have HVw := hidE (fun (W : World) (hb : Below W0.heap.size W0 W) => sl4View_any W _ x ((hL.below hb0).below hb)); have HU := hidE (fun (W : World) (hb : Below W0.heap.size W0 W) => (h2.below hb0).below hb); have HS := hidE hs; have HD : Hid (okB x = (vwB x && Mk.sameT x.u (Ly.diffE (lwE x) (vwE x)))) := rfl; clear h0 h1 h2 hb0 hL hs; go_enter Tryz.func10, Tryz.ntmps10
 obtain ⟨k0, k1, k2, -, -, -⟩ := HX.out W0 (Below.refl _ _); go_wp2_with fail
 refine HLo.out.mono ?_; rintro e w1 ⟨u1, rfl, hO, hB⟩; have HB1 := hidE hB; have HE1 := hidE (lw_re hO HS.out); clear hO hB HLo hW0 k0 k1 k2; obtain ⟨k0, k1, k2, -, -, -⟩ := HX.out w1 HB1.out; go_wp2_with fail
 refine (HVw.out _ HB1.out).mono ?_; rintro e w2 ⟨u2, rfl, hO, hB⟩; have HB2 := hidE (B3 HB1.out hB); have HE1' := hidE (HE1.out.below hB); have HE2 := hidE (vw_re hO HS.out); have HQ := hidE (B3 HB.out HB2.out); clear hO hB HVw k0 k1 k2 HE1 HB1; cases hlw : lwB x with
 | false =>
  have hv := vwB_no hlw; have hn := okB_no hlw; rw [hv]; go_wp2
  refine wp_region_quiet_below (by kernel_rfl) (by kernel_rfl) ?_
  repeat (go_big_quiet_step (fail))
  refine wpQuiet_nil ?_; intro _ hw'; obtain ⟨⟨dq, osq⟩, hw''⟩ := hw'; subst hw''; go_wp2
  go_ret
  exact ⟨by rw [hn]; rfl, HQ.out.trans ((below_regrown w2 dq osq).mono HQ.out.size)⟩
 | true =>
  cases hvw : vwB x with
  | false =>
   have hn := okB_no' hvw; go_wp2
   refine wp_region_quiet_below (by kernel_rfl) (by kernel_rfl) ?_
   repeat (go_big_quiet_step (fail))
   refine wpQuiet_nil ?_; intro _ hw'; obtain ⟨⟨dq, osq⟩, hw''⟩ := hw'; subst hw''; go_wp2
   go_ret
   exact ⟨by rw [hn]; rfl, HQ.out.trans ((below_regrown w2 dq osq).mono HQ.out.size)⟩
  | true =>
   have ht1 := (lw_parts hlw).2.2.1
   have ht2 : treeE (vwE x) = true := by
    have h3 := hvw; unfold vwB at h3; rw [Bool.and_eq_true] at h3; rw [vwE_yes hlw]; exact on_treeV h3.2
   have HDf := hidE (fun (W : World) (hb : Below w2.heap.size w2 W) => (HE1'.out.below hb).sDiff (HE2.out.below hb) ht1 ht2); have AS : Hid (∀ W', Below w2.heap.size w2 W' → (W'.cell? ⟨w.heap.size, 2, none⟩ = some (.slice a2 x.u.length c2))) := fun W' hW => (HX.out W' (B3 HB2.out hW)).c2; have HU2 := hidE (fun (W : World) (hb : Below w2.heap.size w2 W) => HU.out W (B3 HB2.out hb)); go_wp2
   refine wp_region_held_drew (S := fun W' => Below w2.heap.size w2 W') (by kernel_rfl) ((Below.refl _ w2).drew) (fun hS0 => ?_); refine wpAnyH_take (i := 0) (v := ?_) rfl (by kernel_rfl) (by kernel_rfl) (by kernel_rfl) (fun _ _ _ h => h) (Or.inl ⟨by kernel_rfl, ?_⟩) hS0 ?_
   rotate_left 1
   ·
    intro w' hw'; go_simp; first | done | with_reducible rfl
   refine wpAnyH_take (i := 1) (v := ?_) rfl (by kernel_rfl) (by kernel_rfl) (by kernel_rfl) (fun _ _ _ h => h) (Or.inl ⟨by kernel_rfl, ?_⟩) hS0 ?_
   rotate_left 1
   ·
    intro w' hw'; go_simp; first | done | with_reducible rfl
   refine wpAnyH_take (i := 2) (v := ?_) rfl (by kernel_rfl) (by kernel_rfl) (by kernel_rfl) (fun _ _ _ h => h) (Or.inl ⟨by kernel_rfl, ?_⟩) hS0 ?_
   rotate_left 1
   ·
    intro w' hw'; go_simp; first | done | with_reducible rfl
   refine wpAnyH_take (i := 3) (v := ?_) rfl (by kernel_rfl) (by kernel_rfl) (by kernel_rfl) (fun _ _ _ h => h) (Or.inl ⟨by kernel_rfl, ?_⟩) hS0 ?_
   rotate_left 1
   ·
    intro w' hw'; go_simp; first | done | with_reducible rfl
   refine wpAnyH_take (i := 4) (v := ?_) rfl (by kernel_rfl) (by kernel_rfl) (by kernel_rfl) (fun _ _ _ h => h) (Or.inl ⟨by kernel_rfl, ?_⟩) hS0 ?_
   rotate_left 1
   ·
    intro w' hw'; go_simp; first | done | with_reducible rfl
   refine wpAnyH_take (i := 5) (v := ?_) rfl (by kernel_rfl) (by kernel_rfl) (by kernel_rfl) (fun _ _ _ h => h) (Or.inl ⟨by kernel_rfl, ?_⟩) hS0 ?_
   rotate_left 1
   ·
    intro w' hw'; go_simp; first | done | with_reducible rfl
   refine wpAnyH_take (i := 6) (v := ?_) rfl (by kernel_rfl) (by kernel_rfl) (by kernel_rfl) (fun _ _ _ h => h) (Or.inl ⟨by kernel_rfl, ?_⟩) hS0 ?_
   rotate_left 1
   ·
    intro w' hw'; have q := AS.out w' hw'; go_simp; first | done | with_reducible rfl
   refine wpAnyH_take (i := 7) (v := ?_) rfl (by kernel_rfl) (by kernel_rfl) (by kernel_rfl) (fun _ _ _ h => h) (Or.inl ⟨by kernel_rfl, ?_⟩) hS0 ?_
   rotate_left 1
   ·
    intro w' hw'; go_simp; first | done | with_reducible rfl
   refine wpAnyH_take (i := 8) (v := ?_) rfl (by kernel_rfl) (by kernel_rfl) (by kernel_rfl) (fun _ _ _ h => h) (Or.inl ⟨by kernel_rfl, ?_⟩) hS0 ?_
   rotate_left 1
   ·
    intro w' hw'; go_simp; first | done | with_reducible rfl
   refine wpAnyH_ready (rs := [9]) (by kernel_rfl) (by simp) (AllReadyH.cons rfl (fun K hK => ?_) AllReadyH.nil); rw [if_pos (by kernel_rfl)]; go_simp; go_wp2_with (first | (go_at_call 38; refine (HDf.out _ hS0).mono ?_; rintro e w3 ⟨u3, rfl, hR3, _, hB3⟩) | fail)
   have hS1 : Below w2.heap.size w2 w3 := B3 hS0 hB3; have HR3 := hidE hR3; clear hB3 hR3; refine hK.out _ _ hS1 (fun _ => ?_); clear hK K; refine wpAnyH_ready (rs := [10]) (by kernel_rfl) (by simp) (AllReadyH.cons rfl (fun K hK => ?_) AllReadyH.nil); rw [if_pos (by kernel_rfl)]; go_simp; go_wp2_with (first | (go_at_call 37; refine ((HU2.out _ hS1).sSame HR3.out).mono ?_; rintro e w4 ⟨rfl, hB4⟩) | fail)
   have hS2 : Below w2.heap.size w2 w4 := B3 hS1 hB4; clear hB4; refine hK.out _ _ hS2 (fun _ => ?_); clear hK K; refine wpAnyH_take (i := 11) (v := ?_) rfl (by kernel_rfl) (by kernel_rfl) (by kernel_rfl) (fun _ _ _ h => h) (Or.inl ⟨by kernel_rfl, ?_⟩) hS2 ?_
   rotate_left 1
   ·
    intro w' hw'; go_simp; first | done | with_reducible rfl
   refine wpAnyH_take (i := 12) (v := ?_) rfl (by kernel_rfl) (by kernel_rfl) (by kernel_rfl) (fun _ _ _ h => h) (Or.inl ⟨by kernel_rfl, ?_⟩) hS2 ?_
   rotate_left 1
   ·
    intro w' hw'; go_simp; first | done | with_reducible rfl
   refine wpAnyH_done (by kernel_rfl) ?_ _; go_wp2
   go_ret
   exact ⟨by rw [HD.out, hvw]; rfl, B3 HQ.out hS2⟩
def LOF (w : World) (g : Nat) (ls : List (List Mk.E)) (k : Nat) : Prop := ∃ f : Nat → Nat, (∀ i (h : i < ls.length), i < k → w.cell? ⟨g, i, none⟩ = some (.slice (some ⟨f i, 0, none⟩) ls[i].length ls[i].length) ∧ Mk.Ents w (f i) 0 ls[i] ∧ Room w (f i) (ls[i].length * 3) ∧ g < f i ∧ (0 < ls[i].length → f i < w.heap.size)) ∧ (∀ i j (hi : i < ls.length), i < j → j < k → 0 < ls[i].length → f i < f j)
theorem LOF.below {w w' : World} {g k : Nat} {ls : List (List Mk.E)} (h : LOF w g ls k) (hb : Below w.heap.size w w') : LOF w' g ls k := by
 obtain ⟨f, h1, h2⟩ := h; refine ⟨f, fun i hi hk => ?_, h2⟩; obtain ⟨c, hE, hR, hg, hs⟩ := h1 i hi hk; exact ⟨(hb.cell (p := ⟨g, i, none⟩) (World.block_lt_of_cell? w ⟨g, i, none⟩ c)).trans c, hE.below hb, hR.below hb, hg, fun p => by have := hs p; have := hb.size; omega⟩
theorem roomOther {w : World} {g b j n : Nat} (h : Room w g n) (v : Value) : Room (w.setCell ⟨b, j, none⟩ v) g n := h.set b j v
theorem LOF.put {w : World} {g k gg : Nat} {ls : List (List Mk.E)} (hk : k < ls.length) (h : LOF w g ls k) {v0 : Value} (e0 : w.cell? ⟨g, k, none⟩ = some v0) (hg : g < gg) (hE : Mk.Ents w gg 0 ls[k]) (hR : Room w gg (ls[k].length * 3)) (hl : ∀ i (hi : i < ls.length), i < k → 0 < ls[i].length → ∀ f, w.cell? ⟨g, i, none⟩ = some (.slice (some ⟨f, 0, none⟩) ls[i].length ls[i].length) → f < gg) :
  LOF (w.setCell ⟨g, k, none⟩ (.slice (some ⟨gg, 0, none⟩) ls[k].length ls[k].length)) g ls (k + 1) := by
 obtain ⟨f, h1, h2⟩ := h; refine ⟨fun i => if i = k then gg else f i, fun i hi hik => ?_, fun i j hi hij hjk hp => ?_⟩
 ·
  by_cases e : i = k
  ·
   subst e; dsimp only; rw [if_pos rfl]; exact ⟨Mk.cell_eq _ e0, entsOther hE (by omega) _, roomOther hR _, hg, fun p => by rw [World.size_setCell]; exact World.block_lt_of_cell? w ⟨gg, _, none⟩ (hE 0 p).1⟩
  ·
   dsimp only; rw [if_neg e]; obtain ⟨c, q1, q2, q3, q4⟩ := h1 i hi (by omega); exact ⟨(Mk.cell_ne _ _ _ _ _ (by omega)).trans c, entsOther q1 (by omega) _, roomOther q2 _, q3, fun p => by rw [World.size_setCell]; exact q4 p⟩
 ·
  dsimp only; by_cases e : j = k
  ·
   subst e; rw [if_pos rfl, if_neg (by omega)]; exact hl i hi (by omega) hp _ (h1 i hi (by omega)).1
  ·
   rw [if_neg (by omega), if_neg e]; exact h2 i j hi hij (by omega) hp
set_option maxHeartbeats 800000 in
set_option maxRecDepth 100000 in
theorem toSS2_any (w : World) (a : Option Addr) (g o cap : Nat) (ls : List (List Mk.E)) (hn : ls.length ≤ 1048576) (hn2 : ∀ l ∈ ls, l.length ≤ 1048576) (ha : 0 < ls.length → a = some ⟨g, o, none⟩) (hE : LL w g o ls) :
  Calls Tryz.prog 40 #[.slice a ls.length cap] w fun e w' => e = .returned (.slice (some ⟨w.heap.size, 0, none⟩) ls.length ls.length) ∧ LOF w' w.heap.size ls ls.length ∧ w.heap.size < w'.heap.size ∧ Below w.heap.size w w' := by
 have HE := hidE hE; have HN := hidE hn2; clear hE hn2; obtain ⟨i0, hi, hz0, hz1, hz2⟩ := info_parts Tryz.infoL; obtain ⟨M, hM⟩ : ∃ M, M = madeCells (Value.slice none 0 0).cells (((ls.length : Nat) : Int).toNat * i0.size) := ⟨_, rfl⟩
 have hMs : M.size = ls.length := by rw [hM, size_madeCells, hz1]; simp
 have hmk : ∀ W : World, (Instr.makeSlice 30 (.int .i64 (ls.length : Int)) (.int .i64 (ls.length : Int))).run Tryz.prog W = .ok (.slice (some ⟨W.heap.size, 0, none⟩) ls.length ls.length) (W.alloc (.cells M 31)) := fun W => by
  have h := run_make (P := Tryz.prog) W 30 31 i0 (.slice none 0 0) Tryz.underlying30 hi hz0 .i64 .i64 (ls.length : Int) (ls.length : Int) (by omega) (by omega) (by rw [hz2]; omega) (by omega); rw [← hM] at h
  simpa using h
 have HR : Hid (Mk.Room (w.alloc (.cells M 31)) w.heap.size ls.length) := fun i hi => ⟨⟨M[i]'(by omega), by rw [World.cell?_alloc_new, Array.getElem?_eq_getElem (by omega)]⟩, by simp⟩; clear hM hi hz0 hz1 hz2; have HB0 := hidE ((Below.refl w.heap.size w).alloc (Nat.le_refl _) (.cells M 31)); have HS0 : Hid (w.heap.size < (w.alloc (.cells M 31)).heap.size) := by show _ < _; simp
 go_enter Tryz.func40, Tryz.ntmps40
 go_wp2
 go_loopw [4] (fun iv wl => ∃ k : Nat, k ≤ ls.length ∧ iv = .int .i64 k ∧ Hid (Below w.heap.size w wl) ∧ Hid (w.heap.size < wl.heap.size) ∧ Hid (Mk.Room wl w.heap.size ls.length) ∧ Hid (LOF wl w.heap.size ls k)) (fun iv _ => ls.length - (RowKit.intOf iv).toNat)
 case atStart => exact ⟨0, Nat.zero_le _, rfl, HB0, HS0, HR, ⟨fun _ => 0, fun i hi hk => absurd hk (by omega), fun i j hi hij hj => absurd hj (by omega)⟩⟩
 case round =>
  clear HB0 HR hmk HS0; obtain ⟨k, hk, rfl, HB, HS, HR, HT⟩ := hrel; by_cases hlt : k < ls.length
  ·
   obtain rfl := ha (by omega); obtain ⟨a2, g2, o2, cap2, c0, ha2, hE2, hc2⟩ := (HE.out.below HB.out) k hlt; go_wp2_with fail
   refine (Mk.toEntS_any _ a2 g2 o2 cap2 ls[k] (HN.out _ (List.getElem_mem _)) ha2 hE2).mono ?_; rintro e w2 ⟨rfl, hX2, hRR, hB2⟩; have HB2 := hidE (HB.out.trans (hB2.mono HB.out.size)); have HR2 := hidE (HR.out.below hB2); have HT2 := hidE (HT.out.below hB2); have HX2 := hidE hX2; have HRR := hidE hRR; have HS2 : Hid (w.heap.size < w2.heap.size) := Nat.lt_of_lt_of_le HS.out hB2.size
   have HLt : Hid (∀ i (hi : i < ls.length), i < k → 0 < ls[i].length → ∀ f, w2.cell? ⟨w.heap.size, i, none⟩ = some (.slice (some ⟨f, 0, none⟩) ls[i].length ls[i].length) → f < wr.heap.size) := by
    intro i hi hik hp f hf; obtain ⟨ff, q1, -⟩ := HT.out; obtain ⟨c, -, -, -, hs⟩ := q1 i hi hik; have c' := (hB2.cell (p := ⟨w.heap.size, i, none⟩) (World.block_lt_of_cell? _ ⟨w.heap.size, i, none⟩ c)).trans c; rw [c'] at hf; simp only [Option.some.injEq, Value.slice.injEq, Addr.mk.injEq, and_true] at hf; have := hs hp; omega
   clear hB2 HB HR HT c0 hE2 ha2 hX2 hRR; obtain ⟨⟨v0, e0⟩, f0⟩ := HR2.out k hlt; go_wp2
   go_roundw
   case rel => exact ⟨k + 1, by omega, by go_num, HB2.out.setCell (p := ⟨w.heap.size, _, none⟩) (Nat.le_refl _) _, by show _ < _; rw [World.size_setCell]; exact HS2.out, HR2.out.set _ _ _, HT2.out.put hlt e0 HS.out HX2.out HRR.out HLt.out⟩
   case measure => simp [RowKit.intOf]; omega
  ·
   go_wp2
   go_ret
   have hkl : k = ls.length := by omega
   subst hkl; exact ⟨rfl, HT.out, HS.out, HB.out⟩
theorem setW (b : Nat) (X : World) (i : Nat) (v : Value) : Win b (b + 1) X (X.setCell ⟨b, i, none⟩ v) := Win.of_but (But.set b X i v) (fun _ => ⟨Nat.le_refl _, Nat.lt_succ_self _⟩)
theorem OE.below {lo hi : Nat} {w w' : World} {v : Value} {es : List E} (h : OE lo hi w v es) (k : Below w.heap.size w w') : OE lo hi w' v es := by
 obtain ⟨a, g, cap, rfl, h1, h2, h3, h4⟩ := h; exact ⟨a, g, cap, rfl, h1, h2, h3.below k, h4.below k⟩
theorem OM.below {lo hi : Nat} {w w' : World} {v : Value} {es : List Mk.E} (h : OM lo hi w v es) (k : Below w.heap.size w w') : OM lo hi w' v es := by
 obtain ⟨a, g, cap, rfl, h1, h2, h3, h4⟩ := h; exact ⟨a, g, cap, rfl, h1, h2, h3.below k, h4.below k⟩
theorem OL.below {lo hi : Nat} {w w' : World} {v : Value} {ls : List (List Mk.E)} (h : OL lo hi w v ls) (k : Below w.heap.size w w') : OL lo hi w' v ls := by
 obtain ⟨a, g, cap, f, rfl, h1, h2, h3, h4⟩ := h; refine ⟨a, g, cap, f, rfl, h1, h2, fun i hi => ?_, h4⟩; obtain ⟨ai, ci, c, q1, q2, q3, q4⟩ := h3 i hi; exact ⟨ai, ci, (k.cell (p := ⟨g, i, none⟩) (World.block_lt_of_cell? w ⟨g, i, none⟩ c)).trans c, q1, q2, q3.below k, q4.below k⟩
theorem OL.mono {lo hi lo' hi' : Nat} {w : World} {v : Value} {ls : List (List Mk.E)} (h : OL lo hi w v ls) (h1 : lo' ≤ lo) (h2 : hi ≤ hi') : OL lo' hi' w v ls := by
 obtain ⟨a, g, cap, f, rfl, k1, k2, k3, k4⟩ := h; refine ⟨a, g, cap, f, rfl, k1, fun p => by have := k2 p; exact ⟨this.1, by omega, by omega⟩, fun i hi => ?_, k4⟩; obtain ⟨ai, ci, c, q1, q2, q3, q4⟩ := k3 i hi; exact ⟨ai, ci, c, q1, fun p => by have := q2 p; exact ⟨this.1, by omega, by omega, this.2.2.2⟩, q3, q4⟩
theorem OO.mono {lo hi lo' hi' : Nat} {w : World} {v : Value} {x : O} (h : OO lo hi w v x) (h1 : lo' ≤ lo) (h2 : hi ≤ hi') : OO lo' hi' w v x := by
 obtain ⟨v0, v1, v2, m1, m2, rfl, l1, l2, l3, k0, k1, k2⟩ := h; exact ⟨v0, v1, v2, m1, m2, rfl, by omega, l2, by omega, k0.mono h1 (Nat.le_refl _), k1, k2.mono (Nat.le_refl _) h2⟩
theorem OO.lie {lo hi : Nat} {w : World} {v : Value} {x : O} (h : OO lo hi w v x) (hS : Sz 1048576 x) : Lie w v x := by
 obtain ⟨v0, v1, v2, m1, m2, rfl, l1, l2, l3, ⟨a0, g0, c0, rfl, p1, p2, p3, p4⟩, ⟨a1, g1, c1, f, rfl, q1, q2, q3, q4⟩, ⟨a2, g2, c2, rfl, r1, r2, r3, r4⟩⟩ := h; refine ⟨_, _, _, rfl, ⟨a0, g0, 0, c0, rfl, hS.b0, p1, fun e he => by have := hS.b1 e he; omega, fun p => (p2 p).1, p3⟩, ⟨a1, g1, 0, c1, rfl, hS.l0, q1, fun p => (q2 p).1, fun i hi => ?_⟩, ⟨a2, g2, 0, c2, rfl, hS.u0, r1, fun e he => by have := hS.u1 e he; omega, fun p => (r2 p).1, r3⟩⟩; obtain ⟨ai, ci, c, z1, z2, z3, z4⟩ := q3 i hi; have hz := hS.l1 x.l[i] (List.getElem_mem _); exact ⟨_, by rw [Nat.zero_add]; exact c, ⟨ai, f i, 0, ci, rfl, hz.1, z1, fun e he => by have := hz.2 e he; omega, fun p => (z2 p).1, z3⟩⟩
set_option maxHeartbeats 1600000 in
set_option maxRecDepth 100000 in
theorem toOver2_any (w : World) (v : Value) (x : O) (hS : Sz 1048576 x) (hA : Arg w v x) :
  Calls Tryz.prog 11 #[v] w fun e w' => ∃ v', e = .returned v' ∧ OO w.heap.size w'.heap.size w' v' x ∧ Below w.heap.size w w' := by
 obtain ⟨a0, g0, o0, c0, a1, g1, o1, c1, a2, g2, o2, c2, rfl, h2, h3, h4, h5, h6, h7⟩ := hA.ex; have HE := hidE h5; have HL := hidE h6; have HU := hidE h7; have HS := hidE hS; have BX := ((C3.new w (.slice a0 x.b.length c0) (.slice a1 x.l.length c1) (.slice a2 x.u.length c2) 26).on (.cells #[.slice none 0 0, .slice none 0 0, .slice none 0 0] 33)).on (.cells #[.slice none 0 0, .slice none 0 0, .slice none 0 0] 33); have BR := (C3.new (w.alloc (.cells #[.slice a0 x.b.length c0, .slice a1 x.l.length c1, .slice a2 x.u.length c2] 26)) (.slice none 0 0) (.slice none 0 0) (.slice none 0 0) 33).on (.cells #[.slice none 0 0, .slice none 0 0, .slice none 0 0] 33); have BO := C3.new ((w.alloc (.cells #[.slice a0 x.b.length c0, .slice a1 x.l.length c1, .slice a2 x.u.length c2] 26)).alloc (.cells #[.slice none 0 0, .slice none 0 0, .slice none 0 0] 33)) (.slice none 0 0) (.slice none 0 0) (.slice none 0 0) 33; simp only [World.size_alloc] at BR BO; obtain ⟨W0, hW0⟩ : ∃ W0, W0 = ((w.alloc (.cells #[.slice a0 x.b.length c0, .slice a1 x.l.length c1, .slice a2 x.u.length c2] 26)).alloc (.cells #[.slice none 0 0, .slice none 0 0, .slice none 0 0] 33)).alloc (.cells #[.slice none 0 0, .slice none 0 0, .slice none 0 0] 33) := ⟨_, rfl⟩
 have hB0 : Below w.heap.size w W0 := by rw [hW0]; exact bA (bA (bA (Below.refl _ w) _) _) _
 have hs0 : W0.heap.size = w.heap.size + 3 := by rw [hW0]; simp
 have HS0 := hidE hs0; rw [← hW0] at BX BR BO; have HB0 := hidE hB0; have HX := hidE BX; have HR := hidE BR; have HO := hidE BO; clear BX BR BO hB0 hA h5 h6 h7 hS; clear hs0; go_enter Tryz.func11, Tryz.ntmps11
 go_wp2_with fail
 rw [← hW0]; clear hW0; refine (toEntS_any _ a0 g0 o0 c0 x.b HS.out.b0 h2 (HE.out.below HB0.out)).mono ?_; rintro e w1 ⟨rfl, hN1, hRm1, hB⟩; have hO1 : OE W0.heap.size w1.heap.size w1 (.slice (some ⟨W0.heap.size, 0, none⟩) x.b.length x.b.length) x.b := ⟨_, W0.heap.size, _, rfl, Nat.le_refl _, fun p => ⟨rfl, Nat.le_refl _, World.block_lt_of_cell? w1 ⟨W0.heap.size, _, none⟩ (hN1 0 p).1⟩, hN1, hRm1⟩
 have hs0 := HS0.out; have hz1 := hB.size; have HB1 := hidE ((B3 HB0.out hB).setCell (p := ⟨w.heap.size + 1 + 1, 0, none⟩) (by simp; omega) (.slice (some ⟨W0.heap.size, 0, none⟩) x.b.length x.b.length)); have HX1 := hidE ((HX.out.below hB).other (b := w.heap.size + 1 + 1) (j := 0) (by omega) (.slice (some ⟨W0.heap.size, 0, none⟩) x.b.length x.b.length)); have HR1 := hidE ((HR.out.below hB).other (b := w.heap.size + 1 + 1) (j := 0) (by omega) (.slice (some ⟨W0.heap.size, 0, none⟩) x.b.length x.b.length)); have HO1 := hidE ((HO.out.below hB).set0 (.slice (some ⟨W0.heap.size, 0, none⟩) x.b.length x.b.length)); have HN1 := hidE (hO1.win (setW (w.heap.size + 1 + 1) w1 0 (.slice (some ⟨W0.heap.size, 0, none⟩) x.b.length x.b.length)) (.inl (by omega))); obtain ⟨k0, k1, k2, -, -, -⟩ := HX.out.below hB; obtain ⟨m0, m1, m2, f0, f1, f2⟩ := HO.out.below hB; obtain ⟨W1, hW1⟩ : ∃ W1, W1 = w1.setCell ⟨w.heap.size + 1 + 1, 0, none⟩ (.slice (some ⟨W0.heap.size, 0, none⟩) x.b.length x.b.length) := ⟨_, rfl⟩
 have hs1 : W1.heap.size = w1.heap.size := by rw [hW1, World.size_setCell]
 have hg1 : w.heap.size + 3 ≤ W0.heap.size ∧ W0.heap.size ≤ W1.heap.size ∧ w1.heap.size = W1.heap.size := by omega
 rw [← hW1] at HB1 HX1 HR1 HO1 HN1; have HW1 := hidE hW1; have HG1 := hidE hg1; clear hB hN1 hRm1 hO1 HB0 HX HR HO hW1 hs0 hs1 hz1 hg1; go_wp2_with fail
 rw [← HW1.out]; clear HW1 k0 k1 k2 m0 m1 m2 f0 f1 f2; refine (toSS2_any _ a1 g1 o1 c1 x.l HS.out.l0 (fun l hl => (HS.out.l1 l hl).1) h3 (HL.out.below HB1.out)).mono ?_; rintro e w2 ⟨rfl, hN2, hlt2, hB⟩
 have hO2 : OL W1.heap.size w2.heap.size w2 (.slice (some ⟨W1.heap.size, 0, none⟩) x.l.length x.l.length) x.l := by
  obtain ⟨f, q1, q2⟩ := hN2; refine ⟨_, W1.heap.size, _, f, rfl, Nat.le_refl _, fun p => ⟨rfl, Nat.le_refl _, hlt2⟩, fun i hi => ?_, fun i j hi hj hij p _ => q2 i j hi hij hj p⟩; obtain ⟨c, r1, r2, r3, r4⟩ := q1 i hi hi; exact ⟨_, _, c, Nat.le_refl _, fun p => ⟨rfl, by omega, r4 p, by omega⟩, r1, r2⟩
 have hg1 := HG1.out; have hs0 := HS0.out; have hz2 := hB.size; have HB2 := hidE ((B3 HB1.out hB).setCell (p := ⟨w.heap.size + 1 + 1, 1, none⟩) (by simp; omega) (.slice (some ⟨W1.heap.size, 0, none⟩) x.l.length x.l.length)); have HX2 := hidE ((HX1.out.below hB).other (b := w.heap.size + 1 + 1) (j := 1) (by omega) (.slice (some ⟨W1.heap.size, 0, none⟩) x.l.length x.l.length)); have HR2 := hidE ((HR1.out.below hB).other (b := w.heap.size + 1 + 1) (j := 1) (by omega) (.slice (some ⟨W1.heap.size, 0, none⟩) x.l.length x.l.length)); have HO2 := hidE ((HO1.out.below hB).set1 (.slice (some ⟨W1.heap.size, 0, none⟩) x.l.length x.l.length)); have HN1' := hidE ((HN1.out.below hB).win (setW (w.heap.size + 1 + 1) w2 1 (.slice (some ⟨W1.heap.size, 0, none⟩) x.l.length x.l.length)) (.inl (by omega))); have HN2 := hidE (hO2.win (setW (w.heap.size + 1 + 1) w2 1 (.slice (some ⟨W1.heap.size, 0, none⟩) x.l.length x.l.length)) (.inl (by omega))); obtain ⟨k0, k1, k2, -, -, -⟩ := HX1.out.below hB; obtain ⟨m0, m1, m2, f0, f1, f2⟩ := HO1.out.below hB; obtain ⟨W2, hW2⟩ : ∃ W2, W2 = w2.setCell ⟨w.heap.size + 1 + 1, 1, none⟩ (.slice (some ⟨W1.heap.size, 0, none⟩) x.l.length x.l.length) := ⟨_, rfl⟩
 have hs2 : W2.heap.size = w2.heap.size := by rw [hW2, World.size_setCell]
 have hg2 : W1.heap.size ≤ W2.heap.size ∧ w2.heap.size = W2.heap.size := by omega
 rw [← hW2] at HB2 HX2 HR2 HO2 HN1' HN2; have HW2 := hidE hW2; have HG2 := hidE hg2; clear hB hN2 hO2 hlt2 HB1 HX1 HR1 HO1 HN1 hW2 hs0 hs2 hz2 hg2 hg1; go_wp2_with fail
 rw [← HW2.out]; clear HW2 k0 k1 k2 m0 m1 m2 f0 f1 f2; refine (Mk.toEntS_any _ a2 g2 o2 c2 x.u HS.out.u0 h4 (HU.out.below HB2.out)).mono ?_; rintro e w3 ⟨rfl, hN3, hRm3, hB⟩; have hO3 : OM W2.heap.size w3.heap.size w3 (.slice (some ⟨W2.heap.size, 0, none⟩) x.u.length x.u.length) x.u := ⟨_, W2.heap.size, _, rfl, Nat.le_refl _, fun p => ⟨rfl, Nat.le_refl _, World.block_lt_of_cell? w3 ⟨W2.heap.size, _, none⟩ (hN3 0 p).1⟩, hN3, hRm3⟩
 have hg1 := HG1.out; have hg2 := HG2.out; have hs0 := HS0.out; have hz3 := hB.size; have HB3 := hidE (B3 HB2.out hB); have HR3 := hidE (HR2.out.below hB); have HO3 := hidE (HO2.out.below hB); have HN1'' := hidE (HN1'.out.below hB); have HN2' := hidE (HN2.out.below hB); have HN3 := hidE hO3; obtain ⟨m0, m1, m2, f0, f1, f2⟩ := HO3.out; obtain ⟨r0, r1, r2, e0, e1, e2⟩ := HR3.out; clear hB hN3 hRm3 hO3 HB2 HX2 HR2 HO2 HN1' HN2 hs0 hg1 hg2; go_wp2
 have hg1 := HG1.out; have hg2 := HG2.out; have hs0 := HS0.out; have RR := (((HR3.out.other (b := w.heap.size + 1 + 1) (j := 2) (by omega) (.slice (some ⟨W2.heap.size, 0, none⟩) x.u.length x.u.length)).set0 (.slice (some ⟨W0.heap.size, 0, none⟩) x.b.length x.b.length)).set1 (.slice (some ⟨W1.heap.size, 0, none⟩) x.l.length x.l.length)).set2 (.slice (some ⟨W2.heap.size, 0, none⟩) x.u.length x.u.length); have E1 := ((((HN1''.out.win (setW (w.heap.size + 1 + 1) _ 2 (.slice (some ⟨W2.heap.size, 0, none⟩) x.u.length x.u.length)) (.inl (by omega))).win (setW (w.heap.size + 1) _ 0 (.slice (some ⟨W0.heap.size, 0, none⟩) x.b.length x.b.length)) (.inl (by omega))).win (setW (w.heap.size + 1) _ 1 (.slice (some ⟨W1.heap.size, 0, none⟩) x.l.length x.l.length)) (.inl (by omega))).win (setW (w.heap.size + 1) _ 2 (.slice (some ⟨W2.heap.size, 0, none⟩) x.u.length x.u.length)) (.inl (by omega)))
 have E2 := ((((HN2'.out.win (setW (w.heap.size + 1 + 1) _ 2 (.slice (some ⟨W2.heap.size, 0, none⟩) x.u.length x.u.length)) (.inl (by omega))).win (setW (w.heap.size + 1) _ 0 (.slice (some ⟨W0.heap.size, 0, none⟩) x.b.length x.b.length)) (.inl (by omega))).win (setW (w.heap.size + 1) _ 1 (.slice (some ⟨W1.heap.size, 0, none⟩) x.l.length x.l.length)) (.inl (by omega))).win (setW (w.heap.size + 1) _ 2 (.slice (some ⟨W2.heap.size, 0, none⟩) x.u.length x.u.length)) (.inl (by omega)))
 have E3 := ((((HN3.out.win (setW (w.heap.size + 1 + 1) _ 2 (.slice (some ⟨W2.heap.size, 0, none⟩) x.u.length x.u.length)) (.inl (by omega))).win (setW (w.heap.size + 1) _ 0 (.slice (some ⟨W0.heap.size, 0, none⟩) x.b.length x.b.length)) (.inl (by omega))).win (setW (w.heap.size + 1) _ 1 (.slice (some ⟨W1.heap.size, 0, none⟩) x.l.length x.l.length)) (.inl (by omega))).win (setW (w.heap.size + 1) _ 2 (.slice (some ⟨W2.heap.size, 0, none⟩) x.u.length x.u.length)) (.inl (by omega)))
 have BB := (((HB3.out.setCell (p := ⟨w.heap.size + 1 + 1, 2, none⟩) (by simp; omega) (.slice (some ⟨W2.heap.size, 0, none⟩) x.u.length x.u.length)).setCell (p := ⟨w.heap.size + 1, 0, none⟩) (by simp) (.slice (some ⟨W0.heap.size, 0, none⟩) x.b.length x.b.length)).setCell (p := ⟨w.heap.size + 1, 1, none⟩) (by simp) (.slice (some ⟨W1.heap.size, 0, none⟩) x.l.length x.l.length)).setCell (p := ⟨w.heap.size + 1, 2, none⟩) (by simp) (.slice (some ⟨W2.heap.size, 0, none⟩) x.u.length x.u.length); exact bodyPost_ret (v := .agg #[.slice (some ⟨W0.heap.size, 0, none⟩) x.b.length x.b.length, .slice (some ⟨W1.heap.size, 0, none⟩) x.l.length x.l.length, .slice (some ⟨W2.heap.size, 0, none⟩) x.u.length x.u.length]) (by simp [results, Tryz.results11, go_sem, RR.c0, RR.c1, RR.c2]) rfl ⟨_, rfl, ⟨_, _, _, W1.heap.size, W2.heap.size, rfl, by omega, by omega, by simp only [World.size_setCell]; omega, E1.mono (by omega) (by omega), E2.mono (by omega) (by omega), E3.mono (by omega) (by simp only [World.size_setCell]; omega)⟩, BB⟩
structure ErrB (ae : Int → Addr) (w : World) : Prop where
 e : Errs2 w ae
theorem ErrB.below {ae : Int → Addr} {w w' : World} (h : ErrB ae w) (hb : Below w.heap.size w w') : ErrB ae w' := ⟨h.e.below hb⟩
theorem Sz.mono2 {n m : Nat} {x : O} (h : Sz n x) (hn : n ≤ m) : Sz m x :=
 ⟨Nat.le_trans h.b0 hn, fun e he => ⟨Nat.le_trans (h.b1 e he).1 hn, Nat.le_trans (h.b1 e he).2 hn⟩, Nat.le_trans h.l0 hn, fun l hl => ⟨Nat.le_trans (h.l1 l hl).1 hn, fun e he => ⟨Nat.le_trans ((h.l1 l hl).2 e he).1 hn, Nat.le_trans ((h.l1 l hl).2 e he).2 hn⟩⟩, Nat.le_trans h.u0 hn, fun e he => ⟨Nat.le_trans (h.u1 e he).1 hn, Nat.le_trans (h.u1 e he).2 hn⟩⟩
theorem same_selfO (x : O) : (sameES x.b x.b && (sameSS x.l x.l && Mk.sameES x.u x.u)) = true := by
 rw [sameES_self, sameSS_self, Mk.sameES_self]; rfl
theorem B3E {a b c : World} (h : Below a.heap.size a b) (k : Below b.heap.size b c) : Below a.heap.size a c := h.trans (k.mono h.size)
theorem OO.ex {lo hi : Nat} {w : World} {v : Value} {x : O} (h : OO lo hi w v x) : ∃ p0 c0 p1 c1 p2 c2, v = .agg #[.slice p0 x.b.length c0, .slice p1 x.l.length c1, .slice p2 x.u.length c2] := by
 obtain ⟨v0, v1, v2, m1, m2, rfl, l1, l2, l3, ⟨a0, g0, c0, rfl, -⟩, ⟨a1, g1, c1, f, rfl, -⟩, ⟨a2, g2, c2, rfl, -⟩⟩ := h; exact ⟨_, _, _, _, _, _, rfl⟩
theorem OO.arg {lo hi : Nat} {w : World} {v : Value} {x : O} (h : OO lo hi w v x) : Arg w v x := by
 obtain ⟨v0, v1, v2, m1, m2, rfl, l1, l2, l3, ⟨a0, g0, c0, rfl, p1, p2, p3, p4⟩, ⟨a1, g1, c1, f, rfl, q1, q2, q3, q4⟩, ⟨a2, g2, c2, rfl, r1, r2, r3, r4⟩⟩ := h; refine ⟨a0, g0, 0, c0, a1, g1, 0, c1, a2, g2, 0, c2, rfl, fun p => (p2 p).1, fun p => (q2 p).1, fun p => (r2 p).1, p3, fun i hi => ?_, r3⟩; obtain ⟨ai, ci, c, z1, z2, z3, z4⟩ := q3 i hi; exact ⟨ai, f i, 0, ci, by rw [Nat.zero_add]; exact c, fun p => (z2 p).1, z3, z1⟩
theorem eqOver_self (w : World) (v v' : Value) (x : O) (hS : Sz 1048576 x) (hA : Arg w v x) (hA' : Arg w v' x) :
  Calls Tryz.prog 13 #[v, v'] w fun e w' => e = .returned (.bool true) ∧ Below w.heap.size w w' := by
 refine (eqOver_any w v v' x x (hS.mono2 (by decide)) (hS.mono2 (by decide)) hA hA').mono ?_; rintro e w1 ⟨rfl, hB⟩; exact ⟨by rw [same_selfO], hB⟩
def ME (lo hi : Nat) (w : World) (v : Value) (n k : Nat) : Prop := ∃ a g cap, v = .slice a n cap ∧ (0 < n → a = some ⟨g, 0, none⟩ ∧ lo ≤ g ∧ g < hi) ∧ Ents w g 0 (markEs n k)
def MM (lo hi : Nat) (w : World) (v : Value) (n k : Nat) : Prop := ∃ a g cap, v = .slice a n cap ∧ (0 < n → a = some ⟨g, 0, none⟩ ∧ lo ≤ g ∧ g < hi) ∧ Mk.Ents w g 0 (Mk.markEs n k)
def ML (lo hi : Nat) (w : World) (v : Value) (ls : List (List Mk.E)) (k : Nat) : Prop := ∃ a g cap, ∃ f : Nat → Nat, v = .slice a ls.length cap ∧ (0 < ls.length → a = some ⟨g, 0, none⟩ ∧ lo ≤ g ∧ g < hi) ∧
 (∀ i (h : i < ls.length), ∃ ai ci, w.cell? ⟨g, i, none⟩ = some (.slice ai ls[i].length ci) ∧ (0 < ls[i].length → ai = some ⟨f i, 0, none⟩ ∧ lo ≤ f i ∧ f i < hi) ∧ Mk.Ents w (f i) 0 (Mk.markEs ls[i].length (k + totM (ls.take i) * 3)))
def MO (lo hi : Nat) (w : World) (v : Value) (x : O) (k : Nat) : Prop := ∃ v0 v1 v2 m1 m2, v = .agg #[v0, v1, v2] ∧ lo ≤ m1 ∧ m1 ≤ m2 ∧ m2 ≤ hi ∧ ME lo m1 w v0 x.b.length k ∧ ML m1 m2 w v1 x.l (k + x.b.length * 3) ∧ MM m2 hi w v2 x.u.length (k + (x.b.length + totM x.l) * 3)
theorem ME.win {lo hi a b : Nat} {w w' : World} {v : Value} {n k : Nat} (h : ME lo hi w v n k) (t : Win a b w w') (hn : b ≤ lo ∨ hi ≤ a) : ME lo hi w' v n k := by
 obtain ⟨a, g, cap, rfl, h1, h2⟩ := h; exact ⟨a, g, cap, rfl, h1, t.ents h2 (fun p => by rw [marks_len] at p; have := h1 p; omega)⟩
theorem ML.win {lo hi a b : Nat} {w w' : World} {v : Value} {ls : List (List Mk.E)} {k : Nat} (h : ML lo hi w v ls k) (t : Win a b w w') (hn : b ≤ lo ∨ hi ≤ a) : ML lo hi w' v ls k := by
 obtain ⟨a, g, cap, f, rfl, h1, h2⟩ := h; refine ⟨a, g, cap, f, rfl, h1, fun i hi => ?_⟩; obtain ⟨ai, ci, c, q1, q2⟩ := h2 i hi; exact ⟨ai, ci, t.cell c (by have := h1 (by omega); omega), q1, t.entsM q2 (fun p => by rw [Mk.marks_len] at p; have := q1 p; omega)⟩
theorem ME.below {lo hi : Nat} {w w' : World} {v : Value} {n k : Nat} (h : ME lo hi w v n k) (t : Below w.heap.size w w') : ME lo hi w' v n k := by
 obtain ⟨a, g, cap, rfl, h1, h2⟩ := h; exact ⟨a, g, cap, rfl, h1, h2.below t⟩
theorem MM.below {lo hi : Nat} {w w' : World} {v : Value} {n k : Nat} (h : MM lo hi w v n k) (t : Below w.heap.size w w') : MM lo hi w' v n k := by
 obtain ⟨a, g, cap, rfl, h1, h2⟩ := h; exact ⟨a, g, cap, rfl, h1, h2.below t⟩
theorem ML.below {lo hi : Nat} {w w' : World} {v : Value} {ls : List (List Mk.E)} {k : Nat} (h : ML lo hi w v ls k) (t : Below w.heap.size w w') : ML lo hi w' v ls k := by
 obtain ⟨a, g, cap, f, rfl, h1, h2⟩ := h; refine ⟨a, g, cap, f, rfl, h1, fun i hi => ?_⟩; obtain ⟨ai, ci, c, q1, q2⟩ := h2 i hi; exact ⟨ai, ci, (t.cell (p := ⟨g, i, none⟩) (World.block_lt_of_cell? w ⟨g, i, none⟩ c)).trans c, q1, q2.below t⟩
theorem MO.below {lo hi : Nat} {w w' : World} {v : Value} {x : O} {k : Nat} (h : MO lo hi w v x k) (t : Below w.heap.size w w') : MO lo hi w' v x k := by
 obtain ⟨v0, v1, v2, m1, m2, rfl, l1, l2, l3, h0, h1, h2⟩ := h; exact ⟨v0, v1, v2, m1, m2, rfl, l1, l2, l3, h0.below t, h1.below t, h2.below t⟩
theorem OE.mark {lo hi : Nat} {w : World} {v : Value} {es : List E} (h : OE lo hi w v es) (k : Nat) (hn : es.length ≤ 1048576) (hk : 0 < k) (hk' : k ≤ 4194304) :
  Calls Tryz.prog 18 #[v, .int .i64 k] w fun r w' => r = .returned (.int .i64 ((k + es.length * 3 : Nat) : Int)) ∧ ME lo hi w' v es.length k ∧ Win lo hi w w' := by
 obtain ⟨a, g, cap, rfl, h1, h2, h3, h4⟩ := h; by_cases h0 : 0 < es.length
 ·
  have hg := World.block_lt_of_cell? w ⟨g, _, none⟩ (h3 0 h0).1; refine (markEntS_any w a g cap es.length k hn hk hk' (fun p => (h2 p).1) h4 (fun _ => hg)).mono ?_; rintro e w1 ⟨rfl, hM, -, hb⟩; exact ⟨rfl, ⟨a, g, cap, rfl, h2, hM⟩, Win.of_but hb (fun _ => (h2 h0).2)⟩
 ·
  have hz : es.length = 0 := by omega
  rw [hz]; refine (markEntS_any w a w.heap.size cap 0 k (by omega) hk hk' (fun p => absurd p (by omega)) (fun i hi => absurd hi (by omega)) (fun p => absurd p (by omega))).mono ?_; rintro e w1 ⟨rfl, hM, -, hb⟩; exact ⟨rfl, ⟨a, w.heap.size, cap, rfl, fun p => absurd p (by omega), hM⟩, Win.of_but hb (fun p => absurd p (by omega))⟩
theorem OM.mark {lo hi : Nat} {w : World} {v : Value} {es : List Mk.E} (h : OM lo hi w v es) (k : Nat) (hn : es.length ≤ 1048576) (hk : 0 < k) (hk' : k ≤ 4194304) :
  Calls Tryz.prog 48 #[v, .int .i64 k] w fun r w' => r = .returned (.int .i64 ((k + es.length * 3 : Nat) : Int)) ∧ MM lo hi w' v es.length k ∧ Win lo hi w w' := by
 obtain ⟨a, g, cap, rfl, h1, h2, h3, h4⟩ := h; by_cases h0 : 0 < es.length
 ·
  have hg := World.block_lt_of_cell? w ⟨g, _, none⟩ (h3 0 h0).1; refine (Mk.markEntS_any w a g cap es.length k hn hk hk' (fun p => (h2 p).1) h4 (fun _ => hg)).mono ?_; rintro e w1 ⟨rfl, hM, -, hb⟩; exact ⟨rfl, ⟨a, g, cap, rfl, h2, hM⟩, Win.of_butM hb (fun _ => (h2 h0).2)⟩
 ·
  have hz : es.length = 0 := by omega
  rw [hz]; refine (Mk.markEntS_any w a w.heap.size cap 0 k (by omega) hk hk' (fun p => absurd p (by omega)) (fun i hi => absurd hi (by omega)) (fun p => absurd p (by omega))).mono ?_; rintro e w1 ⟨rfl, hM, -, hb⟩; exact ⟨rfl, ⟨a, w.heap.size, cap, rfl, fun p => absurd p (by omega), hM⟩, Win.of_butM hb (fun p => absurd p (by omega))⟩
theorem ME.held {lo hi : Nat} {w : World} {v : Value} {n k : Nat} (h : ME lo hi w v n k) (hn : n ≤ 1048576) (hk : 0 < k) (hk' : k ≤ 1048576) :
  Calls Tryz.prog 19 #[v, .int .i64 k] w fun r w' => r = .returned (.int .i64 ((k + n * 3 : Nat) : Int)) ∧ Below w.heap.size w w' := by
 obtain ⟨a, g, cap, rfl, h1, h2⟩ := h; exact heldEntS_any w a g cap n k hn hk hk' (fun p => (h1 p).1) h2
theorem MM.held {lo hi : Nat} {w : World} {v : Value} {n k : Nat} (h : MM lo hi w v n k) (hn : n ≤ 1048576) (hk : 0 < k) (hk' : k ≤ 1048576) :
  Calls Tryz.prog 62 #[v, .int .i64 k] w fun r w' => r = .returned (.int .i64 ((k + n * 3 : Nat) : Int)) ∧ Below w.heap.size w w' := by
 obtain ⟨a, g, cap, rfl, h1, h2⟩ := h; exact Mk.heldEntS_any w a g cap n k hn hk hk' (fun p => (h1 p).1) h2
theorem tot_le {ls : List (List Mk.E)} {i : Nat} (h : i < ls.length) : totM (ls.take i) + ls[i].length ≤ totM ls := by
 rw [← totM_succ h]; unfold totM
 have h2 : (ls.map List.length).sum = ((ls.take (i + 1)).map List.length).sum + ((ls.drop (i + 1)).map List.length).sum := by
  rw [← List.sum_append, ← List.map_append, List.take_append_drop]
 omega
set_option maxHeartbeats 1600000 in
set_option maxRecDepth 100000 in
theorem OL.mark {lo hi : Nat} {w : World} {v : Value} {ls : List (List Mk.E)} (h : OL lo hi w v ls) (k : Nat) (hl : ls.length ≤ 1048576) (hn : totM ls ≤ 1048576) (hk : 0 < k) (hk' : k + totM ls * 3 ≤ 4194304) :
  Calls Tryz.prog 47 #[v, .int .i64 k] w fun r w' => r = .returned (.int .i64 ((k + totM ls * 3 : Nat) : Int)) ∧ ML lo hi w' v ls k ∧ Win lo hi w w' := by
 obtain ⟨a, g, cap, f, rfl, h1, h2, h3, h4⟩ := h; have H3 := hidE h3; have H4 := hidE h4; clear h3 h4; go_enter Tryz.func47, Tryz.ntmps47
 go_wp2
 go_loopw [1, 5] (fun kv iv wl => ∃ j : Nat, j ≤ ls.length ∧ iv = .int .i64 j ∧ kv = .int .i64 ((k + totM (ls.take j) * 3 : Nat) : Int) ∧
   Hid (∀ i (h : i < ls.length), ∃ ai ci, wl.cell? ⟨g, i, none⟩ = some (.slice ai ls[i].length ci) ∧ ls[i].length ≤ ci ∧ (0 < ls[i].length → ai = some ⟨f i, 0, none⟩ ∧ lo ≤ f i ∧ f i < hi ∧ f i ≠ g) ∧ (i < j → Mk.Ents wl (f i) 0 (Mk.markEs ls[i].length (k + totM (ls.take i) * 3))) ∧ (j ≤ i → Mk.Ents wl (f i) 0 ls[i] ∧ Room wl (f i) (ls[i].length * 3))) ∧ Hid (Win lo hi w wl)) (fun _ iv _ => ls.length - (RowKit.intOf iv).toNat)
 case atStart => exact ⟨0, Nat.zero_le _, rfl, by simp [totM], fun i hi => by obtain ⟨ai, ci, c, q1, q2, q3, q4⟩ := H3.out i hi; exact ⟨ai, ci, c, q1, q2, fun p => absurd p (by omega), fun _ => ⟨q3, q4⟩⟩, Win.refl _ _ _⟩
 case round =>
  clear H3; obtain ⟨j, hj, rfl, rfl, HM, HW⟩ := hrel; by_cases hlt : j < ls.length
  ·
   obtain ⟨rfl, hg1, hg2⟩ := h2 (by omega); have htl := tot_le hlt; have hts := totM_succ hlt; obtain ⟨ai, ci, c0, q1, q2, -, q4⟩ := HM.out j hlt; obtain ⟨q5, q6⟩ := q4 (Nat.le_refl _); obtain ⟨kk, hkk⟩ : ∃ kk, k + totM (ls.take j) * 3 = kk := ⟨_, rfl⟩
   have hon : OM (if 0 < ls[j].length then f j else 0) (if 0 < ls[j].length then f j + 1 else 0) wr (.slice ai ls[j].length ci) ls[j] := ⟨ai, f j, ci, rfl, q1, fun p => by rw [if_pos p, if_pos p]; exact ⟨(q2 p).1, Nat.le_refl _, Nat.lt_succ_self _⟩, q5, q6⟩
   have HK := hidE hkk; have HC := hidE (hon.mark kk (by omega) (by omega) (by omega)); rw [hkk]; have hkk2 : k + totM (ls.take (j + 1)) * 3 = kk + ls[j].length * 3 := by omega
   have HK2 := hidE hkk2; have HQ2 := hidE q2; clear hon hkk q5 q6 q4 hkk2 q2; go_wp2_with fail
   refine HC.out.mono ?_; rintro e w2 ⟨rfl, hM2, hW2⟩
   have hW3 : Win lo hi wr w2 := by
    by_cases p : 0 < ls[j].length
    ·
     rw [if_pos p, if_pos p] at hW2; have := HQ2.out p; exact hW2.mono (by omega) (by omega)
    ·
     rw [if_neg p, if_neg p] at hW2; exact ⟨hW2.os, hW2.tape, hW2.output, hW2.size, fun b hb _ => hW2.block b hb (.inr (Nat.zero_le _))⟩
   have HW2 := hidE (HW.out.trans hW3)
   have HM2 : Hid (∀ i (h : i < ls.length), ∃ ai ci, w2.cell? ⟨g, i, none⟩ = some (.slice ai ls[i].length ci) ∧ ls[i].length ≤ ci ∧ (0 < ls[i].length → ai = some ⟨f i, 0, none⟩ ∧ lo ≤ f i ∧ f i < hi ∧ f i ≠ g) ∧ (i < j + 1 → Mk.Ents w2 (f i) 0 (Mk.markEs ls[i].length (k + totM (ls.take i) * 3))) ∧ (j + 1 ≤ i → Mk.Ents w2 (f i) 0 ls[i] ∧ Room w2 (f i) (ls[i].length * 3))) := by
    intro i hi; obtain ⟨bi, di, d0, z1, z2, z3, z4⟩ := HM.out i hi
    have hne : ∀ b, (0 < ls[j].length → b ≠ f j) → (b < (if 0 < ls[j].length then f j else 0) ∨ (if 0 < ls[j].length then f j + 1 else 0) ≤ b) := fun b hb => by
     by_cases p : 0 < ls[j].length
     ·
      rw [if_pos p, if_pos p]; have := hb p; omega
     ·
      rw [if_neg p, if_neg p]; exact .inr (Nat.zero_le _)
    have hdis : i ≠ j → 0 < ls[i].length → 0 < ls[j].length → f i ≠ f j := fun e p q => by
     rcases Nat.lt_or_gt_of_ne e with l | l
     ·
      have := H4.out i j hi hlt l p q; omega
     ·
      have := H4.out j i hlt hi l q p; omega
    refine ⟨bi, di, hW2.cell d0 (hne g (fun p e => (HQ2.out p).2.2.2 e.symm)), z1, z2, fun p => ?_, fun p => ?_⟩
    ·
     by_cases e : i = j
     ·
      subst e; obtain ⟨am, gm, cm, em, m1, m2⟩ := hM2; rw [HK.out]; by_cases p0 : 0 < ls[i].length
      ·
       obtain ⟨e1, e2, e3⟩ := m1 p0; rw [if_pos p0] at e2; rw [if_pos p0] at e3; have : gm = f i := by omega
       rw [this] at m2; exact m2
      ·
       exact fun y hy => absurd hy (by rw [Mk.marks_len]; omega)
     ·
      exact hW2.entsM (z3 (by omega)) (fun p0 => hne _ (fun q => hdis e (by rw [Mk.marks_len] at p0; exact p0) q))
    ·
     obtain ⟨y1, y2⟩ := z4 (by omega); exact ⟨hW2.entsM y1 (fun p0 => hne _ (fun q => hdis (by omega) p0 q)), hW2.room y2 (fun p0 => hne _ (fun q => hdis (by omega) (by omega) q))⟩
   clear hM2 hW2 hW3 HM HW HC; go_wp2
   go_roundw
   case rel => exact ⟨j + 1, by omega, by go_num, by have := HK2.out; congr 1; omega, HM2, HW2⟩
   case measure => simp [RowKit.intOf]; omega
  ·
   go_wp2
   go_ret
   have hjn : j = ls.length := by omega
   subst hjn; rw [List.take_length]; refine ⟨rfl, ⟨_, g, cap, f, rfl, h2, fun i hi => ?_⟩, HW.out⟩; obtain ⟨ai, ci, c, q1, q2, q3, -⟩ := HM.out i hi; exact ⟨ai, ci, c, fun p => ⟨(q2 p).1, (q2 p).2.1, (q2 p).2.2.1⟩, q3 hi⟩
set_option maxHeartbeats 1600000 in
set_option maxRecDepth 100000 in
theorem ML.held {lo hi : Nat} {w : World} {v : Value} {ls : List (List Mk.E)} {k : Nat} (h : ML lo hi w v ls k) (hl : ls.length ≤ 1048576) (hn : k + totM ls * 3 ≤ 1048576) (hk : 0 < k) :
  Calls Tryz.prog 61 #[v, .int .i64 k] w fun r w' => r = .returned (.int .i64 ((k + totM ls * 3 : Nat) : Int)) ∧ Below w.heap.size w w' := by
 obtain ⟨a, g, cap, f, rfl, h2, h3⟩ := h
 have H3 := hidE (fun (W : World) (hb : Below w.heap.size w W) (i : Nat) (hil : i < ls.length) => show ∃ ai ci, W.cell? ⟨g, i, none⟩ = some (.slice ai ls[i].length ci) ∧ (0 < ls[i].length → ai = some ⟨f i, 0, none⟩ ∧ lo ≤ f i ∧ f i < hi) ∧ Mk.Ents W (f i) 0 (Mk.markEs ls[i].length (k + totM (ls.take i) * 3)) from by
  obtain ⟨ai, ci, c, q1, q2⟩ := h3 i hil
  exact ⟨ai, ci, (hb.cell (p := ⟨g, i, none⟩) (World.block_lt_of_cell? w ⟨g, i, none⟩ c)).trans c, q1, q2.below hb⟩)
 clear h3; go_enter Tryz.func61, Tryz.ntmps61
 go_wp2
 go_loopw [1, 5] (fun kv iv wl => ∃ j : Nat, j ≤ ls.length ∧ iv = .int .i64 j ∧ kv = .int .i64 ((k + totM (ls.take j) * 3 : Nat) : Int) ∧ Hid (Below w.heap.size w wl)) (fun _ iv _ => ls.length - (RowKit.intOf iv).toNat)
 case atStart => exact ⟨0, Nat.zero_le _, rfl, by simp [totM], Below.refl _ _⟩
 case round =>
  obtain ⟨j, hj, rfl, rfl, HB⟩ := hrel; by_cases hlt : j < ls.length
  ·
   obtain ⟨rfl, hg1, hg2⟩ := h2 (by omega); have htl := tot_le hlt; have hts := totM_succ hlt; obtain ⟨ai, ci, c0, q1, q2⟩ := H3.out wr HB.out j hlt; obtain ⟨kk, hkk⟩ : ∃ kk, k + totM (ls.take j) * 3 = kk := ⟨_, rfl⟩
   rw [hkk] at q2; have hmm : MM lo hi wr (.slice ai ls[j].length ci) ls[j].length kk := ⟨ai, f j, ci, rfl, q1, q2⟩
   have HC := hidE (hmm.held (by omega) (by omega) (by omega)); rw [hkk]; have hkk2 : k + totM (ls.take (j + 1)) * 3 = kk + ls[j].length * 3 := by omega
   have HK2 := hidE hkk2; clear hmm hkk q1 q2 hkk2; go_wp2_with fail
   refine HC.out.mono ?_; rintro e w2 ⟨rfl, hB2⟩; have HB2 := hidE (HB.out.trans (hB2.mono HB.out.size)); clear hB2 HB HC; have hneg : ¬ ((kk + ls[j].length * 3 : Nat) : Int) < 0 := by omega
   obtain ⟨kz, hkz⟩ : ∃ kz, ((kk + ls[j].length * 3 : Nat) : Int) = kz := ⟨_, rfl⟩
   have HZ := hidE hkz; rw [hkz] at hneg; rw [hkz]; clear hkz; go_wp2
   go_roundw
   case rel => exact ⟨j + 1, by omega, by go_num, by have := HK2.out; have := HZ.out; congr 1; omega, HB2⟩
   case measure => simp [RowKit.intOf]; omega
  ·
   go_wp2
   go_ret
   have hjn : j = ls.length := by omega
   subst hjn; rw [List.take_length]; exact ⟨rfl, HB.out⟩
def cntO (x : O) : Nat := x.b.length + totM x.l + x.u.length
theorem C3.win {lo hi : Nat} {W W' : World} {b : Nat} {u v x : Value} (h : C3 W b u v x) (k : Win lo hi W W') (hb : b < lo ∨ hi ≤ b) : C3 W' b u v x := by
 have lt := World.block_lt_of_cell? W ⟨b, 0, none⟩ h.c0; exact ⟨k.cell h.c0 hb, k.cell h.c1 hb, k.cell h.c2 hb, (k.frozen lt hb).trans h.f0, (k.frozen lt hb).trans h.f1, (k.frozen lt hb).trans h.f2⟩
set_option maxHeartbeats 1600000 in
set_option maxRecDepth 100000 in
theorem OO.mark {lo hi : Nat} {w : World} {v : Value} {x : O} (h : OO lo hi w v x) (hhi : hi ≤ w.heap.size) (hn : totO x ≤ 1048576) :
  Calls Tryz.prog 17 #[v, .int .i64 1] w fun r w' => r = .returned (.int .i64 ((1 + cntO x * 3 : Nat) : Int)) ∧ MO lo hi w' v x 1 ∧ Win lo hi w w' := by
 obtain ⟨v0, v1, v2, m1, m2, rfl, l1, l2, l3, k0, k1, k2⟩ := h; obtain ⟨a0, g0, c0, rfl, -⟩ := id k0; obtain ⟨a1, g1, c1, f, rfl, -⟩ := id k1; obtain ⟨a2, g2, c2, rfl, -⟩ := id k2; have hbl : x.b.length ≤ 1048576 := by unfold totO at hn; omega
 have hll : x.l.length ≤ 1048576 := by unfold totO at hn; omega
 have htl : totM x.l ≤ 1048576 := by unfold totO at hn; omega
 have hul : x.u.length ≤ 1048576 := by unfold totO at hn; omega
 have hsum : x.b.length + totM x.l + x.u.length ≤ 1048576 := by unfold totO at hn; omega
 clear hn; obtain ⟨W0, hW0⟩ : ∃ W0, w.alloc (.cells #[.slice a0 x.b.length c0, .slice a1 x.l.length c1, .slice a2 x.u.length c2] 33) = W0 := ⟨_, rfl⟩
 have hb0 : Below w.heap.size w W0 := by rw [← hW0]; exact (Below.refl _ w).alloc (Nat.le_refl _) _
 have hX : C3 W0 w.heap.size (.slice a0 x.b.length c0) (.slice a1 x.l.length c1) (.slice a2 x.u.length c2) := by rw [← hW0]; exact C3.new _ _ _ _ _
 have HX := hidE hX; have HW := hidE (Win.of_below (lo := lo) (hi := hi) hb0); have K0 := hidE (k0.below hb0); have K1 := hidE (k1.below hb0); have K2 := hidE (k2.below hb0); clear k0 k1 k2 hb0; go_enter Tryz.func17, Tryz.ntmps17
 obtain ⟨z0, z1, z2, -, -, -⟩ := hX; go_wp2_with fail
 refine (K0.out.mark 1 hbl (by omega) (by omega)).mono ?_; rintro e w1 ⟨rfl, hM, hW⟩; have HX1 := hidE (HX.out.win hW (.inr (by omega))); have HW1 := hidE (HW.out.trans (hW.mono (Nat.le_refl _) (by omega))); have K1' := hidE (K1.out.win hW (.inl (by omega))); have K2' := hidE (K2.out.win hW (.inl (by omega))); have HM0 := hidE hM; clear hW hM HX HW K0 K1 K2 hW0 z0 z1 z2; obtain ⟨q1, hq1⟩ : ∃ q1, 1 + x.b.length * 3 = q1 := ⟨_, rfl⟩
 rw [hq1]; obtain ⟨z0, z1, z2, -, -, -⟩ := HX1.out; go_wp2_with fail
 refine (K1'.out.mark q1 hll htl (by omega) (by omega)).mono ?_; rintro e w2 ⟨rfl, hM, hW⟩; have HX2 := hidE (HX1.out.win hW (.inr (by omega))); have HW2 := hidE (HW1.out.trans (hW.mono (by omega) (by omega))); have K2'' := hidE (K2'.out.win hW (.inl (by omega))); have HM0' := hidE (HM0.out.win hW (.inr (by omega))); have HM1 := hidE hM; clear hW hM HX1 HW1 K1' K2' HM0 z0 z1 z2; obtain ⟨q2, hq2⟩ : ∃ q2, q1 + totM x.l * 3 = q2 := ⟨_, rfl⟩
 rw [hq2]; obtain ⟨z0, z1, z2, -, -, -⟩ := HX2.out; go_wp2_with fail
 refine (K2''.out.mark q2 hul (by omega) (by omega)).mono ?_; rintro e w3 ⟨rfl, hM, hW⟩; have HW3 := hidE (HW2.out.trans (hW.mono (by omega) (Nat.le_refl _))); have HM0'' := hidE (HM0'.out.win hW (.inr (by omega))); have HM1' := hidE (HM1.out.win hW (.inr (by omega))); have HM2 := hidE hM; have HQ : Hid (q2 + x.u.length * 3 = 1 + cntO x * 3) := by show _ = _; unfold cntO; omega
 have HP1 : Hid (q1 = 1 + x.b.length * 3) := hq1.symm; have HP2 : Hid (q2 = 1 + (x.b.length + totM x.l) * 3) := by show _ = _; omega
 clear hW hM HX2 HW2 K2'' HM0' HM1 z0 z1 z2 hq1 hq2; go_wp2
 go_ret
 have e1 := HP1.out; have e2 := HP2.out; exact ⟨ret_iE (by have := HQ.out; omega), ⟨_, _, _, m1, m2, rfl, l1, l2, l3, HM0''.out, by rw [← e1]; exact HM1'.out, by rw [← e2]; exact HM2.out⟩, HW3.out⟩
set_option maxHeartbeats 1600000 in
set_option maxRecDepth 100000 in
theorem MO.held {lo hi : Nat} {w : World} {v : Value} {x : O} (h : MO lo hi w v x 1) (hn : 1 + cntO x * 3 ≤ 1048576) (hll : x.l.length ≤ 1048576) :
  Calls Tryz.prog 29 #[v, .int .i64 1] w fun r w' => r = .returned (.int .i64 ((1 + cntO x * 3 : Nat) : Int)) ∧ Below w.heap.size w w' := by
 obtain ⟨v0, v1, v2, m1, m2, rfl, l1, l2, l3, k0, k1, k2⟩ := h; obtain ⟨a0, g0, c0, rfl, -⟩ := id k0; obtain ⟨a1, g1, c1, f, rfl, -⟩ := id k1; obtain ⟨a2, g2, c2, rfl, -⟩ := id k2; have hsum : 1 + (x.b.length + totM x.l + x.u.length) * 3 ≤ 1048576 := hn; have HC : Hid (cntO x = x.b.length + totM x.l + x.u.length) := rfl; clear hn; obtain ⟨W0, hW0⟩ : ∃ W0, w.alloc (.cells #[.slice a0 x.b.length c0, .slice a1 x.l.length c1, .slice a2 x.u.length c2] 33) = W0 := ⟨_, rfl⟩
 have hb0 : Below w.heap.size w W0 := by rw [← hW0]; exact (Below.refl _ w).alloc (Nat.le_refl _) _
 have hX : C3 W0 w.heap.size (.slice a0 x.b.length c0) (.slice a1 x.l.length c1) (.slice a2 x.u.length c2) := by rw [← hW0]; exact C3.new _ _ _ _ _
 have HX := hidE hX; have HW := hidE hb0; have K0 := hidE (k0.below hb0); have K1 := hidE (k1.below hb0); have K2 := hidE (k2.below hb0); clear k0 k1 k2 hb0; go_enter Tryz.func29, Tryz.ntmps29
 obtain ⟨z0, z1, z2, -, -, -⟩ := hX; go_wp2_with fail
 refine (K0.out.held (by omega) (by omega) (by omega)).mono ?_; rintro e w1 ⟨rfl, hW⟩; have HX1 := hidE (HX.out.below hW); have HW1 := hidE (B3 HW.out hW); have K1' := hidE (K1.out.below hW); have K2' := hidE (K2.out.below hW); clear hW HX HW K0 K1 K2 hW0 z0 z1 z2; obtain ⟨q1, hq1⟩ : ∃ q1, 1 + x.b.length * 3 = q1 := ⟨_, rfl⟩
 rw [hq1]; rw [hq1] at K1'; have hq1n : ¬ ((q1 : Nat) : Int) < 0 := by omega
 obtain ⟨z0, z1, z2, -, -, -⟩ := HX1.out; go_wp2_with fail
 refine (K1'.out.held hll (by omega) (by omega)).mono ?_; rintro e w2 ⟨rfl, hW⟩; have HX2 := hidE (HX1.out.below hW); have HW2 := hidE (B3 HW1.out hW); have K2'' := hidE (K2'.out.below hW); clear hW HX1 HW1 K1' K2' z0 z1 z2; obtain ⟨q2, hq2⟩ : ∃ q2, q1 + totM x.l * 3 = q2 := ⟨_, rfl⟩
 rw [hq2]; rw [show 1 + (x.b.length + totM x.l) * 3 = q2 by omega] at K2''; have hq2n : ¬ ((q2 : Nat) : Int) < 0 := by omega
 obtain ⟨z0, z1, z2, -, -, -⟩ := HX2.out; go_wp2_with fail
 refine (K2''.out.held (by omega) (by omega) (by omega)).mono ?_; rintro e w3 ⟨rfl, hW⟩; have HW3 := hidE (B3 HW2.out hW); obtain ⟨q3, hq3⟩ : ∃ q3, q2 + x.u.length * 3 = q3 := ⟨_, rfl⟩
 rw [hq3]; have hq3n : ¬ ((q3 : Nat) : Int) < 0 := by omega
 have HQ : Hid (q3 = 1 + cntO x * 3) := by show _ = _; rw [HC.out]; omega
 clear hW HX2 HW2 K2'' z0 z1 z2 hq1 hq2 hq3; go_wp2
 go_ret
 exact ⟨ret_iE (by have := HQ.out; omega), HW3.out⟩
theorem REn.below {n : Nat} {w w' : World} {v : Value} {es : List E} (h : REn n w v es) (hb : Below w.heap.size w w') : REn n w' v es := by
 obtain ⟨a, g, o, cap, rfl, h1, h2, h3, h4⟩ := h; exact ⟨a, g, o, cap, rfl, h1, h2, h3.below hb, h4⟩
theorem LieN.below {n : Nat} {w w' : World} {v : Value} {x : O} (h : LieN n w v x) (hb : Below w.heap.size w w') : LieN n w' v x := by
 obtain ⟨v0, v1, v2, rfl, ⟨a, g, o, cap, rfl, h1, h2, h3, h4⟩, ⟨a1, g1, o1, cap1, rfl, k1, k2, k3⟩, ⟨a2, g2, o2, cap2, rfl, m1, m2, m3, m4⟩⟩ := h; refine ⟨_, _, _, rfl, ⟨a, g, o, cap, rfl, h1, h2, h3.below hb, h4⟩, ⟨a1, g1, o1, cap1, rfl, k1, k2, fun i hi => ?_⟩, ⟨a2, g2, o2, cap2, rfl, m1, m2, m3.below hb, m4⟩⟩; obtain ⟨u, c, ⟨a3, g3, o3, cap3, rfl, p1, p2, p3, p4⟩⟩ := k3 i hi; exact ⟨_, (hb.cell (p := ⟨g1, o1 + i, none⟩) (World.block_lt_of_cell? w ⟨g1, o1 + i, none⟩ c)).trans c, ⟨a3, g3, o3, cap3, rfl, p1, p2, p3.below hb, p4⟩⟩
theorem sz_sm {x : O} (h : Sz 1048576 x) : SmE x.b ∧ (∀ l ∈ x.l, SmM l) ∧ SmM x.u :=
 ⟨fun e he => by have := h.b1 e he; omega, fun l hl e he => by have := (h.l1 l hl).2 e he; omega, fun e he => by have := h.u1 e he; omega⟩
end Go.Proofs.YteppodogghjfhaaGreatDoor.Ov
