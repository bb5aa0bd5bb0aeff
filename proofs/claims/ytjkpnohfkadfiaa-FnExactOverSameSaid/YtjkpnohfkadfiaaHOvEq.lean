/-
  Lists of layers held against each other, and a tree on layers as the laws weigh it, turn it and hold it.
-/
import Derived.Test.YtjkpnohfkadfiaaHOvLaw
import Derived.Test.YtjkpnohfkadfiaaHLawTop
namespace Go.Proofs.Ytjkpnohfkadfiaa.Ov
open Go.RowKit Go.Lib Go.Sort Go.Proofs.Ytjkpnohfkadfiaa.Mk

theorem same_eq {es fs : List Mk.E} : Mk.sameES es fs = true ↔ es = fs := by
  constructor
  · intro h
    unfold Mk.sameES at h
    rw [Bool.and_eq_true] at h
    have hl := of_decide_eq_true h.1
    refine List.ext_getElem hl fun i h1 h2 => ?_
    have := List.all_eq_true.1 h.2 i (List.mem_range.2 h1)
    rw [List.getElem?_eq_getElem h1, List.getElem?_eq_getElem h2] at this
    exact (Mk.sameE_iff _ _).1 this
  · rintro rfl
    exact Mk.sameES_self es
/-- Two lists of layers are the same. -/
def sameSS (ls ks : List (List Mk.E)) : Bool := decide (ls.length = ks.length) && (List.range ls.length).all (fun i => match ls[i]?, ks[i]? with | some e, some f => Mk.sameES e f | _, _ => true)
theorem sameSS_no {es fs : List (List Mk.E)} {i : Nat} (hl : es.length = fs.length) (h : i < es.length) (hb : Mk.sameES es[i] (fs[i]'(by omega)) = false) : false = sameSS es fs := by
  unfold sameSS
  have : (List.range es.length).all (fun i => match es[i]?, fs[i]? with | some e, some f => Mk.sameES e f | _, _ => true) = false := by
    rw [List.all_eq_false]
    refine ⟨i, List.mem_range.2 h, ?_⟩
    rw [List.getElem?_eq_getElem h, List.getElem?_eq_getElem (by omega)]
    simp [hb]
  rw [this, Bool.and_false]
theorem sameSS_self (es : List (List Mk.E)) : sameSS es es = true := by
  unfold sameSS
  rw [decide_eq_true rfl, Bool.true_and, List.all_eq_true]
  intro i hi
  rw [List.getElem?_eq_getElem (List.mem_range.1 hi)]
  exact Mk.sameES_self _

set_option maxHeartbeats 800000 in
set_option maxRecDepth 100000 in
theorem eqSS_any (w : World) (a a' : Option Addr) (g o cap g' o' cap' : Nat) (es fs : List (List Mk.E)) (hn : es.length ≤ 16777216) (_hn' : fs.length ≤ 16777216) (hz : ∀ l ∈ es, l.length ≤ 16777216) (hz' : ∀ l ∈ fs, l.length ≤ 16777216) (ha : 0 < es.length → a = some ⟨g, o, none⟩) (ha' : 0 < fs.length → a' = some ⟨g', o', none⟩) (hE : LL w g o es) (hE' : LL w g' o' fs) :
    Calls Try.prog 33 #[.slice a es.length cap, .slice a' fs.length cap'] w fun r w' => r = .returned (.bool (sameSS es fs)) ∧ Below w.heap.size w w' := by
  have HE := hidE hE
  have HE' := hidE hE'
  have HZ := hidE hz
  have HZ' := hidE hz'
  clear hE hE' hz hz'
  by_cases hlen : es.length = fs.length
  · have HL := hidE hlen
    have hb : ((es.length : Int) != (fs.length : Int)) = false := by rw [hlen]; simp
    have hle : fs.length ≤ es.length := by omega
    have hge : es.length ≤ fs.length := by omega
    clear hlen
    go_enter Try.func33, Try.ntmps33
    go_wp2
    go_loopw [5] (fun iv wl => ∃ k : Nat, k ≤ es.length ∧ iv = .int .i64 k ∧ Hid (Below w.heap.size w wl) ∧ Hid ((List.range k).all (fun i => match es[i]?, fs[i]? with | some e, some f => Mk.sameES e f | _, _ => true) = true)) (fun iv _ => es.length - (RowKit.intOf iv).toNat)
    case atStart => exact ⟨0, Nat.zero_le _, rfl, Below.refl _ _, rfl⟩
    case round =>
      obtain ⟨k, hk, rfl, HB, HA⟩ := hrel
      by_cases hlt : k < es.length
      · have hlt' : k < fs.length := by omega
        obtain rfl := ha (by omega)
        obtain rfl := ha' (by omega)
        obtain ⟨a1, g1, o1, cap1, c0, ha1, hE1, hc1⟩ := (HE.out.below HB.out) k hlt
        obtain ⟨a2, g2, o2, cap2, d0, ha2, hE2, hc2⟩ := (HE'.out.below HB.out) k hlt'
        have k0 := cell_regrown c0
        have q0 := cell_regrown d0
        have x1 : ∀ d os, Calls Try.prog 34 #[.slice a1 es[k].length cap1, .slice a2 fs[k].length cap2] (grow (redrawn wr d) os) fun r w'' => r = .returned (.bool (Mk.sameES es[k] fs[k])) ∧ ∃ p : Regrown, w'' = grow (redrawn wr p.d) p.os := fun d os =>
          Calls.regrown_of (Mk.eqEntS_any _ a1 a2 g1 o1 cap1 g2 o2 cap2 es[k] fs[k] (HZ.out _ (List.getElem_mem _)) (HZ'.out _ (List.getElem_mem _)) ha1 ha2 (hE1.below (below_regrown wr d os)) (hE2.below (below_regrown wr d os)))
        clear c0 d0 hE1 hE2 ha1 ha2
        cases hs : Mk.sameES es[k] fs[k] with
        | true =>
          rw [hs] at x1
          have HA2 := hidE (all_range_succ _ k HA.out (by rw [List.getElem?_eq_getElem hlt, List.getElem?_eq_getElem hlt']; exact hs))
          go_wp2
          refine wp_region_quiet_below (by kernel_rfl) (by kernel_rfl) ?_
          repeat (go_big_quiet_step (first | exact x1 _ _))
          refine wpQuiet_nil ?_
          intro _ hw'
          obtain ⟨⟨dq, osq⟩, hw''⟩ := hw'
          subst hw''
          have HBq := hidE (HB.out.trans ((below_regrown wr dq osq).mono HB.out.size))
          clear HB k0 q0 x1
          go_wp2
          go_roundw
          case rel => exact ⟨k + 1, by omega, by go_num, HBq, HA2⟩
          case measure => simp [RowKit.intOf]; omega
        | false =>
          rw [hs] at x1
          have HN := hidE (sameSS_no HL.out hlt hs)
          go_wp2
          refine wp_region_quiet_below (by kernel_rfl) (by kernel_rfl) ?_
          repeat (go_big_quiet_step (first | exact x1 _ _))
          refine wpQuiet_nil ?_
          intro _ hw'
          obtain ⟨⟨dq, osq⟩, hw''⟩ := hw'
          subst hw''
          have HBq := hidE (HB.out.trans ((below_regrown wr dq osq).mono HB.out.size))
          clear HB k0 q0 x1
          go_wp2
          go_ret
          exact ⟨Mk.ret_bE HN.out, HBq.out⟩
      · go_wp2
        go_ret
        have HT : sameSS es fs = true := by
          unfold sameSS
          have := HA.out
          rw [show k = es.length from by omega] at this
          rw [decide_eq_true HL.out, this]; rfl
        exact ⟨Mk.ret_bE HT.symm, HB.out⟩
  · have hb : ((es.length : Int) == (fs.length : Int)) = false := by rw [beq_eq_false_iff_ne]; omega
    go_enter Try.func33, Try.ntmps33
    go_wp2
    go_ret
    exact ⟨Mk.ret_bE (by unfold sameSS; rw [decide_eq_false hlen]; rfl), Below.refl _ _⟩
end Go.Proofs.Ytjkpnohfkadfiaa.Ov
