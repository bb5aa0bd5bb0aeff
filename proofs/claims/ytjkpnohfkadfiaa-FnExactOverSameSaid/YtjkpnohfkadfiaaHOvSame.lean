/-
  The walks of OverSame: the model's, and the program's own.
-/
import Derived.Test.YtjkpnohfkadfiaaHOvOver
import Derived.Test.YtjkpnohfkadfiaaHSameI
import Derived.Test.YtjkpnohfkadfiaaHTreeSame
import Derived.Test.YtjkpnohfkadfiaaHMkSameI
import Derived.Test.YtjkpnohfkadfiaaHMkTreeSame
namespace Go.Proofs.Ytjkpnohfkadfiaa.Ov
open Go.RowKit Go.Lib Go.Sort

/-- Two lists of layers are the same. -/
def samL (ls ks : List (List Mk.E)) : Bool := decide (ls.length = ks.length) && (List.range ls.length).all (fun i => match ls[i]?, ks[i]? with | some e, some f => Mk.sameT e f | _, _ => true)
theorem samL_no {es fs : List (List Mk.E)} {i : Nat} (hl : es.length = fs.length) (h : i < es.length) (hb : Mk.sameT es[i] (fs[i]'(by omega)) = false) : false = samL es fs := by
  unfold samL
  have : (List.range es.length).all (fun i => match es[i]?, fs[i]? with | some e, some f => Mk.sameT e f | _, _ => true) = false := by
    rw [List.all_eq_false]
    refine ⟨i, List.mem_range.2 h, ?_⟩
    rw [List.getElem?_eq_getElem h, List.getElem?_eq_getElem (by omega)]
    simp [hb]
  rw [this, Bool.and_false]
def samO (x y : O) : Bool := sameT x.b y.b && (samL x.l y.l && Mk.sameT x.u y.u)

set_option maxHeartbeats 1000000 in
set_option maxRecDepth 100000 in
theorem equalF_any (w : World) (a a' : Option Addr) (g o cap g' o' cap' : Nat) (es fs : List (List Mk.E)) (hn : es.length ≤ 16777216) (_hn' : fs.length ≤ 16777216) (hz : ∀ l ∈ es, l.length ≤ 16777216) (hz' : ∀ l ∈ fs, l.length ≤ 16777216) (ha : 0 < es.length → a = some ⟨g, o, none⟩) (ha' : 0 < fs.length → a' = some ⟨g', o', none⟩) (hE : LL w g o es) (hE' : LL w g' o' fs) :
    Calls Try.prog 30 #[.slice a es.length cap, .slice a' fs.length cap', .func (.func 31) #[] #[]] w fun r w' => r = .returned (.bool (samL es fs)) ∧ Below w.heap.size w w' := by
  have HE := hidE hE
  have HE' := hidE hE'
  have HZ := hidE hz
  have HZ' := hidE hz'
  clear hE hE' hz hz'
  by_cases hlen : es.length = fs.length
  · have HL := hidE hlen
    have hb : ((es.length : Int) != (fs.length : Int)) = false := by rw [hlen]; simp
    have hle : fs.length ≤ es.length := by omega
    have hge : es.length ≤ fs.length := by omega
    clear hlen
    go_enter Try.func30, Try.ntmps30
    go_wp2
    go_loopw [17] (fun iv wl => ∃ k : Nat, k ≤ es.length ∧ iv = .int .i64 k ∧ Hid (Below w.heap.size w wl) ∧ Hid ((List.range k).all (fun i => match es[i]?, fs[i]? with | some e, some f => Mk.sameT e f | _, _ => true) = true)) (fun iv _ => es.length - (RowKit.intOf iv).toNat)
    case atStart => exact ⟨0, Nat.zero_le _, rfl, Below.refl _ _, rfl⟩
    case round =>
      obtain ⟨k, hk, rfl, HB, HA⟩ := hrel
      by_cases hlt : k < es.length
      · have hlt' : k < fs.length := by omega
        obtain rfl := ha (by omega)
        obtain rfl := ha' (by omega)
        obtain ⟨a1, g1, o1, cap1, c0, ha1, hE1, hc1⟩ := (HE.out.below HB.out) k hlt
        obtain ⟨a2, g2, o2, cap2, d0, ha2, hE2, hc2⟩ := (HE'.out.below HB.out) k hlt'
        have HC := hidE (Mk.iTreeSame_any wr a1 g1 o1 cap1 es[k] a2 g2 o2 cap2 fs[k] (HZ.out _ (List.getElem_mem _)) (HZ'.out _ (List.getElem_mem _)) ha1 ha2 hE1 hE2)
        clear hE1 hE2 ha1 ha2
        go_wp2_with fail
        refine HC.out.mono ?_
        rintro e w2 ⟨rfl, hB2⟩
        have HB2 := hidE (B3 HB.out hB2)
        clear hB2 HB c0 d0
        cases hs : Mk.sameT es[k] fs[k] with
        | true =>
          have HA2 := hidE (all_range_succ _ k HA.out (by rw [List.getElem?_eq_getElem hlt, List.getElem?_eq_getElem hlt']; exact hs))
          go_wp2
          go_roundw
          case rel => exact ⟨k + 1, by omega, by go_num, HB2, HA2⟩
          case measure => simp [RowKit.intOf]; omega
        | false =>
          have HN := hidE (samL_no HL.out hlt hs)
          go_wp2
          go_ret
          exact ⟨Mk.ret_bE HN.out, HB2.out⟩
      · go_wp2
        go_ret
        have HT : samL es fs = true := by
          unfold samL
          have := HA.out
          rw [show k = es.length from by omega] at this
          rw [decide_eq_true HL.out, this]; rfl
        exact ⟨Mk.ret_bE HT.symm, HB.out⟩
  · have hb : ((es.length : Int) == (fs.length : Int)) = false := by rw [beq_eq_false_iff_ne]; omega
    go_enter Try.func30, Try.ntmps30
    go_wp2
    go_ret
    exact ⟨Mk.ret_bE (by unfold samL; rw [decide_eq_false hlen]; rfl), Below.refl _ _⟩
set_option maxHeartbeats 1000000 in
set_option maxRecDepth 100000 in
theorem iOverSame_any (w : World) (v v' : Value) (x y : O) (hS : Sz 1048576 x) (hS' : Sz 1048576 y) (hA : Arg w v x) (hA' : Arg w v' y) :
    Calls Try.prog 9 #[v, v'] w fun e w' => e = .returned (.bool (samO x y)) ∧ Below w.heap.size w w' := by
  obtain ⟨a0, g0, o0, c0, a1, g1, o1, c1, a2, g2, o2, c2, rfl, h2, h3, h4, h5, h6, h7⟩ := hA.ex
  obtain ⟨a0', g0', o0', c0', a1', g1', o1', c1', a2', g2', o2', c2', rfl, h2', h3', h4', h5', h6', h7'⟩ := hA'.ex
  have HE := hidE h5
  have HL := hidE h6
  have HU := hidE h7
  have HE' := hidE h5'
  have HL' := hidE h6'
  have HU' := hidE h7'
  have HS := hidE hS
  have HS' := hidE hS'
  clear hA h5 h6 h7 hS hA' h5' h6' h7' hS'
  have BX := (C3.new w (.slice a0 x.b.length c0) (.slice a1 x.l.length c1) (.slice a2 x.u.length c2) 33).on (.cells #[.slice a0' y.b.length c0', .slice a1' y.l.length c1', .slice a2' y.u.length c2'] 33)
  have BY := C3.new (w.alloc (.cells #[.slice a0 x.b.length c0, .slice a1 x.l.length c1, .slice a2 x.u.length c2] 33)) (.slice a0' y.b.length c0') (.slice a1' y.l.length c1') (.slice a2' y.u.length c2') 33
  simp only [World.size_alloc] at BY
  obtain ⟨W0, hW0⟩ : ∃ W0, W0 = (w.alloc (.cells #[.slice a0 x.b.length c0, .slice a1 x.l.length c1, .slice a2 x.u.length c2] 33)).alloc (.cells #[.slice a0' y.b.length c0', .slice a1' y.l.length c1', .slice a2' y.u.length c2'] 33) := ⟨_, rfl⟩
  have hB0 : Below w.heap.size w W0 := by rw [hW0]; exact bA (bA (Below.refl _ w) _) _
  rw [← hW0] at BX BY
  have HB0 := hidE hB0
  have HX := hidE BX
  have HY := hidE BY
  clear BX BY hB0
  have hn0 : x.b.length ≤ 16777216 := by have := HS.out.b0; omega
  have hn0' : y.b.length ≤ 16777216 := by have := HS'.out.b0; omega
  have hn1 : x.l.length ≤ 16777216 := by have := HS.out.l0; omega
  have hn1' : y.l.length ≤ 16777216 := by have := HS'.out.l0; omega
  have hn2 : x.u.length ≤ 16777216 := by have := HS.out.u0; omega
  have hn2' : y.u.length ≤ 16777216 := by have := HS'.out.u0; omega
  have HZ : Hid (∀ l ∈ x.l, l.length ≤ 16777216) := fun l hl => by have := (HS.out.l1 l hl).1; omega
  have HZ' : Hid (∀ l ∈ y.l, l.length ≤ 16777216) := fun l hl => by have := (HS'.out.l1 l hl).1; omega
  have hD : samO x y = (sameT x.b y.b && (samL x.l y.l && Mk.sameT x.u y.u)) := rfl
  rw [hD]
  clear hD
  go_enter Try.func9, Try.ntmps9
  go_wp2_with fail
  rw [← hW0]
  clear hW0
  refine (iTreeSame_any _ a0 g0 o0 c0 x.b a0' g0' o0' c0' y.b hn0 hn0' h2 h2' (HE.out.below HB0.out) (HE'.out.below HB0.out)).mono ?_
  rintro e w1 ⟨rfl, hB⟩
  have HB1 := hidE (B3 HB0.out hB)
  have HX1 := hidE (HX.out.below hB)
  have HY1 := hidE (HY.out.below hB)
  clear hB HB0 HX HY
  cases hs1 : sameT x.b y.b with
  | false =>
    go_wp2
    go_ret
    exact ⟨by rw [hs1]; rfl, HB1.out⟩
  | true =>
    obtain ⟨k0, k1, k2, -, -, -⟩ := HX1.out
    obtain ⟨l0, l1, l2, -, -, -⟩ := HY1.out
    go_wp2_with fail
    refine (equalF_any _ a1 a1' g1 o1 c1 g1' o1' c1' x.l y.l hn1 hn1' HZ.out HZ'.out h3 h3' (HL.out.below HB1.out) (HL'.out.below HB1.out)).mono ?_
    rintro e w2 ⟨rfl, hB⟩
    have HB2 := hidE (B3 HB1.out hB)
    have HX2 := hidE (HX1.out.below hB)
    have HY2 := hidE (HY1.out.below hB)
    clear hB HB1 HX1 HY1 k0 k1 k2 l0 l1 l2
    cases hs2 : samL x.l y.l with
    | false =>
      go_wp2
      go_ret
      exact ⟨by rw [hs1, hs2]; rfl, HB2.out⟩
    | true =>
      obtain ⟨k0, k1, k2, -, -, -⟩ := HX2.out
      obtain ⟨l0, l1, l2, -, -, -⟩ := HY2.out
      go_wp2_with fail
      refine (Mk.iTreeSame_any _ a2 g2 o2 c2 x.u a2' g2' o2' c2' y.u hn2 hn2' h4 h4' (HU.out.below HB2.out) (HU'.out.below HB2.out)).mono ?_
      rintro e w3 ⟨rfl, hB⟩
      have HB3 := hidE (B3 HB2.out hB)
      have HX3 := hidE (HX2.out.below hB)
      have HY3 := hidE (HY2.out.below hB)
      clear hB HB2 HX2 HY2 k0 k1 k2 l0 l1 l2
      go_wp2
      go_ret
      exact ⟨by rw [hs1, hs2]; rfl, HB3.out⟩

set_option maxHeartbeats 1000000 in
set_option maxRecDepth 100000 in
theorem sOverSame_any (w : World) (v v' : Value) (x y : O) (hS : Sz 1048576 x) (hS' : Sz 1048576 y) (hA : Arg w v x) (hA' : Arg w v' y) :
    Calls Try.prog 7 #[v, v'] w fun e w' => e = .returned (.bool (samO x y)) ∧ Below w.heap.size w w' := by
  obtain ⟨a0, g0, o0, c0, a1, g1, o1, c1, a2, g2, o2, c2, rfl, h2, h3, h4, h5, h6, h7⟩ := hA.ex
  obtain ⟨a0', g0', o0', c0', a1', g1', o1', c1', a2', g2', o2', c2', rfl, h2', h3', h4', h5', h6', h7'⟩ := hA'.ex
  have HE := hidE h5
  have HL := hidE h6
  have HU := hidE h7
  have HE' := hidE h5'
  have HL' := hidE h6'
  have HU' := hidE h7'
  have HS := hidE hS
  have HS' := hidE hS'
  clear hA h5 h6 h7 hS hA' h5' h6' h7' hS'
  have BX := (C3.new w (.slice a0 x.b.length c0) (.slice a1 x.l.length c1) (.slice a2 x.u.length c2) 33).on (.cells #[.slice a0' y.b.length c0', .slice a1' y.l.length c1', .slice a2' y.u.length c2'] 33)
  have BY := C3.new (w.alloc (.cells #[.slice a0 x.b.length c0, .slice a1 x.l.length c1, .slice a2 x.u.length c2] 33)) (.slice a0' y.b.length c0') (.slice a1' y.l.length c1') (.slice a2' y.u.length c2') 33
  simp only [World.size_alloc] at BY
  obtain ⟨W0, hW0⟩ : ∃ W0, W0 = (w.alloc (.cells #[.slice a0 x.b.length c0, .slice a1 x.l.length c1, .slice a2 x.u.length c2] 33)).alloc (.cells #[.slice a0' y.b.length c0', .slice a1' y.l.length c1', .slice a2' y.u.length c2'] 33) := ⟨_, rfl⟩
  have hB0 : Below w.heap.size w W0 := by rw [hW0]; exact bA (bA (Below.refl _ w) _) _
  rw [← hW0] at BX BY
  have HB0 := hidE hB0
  have HX := hidE BX
  have HY := hidE BY
  clear BX BY hB0
  have hn0 : x.b.length ≤ 16777216 := by have := HS.out.b0; omega
  have hn0' : y.b.length ≤ 16777216 := by have := HS'.out.b0; omega
  have hn1 : x.l.length ≤ 16777216 := by have := HS.out.l0; omega
  have hn1' : y.l.length ≤ 16777216 := by have := HS'.out.l0; omega
  have hn2 : x.u.length ≤ 16777216 := by have := HS.out.u0; omega
  have hn2' : y.u.length ≤ 16777216 := by have := HS'.out.u0; omega
  have HZ : Hid (∀ l ∈ x.l, l.length ≤ 16777216) := fun l hl => by have := (HS.out.l1 l hl).1; omega
  have HZ' : Hid (∀ l ∈ y.l, l.length ≤ 16777216) := fun l hl => by have := (HS'.out.l1 l hl).1; omega
  have hD : samO x y = (sameT x.b y.b && (samL x.l y.l && Mk.sameT x.u y.u)) := rfl
  rw [hD]
  clear hD
  go_enter Try.func7, Try.ntmps7
  go_wp2_with fail
  rw [← hW0]
  clear hW0
  refine (sTreeSame_any _ a0 g0 o0 c0 x.b a0' g0' o0' c0' y.b hn0 hn0' h2 h2' (HE.out.below HB0.out) (HE'.out.below HB0.out)).mono ?_
  rintro e w1 ⟨rfl, hB⟩
  have HB1 := hidE (B3 HB0.out hB)
  have HX1 := hidE (HX.out.below hB)
  have HY1 := hidE (HY.out.below hB)
  clear hB HB0 HX HY
  cases hs1 : sameT x.b y.b with
  | false =>
    go_wp2
    go_ret
    exact ⟨by rw [hs1]; rfl, HB1.out⟩
  | true =>
    obtain ⟨k0, k1, k2, -, -, -⟩ := HX1.out
    obtain ⟨l0, l1, l2, -, -, -⟩ := HY1.out
    go_wp2_with fail
    refine (Mk.sTreeSame_any _ a2 g2 o2 c2 x.u a2' g2' o2' c2' y.u hn2 hn2' h4 h4' (HU.out.below HB1.out) (HU'.out.below HB1.out)).mono ?_
    rintro e w2 ⟨rfl, hB⟩
    have HB2 := hidE (B3 HB1.out hB)
    have HX2 := hidE (HX1.out.below hB)
    have HY2 := hidE (HY1.out.below hB)
    clear hB HB1 HX1 HY1 k0 k1 k2 l0 l1 l2
    cases hs2 : Mk.sameT x.u y.u with
    | false =>
      go_wp2
      go_ret
      exact ⟨by rw [hs1, hs2, Bool.and_false]; rfl, HB2.out⟩
    | true =>
      obtain ⟨k0, k1, k2, -, -, -⟩ := HX2.out
      obtain ⟨l0, l1, l2, -, -, -⟩ := HY2.out
      by_cases hlen : x.l.length = y.l.length
      · have HLn := hidE hlen
        have hb : ((x.l.length : Int) != (y.l.length : Int)) = false := by rw [hlen]; simp
        have hle : y.l.length ≤ x.l.length := by omega
        have hge : x.l.length ≤ y.l.length := by omega
        clear hlen
        go_wp2
        go_loopw [5] (fun iv wl => ∃ k : Nat, k ≤ x.l.length ∧ iv = .int .i64 k ∧ Hid (Below w.heap.size w wl) ∧ Hid (C3 wl w.heap.size (.slice a0 x.b.length c0) (.slice a1 x.l.length c1) (.slice a2 x.u.length c2)) ∧ Hid (C3 wl (w.heap.size + 1) (.slice a0' y.b.length c0') (.slice a1' y.l.length c1') (.slice a2' y.u.length c2')) ∧ Hid ((List.range k).all (fun i => match x.l[i]?, y.l[i]? with | some e, some f => Mk.sameT e f | _, _ => true) = true)) (fun iv _ => x.l.length - (RowKit.intOf iv).toNat)
        case atStart => exact ⟨0, Nat.zero_le _, rfl, HB2, HX2, HY2, rfl⟩
        case round =>
          clear k0 k1 k2 l0 l1 l2 HB2 HX2 HY2
          obtain ⟨k, hk, rfl, HB, HX, HY, HA⟩ := hrel
          obtain ⟨m0, m1, m2, -, -, -⟩ := HX.out
          obtain ⟨n0, n1, n2, -, -, -⟩ := HY.out
          by_cases hlt : k < x.l.length
          · have hlt' : k < y.l.length := by omega
            obtain rfl := h3 (by omega)
            obtain rfl := h3' (by omega)
            obtain ⟨p1, g3, o3, cap1, e0, ha1, hE1, hc1⟩ := (HL.out.below HB.out) k hlt
            obtain ⟨p2, g4, o4, cap2, d0, ha2, hE2, hc2⟩ := (HL'.out.below HB.out) k hlt'
            have k0 := cell_regrown e0
            have q0 := cell_regrown d0
            have b1 := cell_regrown m1
            have d1 := cell_regrown n1
            have x1 : ∀ d os, Calls Try.prog 25 #[.slice p1 x.l[k].length cap1, .slice p2 y.l[k].length cap2] (grow (redrawn wr d) os) fun r w'' => r = .returned (.bool (Mk.sameT x.l[k] y.l[k])) ∧ ∃ p : Regrown, w'' = grow (redrawn wr p.d) p.os := fun d os =>
              Calls.regrown_of (Mk.sTreeSame_any _ p1 g3 o3 cap1 x.l[k] p2 g4 o4 cap2 y.l[k] (HZ.out _ (List.getElem_mem _)) (HZ'.out _ (List.getElem_mem _)) ha1 ha2 (hE1.below (below_regrown wr d os)) (hE2.below (below_regrown wr d os)))
            clear e0 d0 hE1 hE2 ha1 ha2
            cases hs : Mk.sameT x.l[k] y.l[k] with
            | true =>
              rw [hs] at x1
              have HA2 := hidE (all_range_succ _ k HA.out (by rw [List.getElem?_eq_getElem hlt, List.getElem?_eq_getElem hlt']; exact hs))
              go_wp2
              refine wp_region_quiet_below (by kernel_rfl) (by kernel_rfl) ?_
              repeat (go_big_quiet_step (first | exact x1 _ _))
              refine wpQuiet_nil ?_
              intro _ hw'
              obtain ⟨⟨dq, osq⟩, hw''⟩ := hw'
              subst hw''
              have HBq := hidE (B3 HB.out (below_regrown wr dq osq))
              have HXq := hidE (HX.out.below (below_regrown wr dq osq))
              have HYq := hidE (HY.out.below (below_regrown wr dq osq))
              clear HB HX HY k0 q0 x1 b1 d1 m0 m1 m2 n0 n1 n2
              go_wp2
              go_roundw
              case rel => exact ⟨k + 1, by omega, by go_num, HBq, HXq, HYq, HA2⟩
              case measure => simp [RowKit.intOf]; omega
            | false =>
              rw [hs] at x1
              have HN := hidE (samL_no HLn.out hlt hs)
              go_wp2
              refine wp_region_quiet_below (by kernel_rfl) (by kernel_rfl) ?_
              repeat (go_big_quiet_step (first | exact x1 _ _))
              refine wpQuiet_nil ?_
              intro _ hw'
              obtain ⟨⟨dq, osq⟩, hw''⟩ := hw'
              subst hw''
              have HBq := hidE (B3 HB.out (below_regrown wr dq osq))
              have HXq := hidE (HX.out.below (below_regrown wr dq osq))
              have HYq := hidE (HY.out.below (below_regrown wr dq osq))
              clear HB HX HY k0 q0 x1 b1 d1 m0 m1 m2 n0 n1 n2
              go_wp2
              go_ret
              exact ⟨by rw [hs1, ← HN.out]; rfl, HBq.out⟩
          · go_wp2
            go_ret
            have HT : samL x.l y.l = true := by
              unfold samL
              have := HA.out
              rw [show k = x.l.length from by omega] at this
              rw [decide_eq_true HLn.out, this]; rfl
            exact ⟨by rw [hs1, HT, hs2]; rfl, HB.out⟩
      · have hb : ((x.l.length : Int) == (y.l.length : Int)) = false := by rw [beq_eq_false_iff_ne]; omega
        go_wp2
        go_ret
        exact ⟨by rw [hs1, hs2]; unfold samL; rw [decide_eq_false hlen]; rfl, HB2.out⟩
end Go.Proofs.Ytjkpnohfkadfiaa.Ov
