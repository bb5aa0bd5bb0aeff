/-
  The walk of the law FnTextMany, out of the contracts.
-/
import Derived.Test.YtnbcflbcmcjhdaaGreatDoorHPk17
import Derived.Test.YtnbcflbcmcjhdaaGreatDoorHTxDrawT
import Derived.Test.YtnbcflbcmcjhdaaGreatDoorHTxDrawL
namespace Go.Proofs.YtnbcflbcmcjhdaaGreatDoor
open Go.RowKit Go.Lib

theorem B3V {a b c : World} (h : Below a.heap.size a b) (k : Below b.heap.size b c) : Below a.heap.size a c := h.trans (k.mono h.size)
theorem tree_le {es : List E} (h : Small 18 es) : (treeT es).size ≤ 1073741952 := by
  unfold treeT
  split
  · have := lines_le es (fun e he => ⟨by have := (h.2 e he).1; omega, by have := (h.2 e he).2; omega⟩)
    have h2 := Nat.mul_le_mul_right 33554436 h.1
    omega
  · exact Nat.zero_le _
theorem lay_le {es : List Mk.E} (h : Mk.Drn 34 es) : (Mk.layT es).size ≤ 2147483904 := by
  unfold Mk.layT
  split
  · have := Mk.lines_le es (fun e he => ⟨by have := Mk.okP_size (h.2 e he).1; omega, by have := (h.2 e he).2; omega⟩)
    have h2 := Nat.mul_le_mul_right 33554436 h.1
    omega
  · exact Nat.zero_le _
theorem DrawTreeText_any (w : World) (a : Option Addr) (len cap : Nat) (hl : len ≤ 1048576) (h : Cod w a len cap) :
    Calls Tryz.prog 4 #[.slice a len cap] w fun e w' => ∃ (v : Value) (es : List E), e = .returned v ∧ LieB w' w.heap.size v es ∧ Small 18 es ∧ Below w.heap.size w w' := by
  have HC := hidR (DrawTreeOk_any w a len cap hl h)
  clear h
  go_enter Tryz.func4, Tryz.ntmps4
  go_wp2_with (first | (go_at_call 12; refine HC.out.mono ?_; rintro e w1 ⟨v, es, rfl, h1, h2, h3⟩) | fail)
  go_ret
  exact ⟨v, es, rfl, h1, h2, h3⟩
theorem DrawLayerText_any (w : World) (a : Option Addr) (len cap : Nat) (hl : len ≤ 1048576) (h : Cod w a len cap) :
    Calls Tryz.prog 5 #[.slice a len cap] w fun e w' => ∃ (v : Value) (es : List Mk.E), e = .returned v ∧ Mk.LieB w' w.heap.size v es ∧ Mk.Drn 34 es ∧ Below w.heap.size w w' := by
  have HC := hidR (Mk.DrawLayerOk_any w a len cap hl h)
  clear h
  go_enter Tryz.func5, Tryz.ntmps5
  go_wp2_with (first | (go_at_call 13; refine HC.out.mono ?_; rintro e w1 ⟨v, es, rfl, h1, h2, h3⟩) | fail)
  go_ret
  exact ⟨v, es, rfl, h1, h2, h3⟩

set_option maxHeartbeats 3200000 in
set_option maxRecDepth 100000 in
theorem walk_fnTextMany (ae : Int → Addr) (a : Option Addr) (len cap : Nat) (zs : List Int) (b : Option Addr) (len2 cap2 : Nat) (ys : List Int) (w : World) (hErr : Errs2 w ae) (hWo : Words w) (hw : IsRow .u8 w a len cap zs) (hw2 : IsRow .u8 w b len2 cap2 ys) :
    Calls Tryz.prog 3 #[.slice a len cap, .slice b len2 cap2] w fun r w' => r = .returned (.bool true) ∧ Below w.heap.size w w' := by
  have HC := hidR hw.cod
  have HC2 := hidR hw2.cod
  have HW := hidR hWo
  have HE := hidR hErr
  clear hw hw2 hWo hErr
  by_cases hl : len ≤ 1048576
  · by_cases hl2 : len2 ≤ 1048576
    · go_enter Tryz.func3, Tryz.ntmps3
      go_wp2_with fail
      refine (DrawTreeText_any _ a len cap hl HC.out).mono ?_
      rintro r w1 ⟨v1, es, rfl, hL1, hS1, hB1⟩
      have HB1 := hidR hB1
      have hsz := tree_le hS1
      have HS := hidR hS1
      obtain ⟨a1, g1, o1, cap1, rfl, ha1, hE1, hc1, -⟩ := hL1
      have HE1 := hidR hE1
      have hlen := hS1.1
      clear hB1 hS1 hE1
      go_wp2_with fail
      refine (DrawLayerText_any _ b len2 cap2 hl2 (HC2.out.below HB1.out)).mono ?_
      rintro r w2 ⟨v2, ms, rfl, hL2, hS2, hB2⟩
      have HB2 := hidR (B3V HB1.out hB2)
      have HE2 := hidR (HE1.out.below hB2)
      have hszm := lay_le hS2
      have HM := hidR hS2
      obtain ⟨a2, g2, o2, cap2', rfl, ha2, hE2, hc2, -⟩ := hL2
      have HF2 := hidR hE2
      have hlenm := hS2.1
      clear hB2 hS2 hE2 HE1
      have hze : ∀ e ∈ es, e.p.size ≤ 16777216 ∧ e.x.size ≤ 16777216 := fun e he => ⟨by have := (HS.out.2 e he).1; omega, by have := (HS.out.2 e he).2; omega⟩
      have hzm : ∀ e ∈ ms, e.p.size ≤ 16777216 ∧ e.x.size ≤ 16777216 := fun e he => ⟨by have := Mk.okP_size (HM.out.2 e he).1; omega, by have := (HM.out.2 e he).2; omega⟩
      have HT := hidR (fun (W : World) (hb : Below w2.heap.size w2 W) => iText_any W a1 g1 o1 cap1 es ae ((HE.out.below HB2.out).below hb) ((HW.out.below HB2.out).below hb) (by omega) hze ha1 (HE2.out.below hb))
      have HsT := hidR (fun (W : World) (hb : Below w2.heap.size w2 W) => sText_any W a1 g1 o1 cap1 es (by omega) hc1 hze ha1 (HE2.out.below hb))
      have HsO := hidR (fun (W : World) (hb : Below w2.heap.size w2 W) => sTreeOk_any W a1 g1 o1 cap1 es (by omega) hc1 hze ha1 (HE2.out.below hb))
      have HL := hidR (fun (W : World) (hb : Below w2.heap.size w2 W) => Mk.iText_any W a2 g2 o2 cap2' ms ((HW.out.below HB2.out).below hb) (by omega) hzm ha2 (HF2.out.below hb))
      have HsL := hidR (fun (W : World) (hb : Below w2.heap.size w2 W) => Mk.sText_any W a2 g2 o2 cap2' ms (by omega) hc2 hzm ha2 (HF2.out.below hb))
      have HsM := hidR (fun (W : World) (hb : Below w2.heap.size w2 W) => Mk.sLayerOk_any W a2 g2 o2 cap2' ms (by omega) hc2 hzm ha2 (HF2.out.below hb))
      have HCt := hidR (tree_count es)
      have HCl := hidR (Mk.lay_count ms)
      obtain ⟨S, hS⟩ : ∃ S, treeT es = S := ⟨_, rfl⟩
      obtain ⟨U, hU⟩ : ∃ U, Mk.layT ms = U := ⟨_, rfl⟩
      rw [hS] at hsz HT HsT HCt
      rw [hU] at hszm HL HsL HCl
      clear hS hU hze hzm HE2 HF2 HS HM ha1 ha2 hc1 hc2 HE HW HC HC2
      go_wp2_with (first
        | (go_at_call 6; refine (HT.out _ (Below.refl _ _)).mono ?_; rintro r w3 ⟨rfl, hB3⟩)
        | (go_at_call 7; refine (HL.out _ hB3).mono ?_; rintro r w4 ⟨rfl, hB4⟩; have hB4' := B3V hB3 hB4)
        | (go_at_call 8; refine (HsT.out _ hB4').mono ?_; rintro r w5 ⟨rfl, hB5⟩; have hB5' := B3V hB4' hB5)
        | (go_at_call 9; refine (HsL.out _ hB5').mono ?_; rintro r w6 ⟨rfl, hB6⟩; have hB6' := B3V hB5' hB6)
        | fail)
      clear HT HL HsT HsL hB3 hB4 hB4' hB5 hB5' hB6
      go_loopw [9, 10] (fun nv iv wl => ∃ i : Nat, i ≤ S.size ∧ iv = .int .i64 i ∧ nv = .int .i64 ((((LB S).take i).count 10 : Nat) : Int) ∧ Hid (Below w2.heap.size w2 wl)) (fun _ iv _ => S.size - (RowKit.intOf iv).toNat)
      case atStart => exact ⟨0, Nat.zero_le _, rfl, rfl, hB6'⟩
      case round =>
        obtain ⟨i, hi, rfl, rfl, HX10⟩ := hrel
        by_cases hlt : i < S.size
        · have hst := count_step S i hlt
          have hsm := count_small S i
          obtain ⟨n, hn⟩ : ∃ n, ((LB S).take i).count 10 = n := ⟨_, rfl⟩
          rw [hn] at hst hsm ⊢
          by_cases hc : S[i] = 10
          · rw [if_pos hc] at hst
            have hcb : (((S[i].toNat : Int)) == (10 : Int)) = true := by rw [hc]; rfl
            have HST := hidR hst
            clear hn hc hst
            go_wp2
            go_roundw
            case rel => exact ⟨i + 1, by omega, by go_num, by rw [HST.out]; go_num, HX10⟩
            case measure => simp [RowKit.intOf]; omega
          · rw [if_neg hc] at hst
            have hcb : (((S[i].toNat : Int)) == (10 : Int)) = false := by
              rw [beq_eq_false_iff_ne]; intro e; exact hc (UInt8.toNat_inj.1 (show (S[i]).toNat = 10 by omega))
            have HST := hidR hst
            clear hn hc hst
            go_wp2
            go_roundw
            case rel => exact ⟨i + 1, by omega, by go_num, by rw [HST.out]; first | rfl | go_num, HX10⟩
            case measure => simp [RowKit.intOf]; omega
        · have hce := count_end S i hlt
          rw [hce]
          clear hce
          go_wp2
          obtain ⟨cN, hcN⟩ : ∃ c, (LB S).count 10 = c := ⟨_, rfl⟩
          rw [hcN] at HCt ⊢
          have hcn : cN ≤ S.size := by rw [← hcN]; have := count_small S S.size; rw [count_end S S.size (by omega)] at this; exact this
          clear hcN
          go_loopw [11, 12] (fun nv iv wl => ∃ i : Nat, i ≤ U.size ∧ iv = .int .i64 i ∧ nv = .int .i64 ((((LB U).take i).count 10 : Nat) : Int) ∧ Hid (Below w2.heap.size w2 wl)) (fun _ iv _ => U.size - (RowKit.intOf iv).toNat)
          case atStart => exact ⟨0, Nat.zero_le _, rfl, rfl, HX10⟩
          case round =>
            obtain ⟨i, hi, rfl, rfl, HX12⟩ := hrel
            by_cases hlt : i < U.size
            · have hst := count_step U i hlt
              have hsm := count_small U i
              obtain ⟨n, hn⟩ : ∃ n, ((LB U).take i).count 10 = n := ⟨_, rfl⟩
              rw [hn] at hst hsm ⊢
              by_cases hc : U[i] = 10
              · rw [if_pos hc] at hst
                have hcb : (((U[i].toNat : Int)) == (10 : Int)) = true := by rw [hc]; rfl
                have HST := hidR hst
                clear hn hc hst
                go_wp2
                go_roundw
                case rel => exact ⟨i + 1, by omega, by go_num, by rw [HST.out]; go_num, HX12⟩
                case measure => simp [RowKit.intOf]; omega
              · rw [if_neg hc] at hst
                have hcb : (((U[i].toNat : Int)) == (10 : Int)) = false := by
                  rw [beq_eq_false_iff_ne]; intro e; exact hc (UInt8.toNat_inj.1 (show (U[i]).toNat = 10 by omega))
                have HST := hidR hst
                clear hn hc hst
                go_wp2
                go_roundw
                case rel => exact ⟨i + 1, by omega, by go_num, by rw [HST.out]; first | rfl | go_num, HX12⟩
                case measure => simp [RowKit.intOf]; omega
            · have hce := count_end U i hlt
              rw [hce]
              clear hce
              obtain ⟨cM, hcM⟩ : ∃ c, (LB U).count 10 = c := ⟨_, rfl⟩
              rw [hcM] at HCl ⊢
              clear hcM
              have HBw := hidR (B3V HB2.out HX12.out)
              have HT1 := hidR (HsO.out _ HX12.out)
              have HM1 := hidR (fun (W : World) (hb : Below w2.heap.size w2 W) => HsM.out W hb)
              clear HsO HsM
              rcases HCt.out with ⟨e1, e2⟩ | ⟨e1, e2⟩
              · have k1 : ((cN : Int) == (es.length : Int)) = true := by rw [e1]; simp
                rcases HCl.out with ⟨f1, f2⟩ | ⟨f1, f2⟩
                · have k2 : ((cM : Int) == (ms.length : Int)) = true := by rw [f1]; simp
                  clear e1 e2 f1 f2 HCt HCl HT1 HM1
                  go_wp2
                  go_ret
                  exact ⟨rfl, HBw.out⟩
                · have hm0 : ms.length ≠ 0 := fun q => by rw [List.length_eq_zero_iff.1 q] at f2; revert f2; decide
                  have k2 : ((cM : Int) == (ms.length : Int)) = false := by rw [f1, beq_eq_false_iff_ne]; omega
                  have k3 : ((cM : Int) == 0) = true := by rw [f1]; rfl
                  rw [f2] at HM1
                  clear e1 e2 f1 f2 HCt HCl HT1
                  go_wp2_with (first | (go_at_call 11; refine (HM1.out _ HX12.out).mono ?_; rintro r w7 ⟨rfl, hB7⟩) | fail)
                  go_ret
                  exact ⟨rfl, B3V HBw.out hB7⟩
              · have he0 : es.length ≠ 0 := fun q => by rw [List.length_eq_zero_iff.1 q] at e2; revert e2; decide
                have k1 : ((cN : Int) == (es.length : Int)) = false := by rw [e1, beq_eq_false_iff_ne]; omega
                have k4 : ((cN : Int) == 0) = true := by rw [e1]; rfl
                rw [e2] at HT1
                rcases HCl.out with ⟨f1, f2⟩ | ⟨f1, f2⟩
                · have k2 : ((cM : Int) == (ms.length : Int)) = true := by rw [f1]; simp
                  clear e1 e2 f1 f2 HCt HCl HM1
                  go_wp2_with (first | (go_at_call 10; refine HT1.out.mono ?_; rintro r w7 ⟨rfl, hB7⟩) | fail)
                  go_ret
                  exact ⟨rfl, B3V HBw.out hB7⟩
                · have hm0 : ms.length ≠ 0 := fun q => by rw [List.length_eq_zero_iff.1 q] at f2; revert f2; decide
                  have k2 : ((cM : Int) == (ms.length : Int)) = false := by rw [f1, beq_eq_false_iff_ne]; omega
                  have k3 : ((cM : Int) == 0) = true := by rw [f1]; rfl
                  rw [f2] at HM1
                  clear e1 e2 f1 f2 HCt HCl
                  go_wp2_with (first | (go_at_call 10; refine HT1.out.mono ?_; rintro r w7 ⟨rfl, hB7⟩) | (go_at_call 11; refine (HM1.out _ (B3V HX12.out hB7)).mono ?_; rintro r w8 ⟨rfl, hB8⟩) | fail)
                  go_ret
                  exact ⟨rfl, B3V (B3V HBw.out hB7) hB8⟩
    · go_enter Tryz.func3, Tryz.ntmps3
      go_wp2
      go_ret
      exact ⟨rfl, Below.refl _ _⟩
  · go_enter Tryz.func3, Tryz.ntmps3
    go_wp2
    go_ret
    exact ⟨rfl, Below.refl _ _⟩
end Go.Proofs.YtnbcflbcmcjhdaaGreatDoor
