/-
  The walk of the law FnTextCut, out of the contracts.
-/
import Derived.Test.YtgkfhcpegdlejaaGreatDoorHPk25
import Derived.Test.YtgkfhcpegdlejaaGreatDoorHPk28
import Derived.Test.YtgkfhcpegdlejaaGreatDoorHPk24
import Derived.Test.YtgkfhcpegdlejaaGreatDoorHTxDrawL
import Derived.Test.YtgkfhcpegdlejaaGreatDoorHPk21
import Derived.Test.YtgkfhcpegdlejaaGreatDoorHSameI
import Derived.Test.YtgkfhcpegdlejaaGreatDoorHMkSameI
namespace Go.Proofs.YtgkfhcpegdlejaaGreatDoor
open Go.RowKit Go.Lib

theorem B3V {a b c : World} (h : Below a.heap.size a b) (k : Below b.heap.size b c) : Below a.heap.size a c := h.trans (k.mono h.size)
theorem DrawTreeText_any (w : World) (a : Option Addr) (len cap : Nat) (hl : len ≤ 1048576) (h : Cod w a len cap) :
    Calls Tryz.prog 5 #[.slice a len cap] w fun e w' => ∃ (v : Value) (es : List E), e = .returned v ∧ LieB w' w.heap.size v es ∧ Small 18 es ∧ Below w.heap.size w w' := by
  have HC := hidR (DrawTreeOk_any w a len cap hl h)
  clear h
  go_enter Tryz.func5, Tryz.ntmps5
  go_wp2_with (first | (go_at_call 23; refine HC.out.mono ?_; rintro e w1 ⟨v, es, rfl, h1, h2, h3⟩) | fail)
  go_ret
  exact ⟨v, es, rfl, h1, h2, h3⟩
theorem DrawLayerText_any (w : World) (a : Option Addr) (len cap : Nat) (hl : len ≤ 1048576) (h : Cod w a len cap) :
    Calls Tryz.prog 6 #[.slice a len cap] w fun e w' => ∃ (v : Value) (es : List Mk.E), e = .returned v ∧ Mk.LieB w' w.heap.size v es ∧ Mk.Drn 34 es ∧ Below w.heap.size w w' := by
  have HC := hidR (Mk.DrawLayerOk_any w a len cap hl h)
  clear h
  go_enter Tryz.func6, Tryz.ntmps6
  go_wp2_with (first | (go_at_call 24; refine HC.out.mono ?_; rintro e w1 ⟨v, es, rfl, h1, h2, h3⟩) | fail)
  go_ret
  exact ⟨v, es, rfl, h1, h2, h3⟩

set_option maxHeartbeats 4800000 in
set_option maxRecDepth 100000 in
theorem walk_fnTextCut (ae : Int → Addr) (a : Option Addr) (len cap : Nat) (zs : List Int) (b : Option Addr) (len2 cap2 : Nat) (ys : List Int) (w : World) (hErr : Errs2 w ae) (hWo : MarkTab w) (hw : IsRow .u8 w a len cap zs) (hw2 : IsRow .u8 w b len2 cap2 ys) :
    Calls Tryz.prog 3 #[.slice a len cap, .slice b len2 cap2] w fun r w' => r = .returned (.bool true) ∧ Below w.heap.size w w' := by
  have HC := hidR hw.cod
  have HC2 := hidR hw2.cod
  have HW := hidR hWo
  have HE := hidR hErr
  clear hw hw2 hWo hErr
  by_cases hl : len ≤ 1048576
  · by_cases hl2 : len2 ≤ 1048576
    · go_enter Tryz.func3, Tryz.ntmps3
      go_wp2_with fail
      refine (DrawTreeText_any _ a len cap hl HC.out).mono ?_
      rintro r w1 ⟨v1, es, rfl, hL1, hS1, hB1⟩
      have HB1 := hidR hB1
      have hsz := tree_le16 hS1
      have HS := hidR hS1
      obtain ⟨a1, g1, o1, cap1, rfl, ha1, hE1, hc1, -⟩ := hL1
      have HE1 := hidR hE1
      have hlen := hS1.1
      clear hB1 hS1 hE1
      go_wp2_with fail
      refine (DrawLayerText_any _ b len2 cap2 hl2 (HC2.out.below HB1.out)).mono ?_
      rintro r w2 ⟨v2, ms, rfl, hL2, hS2, hB2⟩
      have HB2 := hidR (B3V HB1.out hB2)
      have hE2' := HE1.out.below hB2
      have hszm := Mk.lay_le16 hS2
      have HM := hidR hS2
      obtain ⟨a2, g2, o2, cap2', rfl, ha2, hE2, hc2, -⟩ := hL2
      have hlenm := hS2.1
      have HE2 := hidR (fun (W : World) (hb : Below w2.heap.size w2 W) => hE2'.below hb)
      have HF2 := hidR (fun (W : World) (hb : Below w2.heap.size w2 W) => hE2.below hb)
      have HMt := hidR (fun (W : World) (hb : Below w2.heap.size w2 W) => (HW.out.below HB2.out).below hb)
      have HEr := hidR (fun (W : World) (hb : Below w2.heap.size w2 W) => (HE.out.below HB2.out).below hb)
      clear hB2 hS2 hE2 HE1 hE2'
      have hze : ∀ e ∈ es, e.p.size ≤ 16777216 ∧ e.x.size ≤ 16777216 := fun e he => ⟨by have := (HS.out.2 e he).1; omega, by have := (HS.out.2 e he).2; omega⟩
      have hzm : ∀ e ∈ ms, e.p.size ≤ 16777216 ∧ e.x.size ≤ 16777216 := fun e he => ⟨by have := Mk.okP_size (HM.out.2 e he).1; omega, by have := (HM.out.2 e he).2; omega⟩
      have HT := hidR (fun (W : World) (hb : Below w2.heap.size w2 W) => iText_any W a1 g1 o1 cap1 es ae (HEr.out W hb) (HMt.out W hb).words (by omega) hze ha1 (HE2.out W hb))
      have HsT := hidR (fun (W : World) (hb : Below w2.heap.size w2 W) => sText_any W a1 g1 o1 cap1 es (by omega) hc1 hze ha1 (HE2.out W hb))
      have HL := hidR (fun (W : World) (hb : Below w2.heap.size w2 W) => Mk.iText_any W a2 g2 o2 cap2' ms (HMt.out W hb).words (by omega) hzm ha2 (HF2.out W hb))
      have HsL := hidR (fun (W : World) (hb : Below w2.heap.size w2 W) => Mk.sText_any W a2 g2 o2 cap2' ms (by omega) hc2 hzm ha2 (HF2.out W hb))
      have HX := hidR (fun h (i : Nat) (hi : i < (treeT es).size) (hc : (treeT es)[i] = 10) => text_cut (es := es) h hi hc)
      have HY := hidR (fun h (i : Nat) (hi : i < (Mk.layT ms).size) (hc : (Mk.layT ms)[i] = 10) => Mk.text_cut (es := ms) h hi hc)
      have HXp := hidR (tree_len (es := es))
      have HYp := hidR (Mk.lay_pos (es := ms))
      obtain ⟨S, hS⟩ : ∃ S, treeT es = S := ⟨_, rfl⟩
      obtain ⟨U, hU⟩ : ∃ U, Mk.layT ms = U := ⟨_, rfl⟩
      rw [hS] at hsz HT HsT HXp
      rw [hU] at hszm HL HsL HYp
      have HX' : Hid (treeE es = true → ∀ (i : Nat) (hi : i < S.size), S[i] = 10 → ∃ j, j ≤ es.length ∧ progTree (S.extract 0 (i + 1)) = some (es.take j)) := by subst hS; exact HX.out
      have HY' : Hid (Mk.layB ms = true → ∀ (i : Nat) (hi : i < U.size), U[i] = 10 → ∃ j, j ≤ ms.length ∧ Mk.progLay (U.extract 0 (i + 1)) = some (ms.take j)) := by subst hU; exact HY.out
      clear hS hU hze hzm HS HM HE HW HC HC2 HX HY
      go_wp2_with (first
        | (go_at_call 7; refine (HT.out _ (Below.refl _ _)).mono ?_; rintro r w3 ⟨rfl, hB3⟩)
        | (go_at_call 8; refine (HL.out _ hB3).mono ?_; rintro r w4 ⟨rfl, hB4⟩; have hB4' := B3V hB3 hB4)
        | (go_at_call 9; refine (HsT.out _ hB4').mono ?_; rintro r w5 ⟨rfl, hB5⟩; have hB5' := B3V hB4' hB5)
        | (go_at_call 10; refine (HsL.out _ hB5').mono ?_; rintro r w6 ⟨rfl, hB6⟩; have hB6' := B3V hB5' hB6)
        | fail)
      clear HT HL HsT HsL hB3 hB4 hB4' hB5 hB5' hB6
      go_loopw [9] (fun iv wl => ∃ i : Nat, i ≤ S.size ∧ iv = .int .i64 i ∧ Hid (Below w2.heap.size w2 wl)) (fun iv _ => S.size - (RowKit.intOf iv).toNat)
      case atStart => exact ⟨0, Nat.zero_le _, rfl, hB6'⟩
      case round =>
        obtain ⟨i, hi, rfl, HZ9⟩ := hrel
        by_cases hlt : i < S.size
        · by_cases hc : S[i] = 10
          · have hcb : (((S[i].toNat : Int)) == (10 : Int)) = true := by rw [hc]; rfl
            obtain ⟨hte, hpos⟩ := HXp.out (by omega)
            obtain ⟨j, hj, hpj⟩ := HX'.out hte i hlt hc
            obtain rfl := ha1 hpos
            have hxz : (S.extract 0 (i + 1)).size = i + 1 := by rw [ByteArray.size_extract]; omega
            have HR := hidR (fun (W : World) (hb : Below w2.heap.size w2 W) => iTreeRead_any (S.extract 0 (i + 1)) (by rw [hxz]; omega) W ae (HEr.out W hb) (HMt.out W hb))
            rw [hpj] at HR
            have HF := hidR (fun (W : World) (hb : Below w2.heap.size w2 W) => (HE2.out W hb).take j)
            have htl : (es.take j).length ≤ es.length := by rw [List.length_take]; omega
            obtain ⟨ts, hts⟩ : ∃ ts, es.take j = ts := ⟨_, rfl⟩
            rw [hts] at HR HF htl
            clear hts hpj hte hj hc
            obtain ⟨X, hX⟩ : ∃ X, S.extract 0 (i + 1) = X := ⟨_, rfl⟩
            rw [hX] at HR
            have HXe := hidR hX
            have hi1 : i + 1 ≤ S.size := by omega
            clear hX hxz
            go_wp2_with fail
            rw [HXe.out]
            refine (HR.out _ HZ9.out).mono ?_
            rintro r w7 ⟨vx, rfl, hox, hB7⟩
            obtain ⟨ax, gx, cx, rfl, hax, hEx, hcx⟩ := OwnE.ents hox
            have HB7 := hidR (B3V HZ9.out hB7)
            clear hox hB7
            have htl2 : ts.length ≤ cap1 := by omega
            go_wp2_with fail
            refine (iTreeSame_any _ ax gx 0 cx ts (some ⟨g1, o1, none⟩) g1 o1 cap1 ts (by omega) (by omega) hax (fun _ => rfl) hEx (HF.out _ HB7.out)).mono ?_
            rintro r w8 ⟨rfl, hB8⟩
            rw [sameT_self]
            have HB8 := hidR (B3V HB7.out hB8)
            clear hB8
            go_wp2
            go_roundw
            case rel => exact ⟨i + 1, by omega, by go_num, HB8⟩
            case measure => simp [RowKit.intOf]; omega
          · have hcb : (((S[i].toNat : Int)) == (10 : Int)) = false := by
              rw [beq_eq_false_iff_ne]; intro e; exact hc (UInt8.toNat_inj.1 (show (S[i]).toNat = 10 by omega))
            clear hc
            go_wp2
            go_roundw
            case rel => exact ⟨i + 1, by omega, by go_num, HZ9⟩
            case measure => simp [RowKit.intOf]; omega
        · go_wp2
          go_loopw [12] (fun iv wl => ∃ i : Nat, i ≤ U.size ∧ iv = .int .i64 i ∧ Hid (Below w2.heap.size w2 wl)) (fun iv _ => U.size - (RowKit.intOf iv).toNat)
          case atStart => exact ⟨0, Nat.zero_le _, rfl, HZ9⟩
          case round =>
            obtain ⟨i, hi, rfl, HZ12⟩ := hrel
            by_cases hlt : i < U.size
            · by_cases hc : U[i] = 10
              · have hcb : (((U[i].toNat : Int)) == (10 : Int)) = true := by rw [hc]; rfl
                obtain ⟨hte, hpos⟩ := HYp.out (by omega)
                obtain ⟨j, hj, hpj⟩ := HY'.out hte i hlt hc
                obtain rfl := ha2 hpos
                have hxz : (U.extract 0 (i + 1)).size = i + 1 := by rw [ByteArray.size_extract]; omega
                have HR := hidR (fun (W : World) (hb : Below w2.heap.size w2 W) => Mk.iLayerRead_any (U.extract 0 (i + 1)) (by rw [hxz]; omega) W (HMt.out W hb))
                rw [hpj] at HR
                have HF := hidR (fun (W : World) (hb : Below w2.heap.size w2 W) => (HF2.out W hb).take j)
                have htl : (ms.take j).length ≤ ms.length := by rw [List.length_take]; omega
                obtain ⟨ts, hts⟩ : ∃ ts, ms.take j = ts := ⟨_, rfl⟩
                rw [hts] at HR HF htl
                clear hts hpj hte hj hc
                obtain ⟨X, hX⟩ : ∃ X, U.extract 0 (i + 1) = X := ⟨_, rfl⟩
                rw [hX] at HR
                have HXe := hidR hX
                have hi1 : i + 1 ≤ U.size := by omega
                clear hX hxz
                go_wp2_with fail
                rw [HXe.out]
                refine (HR.out _ HZ12.out).mono ?_
                rintro r w7 ⟨vx, rfl, hox, hB7⟩
                obtain ⟨ax, gx, cx, rfl, hax, hEx, hcx⟩ := Mk.OwnE.ents hox
                have HB7 := hidR (B3V HZ12.out hB7)
                clear hox hB7
                have htl2 : ts.length ≤ cap2' := by omega
                go_wp2_with fail
                refine (Mk.iTreeSame_any _ ax gx 0 cx ts (some ⟨g2, o2, none⟩) g2 o2 cap2' ts (by omega) (by omega) hax (fun _ => rfl) hEx (HF.out _ HB7.out)).mono ?_
                rintro r w8 ⟨rfl, hB8⟩
                rw [Mk.sameT_self]
                have HB8 := hidR (B3V HB7.out hB8)
                clear hB8
                go_wp2
                go_roundw
                case rel => exact ⟨i + 1, by omega, by go_num, HB8⟩
                case measure => simp [RowKit.intOf]; omega
              · have hcb : (((U[i].toNat : Int)) == (10 : Int)) = false := by
                  rw [beq_eq_false_iff_ne]; intro e; exact hc (UInt8.toNat_inj.1 (show (U[i]).toNat = 10 by omega))
                clear hc
                go_wp2
                go_roundw
                case rel => exact ⟨i + 1, by omega, by go_num, HZ12⟩
                case measure => simp [RowKit.intOf]; omega
            · go_wp2
              go_ret
              exact ⟨rfl, B3V HB2.out HZ12.out⟩
    · go_enter Tryz.func3, Tryz.ntmps3
      go_wp2
      go_ret
      exact ⟨rfl, Below.refl _ _⟩
  · go_enter Tryz.func3, Tryz.ntmps3
    go_wp2
    go_ret
    exact ⟨rfl, Below.refl _ _⟩
end Go.Proofs.YtgkfhcpegdlejaaGreatDoor
