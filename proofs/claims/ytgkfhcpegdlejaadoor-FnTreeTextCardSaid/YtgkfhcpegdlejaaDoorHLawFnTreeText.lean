/-
  The walk of the law FnTreeText, out of the contracts.
-/
import Derived.Test.YtgkfhcpegdlejaaDoorHTxReadP
import Derived.Test.YtgkfhcpegdlejaaDoorHTxDrawT
import Derived.Test.YtgkfhcpegdlejaaDoorHSameI
namespace Go.Proofs.YtgkfhcpegdlejaaDoor
open Go.RowKit Go.Lib

theorem B3V {a b c : World} (h : Below a.heap.size a b) (k : Below b.heap.size b c) : Below a.heap.size a c := h.trans (k.mono h.size)
theorem DrawTreeText_any (w : World) (a : Option Addr) (len cap : Nat) (hl : len ≤ 1048576) (h : Cod w a len cap) :
    Calls Tryd.prog 7 #[.slice a len cap] w fun e w' => ∃ (v : Value) (es : List E), e = .returned v ∧ LieB w' w.heap.size v es ∧ Small 18 es ∧ Below w.heap.size w w' := by
  have HC := hidR (DrawTreeOk_any w a len cap hl h)
  clear h
  go_enter Tryd.func7, Tryd.ntmps7
  go_wp2_with (first | (go_at_call 32; refine HC.out.mono ?_; rintro e w1 ⟨v, es, rfl, h1, h2, h3⟩) | fail)
  go_ret
  exact ⟨v, es, rfl, h1, h2, h3⟩

set_option maxHeartbeats 3200000 in
set_option maxRecDepth 100000 in
theorem walk_fnTreeText (ae : Int → Addr) (a : Option Addr) (len cap : Nat) (zs : List Int) (b : Option Addr) (len2 cap2 : Nat) (ys : List Int) (w : World) (hErr : Errs2 w ae) (hWo : MarkTab w) (hw : IsRow .u8 w a len cap zs) (hw2 : IsRow .u8 w b len2 cap2 ys) :
    Calls Tryd.prog 3 #[.slice a len cap, .slice b len2 cap2] w fun r w' => r = .returned (.bool true) ∧ Below w.heap.size w w' := by
  have HC := hidR hw.cod
  have HC2 := hidR hw2.cod
  have HW := hidR hWo
  have HE := hidR hErr
  clear hw hw2 hWo hErr
  by_cases hl : len ≤ 1048576
  · by_cases hl2 : len2 ≤ 1048576
    · go_enter Tryd.func3, Tryd.ntmps3
      go_wp2_with fail
      refine (DrawTreeText_any _ a len cap hl HC.out).mono ?_
      rintro r w1 ⟨v1, es, rfl, hL1, hS1, hB1⟩
      have HB1 := hidR hB1
      have HM := hidR (fun (W : World) (hb : Below w1.heap.size w1 W) => (HW.out.below hB1).below hb)
      have HEr := hidR (fun (W : World) (hb : Below w1.heap.size w1 W) => (HE.out.below hB1).below hb)
      have HCo := hidR (fun (W : World) (hb : Below w1.heap.size w1 W) => (HC2.out.below hB1).below hb)
      have hsz := tree_le16 hS1
      obtain ⟨a1, g1, o1, cap1, rfl, ha1, hE1, hc1, -⟩ := hL1
      have HE1 := hidR (fun (W : World) (hb : Below w1.heap.size w1 W) => hE1.below hb)
      have hlen := hS1.1
      have hze : ∀ e ∈ es, e.p.size ≤ 16777216 ∧ e.x.size ≤ 16777216 := fun e he => ⟨by have := (hS1.2 e he).1; omega, by have := (hS1.2 e he).2; omega⟩
      have HT := hidR (fun (W : World) (hb : Below w1.heap.size w1 W) => iText_any W a1 g1 o1 cap1 es ae (HEr.out W hb) (HM.out W hb).words (by omega) hze ha1 (HE1.out W hb))
      have HsT := hidR (fun (W : World) (hb : Below w1.heap.size w1 W) => sText_any W a1 g1 o1 cap1 es (by omega) hc1 hze ha1 (HE1.out W hb))
      have HsO := hidR (fun (W : World) (hb : Below w1.heap.size w1 W) => sTreeOk_any W a1 g1 o1 cap1 es (by omega) hc1 hze ha1 (HE1.out W hb))
      have HSm := hidR (fun (W : World) (hb : Below w1.heap.size w1 W) (a' : Option Addr) (g' cap' : Nat) (fs : List E) (hl' : fs.length ≤ 16777216) (ha' : 0 < fs.length → a' = some ⟨g', 0, none⟩) (hF : Ents W g' 0 fs) => iTreeSame_any W a' g' 0 cap' fs a1 g1 o1 cap1 es hl' (by omega) ha' ha1 hF (HE1.out W hb))
      have HA1 := hidR ha1
      clear hB1 hS1 hE1 hze HE HW HC HC2 ha1
      cases ht : treeE es with
      | true =>
        have HTx := hidR (fun (s : ByteArray) (fs : List E) (h : progTree s = some fs) => text_same h ht)
        have hbk := tree_back ht
        obtain ⟨S, hS⟩ : ∃ S, treeT es = S := ⟨_, rfl⟩
        rw [hS] at HT HsT hsz hbk HTx
        rw [ht] at HsO
        have HR := hidR (fun (W : World) (hb : Below w1.heap.size w1 W) => iTreeRead_any S (by omega) W ae (HEr.out W hb) (HM.out W hb))
        rw [hbk] at HR
        clear hbk ht hS
        go_wp2_with fail
        refine (HT.out _ (Below.refl _ _)).mono ?_
        rintro r w2 ⟨rfl, hB2⟩
        have HB2 := hidR hB2
        clear hB2 HT
        go_wp2_with fail
        refine (HR.out _ HB2.out).mono ?_
        rintro r w3 ⟨vx, rfl, hox, hB3⟩
        obtain ⟨ax, gx, capx, rfl, hax, hEx, hcx⟩ := OwnE.ents hox
        have HB3 := hidR (B3V HB2.out hB3)
        have HX := hidR (fun (W : World) (hb : Below w3.heap.size w3 W) => hEx.below hb)
        clear hB3 HR hox hEx
        go_wp2_with fail
        refine (HsT.out _ HB3.out).mono ?_
        rintro r w4 ⟨rfl, hB4⟩
        have HK4 := hidR hB4
        have HB4 := hidR (B3V HB3.out hB4)
        clear hB4 HsT
        go_wp2_with fail
        refine (HsO.out _ HB4.out).mono ?_
        rintro r w5 ⟨rfl, hB5⟩
        have HK5 := hidR (B3V HK4.out hB5)
        have HB5 := hidR (B3V HB4.out hB5)
        clear hB5
        go_wp2_with fail
        refine (HSm.out _ HB5.out ax gx capx es (by omega) hax (HX.out _ HK5.out)).mono ?_
        rintro r w6 ⟨rfl, hB6⟩
        rw [sameT_self]
        have HB6 := hidR (B3V HB5.out hB6)
        clear hB6
        clear HX HK4 HK5
        go_wp2_with fail
        refine (HsO.out _ HB6.out).mono ?_
        rintro r w7 ⟨rfl, hB7⟩
        have HB7 := hidR (B3V HB6.out hB7)
        clear hB7
        go_wp2_with fail
        refine (DrawTreeRead_any _ b len2 cap2 hl2 (HCo.out _ HB7.out)).mono ?_
        rintro r w8 ⟨tx, rfl, htz, hB8⟩
        have HB8 := hidR (B3V HB7.out hB8)
        clear hB8 HCo
        have HRy := hidR (fun (W : World) (hb : Below w1.heap.size w1 W) => iTreeRead_any tx (by omega) W ae (HEr.out W hb) (HM.out W hb))
        have HRz := hidR (fun (W : World) => sTreeRead_any tx (by omega) W)
        rw [← read_tree] at HRz
        have hsm := prog_small tx
        cases hp : progTree tx with
        | none =>
          rw [hp] at HRy HRz
          clear hp hsm
          go_wp2_with fail
          refine (HRy.out _ HB8.out).mono ?_
          rintro r w9 ⟨vy, rfl, hoy, hB9⟩
          obtain ⟨ay, gy, capy, rfl, hay, hEy, hcy⟩ := OwnE.ents hoy
          have HB9 := hidR (B3V HB8.out hB9)
          have HY := hidR (fun (W : World) (hb : Below w9.heap.size w9 W) => hEy.below hb)
          clear hB9 hoy hEy
          go_wp2_with fail
          refine (HRz.out _).mono ?_
          rintro r w10 ⟨vz, rfl, hoz, hB10⟩
          obtain ⟨az, gz, capz, rfl, haz, hEz, hcz⟩ := OwnE.ents hoz
          have HB10 := hidR (B3V HB9.out hB10)
          have hY := HY.out _ hB10
          clear hoz
          go_wp2_with fail
          refine (iTreeSame_any _ ay gy 0 capy [] az gz 0 capz [] (by simp) (by simp) hay haz hY hEz).mono ?_
          rintro r w11 ⟨rfl, hB11⟩
          rw [sameT_self]
          have HB11 := hidR (B3V HB10.out hB11)
          clear hB11 hY hEz hB10
          go_wp2
          go_ret
          exact ⟨rfl, B3V HB1.out HB11.out⟩
        | some fs =>
          have hpt := (prog_text hp).2
          rw [hp] at HRy HRz hsm
          have hsame := HTx.out _ _ hp
          have hst : ∀ e ∈ fs, e.p.size ≤ 16777216 ∧ e.x.size ≤ 16777216 := fun e he => ⟨by have := (hsm.2 e he).1; omega, by have := (hsm.2 e he).2; omega⟩
          have hfl : fs.length ≤ 16 := hsm.1
          clear hp hsm
          go_wp2_with fail
          refine (HRy.out _ HB8.out).mono ?_
          rintro r w9 ⟨vy, rfl, hoy, hB9⟩
          obtain ⟨ay, gy, capy, rfl, hay, hEy, hcy⟩ := OwnE.ents hoy
          have HB9 := hidR (B3V HB8.out hB9)
          have HY := hidR (fun (W : World) (hb : Below w9.heap.size w9 W) => hEy.below hb)
          clear hB9 hoy hEy
          go_wp2_with fail
          refine (HRz.out _).mono ?_
          rintro r w10 ⟨vz, rfl, hoz, hB10⟩
          obtain ⟨az, gz, capz, rfl, haz, hEz, hcz⟩ := OwnE.ents hoz
          have HK10 := hidR hB10
          have HB10 := hidR (B3V HB9.out hB10)
          have hY := HY.out _ hB10
          clear hoz hB10
          go_wp2_with fail
          refine (iTreeSame_any _ ay gy 0 capy fs az gz 0 capz fs (by show fs.length ≤ _; omega) (by show fs.length ≤ _; omega) hay haz hY hEz).mono ?_
          rintro r w11 ⟨rfl, hB11⟩
          rw [sameT_self]
          have HK11 := hidR (B3V HK10.out hB11)
          have HB11 := hidR (B3V HB10.out hB11)
          clear hB11 hY hEz HK10
          go_wp2_with fail
          refine (iText_any _ ay gy 0 capy fs ae (HEr.out _ HB11.out) (HM.out _ HB11.out).words (by show fs.length ≤ _; omega) hst hay (HY.out _ HK11.out)).mono ?_
          rintro r w12 ⟨rfl, hB12⟩
          rw [hpt]
          have HK12 := hidR (B3V HK11.out hB12)
          have HB12 := hidR (B3V HB11.out hB12)
          clear hB12 HK11
          go_wp2_with fail
          refine (HsO.out _ HB12.out).mono ?_
          rintro r w13 ⟨rfl, hB13⟩
          have HK13 := hidR (B3V HK12.out hB13)
          have HB13 := hidR (B3V HB12.out hB13)
          clear hB13 HK12
          go_wp2_with fail
          refine (HSm.out _ HB13.out ay gy capy fs (by omega) hay (HY.out _ HK13.out)).mono ?_
          rintro r w14 ⟨rfl, hB14⟩
          rw [hsame]
          have HB14 := hidR (B3V HB13.out hB14)
          clear hB14 HK13
          obtain ⟨bb, hbb⟩ : ∃ bb, (tx.toList == S.toList) = bb := ⟨_, rfl⟩
          rw [hbb]
          go_wp2
          go_ret
          exact ⟨by simp, B3V HB1.out HB14.out⟩
      | false =>
        have hbk : progTree ⟨#[]⟩ = some [] := tree_back (es := []) rfl
        obtain ⟨S, hS⟩ : ∃ S : ByteArray, S = ⟨#[]⟩ := ⟨_, rfl⟩
        rw [tree_no ht] at HT HsT
        rw [← hS] at HT HsT hbk
        have hsz : S.size ≤ 648 := by rw [hS]; exact Nat.zero_le _
        have hSn : S.toList = [] := by rw [hS, Lib.toList_data]
        rw [ht] at HsO
        have HR := hidR (fun (W : World) (hb : Below w1.heap.size w1 W) => iTreeRead_any S (by omega) W ae (HEr.out W hb) (HM.out W hb))
        rw [hbk] at HR
        clear hbk ht hS
        go_wp2_with fail
        refine (HT.out _ (Below.refl _ _)).mono ?_
        rintro r w2 ⟨rfl, hB2⟩
        have HB2 := hidR hB2
        clear hB2 HT
        go_wp2_with fail
        refine (HR.out _ HB2.out).mono ?_
        rintro r w3 ⟨vx, rfl, hox, hB3⟩
        obtain ⟨ax, gx, capx, rfl, hax, hEx, hcx⟩ := OwnE.ents hox
        have HB3 := hidR (B3V HB2.out hB3)
        have HX := hidR (fun (W : World) (hb : Below w3.heap.size w3 W) => hEx.below hb)
        clear hB3 HR hox hEx
        go_wp2_with fail
        refine (HsT.out _ HB3.out).mono ?_
        rintro r w4 ⟨rfl, hB4⟩
        have HK4 := hidR hB4
        have HB4 := hidR (B3V HB3.out hB4)
        clear hB4 HsT
        go_wp2_with fail
        refine (HsO.out _ HB4.out).mono ?_
        rintro r w5 ⟨rfl, hB5⟩
        have HK5 := hidR (B3V HK4.out hB5)
        have HB5 := hidR (B3V HB4.out hB5)
        clear hB5
        clear HX HK4 HK5
        go_wp2_with fail
        refine (HsO.out _ HB5.out).mono ?_
        rintro r w7 ⟨rfl, hB7⟩
        have HB7 := hidR (B3V HB5.out hB7)
        clear hB7
        go_wp2_with fail
        refine (DrawTreeRead_any _ b len2 cap2 hl2 (HCo.out _ HB7.out)).mono ?_
        rintro r w8 ⟨tx, rfl, htz, hB8⟩
        have HB8 := hidR (B3V HB7.out hB8)
        clear hB8 HCo
        have HRy := hidR (fun (W : World) (hb : Below w1.heap.size w1 W) => iTreeRead_any tx (by omega) W ae (HEr.out W hb) (HM.out W hb))
        have HRz := hidR (fun (W : World) => sTreeRead_any tx (by omega) W)
        rw [← read_tree] at HRz
        have hsm := prog_small tx
        cases hp : progTree tx with
        | none =>
          rw [hp] at HRy HRz
          clear hp hsm
          go_wp2_with fail
          refine (HRy.out _ HB8.out).mono ?_
          rintro r w9 ⟨vy, rfl, hoy, hB9⟩
          obtain ⟨ay, gy, capy, rfl, hay, hEy, hcy⟩ := OwnE.ents hoy
          have HB9 := hidR (B3V HB8.out hB9)
          have HY := hidR (fun (W : World) (hb : Below w9.heap.size w9 W) => hEy.below hb)
          clear hB9 hoy hEy
          go_wp2_with fail
          refine (HRz.out _).mono ?_
          rintro r w10 ⟨vz, rfl, hoz, hB10⟩
          obtain ⟨az, gz, capz, rfl, haz, hEz, hcz⟩ := OwnE.ents hoz
          have HB10 := hidR (B3V HB9.out hB10)
          have hY := HY.out _ hB10
          clear hoz
          go_wp2_with fail
          refine (iTreeSame_any _ ay gy 0 capy [] az gz 0 capz [] (by simp) (by simp) hay haz hY hEz).mono ?_
          rintro r w11 ⟨rfl, hB11⟩
          rw [sameT_self]
          have HB11 := hidR (B3V HB10.out hB11)
          clear hB11 hY hEz hB10
          go_wp2
          go_ret
          exact ⟨rfl, B3V HB1.out HB11.out⟩
        | some fs =>
          have hpt := (prog_text hp).2
          rw [hp] at HRy HRz hsm
          have hst : ∀ e ∈ fs, e.p.size ≤ 16777216 ∧ e.x.size ≤ 16777216 := fun e he => ⟨by have := (hsm.2 e he).1; omega, by have := (hsm.2 e he).2; omega⟩
          have hfl : fs.length ≤ 16 := hsm.1
          clear hp hsm
          go_wp2_with fail
          refine (HRy.out _ HB8.out).mono ?_
          rintro r w9 ⟨vy, rfl, hoy, hB9⟩
          obtain ⟨ay, gy, capy, rfl, hay, hEy, hcy⟩ := OwnE.ents hoy
          have HB9 := hidR (B3V HB8.out hB9)
          have HY := hidR (fun (W : World) (hb : Below w9.heap.size w9 W) => hEy.below hb)
          clear hB9 hoy hEy
          go_wp2_with fail
          refine (HRz.out _).mono ?_
          rintro r w10 ⟨vz, rfl, hoz, hB10⟩
          obtain ⟨az, gz, capz, rfl, haz, hEz, hcz⟩ := OwnE.ents hoz
          have HK10 := hidR hB10
          have HB10 := hidR (B3V HB9.out hB10)
          have hY := HY.out _ hB10
          clear hoz hB10
          go_wp2_with fail
          refine (iTreeSame_any _ ay gy 0 capy fs az gz 0 capz fs (by show fs.length ≤ _; omega) (by show fs.length ≤ _; omega) hay haz hY hEz).mono ?_
          rintro r w11 ⟨rfl, hB11⟩
          rw [sameT_self]
          have HK11 := hidR (B3V HK10.out hB11)
          have HB11 := hidR (B3V HB10.out hB11)
          clear hB11 hY hEz HK10
          go_wp2_with fail
          refine (iText_any _ ay gy 0 capy fs ae (HEr.out _ HB11.out) (HM.out _ HB11.out).words (by show fs.length ≤ _; omega) hst hay (HY.out _ HK11.out)).mono ?_
          rintro r w12 ⟨rfl, hB12⟩
          rw [hpt]
          have HK12 := hidR (B3V HK11.out hB12)
          have HB12 := hidR (B3V HB11.out hB12)
          clear hB12 HK11
          go_wp2_with fail
          refine (HsO.out _ HB12.out).mono ?_
          rintro r w13 ⟨rfl, hB13⟩
          have HK13 := hidR (B3V HK12.out hB13)
          have HB13 := hidR (B3V HB12.out hB13)
          clear hB13 HK12
          go_wp2
          go_ret
          exact ⟨rfl, B3V HB1.out HB13.out⟩
    · go_enter Tryd.func3, Tryd.ntmps3
      go_wp2
      go_ret
      exact ⟨rfl, Below.refl _ _⟩
  · go_enter Tryd.func3, Tryd.ntmps3
    go_wp2
    go_ret
    exact ⟨rfl, Below.refl _ _⟩
end Go.Proofs.YtgkfhcpegdlejaaDoor
