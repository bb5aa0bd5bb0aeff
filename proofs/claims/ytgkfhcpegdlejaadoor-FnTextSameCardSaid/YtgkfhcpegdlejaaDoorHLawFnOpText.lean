/-
  The walk of the law FnOpText, out of the contracts.
-/
import Derived.Test.YtgkfhcpegdlejaaDoorHPk28
import Derived.Test.YtgkfhcpegdlejaaDoorHPk25
import Derived.Test.YtgkfhcpegdlejaaDoorHTxOp
import Derived.Test.YtgkfhcpegdlejaaDoorHPk27
import Derived.Test.YtgkfhcpegdlejaaDoorHRdOpR
import Derived.Test.YtgkfhcpegdlejaaDoorHRdOpS
import Derived.Test.YtgkfhcpegdlejaaDoorHEqOp
namespace Go.Proofs.YtgkfhcpegdlejaaDoor
open Go.RowKit Go.Lib
attribute [local go_sem] eq_op guard_op

theorem B3W {a b c : World} (h : Below a.heap.size a b) (k : Below b.heap.size b c) : Below a.heap.size a c := h.trans (k.mono h.size)
theorem OpTab.words {w : World} (h : OpTab w) : OpWords w := ⟨h.c1, h.c2, h.c3, h.c4, h.c5⟩
theorem opT_ne {o : O} (h : opB o = true) : (opT o).size ≠ 0 := by
  unfold opT
  rw [if_pos h]
  show (opW o.k ++ ⟨#[32]⟩ ++ o.p ++ restT [o.t, o.x]).size ≠ 0
  rw [ByteArray.size_append, ByteArray.size_append, ByteArray.size_append, show (⟨#[32]⟩ : ByteArray).size = 1 from rfl]
  omega
theorem prog_empty : progOp ⟨#[]⟩ = none := by
  cases h : progOp ⟨#[]⟩ with
  | none => rfl
  | some o =>
    obtain ⟨h1, h2⟩ := (prog_op _ _).1 h
    exact absurd (by rw [h2]; rfl) (opT_ne h1)
theorem op_sizes {s : ByteArray} {o : O} (h : progOp s = some o) (hs : s.size ≤ 16777216) : o.p.size ≤ 16777216 ∧ o.t.size ≤ 16777216 ∧ o.x.size ≤ 16777216 := by
  unfold progOp at h
  cases hsc : scanL 1 (LB s ++ [10]) [] [] [] with
  | none => rw [hsc] at h; cases h
  | some R =>
    obtain ⟨ws, rfl, hj⟩ := scan_one s R hsc
    have hn : ∀ i, (nthL ws i).size ≤ 16777216 := fun i => by have h1 := nth_le (ws := ws) i; rw [← hj, lb_len] at h1; omega
    rw [hsc] at h
    dsimp only at h
    split at h
    · rw [← Option.some.inj h]
      unfold mkOp
      split
      · exact ⟨hn 1, hn 2, Nat.zero_le _⟩
      · exact ⟨hn 1, Nat.zero_le _, hn 2⟩
    · cases h
theorem DrawOpText_any (w : World) (a : Option Addr) (len cap : Nat) (hl : len ≤ 1048576) (h : Cod w a len cap) :
    Calls Tryd.prog 24 #[.slice a len cap] w fun e w' => ∃ (k : Int) (p t x : ByteArray), e = .returned (.agg #[.int .i64 k, .string p, .string t, .string x]) ∧ p.size ≤ 16 ∧ t.size ≤ 16 ∧ x.size ≤ 16 ∧ Below w.heap.size w w' := by
  have hB0 : Below w.heap.size w (w.alloc (.cells #[.int .i64 0, .string ⟨#[]⟩, .string ⟨#[]⟩, .string ⟨#[]⟩] 40)) := (Below.refl _ w).alloc (Nat.le_refl _) _
  have HC := hidR (DrawOpOk_any (w.alloc (.cells #[.int .i64 0, .string ⟨#[]⟩, .string ⟨#[]⟩, .string ⟨#[]⟩] 40)) a len cap hl (h.below hB0))
  have HR0 := hidR (heap_alloc_new w (.cells #[.int .i64 0, .string ⟨#[]⟩, .string ⟨#[]⟩, .string ⟨#[]⟩] 40))
  have HB0 := hidR hB0
  clear h hB0
  go_enter Tryd.func24, Tryd.ntmps24
  go_wp2_with (first | (go_at_call 63; refine HC.out.mono ?_; rintro e w1 ⟨k, p, t, x, rfl, h1, h2, h3, hB1⟩; have hz1 := (hB1.block w.heap.size (by simp)).trans HR0.out; obtain ⟨⟨r0, r0'⟩, r1, r2, r3⟩ := set4_rules hz1; have r1a := fun u => (r1 u).1; have r1b := fun u => (r1 u).2; have r2a := fun u x => (r2 u x).1; have r2b := fun u x => (r2 u x).2; have r3a := fun u x y => (r3 u x y).1; have r3b := fun u x y => (r3 u x y).2; clear r1 r2 r3) | fail)
  have hB1' := HB0.out.trans (hB1.mono (by simp))
  have s4 := set4_is hz1 (.int .i64 k) (.string p) (.string t) (.string x)
  have hBs := s4.1.below hB1' (Nat.le_refl _)
  have z0 := cell_of_row _ w.heap.size 0 _ _ _ s4.2
  have z1 := cell_of_row _ w.heap.size 1 _ _ _ s4.2
  have z2 := cell_of_row _ w.heap.size 2 _ _ _ s4.2
  have z3 := cell_of_row _ w.heap.size 3 _ _ _ s4.2
  exact bodyPost_ret (v := .agg #[.int .i64 k, .string p, .string t, .string x]) (by simp [results, Tryd.results24, go_sem, z0, z1, z2, z3]) rfl ⟨k, p, t, x, rfl, h1, h2, h3, hBs⟩
/-- A box of what is done, read from behind. -/
theorem boxO {w w' : World} {o : O} (h : Below (w.alloc (.cells #[.int .i64 o.k, .string o.p, .string o.t, .string o.x] 40)).heap.size (w.alloc (.cells #[.int .i64 o.k, .string o.p, .string o.t, .string o.x] 40)) w') :
    w'.cell? ⟨w.heap.size, 0, none⟩ = some (.int .i64 o.k) ∧ w'.cell? ⟨w.heap.size, 1, none⟩ = some (.string o.p) ∧ w'.cell? ⟨w.heap.size, 2, none⟩ = some (.string o.t) ∧ w'.cell? ⟨w.heap.size, 3, none⟩ = some (.string o.x) := box4t h

set_option maxHeartbeats 3200000 in
set_option maxRecDepth 100000 in
theorem walk_fnOpText (a : Option Addr) (len cap : Nat) (zs : List Int) (b : Option Addr) (len2 cap2 : Nat) (ys : List Int) (w : World) (hWo : OpTab w) (hw : IsRow .u8 w a len cap zs) (hw2 : IsRow .u8 w b len2 cap2 ys) :
    Calls Tryd.prog 5 #[.slice a len cap, .slice b len2 cap2] w fun r w' => r = .returned (.bool true) ∧ Below w.heap.size w w' := by
  have HC := hidR hw.cod
  have HC2 := hidR hw2.cod
  have HW := hidR hWo
  clear hw hw2 hWo
  by_cases hl : len ≤ 1048576
  · by_cases hl2 : len2 ≤ 1048576
    · go_enter Tryd.func5, Tryd.ntmps5
      go_wp2_with fail
      refine (DrawOpText_any _ a len cap hl HC.out).mono ?_
      rintro r w1 ⟨k, p, t, x, rfl, hp, ht, hx, hB1⟩
      have HBa := hidR (hB1.alloc hB1.size (.cells #[.int .i64 k, .string p, .string t, .string x] 40))
      have HM := hidR (fun (W : World) (hb : Below w.heap.size w W) => HW.out.below hb)
      have HCo := hidR (fun (W : World) (hb : Below w.heap.size w W) => HC2.out.below hb)
      have HOp := hidR (fun (W : World) (hb : Below (w1.alloc (.cells #[.int .i64 k, .string p, .string t, .string x] 40)).heap.size (w1.alloc (.cells #[.int .i64 k, .string p, .string t, .string x] 40)) W) => boxO (o := ⟨k, p, t, x⟩) hb)
      have hsz := op_le16 (k := k) hp ht hx
      have HT := hidR (fun (W : World) (hb : Below w.heap.size w W) => iOpText_any k p t x W (HM.out W hb).words (by omega) (by omega) (by omega))
      have HsT := hidR (fun (W : World) => sOpText_any k p t x W (by omega) (by omega) (by omega))
      have HO := hidR (fun (W : World) => iOpOk_any W k p t x (by omega) (by omega))
      rw [fit_op] at HO
      clear hB1 HC HC2 HW
      cases ho : opB ⟨k, p, t, x⟩ with
      | true =>
        have hbk : progOp (opT ⟨k, p, t, x⟩) = some ⟨k, p, t, x⟩ := (prog_op _ _).2 ⟨ho, rfl⟩
        have hne := opT_ne ho
        obtain ⟨S, hS⟩ : ∃ S, opT ⟨k, p, t, x⟩ = S := ⟨_, rfl⟩
        rw [hS] at HT HsT hsz hbk hne
        have hSn : (S.toList == []) = false := by
          rw [Lib.toList_data]; simp; intro q; apply hne; show S.data.size = 0; rw [q]; rfl
        have hSn' : ¬ S.toList = [] := by simpa using hSn
        have hkk : (k == k) = true := by simp
        have HR := hidR (fun (W : World) (hb : Below w.heap.size w W) => iOpRead_any S (by omega) W (HM.out W hb))
        rw [hbk] at HR
        change Hid (∀ (W : World) (hb : Below w.heap.size w W), Calls _ _ _ W fun r w' => r = .returned (.tuple #[.agg #[.int .i64 k, .string p, .string t, .string x], .bool true]) ∧ Below W.heap.size W w') at HR
        rw [ho] at HO
        clear hbk ho hS
        obtain ⟨q0, q1, q2, q3⟩ := HOp.out _ (Below.refl _ _)
        go_wp2_with fail
        refine (HT.out _ HBa.out).mono ?_
        rintro r w2 ⟨rfl, hB2⟩
        have HK2 := hidR hB2
        have HB2 := hidR (B3W HBa.out hB2)
        clear hB2 HT q0 q1 q2 q3
        go_wp2_with fail
        refine (HR.out _ HB2.out).mono ?_
        rintro r w3 ⟨rfl, hB3⟩
        have HK3 := hidR ((B3W HK2.out hB3).alloc (by have := (B3W HK2.out hB3).size; omega) (.cells #[.int .i64 k, .string p, .string t, .string x] 40))
        have HB3 := hidR ((B3W HB2.out hB3).alloc (by have := (B3W HB2.out hB3).size; omega) (.cells #[.int .i64 k, .string p, .string t, .string x] 40))
        have HX := hidR (fun (W : World) (hb : Below (w3.alloc (.cells #[.int .i64 k, .string p, .string t, .string x] 40)).heap.size (w3.alloc (.cells #[.int .i64 k, .string p, .string t, .string x] 40)) W) => boxO (o := ⟨k, p, t, x⟩) hb)
        clear hB3 HR HK2
        obtain ⟨q0, q1, q2, q3⟩ := HOp.out _ HK3.out
        go_wp2_with fail
        refine (HsT.out _).mono ?_
        rintro r w4 ⟨rfl, hB4⟩
        have HK4 := hidR (B3W HK3.out hB4)
        have HJ4 := hidR hB4
        have HB4 := hidR (B3W HB3.out hB4)
        clear hB4 HsT q0 q1 q2 q3 HK3
        obtain ⟨q0, q1, q2, q3⟩ := HOp.out _ HK4.out
        go_wp2_with fail
        refine (HO.out _).mono ?_
        rintro r w5 ⟨rfl, hB5⟩
        have HK5 := hidR (B3W HK4.out hB5)
        have HJ5 := hidR (B3W HJ4.out hB5)
        have HB5 := hidR (B3W HB4.out hB5)
        clear hB5 q0 q1 q2 q3 HK4 HJ4
        obtain ⟨q0, q1, q2, q3⟩ := HOp.out _ HK5.out
        go_wp2_with fail
        refine (HO.out _).mono ?_
        rintro r w6 ⟨rfl, hB6⟩
        have HK6 := hidR (B3W HK5.out hB6)
        have HJ6 := hidR (B3W HJ5.out hB6)
        have HB6 := hidR (B3W HB5.out hB6)
        clear hB6 q0 q1 q2 q3 HK5 HJ5
        obtain ⟨q0, q1, q2, q3⟩ := HOp.out _ HK6.out
        obtain ⟨y0, y1, y2, y3⟩ := HX.out _ HJ6.out
        go_wp2_with fail
        refine (DrawOpRead_any _ b len2 cap2 hl2 (HCo.out _ HB6.out)).mono ?_
        rintro r w7 ⟨tx, rfl, htz, hB7⟩
        have HB7 := hidR (B3W HB6.out hB7)
        clear hB7 HCo q0 q1 q2 q3 y0 y1 y2 y3 HOp HX HK6 HJ6
        have HRy := hidR (fun (W : World) (hb : Below w.heap.size w W) => iOpRead_any tx (by omega) W (HM.out W hb))
        have HRz := hidR (fun (W : World) => sOpRead_any tx (by omega) W)
        rw [← read_op] at HRz
        cases hpp : progOp tx with
        | none =>
          rw [hpp] at HRy HRz
          change Hid (∀ (W : World) (hb : Below w.heap.size w W), Calls _ _ _ W fun r w' => r = .returned (.tuple #[.agg #[.int .i64 0, .string ⟨#[]⟩, .string ⟨#[]⟩, .string ⟨#[]⟩], .bool false]) ∧ Below W.heap.size W w') at HRy
          change Hid (∀ (W : World), Calls _ _ _ W fun r w' => r = .returned (.tuple #[.agg #[.int .i64 0, .string ⟨#[]⟩, .string ⟨#[]⟩, .string ⟨#[]⟩], .bool false]) ∧ Below W.heap.size W w') at HRz
          clear hpp
          go_wp2_with fail
          refine (HRy.out _ HB7.out).mono ?_
          rintro r w8 ⟨rfl, hB8⟩
          have HB8 := hidR ((B3W HB7.out hB8).alloc (by have := (B3W HB7.out hB8).size; omega) (.cells #[.int .i64 0, .string ⟨#[]⟩, .string ⟨#[]⟩, .string ⟨#[]⟩] 40))
          clear hB8
          go_wp2_with fail
          refine (HRz.out _).mono ?_
          rintro r w9 ⟨rfl, hB9⟩
          have HB9 := hidR ((B3W HB8.out hB9).alloc (by have := (B3W HB8.out hB9).size; omega) (.cells #[.int .i64 0, .string ⟨#[]⟩, .string ⟨#[]⟩, .string ⟨#[]⟩] 40))
          obtain ⟨y0, y1, y2, y3⟩ := box4t (hB9.alloc hB9.size (.cells #[.int .i64 0, .string ⟨#[]⟩, .string ⟨#[]⟩, .string ⟨#[]⟩] 40))
          clear hB9
          go_wp2
          go_ret
          exact ⟨rfl, HB9.out⟩
        | some o =>
          obtain ⟨hok, htt⟩ := (prog_op _ _).1 hpp
          obtain ⟨z1, z2, z3⟩ := op_sizes hpp (by omega)
          rw [hpp] at HRy HRz
          clear hpp
          obtain ⟨k', p', t', x'⟩ := o
          change Hid (∀ (W : World) (hb : Below w.heap.size w W), Calls _ _ _ W fun r w' => r = .returned (.tuple #[.agg #[.int .i64 k', .string p', .string t', .string x'], .bool true]) ∧ Below W.heap.size W w') at HRy
          change Hid (∀ (W : World), Calls _ _ _ W fun r w' => r = .returned (.tuple #[.agg #[.int .i64 k', .string p', .string t', .string x'], .bool true]) ∧ Below W.heap.size W w') at HRz
          have hk2 : (k' == k') = true := by simp
          have z1' : p'.size ≤ 16777216 := z1
          have z2' : t'.size ≤ 16777216 := z2
          have z3' : x'.size ≤ 16777216 := z3
          have HTy := hidR (fun (W : World) (hb : Below w.heap.size w W) => iOpText_any k' p' t' x' W (HM.out W hb).words z1' z2' z3')
          have HOy := hidR (fun (W : World) => iOpOk_any W k' p' t' x' z1' z2')
          rw [fit_op, hok] at HOy
          rw [htt] at HTy
          clear hok htt z1 z2 z3
          go_wp2_with fail
          refine (HRy.out _ HB7.out).mono ?_
          rintro r w8 ⟨rfl, hB8⟩
          have HB8 := hidR ((B3W HB7.out hB8).alloc (by have := (B3W HB7.out hB8).size; omega) (.cells #[.int .i64 k', .string p', .string t', .string x'] 40))
          clear hB8
          go_wp2_with fail
          refine (HRz.out _).mono ?_
          rintro r w9 ⟨rfl, hB9⟩
          have HB9 := hidR ((B3W HB8.out hB9).alloc (by have := (B3W HB8.out hB9).size; omega) (.cells #[.int .i64 k', .string p', .string t', .string x'] 40))
          have HK9 := hidR (hB9.alloc hB9.size (.cells #[.int .i64 k', .string p', .string t', .string x'] 40))
          obtain ⟨y0, y1, y2, y3⟩ := box4t HK9.out
          clear hB9
          go_wp2_with fail
          refine (HTy.out _ HB9.out).mono ?_
          rintro r w10 ⟨rfl, hB10⟩
          have HB10 := hidR (B3W HB9.out hB10)
          have HK10 := hidR (B3W HK9.out hB10)
          clear hB10 y0 y1 y2 y3 HK9
          obtain ⟨y0, y1, y2, y3⟩ := box4t HK10.out
          go_wp2_with fail
          refine (HOy.out _).mono ?_
          rintro r w11 ⟨rfl, hB11⟩
          have HB11 := hidR (B3W HB10.out hB11)
          clear hB11 y0 y1 y2 y3
          go_wp2
          go_ret
          exact ⟨rfl, HB11.out⟩
      | false =>
        have hbk := prog_empty
        obtain ⟨S, hS⟩ : ∃ S : ByteArray, S = ⟨#[]⟩ := ⟨_, rfl⟩
        rw [opT_no ho] at HT HsT
        rw [← hS] at HT HsT hbk
        have hsz : S.size ≤ 100 := by rw [hS]; exact Nat.zero_le _
        have hSn : S.toList = [] := by rw [hS, Lib.toList_data]
        have hSb : (S.toList == []) = true := by rw [hSn]; rfl
        have HR := hidR (fun (W : World) (hb : Below w.heap.size w W) => iOpRead_any S (by omega) W (HM.out W hb))
        rw [hbk] at HR
        change Hid (∀ (W : World) (hb : Below w.heap.size w W), Calls _ _ _ W fun r w' => r = .returned (.tuple #[.agg #[.int .i64 0, .string ⟨#[]⟩, .string ⟨#[]⟩, .string ⟨#[]⟩], .bool false]) ∧ Below W.heap.size W w') at HR
        rw [ho] at HO
        clear hbk ho hS
        obtain ⟨q0, q1, q2, q3⟩ := HOp.out _ (Below.refl _ _)
        go_wp2_with fail
        refine (HT.out _ HBa.out).mono ?_
        rintro r w2 ⟨rfl, hB2⟩
        have HK2 := hidR hB2
        have HB2 := hidR (B3W HBa.out hB2)
        clear hB2 HT q0 q1 q2 q3
        go_wp2_with fail
        refine (HR.out _ HB2.out).mono ?_
        rintro r w3 ⟨rfl, hB3⟩
        have HK3 := hidR ((B3W HK2.out hB3).alloc (by have := (B3W HK2.out hB3).size; omega) (.cells #[.int .i64 0, .string ⟨#[]⟩, .string ⟨#[]⟩, .string ⟨#[]⟩] 40))
        have HB3 := hidR ((B3W HB2.out hB3).alloc (by have := (B3W HB2.out hB3).size; omega) (.cells #[.int .i64 0, .string ⟨#[]⟩, .string ⟨#[]⟩, .string ⟨#[]⟩] 40))
        have HX := hidR (fun (W : World) (hb : Below (w3.alloc (.cells #[.int .i64 0, .string ⟨#[]⟩, .string ⟨#[]⟩, .string ⟨#[]⟩] 40)).heap.size (w3.alloc (.cells #[.int .i64 0, .string ⟨#[]⟩, .string ⟨#[]⟩, .string ⟨#[]⟩] 40)) W) => boxO (o := ⟨0, ⟨#[]⟩, ⟨#[]⟩, ⟨#[]⟩⟩) hb)
        clear hB3 HR HK2
        obtain ⟨q0, q1, q2, q3⟩ := HOp.out _ HK3.out
        go_wp2_with fail
        refine (HsT.out _).mono ?_
        rintro r w4 ⟨rfl, hB4⟩
        have HK4 := hidR (B3W HK3.out hB4)
        have HJ4 := hidR hB4
        have HB4 := hidR (B3W HB3.out hB4)
        clear hB4 HsT q0 q1 q2 q3 HK3
        obtain ⟨q0, q1, q2, q3⟩ := HOp.out _ HK4.out
        go_wp2_with fail
        refine (HO.out _).mono ?_
        rintro r w5 ⟨rfl, hB5⟩
        have HK5 := hidR (B3W HK4.out hB5)
        have HJ5 := hidR (B3W HJ4.out hB5)
        have HB5 := hidR (B3W HB4.out hB5)
        clear hB5 q0 q1 q2 q3 HK4 HJ4
        obtain ⟨q0, q1, q2, q3⟩ := HOp.out _ HK5.out
        go_wp2_with fail
        refine (HO.out _).mono ?_
        rintro r w6 ⟨rfl, hB6⟩
        have HK6 := hidR (B3W HK5.out hB6)
        have HJ6 := hidR (B3W HJ5.out hB6)
        have HB6 := hidR (B3W HB5.out hB6)
        clear hB6 q0 q1 q2 q3 HK5 HJ5
        obtain ⟨q0, q1, q2, q3⟩ := HOp.out _ HK6.out
        obtain ⟨y0, y1, y2, y3⟩ := HX.out _ HJ6.out
        go_wp2_with fail
        refine (DrawOpRead_any _ b len2 cap2 hl2 (HCo.out _ HB6.out)).mono ?_
        rintro r w7 ⟨tx, rfl, htz, hB7⟩
        have HB7 := hidR (B3W HB6.out hB7)
        clear hB7 HCo q0 q1 q2 q3 y0 y1 y2 y3 HOp HX HK6 HJ6
        have HRy := hidR (fun (W : World) (hb : Below w.heap.size w W) => iOpRead_any tx (by omega) W (HM.out W hb))
        have HRz := hidR (fun (W : World) => sOpRead_any tx (by omega) W)
        rw [← read_op] at HRz
        cases hpp : progOp tx with
        | none =>
          rw [hpp] at HRy HRz
          change Hid (∀ (W : World) (hb : Below w.heap.size w W), Calls _ _ _ W fun r w' => r = .returned (.tuple #[.agg #[.int .i64 0, .string ⟨#[]⟩, .string ⟨#[]⟩, .string ⟨#[]⟩], .bool false]) ∧ Below W.heap.size W w') at HRy
          change Hid (∀ (W : World), Calls _ _ _ W fun r w' => r = .returned (.tuple #[.agg #[.int .i64 0, .string ⟨#[]⟩, .string ⟨#[]⟩, .string ⟨#[]⟩], .bool false]) ∧ Below W.heap.size W w') at HRz
          clear hpp
          go_wp2_with fail
          refine (HRy.out _ HB7.out).mono ?_
          rintro r w8 ⟨rfl, hB8⟩
          have HB8 := hidR ((B3W HB7.out hB8).alloc (by have := (B3W HB7.out hB8).size; omega) (.cells #[.int .i64 0, .string ⟨#[]⟩, .string ⟨#[]⟩, .string ⟨#[]⟩] 40))
          clear hB8
          go_wp2_with fail
          refine (HRz.out _).mono ?_
          rintro r w9 ⟨rfl, hB9⟩
          have HB9 := hidR ((B3W HB8.out hB9).alloc (by have := (B3W HB8.out hB9).size; omega) (.cells #[.int .i64 0, .string ⟨#[]⟩, .string ⟨#[]⟩, .string ⟨#[]⟩] 40))
          obtain ⟨y0, y1, y2, y3⟩ := box4t (hB9.alloc hB9.size (.cells #[.int .i64 0, .string ⟨#[]⟩, .string ⟨#[]⟩, .string ⟨#[]⟩] 40))
          clear hB9
          go_wp2
          go_ret
          exact ⟨rfl, HB9.out⟩
        | some o =>
          obtain ⟨hok, htt⟩ := (prog_op _ _).1 hpp
          obtain ⟨z1, z2, z3⟩ := op_sizes hpp (by omega)
          rw [hpp] at HRy HRz
          clear hpp
          obtain ⟨k', p', t', x'⟩ := o
          change Hid (∀ (W : World) (hb : Below w.heap.size w W), Calls _ _ _ W fun r w' => r = .returned (.tuple #[.agg #[.int .i64 k', .string p', .string t', .string x'], .bool true]) ∧ Below W.heap.size W w') at HRy
          change Hid (∀ (W : World), Calls _ _ _ W fun r w' => r = .returned (.tuple #[.agg #[.int .i64 k', .string p', .string t', .string x'], .bool true]) ∧ Below W.heap.size W w') at HRz
          have hk2 : (k' == k') = true := by simp
          have z1' : p'.size ≤ 16777216 := z1
          have z2' : t'.size ≤ 16777216 := z2
          have z3' : x'.size ≤ 16777216 := z3
          have HTy := hidR (fun (W : World) (hb : Below w.heap.size w W) => iOpText_any k' p' t' x' W (HM.out W hb).words z1' z2' z3')
          have HOy := hidR (fun (W : World) => iOpOk_any W k' p' t' x' z1' z2')
          rw [fit_op, hok] at HOy
          rw [htt] at HTy
          clear hok htt z1 z2 z3
          go_wp2_with fail
          refine (HRy.out _ HB7.out).mono ?_
          rintro r w8 ⟨rfl, hB8⟩
          have HB8 := hidR ((B3W HB7.out hB8).alloc (by have := (B3W HB7.out hB8).size; omega) (.cells #[.int .i64 k', .string p', .string t', .string x'] 40))
          clear hB8
          go_wp2_with fail
          refine (HRz.out _).mono ?_
          rintro r w9 ⟨rfl, hB9⟩
          have HB9 := hidR ((B3W HB8.out hB9).alloc (by have := (B3W HB8.out hB9).size; omega) (.cells #[.int .i64 k', .string p', .string t', .string x'] 40))
          have HK9 := hidR (hB9.alloc hB9.size (.cells #[.int .i64 k', .string p', .string t', .string x'] 40))
          obtain ⟨y0, y1, y2, y3⟩ := box4t HK9.out
          clear hB9
          go_wp2_with fail
          refine (HTy.out _ HB9.out).mono ?_
          rintro r w10 ⟨rfl, hB10⟩
          have HB10 := hidR (B3W HB9.out hB10)
          have HK10 := hidR (B3W HK9.out hB10)
          clear hB10 y0 y1 y2 y3 HK9
          obtain ⟨y0, y1, y2, y3⟩ := box4t HK10.out
          go_wp2_with fail
          refine (HOy.out _).mono ?_
          rintro r w11 ⟨rfl, hB11⟩
          have HB11 := hidR (B3W HB10.out hB11)
          clear hB11 y0 y1 y2 y3
          go_wp2
          go_ret
          exact ⟨rfl, HB11.out⟩
    · go_enter Tryd.func5, Tryd.ntmps5
      go_wp2
      go_ret
      exact ⟨rfl, Below.refl _ _⟩
  · go_enter Tryd.func5, Tryd.ntmps5
    go_wp2
    go_ret
    exact ⟨rfl, Below.refl _ _⟩
end Go.Proofs.YtgkfhcpegdlejaaDoor
