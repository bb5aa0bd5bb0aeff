/-
  The walk of how the model says that moving ends.
-/
import Derived.Test.YtlobdnnhpaklgaaGreatDoorHOffCode
import Derived.Test.YtlobdnnhpaklgaaGreatDoorHSpecMove
namespace Go.Proofs.YtlobdnnhpaklgaaGreatDoor
open Go.RowKit Go.Lib Go.Sort

theorem cMov (W0 : World) (s f t : ByteArray) (hs : s.size ≤ 16777216) (hf : f.size ≤ 16777216) (ht : t.size ≤ 16777216) (b : Bool) (h : movOk s f t = b) : ∀ d os, Calls Tryz.prog 115 #[.string s, .string f, .string t] (grow (redrawn W0 d) os) fun r w'' => r = .returned (.tuple #[.string (movS s f t), .bool b]) ∧ ∃ p : Regrown, w'' = grow (redrawn W0 p.d) p.os :=
  fun _ _ => Calls.regrown_of (by rw [← h]; exact sPathMove_any s f t hs hf ht _)

set_option maxHeartbeats 2000000 in
set_option maxRecDepth 100000 in
theorem l2MoveCode_any (w : World) (a : Option Addr) (g o cap : Nat) (es : List E) (k : Int) (p t x : ByteArray) (hl : es.length ≤ 1048576) (hp : p.size ≤ 16777216) (ht : t.size ≤ 16777216) (hz : ∀ e ∈ es, e.p.size ≤ 16777216 ∧ e.x.size ≤ 16777216) (ha : 0 < es.length → a = some ⟨g, o, none⟩) (hE : Ents w g o es) :
    Calls Tryz.prog 92 #[.slice a es.length cap, .agg #[.int .i64 k, .string p, .string t, .string x]] w fun r w' => r = .returned (.int .i64 (moveC es p t)) ∧ Below w.heap.size w w' := by
  have hb : Below w.heap.size w (w.alloc (.cells #[.int .i64 k, .string p, .string t, .string x] 79)) := (Below.refl _ w).alloc (Nat.le_refl _) _
  have HE := hidE (hE.below hb)
  have HB := hidE hb
  have HZ := hidE hz
  have HU : Hid (moveC es p t = if (getE es p).2 = false then 2 else if upC es t ≠ 0 then upC es t else if (getE es t).2 = true then 4 else if underL t p = true then 7 else if fitE es p t = true then 0 else 8) := show _ = _ from rfl
  have HG := hidE (fun (W : World) (hW : Ents W g o es) => l2Get_any W a g o cap es p (by omega) ha hW)
  have HT := hidE (fun (W : World) (hW : Ents W g o es) => l2Get_any W a g o cap es t (by omega) ha hW)
  have HC := hidE (fun (W : World) (hW : Ents W g o es) => l2Up_any W a g o cap es t (by omega) ht ha hW)
  have HL := hidE (fun (W : World) => l1Under_any t p ht hp W)
  clear hE hb hz
  obtain ⟨⟨p', d, x'⟩, b, hg⟩ : ∃ e b, getE es p = (e, b) := ⟨_, _, rfl⟩
  obtain ⟨⟨p2, d2, x2⟩, b', hg2⟩ : ∃ e b, getE es t = (e, b) := ⟨_, _, rfl⟩
  obtain ⟨c, hc⟩ : ∃ c, upC es t = c := ⟨_, rfl⟩
  rw [hg, hg2, hc] at HU
  rw [hg] at HG
  rw [hg2] at HT
  rw [hc] at HC
  clear hg hg2 hc
  go_enter Tryz.func92, Tryz.ntmps92
  go_wp2_with fail
  refine (HG.out _ HE.out).mono ?_
  rintro e w1 ⟨rfl, hB1⟩
  have HH1 := hidE (hB1.alloc hB1.size (.cells #[.string p', .bool d, .string x'] 57))
  obtain ⟨c00, c01, c02, c03⟩ := box4 HH1.out
  have hz1 := HH1.out.size
  clear hB1 HG
  go_wp2_with fail
  refine (HC.out _ (HE.out.below HH1.out)).mono ?_
  rintro e w2 ⟨rfl, hB2⟩
  have HH2 := hidE (HH1.out.trans (hB2.mono HH1.out.size))
  clear c00 c01 c02 c03 hB2 HH1 HC hz1
  obtain ⟨c00, c01, c02, c03⟩ := box4 HH2.out
  have hz2 := HH2.out.size
  go_wp2_with fail
  refine (HT.out _ (HE.out.below HH2.out)).mono ?_
  rintro e w3 ⟨rfl, hB3⟩
  have HH3 := hidE ((HH2.out.trans (hB3.mono HH2.out.size)).alloc (HH2.out.trans (hB3.mono HH2.out.size)).size (.cells #[.string p2, .bool d2, .string x2] 57))
  clear c00 c01 c02 c03 hB3 HH2 HT hz2
  obtain ⟨c00, c01, c02, c03⟩ := box4 HH3.out
  have HF := hidE (HB.out.trans (HH3.out.mono (by simp)))
  cases b with
  | false =>
    go_wp2
    go_ret
    exact ⟨ret_iE (by rw [HU.out]; rfl), HF.out⟩
  | true =>
    by_cases h0 : c = 0
    · subst h0
      cases b' with
      | true =>
        go_wp2
        go_ret
        exact ⟨ret_iE (by rw [HU.out]; rfl), HF.out⟩
      | false =>
        cases hu : underL t p with
        | true =>
          rw [hu] at HL HU
          go_wp2_with fail
          refine (HL.out _).mono ?_
          rintro e w4 ⟨rfl, rfl⟩
          go_wp2
          go_ret
          exact ⟨ret_iE (by rw [HU.out]; rfl), HF.out⟩
        | false =>
          rw [hu] at HL HU
          go_wp2_with fail
          refine (HL.out _).mono ?_
          rintro e w4 ⟨rfl, rfl⟩
          go_wp2
          clear c00 c01 c02 c03 HF
          obtain ⟨A3, hA3⟩ : ∃ A3, A3 = w3.alloc (Obj.cells #[Value.string p2, Value.bool d2, Value.string x2] 57) := ⟨_, rfl⟩
          rw [← hA3] at HH3 ⊢
          clear hA3
          go_loopw [10] (fun iv wl => ∃ j : Nat, j ≤ es.length ∧ iv = .int .i64 j ∧ Hid (Below (w.alloc (.cells #[.int .i64 k, .string p, .string t, .string x] 79)).heap.size (w.alloc (.cells #[.int .i64 k, .string p, .string t, .string x] 79)) wl) ∧ Hid (fitE (es.take j) p t = true)) (fun iv _ => es.length - (RowKit.intOf iv).toNat)
          case atStart => exact ⟨0, Nat.zero_le _, rfl, HH3, rfl⟩
          case round =>
            clear HH3
            obtain ⟨j, hj, rfl, HH, HA⟩ := hrel
            by_cases hlt : j < es.length
            · obtain rfl := ha (by omega)
              obtain ⟨c0, c1, c2⟩ := (HE.out.below HH.out) j hlt
              obtain ⟨e0, e1, e2, e3⟩ := box4 HH.out
              obtain ⟨z0, _⟩ := HZ.out es[j] (List.getElem_mem _)
              have k0 := cell_regrown c0
              have k1 := cell_regrown c1
              have k2 := cell_regrown c2
              have q0 := cell_regrown e0
              have q1 := cell_regrown e1
              have q2 := cell_regrown e2
              have q3 := cell_regrown e3
              clear c0 c1 c2 e0 e1 e2 e3
              cases hm : movOk es[j].p p t with
              | true =>
                have HA2 := hidE (fit_succ es p t j hlt HA.out hm)
                have a1 := cMov wr es[j].p p t z0 hp ht true hm
                go_wp2
                refine wp_region_quiet_below (by kernel_rfl) (by kernel_rfl) ?_
                repeat (go_big_quiet_step (first | exact a1 _ _))
                refine wpQuiet_nil ?_
                intro _ hw'
                obtain ⟨⟨dq, osq⟩, hw''⟩ := hw'
                subst hw''
                have HBq := hidE (HH.out.trans ((below_regrown wr dq osq).mono HH.out.size))
                clear HH k0 k1 k2 q0 q1 q2 q3 a1
                go_wp2
                go_roundw
                case rel => exact ⟨j + 1, by omega, by go_num, HBq, HA2⟩
                case measure => simp [RowKit.intOf]; omega
              | false =>
                have HN := hidE (fit_no es p t j hlt hm)
                have a1 := cMov wr es[j].p p t z0 hp ht false hm
                go_wp2
                refine wp_region_quiet_below (by kernel_rfl) (by kernel_rfl) ?_
                repeat (go_big_quiet_step (first | exact a1 _ _))
                refine wpQuiet_nil ?_
                intro _ hw'
                obtain ⟨⟨dq, osq⟩, hw''⟩ := hw'
                subst hw''
                have HBq := hidE (HH.out.trans ((below_regrown wr dq osq).mono HH.out.size))
                clear HH k0 k1 k2 q0 q1 q2 q3 a1
                go_wp2
                go_ret
                exact ⟨ret_iE (by rw [HU.out, HN.out]; rfl), HB.out.trans (HBq.out.mono (by simp))⟩
            · have HN : Hid (fitE es p t = true) := by
                have := HA.out; rw [List.take_of_length_le (by omega)] at this; exact this
              go_wp2
              go_ret
              exact ⟨ret_iE (by rw [HU.out, HN.out]; rfl), HB.out.trans (HH.out.mono (by simp))⟩
    · have n0 : (c == 0) = false := by rw [beq_eq_false_iff_ne]; exact h0
      go_wp2
      go_ret
      exact ⟨ret_iE (by rw [HU.out]; simp [h0]), HF.out⟩
end Go.Proofs.YtlobdnnhpaklgaaGreatDoor
