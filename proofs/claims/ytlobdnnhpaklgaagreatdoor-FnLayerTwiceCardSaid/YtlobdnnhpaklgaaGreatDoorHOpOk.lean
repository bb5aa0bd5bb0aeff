/-
  The walk of the model's OpOk.
-/
import Derived.Test.YtlobdnnhpaklgaaGreatDoorHPk20
namespace Go.Proofs.YtlobdnnhpaklgaaGreatDoor
open Go.RowKit Go.Lib

abbrev encO (o : O) : Value := .agg #[.int .i64 o.k, .string o.p, .string o.t, .string o.x]
theorem box4 {w w' : World} {a b c d : Value} {T : TypeId} (h : Below (w.alloc (.cells #[a, b, c, d] T)).heap.size (w.alloc (.cells #[a, b, c, d] T)) w') :
    w'.cell? ⟨w.heap.size, 0, none⟩ = some a ∧ w'.cell? ⟨w.heap.size, 1, none⟩ = some b ∧ w'.cell? ⟨w.heap.size, 2, none⟩ = some c ∧ w'.cell? ⟨w.heap.size, 3, none⟩ = some d := by
  have lt : w.heap.size < (w.alloc (.cells #[a, b, c, d] T)).heap.size := by simp
  exact ⟨(h.cell (p := ⟨w.heap.size, 0, none⟩) lt).trans (by simp), (h.cell (p := ⟨w.heap.size, 1, none⟩) lt).trans (by simp), (h.cell (p := ⟨w.heap.size, 2, none⟩) lt).trans (by simp), (h.cell (p := ⟨w.heap.size, 3, none⟩) lt).trans (by simp)⟩

set_option maxHeartbeats 2000000 in
theorem sOpOk_any (w : World) (k : Int) (p t x : ByteArray) (hp : p.size ≤ 16777216) (ht : t.size ≤ 16777216) (hx : x.size ≤ 16777216) :
    Calls Tryz.prog 55 #[.agg #[.int .i64 k, .string p, .string t, .string x]] w fun r w' => r = .returned (.bool (opB ⟨k, p, t, x⟩)) ∧ Below w.heap.size w w' := by
  have hb : Below w.heap.size w (w.alloc (.cells #[.int .i64 k, .string p, .string t, .string x] 79)) := (Below.refl _ w).alloc (Nat.le_refl _) _
  have HB := hidE hb
  clear hb
  by_cases h1 : 1 ≤ k
  · by_cases h5 : k ≤ 5
    · have hr : (decide (1 ≤ k) && decide (k ≤ 5)) = true := by simp [h1, h5]
      cases fp : pathB p with
      | false =>
        go_enter Tryz.func55, Tryz.ntmps55
        go_wp2_with fail
        refine (sOk_any p (by omega) _).mono ?_
        rintro e w1 ⟨rfl, hB1⟩
        have hC1 := hB1
        obtain ⟨c00, c01, c02, c03⟩ := box4 hC1
        have HC1 := hidE hC1
        go_wp2
        go_ret
        exact ⟨ret_bE (by unfold opB emptyB; simp [fp]), HB.out.trans (HC1.out.mono (by simp))⟩
      | true =>
        by_cases hk5 : k = 5
        · subst hk5
          cases ft : pathB t with
          | false =>
            go_enter Tryz.func55, Tryz.ntmps55
            go_wp2_with fail
            refine (sOk_any p (by omega) _).mono ?_
            rintro e w1 ⟨rfl, hB1⟩
            have hC1 := hB1
            obtain ⟨c00, c01, c02, c03⟩ := box4 hC1
            have HC1 := hidE hC1
            go_wp2_with fail
            refine (sOk_any t (by omega) _).mono ?_
            rintro e w2 ⟨rfl, hB2⟩
            have hC2 := hC1.trans (hB2.mono hC1.size)
            obtain ⟨c10, c11, c12, c13⟩ := box4 hC2
            have HC2 := hidE hC2
            go_wp2
            go_ret
            exact ⟨ret_bE (by unfold opB emptyB; simp [fp, ft]), HB.out.trans (HC2.out.mono (by simp))⟩
          | true =>
            cases fx : x.toList.isEmpty with
            | false =>
              go_enter Tryz.func55, Tryz.ntmps55
              go_wp2_with fail
              refine (sOk_any p (by omega) _).mono ?_
              rintro e w1 ⟨rfl, hB1⟩
              have hC1 := hB1
              obtain ⟨c00, c01, c02, c03⟩ := box4 hC1
              have HC1 := hidE hC1
              go_wp2_with fail
              refine (sOk_any t (by omega) _).mono ?_
              rintro e w2 ⟨rfl, hB2⟩
              have hC2 := hC1.trans (hB2.mono hC1.size)
              obtain ⟨c10, c11, c12, c13⟩ := box4 hC2
              have HC2 := hidE hC2
              go_wp2
              go_ret
              exact ⟨ret_bE (by unfold opB emptyB; simp [fp, ft, fx]), HB.out.trans (HC2.out.mono (by simp))⟩
            | true =>
              go_enter Tryz.func55, Tryz.ntmps55
              go_wp2_with fail
              refine (sOk_any p (by omega) _).mono ?_
              rintro e w1 ⟨rfl, hB1⟩
              have hC1 := hB1
              obtain ⟨c00, c01, c02, c03⟩ := box4 hC1
              have HC1 := hidE hC1
              go_wp2_with fail
              refine (sOk_any t (by omega) _).mono ?_
              rintro e w2 ⟨rfl, hB2⟩
              have hC2 := hC1.trans (hB2.mono hC1.size)
              obtain ⟨c10, c11, c12, c13⟩ := box4 hC2
              have HC2 := hidE hC2
              go_wp2
              go_ret
              exact ⟨ret_bE (by unfold opB emptyB; simp [fp, ft, fx]), HB.out.trans (HC2.out.mono (by simp))⟩
        · have n5 : (k == 5) = false := by rw [beq_eq_false_iff_ne]; exact hk5
          cases ft : t.toList.isEmpty with
          | false =>
            go_enter Tryz.func55, Tryz.ntmps55
            go_wp2_with fail
            refine (sOk_any p (by omega) _).mono ?_
            rintro e w1 ⟨rfl, hB1⟩
            have hC1 := hB1
            obtain ⟨c00, c01, c02, c03⟩ := box4 hC1
            have HC1 := hidE hC1
            go_wp2
            go_ret
            exact ⟨ret_bE (by unfold opB emptyB; simp [fp, ft, hk5]), HB.out.trans (HC1.out.mono (by simp))⟩
          | true =>
            cases fx : dataB x with
            | false =>
              go_enter Tryz.func55, Tryz.ntmps55
              go_wp2_with fail
              refine (sOk_any p (by omega) _).mono ?_
              rintro e w1 ⟨rfl, hB1⟩
              have hC1 := hB1
              obtain ⟨c00, c01, c02, c03⟩ := box4 hC1
              have HC1 := hidE hC1
              go_wp2_with fail
              refine (l2Data_any x (by omega) _).mono ?_
              rintro e w2 ⟨rfl, rfl⟩
              go_wp2
              go_ret
              exact ⟨ret_bE (by unfold opB emptyB; simp [fp, ft, fx, hk5]), HB.out.trans (HC1.out.mono (by simp))⟩
            | true =>
              by_cases hk2 : k = 2
              · subst hk2
                go_enter Tryz.func55, Tryz.ntmps55
                go_wp2_with fail
                refine (sOk_any p (by omega) _).mono ?_
                rintro e w1 ⟨rfl, hB1⟩
                have hC1 := hB1
                obtain ⟨c00, c01, c02, c03⟩ := box4 hC1
                have HC1 := hidE hC1
                go_wp2_with fail
                refine (l2Data_any x (by omega) _).mono ?_
                rintro e w2 ⟨rfl, rfl⟩
                go_wp2
                go_ret
                exact ⟨ret_bE (by unfold opB emptyB; simp [fp, ft, fx]), HB.out.trans (HC1.out.mono (by simp))⟩
              · have n2 : (k == 2) = false := by rw [beq_eq_false_iff_ne]; exact hk2
                cases fe : x.toList.isEmpty with
                | false =>
                  go_enter Tryz.func55, Tryz.ntmps55
                  go_wp2_with fail
                  refine (sOk_any p (by omega) _).mono ?_
                  rintro e w1 ⟨rfl, hB1⟩
                  have hC1 := hB1
                  obtain ⟨c00, c01, c02, c03⟩ := box4 hC1
                  have HC1 := hidE hC1
                  go_wp2_with fail
                  refine (l2Data_any x (by omega) _).mono ?_
                  rintro e w2 ⟨rfl, rfl⟩
                  go_wp2
                  go_ret
                  exact ⟨ret_bE (by unfold opB emptyB; simp [fp, ft, fx, fe, hk5, hk2]), HB.out.trans (HC1.out.mono (by simp))⟩
                | true =>
                  go_enter Tryz.func55, Tryz.ntmps55
                  go_wp2_with fail
                  refine (sOk_any p (by omega) _).mono ?_
                  rintro e w1 ⟨rfl, hB1⟩
                  have hC1 := hB1
                  obtain ⟨c00, c01, c02, c03⟩ := box4 hC1
                  have HC1 := hidE hC1
                  go_wp2_with fail
                  refine (l2Data_any x (by omega) _).mono ?_
                  rintro e w2 ⟨rfl, rfl⟩
                  go_wp2
                  go_ret
                  exact ⟨ret_bE (by unfold opB emptyB; simp [fp, ft, fx, fe, hk5, hk2, h1, h5]), HB.out.trans (HC1.out.mono (by simp))⟩
    · go_enter Tryz.func55, Tryz.ntmps55
      go_wp2
      go_ret
      exact ⟨ret_bE (by unfold opB; rw [decide_eq_false (by show ¬ (1 ≤ k ∧ k ≤ 5); omega)]; rfl), HB.out⟩
  · go_enter Tryz.func55, Tryz.ntmps55
    go_wp2
    go_ret
    exact ⟨ret_bE (by unfold opB; rw [decide_eq_false (by show ¬ (1 ≤ k ∧ k ≤ 5); omega)]; rfl), HB.out⟩
end Go.Proofs.YtlobdnnhpaklgaaGreatDoor
