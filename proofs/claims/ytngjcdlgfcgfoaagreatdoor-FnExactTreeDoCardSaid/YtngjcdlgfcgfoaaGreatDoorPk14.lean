/-
  The walks of the model on data.
-/
import Derived.WalkKit
import Derived.OwnWalk
import Derived.WalkSpells
import Derived.WalkLawsBesides
import Derived.Laws.Pointers
import Derived.Deep.QuietTactic
import Derived.BigQuiet
import Derived.Outline
import Derived.Below
import Derived.Lib.QuietBelow
import Derived.Test.YtngjcdlgfcgfoaaGreatDoorPk10
import Derived.Test.YtngjcdlgfcgfoaaGreatDoorPk13
namespace Go.Proofs.YtngjcdlgfcgfoaaGreatDoor
open Go.RowKit Go.Lib Go.Sort

set_option maxHeartbeats 800000 in
set_option maxRecDepth 100000 in
theorem l2Data_any (s : ByteArray) (hs : s.size ≤ 4611686018427387904) (w : World) :
    Calls Tryz.prog 26 #[.string s] w fun e w' => e = .returned (.bool (dataB s)) ∧ w' = w := by
  go_enter Tryz.func26, Tryz.ntmps26
  go_wp2
  go_loop [3] (fun i => ∃ k : Nat, k ≤ s.size ∧ i = .int .i64 k ∧ Hid ((s.data.toList.take k).all dataC = true)) (fun i => s.size - (RowKit.intOf i).toNat)
  case atStart => exact ⟨0, Nat.zero_le _, rfl, rfl⟩
  case round =>
    obtain ⟨k, hk, rfl, HA⟩ := hrel
    by_cases hlt : k < s.size
    · have yes : dataC s[k] = true → Hid ((s.data.toList.take (k + 1)).all dataC = true) := fun h => by show _ = _; rw [data_take s k hlt, HA.out, h]; rfl
      have HY := hidE yes
      clear yes
      by_cases h1 : 97 ≤ s[k].toNat
      · by_cases h2 : s[k].toNat ≤ 122
        · have HT := HY.out (by unfold dataC low; rw [decide_eq_true ⟨h1, h2⟩]; rfl)
          go_wp2
          go_round
          case rel => exact ⟨k + 1, by omega, by go_num, HT⟩
          case measure => simp [RowKit.intOf]; omega
        · have HN := hidE (data_bad s k hlt (by unfold dataC low; rw [decide_eq_false (by omega), decide_eq_false (by omega)]; rfl))
          go_wp2
          go_ret
          exact ⟨ret_bE HN.out, rfl⟩
      · by_cases h2 : 48 ≤ s[k].toNat
        · by_cases h3 : s[k].toNat ≤ 57
          · have HT := HY.out (by unfold dataC; rw [decide_eq_true ⟨h2, h3⟩, Bool.or_true])
            go_wp2
            go_round
            case rel => exact ⟨k + 1, by omega, by go_num, HT⟩
            case measure => simp [RowKit.intOf]; omega
          · have HN := hidE (data_bad s k hlt (by unfold dataC low; rw [decide_eq_false (by omega), decide_eq_false (by omega)]; rfl))
            go_wp2
            go_ret
            exact ⟨ret_bE HN.out, rfl⟩
        · have HN := hidE (data_bad s k hlt (by unfold dataC low; rw [decide_eq_false (by omega), decide_eq_false (by omega)]; rfl))
          go_wp2
          go_ret
          exact ⟨ret_bE HN.out, rfl⟩
    · have HD := hidE (data_all s k (by omega) HA.out)
      by_cases h6 : s.size ≤ 6
      · go_wp2
        go_ret
        exact ⟨ret_bE (by rw [← HD.out, decide_eq_true h6]; exact decide_eq_true (by omega)), rfl⟩
      · go_wp2
        go_ret
        exact ⟨ret_bE (by rw [← HD.out, decide_eq_false h6]; exact decide_eq_false (by omega)), rfl⟩
theorem sOk_is (s : ByteArray) (b : Bool) (h : pathB s = b) (hm : s.size ≤ 67108864) (w : World) :
    Calls Tryz.prog 25 #[.string s] w fun e w' => e = .returned (.bool b) ∧ Below w.heap.size w w' := by
  rw [← h]; exact sOk_any s hm w
theorem l2Data_is (s : ByteArray) (b : Bool) (h : dataB s = b) (hm : s.size ≤ 67108864) (w : World) :
    Calls Tryz.prog 26 #[.string s] w fun e w' => e = .returned (.bool b) ∧ Below w.heap.size w w' := by
  rw [← h]; exact (l2Data_any s (by omega) w).mono fun e w' ⟨h1, h2⟩ => ⟨h1, by rw [h2]; exact Below.refl _ _⟩

/-- The contracts, in every world that has grown out of W0. -/
theorem cOk (W0 : World) (s : ByteArray) (b : Bool) (h : pathB s = b) (hm : s.size ≤ 67108864) : ∀ d os, Calls Tryz.prog 25 #[.string s] (grow (redrawn W0 d) os) fun e w'' => e = .returned (.bool b) ∧ ∃ p : Regrown, w'' = grow (redrawn W0 p.d) p.os :=
  fun _ _ => Calls.regrown_of (sOk_is s b h hm _)
theorem cData (W0 : World) (s : ByteArray) (b : Bool) (h : dataB s = b) (hm : s.size ≤ 67108864) : ∀ d os, Calls Tryz.prog 26 #[.string s] (grow (redrawn W0 d) os) fun e w'' => e = .returned (.bool b) ∧ ∃ p : Regrown, w'' = grow (redrawn W0 p.d) p.os :=
  fun _ _ => Calls.regrown_of (l2Data_is s b h hm _)
end Go.Proofs.YtngjcdlgfcgfoaaGreatDoor

/-
  The walk of the model's OpOk.
-/
namespace Go.Proofs.YtngjcdlgfcgfoaaGreatDoor
open Go.RowKit Go.Lib

abbrev encO (o : O) : Value := .agg #[.int .i64 o.k, .string o.p, .string o.t, .string o.x]
theorem box4 {w w' : World} {a b c d : Value} {T : TypeId} (h : Below (w.alloc (.cells #[a, b, c, d] T)).heap.size (w.alloc (.cells #[a, b, c, d] T)) w') :
    w'.cell? ⟨w.heap.size, 0, none⟩ = some a ∧ w'.cell? ⟨w.heap.size, 1, none⟩ = some b ∧ w'.cell? ⟨w.heap.size, 2, none⟩ = some c ∧ w'.cell? ⟨w.heap.size, 3, none⟩ = some d := by
  have lt : w.heap.size < (w.alloc (.cells #[a, b, c, d] T)).heap.size := by simp
  exact ⟨(h.cell (p := ⟨w.heap.size, 0, none⟩) lt).trans (by simp), (h.cell (p := ⟨w.heap.size, 1, none⟩) lt).trans (by simp), (h.cell (p := ⟨w.heap.size, 2, none⟩) lt).trans (by simp), (h.cell (p := ⟨w.heap.size, 3, none⟩) lt).trans (by simp)⟩

set_option maxHeartbeats 2000000 in
theorem sOpOk_any (w : World) (k : Int) (p t x : ByteArray) (hp : p.size ≤ 16777216) (ht : t.size ≤ 16777216) (hx : x.size ≤ 16777216) :
    Calls Tryz.prog 15 #[.agg #[.int .i64 k, .string p, .string t, .string x]] w fun r w' => r = .returned (.bool (opB ⟨k, p, t, x⟩)) ∧ Below w.heap.size w w' := by
  have hb : Below w.heap.size w (w.alloc (.cells #[.int .i64 k, .string p, .string t, .string x] 31)) := (Below.refl _ w).alloc (Nat.le_refl _) _
  have HB := hidE hb
  clear hb
  by_cases h1 : 1 ≤ k
  · by_cases h5 : k ≤ 5
    · have hr : (decide (1 ≤ k) && decide (k ≤ 5)) = true := by simp [h1, h5]
      cases fp : pathB p with
      | false =>
        go_enter Tryz.func15, Tryz.ntmps15
        go_wp2_with fail
        refine (sOk_any p (by omega) _).mono ?_
        rintro e w1 ⟨rfl, hB1⟩
        have hC1 := hB1
        obtain ⟨c00, c01, c02, c03⟩ := box4 hC1
        have HC1 := hidE hC1
        go_wp2
        go_ret
        exact ⟨ret_bE (by unfold opB emptyB; simp [fp]), HB.out.trans (HC1.out.mono (by simp))⟩
      | true =>
        by_cases hk5 : k = 5
        · subst hk5
          cases ft : pathB t with
          | false =>
            go_enter Tryz.func15, Tryz.ntmps15
            go_wp2_with fail
            refine (sOk_any p (by omega) _).mono ?_
            rintro e w1 ⟨rfl, hB1⟩
            have hC1 := hB1
            obtain ⟨c00, c01, c02, c03⟩ := box4 hC1
            have HC1 := hidE hC1
            go_wp2_with fail
            refine (sOk_any t (by omega) _).mono ?_
            rintro e w2 ⟨rfl, hB2⟩
            have hC2 := hC1.trans (hB2.mono hC1.size)
            obtain ⟨c10, c11, c12, c13⟩ := box4 hC2
            have HC2 := hidE hC2
            go_wp2
            go_ret
            exact ⟨ret_bE (by unfold opB emptyB; simp [fp, ft]), HB.out.trans (HC2.out.mono (by simp))⟩
          | true =>
            cases fx : x.toList.isEmpty with
            | false =>
              go_enter Tryz.func15, Tryz.ntmps15
              go_wp2_with fail
              refine (sOk_any p (by omega) _).mono ?_
              rintro e w1 ⟨rfl, hB1⟩
              have hC1 := hB1
              obtain ⟨c00, c01, c02, c03⟩ := box4 hC1
              have HC1 := hidE hC1
              go_wp2_with fail
              refine (sOk_any t (by omega) _).mono ?_
              rintro e w2 ⟨rfl, hB2⟩
              have hC2 := hC1.trans (hB2.mono hC1.size)
              obtain ⟨c10, c11, c12, c13⟩ := box4 hC2
              have HC2 := hidE hC2
              go_wp2
              go_ret
              exact ⟨ret_bE (by unfold opB emptyB; simp [fp, ft, fx]), HB.out.trans (HC2.out.mono (by simp))⟩
            | true =>
              go_enter Tryz.func15, Tryz.ntmps15
              go_wp2_with fail
              refine (sOk_any p (by omega) _).mono ?_
              rintro e w1 ⟨rfl, hB1⟩
              have hC1 := hB1
              obtain ⟨c00, c01, c02, c03⟩ := box4 hC1
              have HC1 := hidE hC1
              go_wp2_with fail
              refine (sOk_any t (by omega) _).mono ?_
              rintro e w2 ⟨rfl, hB2⟩
              have hC2 := hC1.trans (hB2.mono hC1.size)
              obtain ⟨c10, c11, c12, c13⟩ := box4 hC2
              have HC2 := hidE hC2
              go_wp2
              go_ret
              exact ⟨ret_bE (by unfold opB emptyB; simp [fp, ft, fx]), HB.out.trans (HC2.out.mono (by simp))⟩
        · have n5 : (k == 5) = false := by rw [beq_eq_false_iff_ne]; exact hk5
          cases ft : t.toList.isEmpty with
          | false =>
            go_enter Tryz.func15, Tryz.ntmps15
            go_wp2_with fail
            refine (sOk_any p (by omega) _).mono ?_
            rintro e w1 ⟨rfl, hB1⟩
            have hC1 := hB1
            obtain ⟨c00, c01, c02, c03⟩ := box4 hC1
            have HC1 := hidE hC1
            go_wp2
            go_ret
            exact ⟨ret_bE (by unfold opB emptyB; simp [fp, ft, hk5]), HB.out.trans (HC1.out.mono (by simp))⟩
          | true =>
            cases fx : dataB x with
            | false =>
              go_enter Tryz.func15, Tryz.ntmps15
              go_wp2_with fail
              refine (sOk_any p (by omega) _).mono ?_
              rintro e w1 ⟨rfl, hB1⟩
              have hC1 := hB1
              obtain ⟨c00, c01, c02, c03⟩ := box4 hC1
              have HC1 := hidE hC1
              go_wp2_with fail
              refine (l2Data_any x (by omega) _).mono ?_
              rintro e w2 ⟨rfl, rfl⟩
              go_wp2
              go_ret
              exact ⟨ret_bE (by unfold opB emptyB; simp [fp, ft, fx, hk5]), HB.out.trans (HC1.out.mono (by simp))⟩
            | true =>
              by_cases hk2 : k = 2
              · subst hk2
                go_enter Tryz.func15, Tryz.ntmps15
                go_wp2_with fail
                refine (sOk_any p (by omega) _).mono ?_
                rintro e w1 ⟨rfl, hB1⟩
                have hC1 := hB1
                obtain ⟨c00, c01, c02, c03⟩ := box4 hC1
                have HC1 := hidE hC1
                go_wp2_with fail
                refine (l2Data_any x (by omega) _).mono ?_
                rintro e w2 ⟨rfl, rfl⟩
                go_wp2
                go_ret
                exact ⟨ret_bE (by unfold opB emptyB; simp [fp, ft, fx]), HB.out.trans (HC1.out.mono (by simp))⟩
              · have n2 : (k == 2) = false := by rw [beq_eq_false_iff_ne]; exact hk2
                cases fe : x.toList.isEmpty with
                | false =>
                  go_enter Tryz.func15, Tryz.ntmps15
                  go_wp2_with fail
                  refine (sOk_any p (by omega) _).mono ?_
                  rintro e w1 ⟨rfl, hB1⟩
                  have hC1 := hB1
                  obtain ⟨c00, c01, c02, c03⟩ := box4 hC1
                  have HC1 := hidE hC1
                  go_wp2_with fail
                  refine (l2Data_any x (by omega) _).mono ?_
                  rintro e w2 ⟨rfl, rfl⟩
                  go_wp2
                  go_ret
                  exact ⟨ret_bE (by unfold opB emptyB; simp [fp, ft, fx, fe, hk5, hk2]), HB.out.trans (HC1.out.mono (by simp))⟩
                | true =>
                  go_enter Tryz.func15, Tryz.ntmps15
                  go_wp2_with fail
                  refine (sOk_any p (by omega) _).mono ?_
                  rintro e w1 ⟨rfl, hB1⟩
                  have hC1 := hB1
                  obtain ⟨c00, c01, c02, c03⟩ := box4 hC1
                  have HC1 := hidE hC1
                  go_wp2_with fail
                  refine (l2Data_any x (by omega) _).mono ?_
                  rintro e w2 ⟨rfl, rfl⟩
                  go_wp2
                  go_ret
                  exact ⟨ret_bE (by unfold opB emptyB; simp [fp, ft, fx, fe, hk5, hk2, h1, h5]), HB.out.trans (HC1.out.mono (by simp))⟩
    · go_enter Tryz.func15, Tryz.ntmps15
      go_wp2
      go_ret
      exact ⟨ret_bE (by unfold opB; rw [decide_eq_false (by show ¬ (1 ≤ k ∧ k ≤ 5); omega)]; rfl), HB.out⟩
  · go_enter Tryz.func15, Tryz.ntmps15
    go_wp2
    go_ret
    exact ⟨ret_bE (by unfold opB; rw [decide_eq_false (by show ¬ (1 ≤ k ∧ k ≤ 5); omega)]; rfl), HB.out⟩
end Go.Proofs.YtngjcdlgfcgfoaaGreatDoor
