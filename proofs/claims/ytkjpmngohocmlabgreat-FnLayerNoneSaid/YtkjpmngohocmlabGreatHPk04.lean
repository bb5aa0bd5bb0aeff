/-
  The walks of the model's small functions on layers.
-/
import Derived.Test.YtkjpmngohocmlabGreatHPk02
import Derived.Test.YtkjpmngohocmlabGreatHPk00
import Derived.Test.YtkjpmngohocmlabGreatHPk03
import Derived.WalkKit
import Derived.OwnWalk
import Derived.WalkSpells
import Derived.WalkLawsBesides
import Derived.Laws.Pointers
import Derived.Deep.QuietTactic
import Derived.BigQuiet
import Derived.Outline
import Derived.Below
import Derived.Lib.QuietBelow
import Derived.Test.YtkjpmngohocmlabGreatHPk01
import Derived.Test.YtkjpmngohocmlabGreatProg
import Derived.Maps.AppendAt
import Derived.Laws.ResultCell
namespace Go.Proofs.YtkjpmngohocmlabGreat.Mk
open Go.RowKit Go.Lib

set_option maxHeartbeats 400000 in
set_option maxRecDepth 100000 in
theorem l3Find_any (w : World) (a : Option Addr) (g o cap : Nat) (es : List E) (s : ByteArray) (hl : es.length ≤ 16777216) (ha : 0 < es.length → a = some ⟨g, o, none⟩) (hE : Ents w g o es) :
    Calls Tryz.prog 58 #[.slice a es.length cap, .string s] w fun e w' => e = .returned (.int .i64 (findE es s)) ∧ w' = w := by
  have HE := hidE hE
  clear hE
  go_enter Tryz.func58, Tryz.ntmps58
  go_wp2
  go_loop [5] (fun i => ∃ k : Nat, k ≤ es.length ∧ i = .int .i64 k ∧ Hid (findL s (es.drop k) k = findE es s)) (fun i => es.length - (RowKit.intOf i).toNat)
  case atStart => exact ⟨0, Nat.zero_le _, rfl, rfl⟩
  case round =>
    obtain ⟨k, hk, rfl, HF⟩ := hrel
    by_cases hlt : k < es.length
    · obtain rfl := ha (by omega)
      obtain ⟨c0, c1, c2⟩ := HE.out k hlt
      have HD := hidE (find_drop s es k hlt)
      cases hc : (es[k].p.toList == s.toList) with
      | true =>
        rw [hc] at HD
        go_wp2
        go_ret
        exact ⟨ret_iE (by rw [← HF.out, HD.out]; rfl), rfl⟩
      | false =>
        rw [hc] at HD
        go_wp2
        go_round
        case rel => exact ⟨k + 1, by omega, by go_num, by show _ = _; rw [← HF.out, HD.out]; rfl⟩
        case measure => simp [RowKit.intOf]; omega
    · go_wp2
      go_ret
      exact ⟨ret_iE (by rw [← HF.out, List.drop_of_length_le (by omega)]; rfl), rfl⟩

set_option maxHeartbeats 400000 in
theorem l3Kind_any (w : World) (a : Option Addr) (g o cap : Nat) (es : List E) (s : ByteArray) (hl : es.length ≤ 16777216) (ha : 0 < es.length → a = some ⟨g, o, none⟩) (hE : Ents w g o es) :
    Calls Tryz.prog 40 #[.slice a es.length cap, .string s] w fun e w' => e = .returned (.int .i64 (kindM es s)) ∧ w' = w := by
  have HE := hidE hE
  clear hE
  have HF := hidE (fun (W : World) (hW : Ents W g o es) => l3Find_any W a g o cap es s hl ha hW)
  rcases findE_is es s with hf | ⟨j, hj, hf, _⟩
  · rw [kind_no hf]
    rw [hf] at HF
    go_enter Tryz.func40, Tryz.ntmps40
    go_wp2_with (go_at_call 58; refine (HF.out _ HE.out).mono ?_; rintro e w' ⟨rfl, rfl⟩)
    go_ret
    exact ⟨rfl, rfl⟩
  · rw [kind_at hj hf]
    rw [hf] at HF
    obtain rfl := ha (by omega)
    obtain ⟨c0, c1, c2⟩ := HE.out j hj
    go_enter Tryz.func40, Tryz.ntmps40
    go_wp2_with (go_at_call 58; refine (HF.out _ HE.out).mono ?_; rintro e w' ⟨rfl, rfl⟩)
    go_ret
    exact ⟨rfl, rfl⟩

set_option maxHeartbeats 800000 in
set_option maxRecDepth 100000 in
theorem l3Bare_any (w : World) (a : Option Addr) (g o cap : Nat) (es : List E) (s : ByteArray) (hl : es.length ≤ 16777216) (hs : s.size ≤ 16777216) (hz : ∀ e ∈ es, e.p.size ≤ 16777216) (ha : 0 < es.length → a = some ⟨g, o, none⟩) (hE : Ents w g o es) :
    Calls Tryz.prog 21 #[.slice a es.length cap, .string s] w fun e w' => e = .returned (.bool (bareM es s)) ∧ w' = w := by
  have HE := hidE hE
  have HZ := hidE hz
  clear hE hz
  go_enter Tryz.func21, Tryz.ntmps21
  go_wp2
  go_loop [5] (fun i => ∃ k : Nat, k ≤ es.length ∧ i = .int .i64 k ∧ Hid (bareM (es.drop k) s = bareM es s)) (fun i => es.length - (RowKit.intOf i).toNat)
  case atStart => exact ⟨0, Nat.zero_le _, rfl, rfl⟩
  case round =>
    obtain ⟨k, hk, rfl, HF⟩ := hrel
    by_cases hlt : k < es.length
    · obtain rfl := ha (by omega)
      obtain ⟨c0, c1, c2⟩ := HE.out k hlt
      have HD := hidE (bare_drop es s k hlt)
      have hz1 := HZ.out es[k] (List.getElem_mem _)
      by_cases h4 : es[k].d = 4
      · have h4' : (es[k].d == 4) = true := by rw [beq_iff_eq]; exact h4
        have HU := hidE (l1Under_any s es[k].p hs hz1)
        rw [h4'] at HD
        rw [h4] at c1
        cases hu : underL s es[k].p with
        | true =>
          rw [hu] at HD HU
          go_wp2_with (go_at_call 45; refine (HU.out _).mono ?_; rintro e w' ⟨rfl, rfl⟩)
          go_ret
          exact ⟨ret_bE (by rw [← HF.out, HD.out]; rfl), rfl⟩
        | false =>
          rw [hu] at HD HU
          go_wp2_with (go_at_call 45; refine (HU.out _).mono ?_; rintro e w' ⟨rfl, rfl⟩)
          go_round
          case rel => exact ⟨k + 1, by omega, by go_num, by show _ = _; rw [← HF.out, HD.out]; rfl⟩
          case measure => simp [RowKit.intOf]; omega
      · have h4' : (es[k].d == 4) = false := by rw [beq_eq_false_iff_ne]; exact h4
        rw [h4'] at HD
        go_wp2
        go_round
        case rel => exact ⟨k + 1, by omega, by go_num, by show _ = _; rw [← HF.out, HD.out]; rfl⟩
        case measure => simp [RowKit.intOf]; omega
    · go_wp2
      go_ret
      exact ⟨ret_bE (by rw [← HF.out, List.drop_of_length_le (by omega)]; rfl), rfl⟩

set_option maxHeartbeats 800000 in
set_option maxRecDepth 100000 in
theorem l3In_any (w : World) (a : Option Addr) (g o cap : Nat) (es : List E) (s : ByteArray) (hl : es.length ≤ 16777216) (hs : s.size ≤ 16777216) (ha : 0 < es.length → a = some ⟨g, o, none⟩) (hE : Ents w g o es) :
    Calls Tryz.prog 20 #[.slice a es.length cap, .string s] w fun e w' => e = .returned (.bool (inM es s)) ∧ Below w.heap.size w w' := by
  have HE := hidE hE
  clear hE
  have hin : inM es s = (((upS s).toList == [47]) || ((kindM es (upS s) == 2) || (kindM es (upS s) == 4))) := rfl
  rw [hin]
  clear hin
  have HKi := hidE (fun (W : World) (hW : Ents W g o es) => l3Kind_any W a g o cap es (upS s) hl ha hW)
  obtain ⟨kk, hkk⟩ : ∃ kk, kindM es (upS s) = kk := ⟨_, rfl⟩
  rw [hkk] at HKi ⊢
  clear hkk
  go_enter Tryz.func20, Tryz.ntmps20
  go_wp2_with fail
  refine (sPathUp_any s hs _).mono ?_
  rintro e w1 ⟨rfl, hB1⟩
  have HE1 := hidE (HE.out.below hB1)
  have HB1 := hidE hB1
  clear hB1
  go_wp2_with fail
  refine (HKi.out _ HE1.out).mono ?_
  rintro e w2 ⟨rfl, rfl⟩
  cases hr : ((upS s).toList == [47]) with
  | true =>
    have hr2 : (upS s).toList = [47] := by simpa using hr
    go_wp2
    go_ret
    exact ⟨ret_bE (by rw [hr]; rfl), HB1.out⟩
  | false =>
    have hr2 : ¬ (upS s).toList = [47] := by simpa using hr
    by_cases h2 : kk = 2
    · subst h2
      go_wp2
      go_ret
      exact ⟨ret_bE (by rw [hr]; rfl), HB1.out⟩
    · have h2' : (kk == 2) = false := by rw [beq_eq_false_iff_ne]; exact h2
      go_wp2
      go_ret
      exact ⟨ret_bE (by rw [hr, h2']; rfl), HB1.out⟩

set_option maxHeartbeats 1600000 in
set_option maxRecDepth 100000 in
theorem l3Hides_any (w : World) (a : Option Addr) (g o cap : Nat) (es : List E) (s : ByteArray) (hl : es.length ≤ 16777216) (hs : s.size ≤ 16777216) (hz : ∀ e ∈ es, e.p.size ≤ 16777216) (ha : 0 < es.length → a = some ⟨g, o, none⟩) (hE : Ents w g o es) :
    Calls Tryz.prog 39 #[.slice a es.length cap, .string s] w fun e w' => e = .returned (.bool (hidesM es s)) ∧ Below w.heap.size w w' := by
  have HE := hidE hE
  have HZ := hidE hz
  clear hE hz
  go_enter Tryz.func39, Tryz.ntmps39
  go_wp2
  go_loopw [5] (fun i wl => ∃ k : Nat, k ≤ es.length ∧ i = .int .i64 k ∧ Hid (Below w.heap.size w wl) ∧ Hid (hidesM (es.drop k) s = hidesM es s)) (fun i _ => es.length - (RowKit.intOf i).toNat)
  case atStart => exact ⟨0, Nat.zero_le _, rfl, Below.refl _ _, rfl⟩
  case round =>
    obtain ⟨k, hk, rfl, HB, HF⟩ := hrel
    by_cases hlt : k < es.length
    · obtain rfl := ha (by omega)
      obtain ⟨c0, c1, c2⟩ := (HE.out.below HB.out) k hlt
      have HD := hidE (hides_drop es s k hlt)
      have hz1 := HZ.out es[k] (List.getElem_mem _)
      have HU := hidE (l1Under_any s es[k].p hs hz1)
      obtain ⟨u, hu⟩ : ∃ u, underL s es[k].p = u := ⟨_, rfl⟩
      have HM : Hid (hideM s es[k] = (((es[k].p.toList == s.toList) && (es[k].d != 2)) || ((es[k].d != 2) && u))) := by rw [← hu]; rfl
      rw [HM.out] at HD
      rw [hu] at HU
      clear hu HM
      by_cases h2 : es[k].d = 2
      · have h2' : (es[k].d != 2) = false := by simp [h2]
        rw [h2'] at HD
        rw [h2] at c1
        cases hc : (es[k].p.toList == s.toList) with
        | true =>
          rw [hc] at HD
          go_wp2
          refine ⟨⟨k + 1, by omega, by go_num, HB, by show _ = _; rw [← HF.out, HD.out]; rfl⟩, ?_⟩
          simp [RowKit.intOf]
          omega
        | false =>
          rw [hc] at HD
          go_wp2
          refine ⟨⟨k + 1, by omega, by go_num, HB, by show _ = _; rw [← HF.out, HD.out]; rfl⟩, ?_⟩
          simp [RowKit.intOf]
          omega
      · have h2' : (es[k].d != 2) = true := by simp [h2]
        have h2n : (es[k].d == 2) = false := by rw [beq_eq_false_iff_ne]; exact h2
        rw [h2'] at HD
        cases hc : (es[k].p.toList == s.toList) with
        | true =>
          rw [hc] at HD
          go_wp2
          go_ret
          exact ⟨ret_bE (by rw [← HF.out, HD.out]; rfl), HB.out⟩
        | false =>
          rw [hc] at HD
          cases u with
          | true =>
            go_wp2_with (go_at_call 45; refine (HU.out _).mono ?_; rintro e w' ⟨rfl, rfl⟩)
            go_ret
            exact ⟨ret_bE (by rw [← HF.out, HD.out]; rfl), HB.out⟩
          | false =>
            go_wp2_with (go_at_call 45; refine (HU.out _).mono ?_; rintro e w' ⟨rfl, rfl⟩)
            refine ⟨⟨k + 1, by omega, by go_num, HB, by show _ = _; rw [← HF.out, HD.out]; rfl⟩, ?_⟩
            simp [RowKit.intOf]
            omega
    · go_wp2
      go_ret
      exact ⟨ret_bE (by rw [← HF.out, List.drop_of_length_le (by omega)]; rfl), HB.out⟩
end Go.Proofs.YtkjpmngohocmlabGreat.Mk

/-
  The walks of the model on data.
-/
namespace Go.Proofs.YtkjpmngohocmlabGreat
open Go.RowKit Go.Lib Go.Sort

set_option maxHeartbeats 800000 in
set_option maxRecDepth 100000 in
theorem l2Data_any (s : ByteArray) (hs : s.size ≤ 4611686018427387904) (w : World) :
    Calls Tryz.prog 19 #[.string s] w fun e w' => e = .returned (.bool (dataB s)) ∧ w' = w := by
  go_enter Tryz.func19, Tryz.ntmps19
  go_wp2
  go_loop [3] (fun i => ∃ k : Nat, k ≤ s.size ∧ i = .int .i64 k ∧ Hid ((s.data.toList.take k).all dataC = true)) (fun i => s.size - (RowKit.intOf i).toNat)
  case atStart => exact ⟨0, Nat.zero_le _, rfl, rfl⟩
  case round =>
    obtain ⟨k, hk, rfl, HA⟩ := hrel
    by_cases hlt : k < s.size
    · have yes : dataC s[k] = true → Hid ((s.data.toList.take (k + 1)).all dataC = true) := fun h => by show _ = _; rw [data_take s k hlt, HA.out, h]; rfl
      have HY := hidE yes
      clear yes
      by_cases h1 : 97 ≤ s[k].toNat
      · by_cases h2 : s[k].toNat ≤ 122
        · have HT := HY.out (by unfold dataC low; rw [decide_eq_true ⟨h1, h2⟩]; rfl)
          go_wp2
          go_round
          case rel => exact ⟨k + 1, by omega, by go_num, HT⟩
          case measure => simp [RowKit.intOf]; omega
        · have HN := hidE (data_bad s k hlt (by unfold dataC low; rw [decide_eq_false (by omega), decide_eq_false (by omega)]; rfl))
          go_wp2
          go_ret
          exact ⟨ret_bE HN.out, rfl⟩
      · by_cases h2 : 48 ≤ s[k].toNat
        · by_cases h3 : s[k].toNat ≤ 57
          · have HT := HY.out (by unfold dataC; rw [decide_eq_true ⟨h2, h3⟩, Bool.or_true])
            go_wp2
            go_round
            case rel => exact ⟨k + 1, by omega, by go_num, HT⟩
            case measure => simp [RowKit.intOf]; omega
          · have HN := hidE (data_bad s k hlt (by unfold dataC low; rw [decide_eq_false (by omega), decide_eq_false (by omega)]; rfl))
            go_wp2
            go_ret
            exact ⟨ret_bE HN.out, rfl⟩
        · have HN := hidE (data_bad s k hlt (by unfold dataC low; rw [decide_eq_false (by omega), decide_eq_false (by omega)]; rfl))
          go_wp2
          go_ret
          exact ⟨ret_bE HN.out, rfl⟩
    · have HD := hidE (data_all s k (by omega) HA.out)
      by_cases h6 : s.size ≤ 6
      · go_wp2
        go_ret
        exact ⟨ret_bE (by rw [← HD.out, decide_eq_true h6]; exact decide_eq_true (by omega)), rfl⟩
      · go_wp2
        go_ret
        exact ⟨ret_bE (by rw [← HD.out, decide_eq_false h6]; exact decide_eq_false (by omega)), rfl⟩
theorem sOk_is (s : ByteArray) (b : Bool) (h : pathB s = b) (hm : s.size ≤ 67108864) (w : World) :
    Calls Tryz.prog 18 #[.string s] w fun e w' => e = .returned (.bool b) ∧ Below w.heap.size w w' := by
  rw [← h]; exact sOk_any s hm w
theorem l2Data_is (s : ByteArray) (b : Bool) (h : dataB s = b) (hm : s.size ≤ 67108864) (w : World) :
    Calls Tryz.prog 19 #[.string s] w fun e w' => e = .returned (.bool b) ∧ Below w.heap.size w w' := by
  rw [← h]; exact (l2Data_any s (by omega) w).mono fun e w' ⟨h1, h2⟩ => ⟨h1, by rw [h2]; exact Below.refl _ _⟩

/-- The contracts, in every world that has grown out of W0. -/
theorem cOk (W0 : World) (s : ByteArray) (b : Bool) (h : pathB s = b) (hm : s.size ≤ 67108864) : ∀ d os, Calls Tryz.prog 18 #[.string s] (grow (redrawn W0 d) os) fun e w'' => e = .returned (.bool b) ∧ ∃ p : Regrown, w'' = grow (redrawn W0 p.d) p.os :=
  fun _ _ => Calls.regrown_of (sOk_is s b h hm _)
theorem cData (W0 : World) (s : ByteArray) (b : Bool) (h : dataB s = b) (hm : s.size ≤ 67108864) : ∀ d os, Calls Tryz.prog 19 #[.string s] (grow (redrawn W0 d) os) fun e w'' => e = .returned (.bool b) ∧ ∃ p : Regrown, w'' = grow (redrawn W0 p.d) p.os :=
  fun _ _ => Calls.regrown_of (l2Data_is s b h hm _)
end Go.Proofs.YtkjpmngohocmlabGreat

/-
  The walk of the model's LayerOk.
-/
namespace Go.Proofs.YtkjpmngohocmlabGreat.Mk
open Go.RowKit Go.Lib Go.Sort

theorem tBelow {a b c : World} (h : Below a.heap.size a b) (k : Below b.heap.size b c) : Below a.heap.size a c := h.trans (k.mono h.size)
theorem tCell {W W' : World} {b i : Nat} {v : Value} (hB : Below W.heap.size W W') (h : W.cell? ⟨b, i, none⟩ = some v) : W'.cell? ⟨b, i, none⟩ = some v :=
  (hB.cell (p := ⟨b, i, none⟩) (World.block_lt_of_cell? W ⟨b, i, none⟩ h)).trans h
set_option maxHeartbeats 4000000 in
set_option maxRecDepth 100000 in
theorem sLayerOk_any (w : World) (a : Option Addr) (g o cap : Nat) (es : List E) (hl : es.length ≤ 16777216) (hcap : es.length ≤ cap) (hz : ∀ e ∈ es, e.p.size ≤ 16777216 ∧ e.x.size ≤ 16777216) (ha : 0 < es.length → a = some ⟨g, o, none⟩) (hE : Ents w g o es) :
    Calls Tryz.prog 7 #[.slice a es.length cap] w fun e w' => e = .returned (.bool (layB es)) ∧ Below w.heap.size w w' := by
  have HE := hidE hE
  have HZ := hidE hz
  clear hE hz
  go_enter Tryz.func7, Tryz.ntmps7
  go_wp2
  go_loopw [3] (fun i wl => ∃ k : Nat, k ≤ es.length ∧ i = .int .i64 k ∧ Hid (Below w.heap.size w wl) ∧ Hid ((List.range k).all (okM es) = true)) (fun i _ => es.length - (RowKit.intOf i).toNat)
  case atStart => exact ⟨0, Nat.zero_le _, rfl, Below.refl _ _, rfl⟩
  case round =>
    obtain ⟨k, hk, rfl, HB, HA⟩ := hrel
    by_cases hlt : k < es.length
    · obtain rfl := ha (by omega)
      have hB := HB.out
      have HEr := hidE (HE.out.below hB)
      obtain ⟨c0, c1, c2⟩ := HEr.out k hlt
      obtain ⟨z0, z1⟩ := HZ.out es[k] (List.getElem_mem _)
      have HOK := hidE (okM_is hlt)
      obtain ⟨p, hp⟩ : ∃ p, es[k].p = p := ⟨_, rfl⟩
      obtain ⟨d, hd⟩ : ∃ d, es[k].d = d := ⟨_, rfl⟩
      obtain ⟨x, hx⟩ : ∃ x, es[k].x = x := ⟨_, rfl⟩
      rw [hp] at c0 z0 HOK
      rw [hd] at c1 HOK
      rw [hx] at c2 z1 HOK
      clear hp hd hx hB
      obtain ⟨W0, hW0⟩ : ∃ W0, W0 = (wr.alloc (.cells #[.string p, .int .i64 d, .string x] 50)) := ⟨_, rfl⟩
      have HM0 : Hid (W0.cell? ⟨wr.heap.size, 0, none⟩ = some (.string p)) := by show _ = _; rw [hW0]; simp
      have HM1 : Hid (W0.cell? ⟨wr.heap.size, 1, none⟩ = some (.int .i64 d)) := by show _ = _; rw [hW0]; simp
      have HM2 : Hid (W0.cell? ⟨wr.heap.size, 2, none⟩ = some (.string x)) := by show _ = _; rw [hW0]; simp
      have hB0 : Below wr.heap.size wr W0 := by rw [hW0]; exact (Below.refl _ _).alloc (Nat.le_refl _) _
      have HB0 := hidE (tBelow HB.out hB0)
      have HE0 := hidE (HEr.out.below hB0)
      have HWeq := hidE hW0
      clear hB0 hW0
      have no : ∀ {b : Bool} {W : World}, okM es k = false → Hid (Below w.heap.size w W) → b = false → Ending.returned (.bool b) = .returned (.bool (layB es)) ∧ Below w.heap.size w W := fun h1 h2 h3 => ⟨ret_bE (h3.trans (layB_no hlt h1)), h2.out⟩
      have HPk := hidE (sOk_any p (by omega))
      have HDa := hidE (l2Data_any x (by omega))
      by_cases d1 : d < 1
      · have HBc := HB0
        rw [HWeq.out] at HBc
        have e1 : decide (1 ≤ d ∧ d ≤ 4) = false := decide_eq_false (by omega)
        go_wp2
        go_ret
        exact no (by rw [HOK.out]; rw [e1]; rfl) HBc rfl
      · by_cases d4 : 4 < d
        · have HBc := HB0
          rw [HWeq.out] at HBc
          have e1 : decide (1 ≤ d ∧ d ≤ 4) = false := decide_eq_false (by omega)
          go_wp2
          go_ret
          exact no (by rw [HOK.out]; rw [e1]; rfl) HBc rfl
        · have e1 : decide (1 ≤ d ∧ d ≤ 4) = true := decide_eq_true (by omega)
          rw [e1] at HOK
          go_wp2_with fail
          rw [← HWeq.out]
          refine (HPk.out _).mono ?_
          rintro e w1 ⟨rfl, hB⟩
          have HB1 := hidE (tBelow HB0.out hB)
          have HE1 := hidE (HE0.out.below hB)
          have m0 := tCell hB HM0.out
          have m1 := tCell hB HM1.out
          have m2 := tCell hB HM2.out
          have HA0 := hidE m0
          have HA1 := hidE m1
          have HA2 := hidE m2
          clear hB
          cases hpb : pathB p with
          | false =>
            rw [hpb] at HOK
            have HBc := HB1
            go_wp2
            go_ret
            exact no (by rw [HOK.out]; rfl) HBc rfl
          | true =>
            rw [hpb] at HOK
            go_wp2_with fail
            refine (HDa.out _).mono ?_
            rintro e w2 ⟨rfl, hw2⟩
            subst hw2
            have HB2 := HB1
            cases hdb : dataB x with
            | false =>
              rw [hdb] at HOK
              have HBc := HB2
              go_wp2
              go_ret
              exact no (by rw [HOK.out]; rfl) HBc rfl
            | true =>
              rw [hdb] at HOK
              have hcd : ((d != 1) = true ∧ x.toList.isEmpty = false) ∨ (d = 1 ∨ (d ≠ 1 ∧ x.toList.isEmpty = true)) := by
                by_cases h : d = 1
                · exact .inr (.inl h)
                · cases he : x.toList.isEmpty with
                  | true => exact .inr (.inr ⟨h, rfl⟩)
                  | false => exact .inl ⟨by simp [h], rfl⟩
              rcases hcd with ⟨h1, h2⟩ | hcd
              · rw [h1, h2] at HOK
                have h1' : (d == 1) = false := by rw [beq_eq_false_iff_ne]; intro q; rw [q] at h1; cases h1
                have h2' : (x.toList == []) = false := by cases hx : x.toList with | nil => rw [hx] at h2; cases h2 | cons => rfl
                have h2p : ¬ x.toList = [] := by simpa using h2'
                have HBc := HB2
                go_wp2
                go_ret
                exact no (by rw [HOK.out]; rfl) HBc rfl
              · have HOK2 : Hid (okM es k = ((k == 0 || Op.bytesLess ((es[k - 1]?.map (·.p.toList)).getD []) p.toList) && (inM (es.take k) p && !(decide (2 < d) && bareM (es.take k) p)))) := by
                  show _ = _
                  rw [HOK.out]
                  rcases hcd with h | ⟨h, h'⟩
                  · rw [h]; rfl
                  · rw [h']; simp
                clear HOK
                have HIn := hidE (fun (W : World) (hW : Ents W g o es) => l3In_any W (some ⟨g, o, none⟩) g o cap (es.take k) p (by rw [List.length_take]; omega) (by omega) (fun _ => rfl) (hW.take k))
                have HBa := hidE (fun (W : World) (hW : Ents W g o es) => l3Bare_any W (some ⟨g, o, none⟩) g o cap (es.take k) p (by rw [List.length_take]; omega) (by omega) (fun e he => (HZ.out e (List.mem_of_mem_take he)).1) (fun _ => rfl) (hW.take k))
                have htk : (es.take k).length = k := by rw [List.length_take]; omega
                rw [htk] at HIn HBa
                clear htk
                obtain ⟨bi, hbi⟩ : ∃ bi, inM (es.take k) p = bi := ⟨_, rfl⟩
                obtain ⟨bb, hbb⟩ : ∃ bb, bareM (es.take k) p = bb := ⟨_, rfl⟩
                rw [hbi] at HIn HOK2
                rw [hbb] at HBa HOK2
                clear hbi hbb
                have hd1 : (d = 1 ∧ (d == 1) = true) ∨ ((d == 1) = false ∧ (x.toList == []) = true ∧ x.toList = []) := by
                  rcases hcd with h | ⟨h, h'⟩
                  · exact .inl ⟨h, by rw [beq_iff_eq]; exact h⟩
                  · refine .inr ⟨by rw [beq_eq_false_iff_ne]; exact h, ?_⟩
                    cases hx : x.toList with
                    | nil => exact ⟨rfl, rfl⟩
                    | cons => rw [hx] at h'; cases h'
                clear hcd
                obtain ⟨dl, hdl⟩ : ∃ dl, decide (2 < d) = dl := ⟨_, rfl⟩
                rw [hdl] at HOK2
                have HDl := hidE hdl
                clear hdl
                rcases hd1 with ⟨rfl, hd1⟩ | ⟨hd1, hxe, hxp⟩
                · by_cases hk0 : k = 0
                  · subst hk0
                    have k0 := cell_regrown m0
                    have k1 := cell_regrown m1
                    have r0 := fun (d : Nat) (os : Array Obj) => Calls.regrown_of (HIn.out (grow (redrawn w2 d) os) (HE1.out.below (below_regrown w2 d os)))
                    go_wp2
                    refine wp_region_quiet_below (by kernel_rfl) (by kernel_rfl) ?_
                    repeat (go_big_quiet_step (first | exact r0 _ _))
                    refine wpQuiet_nil ?_
                    intro w3 hw'
                    obtain ⟨⟨dq, osq⟩, hw''⟩ := hw'
                    have hB : Below w2.heap.size w2 w3 := by rw [hw'']; exact below_regrown w2 dq osq
                    clear hw'' r0 k0 k1
                    have HB3 := hidE (tBelow HB2.out hB)
                    have HE3 := hidE (HE1.out.below hB)
                    have q1 := tCell hB m1
                    have q0 := tCell hB m0
                    clear hB m0 m1 m2
                    cases bi with
                    | false =>
                      have HBc := HB3
                      go_wp2
                      go_ret
                      exact no (by rw [HOK2.out]; simp) HBc rfl
                    | true =>
                      cases dl with
                      | false =>
                        have hd3 := HDl.out
                        have k0 := cell_regrown q0
                        have k1 := cell_regrown q1
                        go_wp2
                        refine wp_region_quiet_below (by kernel_rfl) (by kernel_rfl) ?_
                        repeat (go_big_quiet_step (fail))
                        refine wpQuiet_nil ?_
                        intro w4 hw'
                        obtain ⟨⟨dq, osq⟩, hw''⟩ := hw'
                        have hB : Below w3.heap.size w3 w4 := by rw [hw'']; exact below_regrown w3 dq osq
                        have HB4 := hidE (tBelow HB3.out hB)
                        clear hw'' k0 k1 hB
                        go_wp2
                        refine ⟨⟨0 + 1, by omega, by go_num, HB4, all_range_succ _ _ HA.out (by rw [HOK2.out]; rfl)⟩, ?_⟩
                        simp [RowKit.intOf]
                        omega
                      | true =>
                        have hd2 : 2 < 1 := of_decide_eq_true HDl.out
                        exact absurd hd2 (by decide)
                  · obtain ⟨m, rfl⟩ : ∃ m, k = m + 1 := ⟨k - 1, by omega⟩
                    have hm : m < es.length := by omega
                    have hcap' : (m : Int) + 1 ≤ (cap : Int) := by omega
                    have kq := (HE1.out m hm).1
                    rw [show m + 1 - 1 = m from rfl, List.getElem?_eq_getElem hm, Option.map_some, Option.getD_some] at HOK2
                    obtain ⟨q, hq⟩ : ∃ q, es[m].p = q := ⟨_, rfl⟩
                    rw [hq] at kq HOK2
                    clear hq
                    have hpos : decide ((0 : Int) < (m : Int) + 1) = true := decide_eq_true (by omega)
                    have kq' := cell_regrown kq
                    cases f4 : Op.bytesLess q.toList p.toList with
                    | false =>
                      have k0 := cell_regrown m0
                      have k1 := cell_regrown m1
                      have r0 := fun (d : Nat) (os : Array Obj) => Calls.regrown_of (HIn.out (grow (redrawn w2 d) os) (HE1.out.below (below_regrown w2 d os)))
                      go_wp2
                      refine wp_region_quiet_below (by kernel_rfl) (by kernel_rfl) ?_
                      repeat (go_big_quiet_step (first | exact r0 _ _))
                      refine wpQuiet_nil ?_
                      intro w3 hw'
                      obtain ⟨⟨dq, osq⟩, hw''⟩ := hw'
                      have hB : Below w2.heap.size w2 w3 := by rw [hw'']; exact below_regrown w2 dq osq
                      clear hw'' r0 k0 k1
                      have HBc := hidE (tBelow HB2.out hB)
                      go_wp2
                      go_ret
                      exact no (by rw [HOK2.out, f4]; simp) HBc rfl
                    | true =>
                      have k0 := cell_regrown m0
                      have k1 := cell_regrown m1
                      have r0 := fun (d : Nat) (os : Array Obj) => Calls.regrown_of (HIn.out (grow (redrawn w2 d) os) (HE1.out.below (below_regrown w2 d os)))
                      go_wp2
                      refine wp_region_quiet_below (by kernel_rfl) (by kernel_rfl) ?_
                      repeat (go_big_quiet_step (first | exact r0 _ _))
                      refine wpQuiet_nil ?_
                      intro w3 hw'
                      obtain ⟨⟨dq, osq⟩, hw''⟩ := hw'
                      have hB : Below w2.heap.size w2 w3 := by rw [hw'']; exact below_regrown w2 dq osq
                      clear hw'' r0 k0 k1
                      have HB3 := hidE (tBelow HB2.out hB)
                      have HE3 := hidE (HE1.out.below hB)
                      have q1 := tCell hB m1
                      have q0 := tCell hB m0
                      clear hB m0 m1 m2
                      cases bi with
                      | false =>
                        have HBc := HB3
                        go_wp2
                        go_ret
                        exact no (by rw [HOK2.out]; simp) HBc rfl
                      | true =>
                        cases dl with
                        | false =>
                          have hd3 := HDl.out
                          have k0 := cell_regrown q0
                          have k1 := cell_regrown q1
                          go_wp2
                          refine wp_region_quiet_below (by kernel_rfl) (by kernel_rfl) ?_
                          repeat (go_big_quiet_step (fail))
                          refine wpQuiet_nil ?_
                          intro w4 hw'
                          obtain ⟨⟨dq, osq⟩, hw''⟩ := hw'
                          have hB : Below w3.heap.size w3 w4 := by rw [hw'']; exact below_regrown w3 dq osq
                          have HB4 := hidE (tBelow HB3.out hB)
                          clear hw'' k0 k1 hB
                          go_wp2
                          refine ⟨⟨m + 1 + 1, by omega, by go_num, HB4, all_range_succ _ _ HA.out (by rw [HOK2.out, f4]; rfl)⟩, ?_⟩
                          simp [RowKit.intOf]
                          omega
                        | true =>
                          have hd2 : 2 < 1 := of_decide_eq_true HDl.out
                          exact absurd hd2 (by decide)
                · have hdn : ¬ d = 1 := by simpa using hd1
                  have hdb2 : (d != 1) = true := by simp [hdn]
                  by_cases hk0 : k = 0
                  · subst hk0
                    have k0 := cell_regrown m0
                    have k1 := cell_regrown m1
                    have r0 := fun (d : Nat) (os : Array Obj) => Calls.regrown_of (HIn.out (grow (redrawn w2 d) os) (HE1.out.below (below_regrown w2 d os)))
                    go_wp2
                    refine wp_region_quiet_below (by kernel_rfl) (by kernel_rfl) ?_
                    repeat (go_big_quiet_step (first | exact r0 _ _))
                    refine wpQuiet_nil ?_
                    intro w3 hw'
                    obtain ⟨⟨dq, osq⟩, hw''⟩ := hw'
                    have hB : Below w2.heap.size w2 w3 := by rw [hw'']; exact below_regrown w2 dq osq
                    clear hw'' r0 k0 k1
                    have HB3 := hidE (tBelow HB2.out hB)
                    have HE3 := hidE (HE1.out.below hB)
                    have q1 := tCell hB m1
                    have q0 := tCell hB m0
                    clear hB m0 m1 m2
                    cases bi with
                    | false =>
                      have HBc := HB3
                      go_wp2
                      go_ret
                      exact no (by rw [HOK2.out]; simp) HBc rfl
                    | true =>
                      cases dl with
                      | false =>
                        have hd3 := HDl.out
                        have k0 := cell_regrown q0
                        have k1 := cell_regrown q1
                        go_wp2
                        refine wp_region_quiet_below (by kernel_rfl) (by kernel_rfl) ?_
                        repeat (go_big_quiet_step (fail))
                        refine wpQuiet_nil ?_
                        intro w4 hw'
                        obtain ⟨⟨dq, osq⟩, hw''⟩ := hw'
                        have hB : Below w3.heap.size w3 w4 := by rw [hw'']; exact below_regrown w3 dq osq
                        have HB4 := hidE (tBelow HB3.out hB)
                        clear hw'' k0 k1 hB
                        go_wp2
                        refine ⟨⟨0 + 1, by omega, by go_num, HB4, all_range_succ _ _ HA.out (by rw [HOK2.out]; rfl)⟩, ?_⟩
                        simp [RowKit.intOf]
                        omega
                      | true =>
                        have hd2 : 2 < d := of_decide_eq_true HDl.out
                        have hd3 := HDl.out
                        cases bb with
                        | true =>
                          have k0 := cell_regrown q0
                          have k1 := cell_regrown q1
                          have r1 := fun (d : Nat) (os : Array Obj) => Calls.regrown_of ((HBa.out (grow (redrawn w3 d) os) (HE3.out.below (below_regrown w3 d os))).mono fun _ _ hh => ⟨hh.1, by rw [hh.2]; exact Below.refl _ _⟩)
                          go_wp2
                          refine wp_region_quiet_below (by kernel_rfl) (by kernel_rfl) ?_
                          repeat (go_big_quiet_step (exact r1 _ _))
                          refine wpQuiet_nil ?_
                          intro w4 hw'
                          obtain ⟨⟨dq, osq⟩, hw''⟩ := hw'
                          have hB : Below w3.heap.size w3 w4 := by rw [hw'']; exact below_regrown w3 dq osq
                          have HB4 := hidE (tBelow HB3.out hB)
                          clear hw'' k0 k1 hB r1
                          have HBc := HB4
                          go_wp2
                          go_ret
                          exact no (by rw [HOK2.out]; simp) HBc rfl
                        | false =>
                          have k0 := cell_regrown q0
                          have k1 := cell_regrown q1
                          have r1 := fun (d : Nat) (os : Array Obj) => Calls.regrown_of ((HBa.out (grow (redrawn w3 d) os) (HE3.out.below (below_regrown w3 d os))).mono fun _ _ hh => ⟨hh.1, by rw [hh.2]; exact Below.refl _ _⟩)
                          go_wp2
                          refine wp_region_quiet_below (by kernel_rfl) (by kernel_rfl) ?_
                          repeat (go_big_quiet_step (exact r1 _ _))
                          refine wpQuiet_nil ?_
                          intro w4 hw'
                          obtain ⟨⟨dq, osq⟩, hw''⟩ := hw'
                          have hB : Below w3.heap.size w3 w4 := by rw [hw'']; exact below_regrown w3 dq osq
                          have HB4 := hidE (tBelow HB3.out hB)
                          clear hw'' k0 k1 hB r1
                          go_wp2
                          refine ⟨⟨0 + 1, by omega, by go_num, HB4, all_range_succ _ _ HA.out (by rw [HOK2.out]; rfl)⟩, ?_⟩
                          simp [RowKit.intOf]
                          omega
                  · obtain ⟨m, rfl⟩ : ∃ m, k = m + 1 := ⟨k - 1, by omega⟩
                    have hm : m < es.length := by omega
                    have hcap' : (m : Int) + 1 ≤ (cap : Int) := by omega
                    have kq := (HE1.out m hm).1
                    rw [show m + 1 - 1 = m from rfl, List.getElem?_eq_getElem hm, Option.map_some, Option.getD_some] at HOK2
                    obtain ⟨q, hq⟩ : ∃ q, es[m].p = q := ⟨_, rfl⟩
                    rw [hq] at kq HOK2
                    clear hq
                    have hpos : decide ((0 : Int) < (m : Int) + 1) = true := decide_eq_true (by omega)
                    have kq' := cell_regrown kq
                    cases f4 : Op.bytesLess q.toList p.toList with
                    | false =>
                      have k0 := cell_regrown m0
                      have k1 := cell_regrown m1
                      have r0 := fun (d : Nat) (os : Array Obj) => Calls.regrown_of (HIn.out (grow (redrawn w2 d) os) (HE1.out.below (below_regrown w2 d os)))
                      go_wp2
                      refine wp_region_quiet_below (by kernel_rfl) (by kernel_rfl) ?_
                      repeat (go_big_quiet_step (first | exact r0 _ _))
                      refine wpQuiet_nil ?_
                      intro w3 hw'
                      obtain ⟨⟨dq, osq⟩, hw''⟩ := hw'
                      have hB : Below w2.heap.size w2 w3 := by rw [hw'']; exact below_regrown w2 dq osq
                      clear hw'' r0 k0 k1
                      have HBc := hidE (tBelow HB2.out hB)
                      go_wp2
                      go_ret
                      exact no (by rw [HOK2.out, f4]; simp) HBc rfl
                    | true =>
                      have k0 := cell_regrown m0
                      have k1 := cell_regrown m1
                      have r0 := fun (d : Nat) (os : Array Obj) => Calls.regrown_of (HIn.out (grow (redrawn w2 d) os) (HE1.out.below (below_regrown w2 d os)))
                      go_wp2
                      refine wp_region_quiet_below (by kernel_rfl) (by kernel_rfl) ?_
                      repeat (go_big_quiet_step (first | exact r0 _ _))
                      refine wpQuiet_nil ?_
                      intro w3 hw'
                      obtain ⟨⟨dq, osq⟩, hw''⟩ := hw'
                      have hB : Below w2.heap.size w2 w3 := by rw [hw'']; exact below_regrown w2 dq osq
                      clear hw'' r0 k0 k1
                      have HB3 := hidE (tBelow HB2.out hB)
                      have HE3 := hidE (HE1.out.below hB)
                      have q1 := tCell hB m1
                      have q0 := tCell hB m0
                      clear hB m0 m1 m2
                      cases bi with
                      | false =>
                        have HBc := HB3
                        go_wp2
                        go_ret
                        exact no (by rw [HOK2.out]; simp) HBc rfl
                      | true =>
                        cases dl with
                        | false =>
                          have hd3 := HDl.out
                          have k0 := cell_regrown q0
                          have k1 := cell_regrown q1
                          go_wp2
                          refine wp_region_quiet_below (by kernel_rfl) (by kernel_rfl) ?_
                          repeat (go_big_quiet_step (fail))
                          refine wpQuiet_nil ?_
                          intro w4 hw'
                          obtain ⟨⟨dq, osq⟩, hw''⟩ := hw'
                          have hB : Below w3.heap.size w3 w4 := by rw [hw'']; exact below_regrown w3 dq osq
                          have HB4 := hidE (tBelow HB3.out hB)
                          clear hw'' k0 k1 hB
                          go_wp2
                          refine ⟨⟨m + 1 + 1, by omega, by go_num, HB4, all_range_succ _ _ HA.out (by rw [HOK2.out, f4]; rfl)⟩, ?_⟩
                          simp [RowKit.intOf]
                          omega
                        | true =>
                          have hd2 : 2 < d := of_decide_eq_true HDl.out
                          have hd3 := HDl.out
                          cases bb with
                          | true =>
                            have k0 := cell_regrown q0
                            have k1 := cell_regrown q1
                            have r1 := fun (d : Nat) (os : Array Obj) => Calls.regrown_of ((HBa.out (grow (redrawn w3 d) os) (HE3.out.below (below_regrown w3 d os))).mono fun _ _ hh => ⟨hh.1, by rw [hh.2]; exact Below.refl _ _⟩)
                            go_wp2
                            refine wp_region_quiet_below (by kernel_rfl) (by kernel_rfl) ?_
                            repeat (go_big_quiet_step (exact r1 _ _))
                            refine wpQuiet_nil ?_
                            intro w4 hw'
                            obtain ⟨⟨dq, osq⟩, hw''⟩ := hw'
                            have hB : Below w3.heap.size w3 w4 := by rw [hw'']; exact below_regrown w3 dq osq
                            have HB4 := hidE (tBelow HB3.out hB)
                            clear hw'' k0 k1 hB r1
                            have HBc := HB4
                            go_wp2
                            go_ret
                            exact no (by rw [HOK2.out]; simp) HBc rfl
                          | false =>
                            have k0 := cell_regrown q0
                            have k1 := cell_regrown q1
                            have r1 := fun (d : Nat) (os : Array Obj) => Calls.regrown_of ((HBa.out (grow (redrawn w3 d) os) (HE3.out.below (below_regrown w3 d os))).mono fun _ _ hh => ⟨hh.1, by rw [hh.2]; exact Below.refl _ _⟩)
                            go_wp2
                            refine wp_region_quiet_below (by kernel_rfl) (by kernel_rfl) ?_
                            repeat (go_big_quiet_step (exact r1 _ _))
                            refine wpQuiet_nil ?_
                            intro w4 hw'
                            obtain ⟨⟨dq, osq⟩, hw''⟩ := hw'
                            have hB : Below w3.heap.size w3 w4 := by rw [hw'']; exact below_regrown w3 dq osq
                            have HB4 := hidE (tBelow HB3.out hB)
                            clear hw'' k0 k1 hB r1
                            go_wp2
                            refine ⟨⟨m + 1 + 1, by omega, by go_num, HB4, all_range_succ _ _ HA.out (by rw [HOK2.out, f4]; rfl)⟩, ?_⟩
                            simp [RowKit.intOf]
                            omega
    · have hke : k = es.length := by omega
      subst hke
      have hfin : layB es = decide (es.length ≤ 32) := by unfold layB; rw [HA.out, Bool.true_and]
      by_cases h32 : es.length ≤ 32
      · go_wp2
        go_ret
        exact ⟨ret_bE (by rw [hfin]; simp; omega), HB.out⟩
      · go_wp2
        go_ret
        exact ⟨ret_bE (by rw [hfin]; simp; omega), HB.out⟩
end Go.Proofs.YtkjpmngohocmlabGreat.Mk

/-
  Lists of entries, as they lie in memory.
-/
namespace Go.Proofs.YtkjpmngohocmlabGreat
open Go.RowKit Go.Lib

end Go.Proofs.YtkjpmngohocmlabGreat

/-
  The walk of the model's TreeOk.
-/
namespace Go.Proofs.YtkjpmngohocmlabGreat
open Go.RowKit Go.Lib Go.Sort

theorem cUp (W0 : World) (s : ByteArray) (hm : s.size ≤ 16777216) : ∀ d os, Calls Tryz.prog 44 #[.string s] (grow (redrawn W0 d) os) fun e w'' => e = .returned (.string (upS s)) ∧ ∃ p : Regrown, w'' = grow (redrawn W0 p.d) p.os :=
  fun _ _ => Calls.regrown_of (sPathUp_any s hm _)
end Go.Proofs.YtkjpmngohocmlabGreat

/-
  Rows of entries that a function makes itself.
-/
namespace Go.Proofs.YtkjpmngohocmlabGreat
open Go.RowKit Go.Lib

theorem rowE_append (es fs : List E) : rowE (es ++ fs) = rowE es ++ rowE fs := by unfold rowE; exact List.flatMap_append
theorem rowE_one (e : E) : rowE [e] = cellsE e := by unfold rowE; simp
theorem rowE_at : ∀ (es : List E) (i : Nat) (h : i < es.length), (rowE es)[i * 3]? = some (.string es[i].p) ∧ (rowE es)[i * 3 + 1]? = some (.bool es[i].d) ∧ (rowE es)[i * 3 + 2]? = some (.string es[i].x)
  | e :: r, 0, _ => ⟨rfl, rfl, rfl⟩
  | e :: r, i + 1, h => by
    obtain ⟨q0, q1, q2⟩ := rowE_at r i (by simpa using h)
    have hd : ∀ j, (rowE (e :: r))[3 + j]? = (rowE r)[j]? := fun j => by
      show (cellsE e ++ rowE r)[3 + j]? = _
      rw [List.getElem?_append_right (by show 3 ≤ _; omega)]
      show (rowE r)[3 + j - 3]? = _
      rw [Nat.add_sub_cancel_left]
    refine ⟨?_, ?_, ?_⟩
    · rw [show (i + 1) * 3 = 3 + i * 3 from by omega, hd]; exact q0
    · rw [show (i + 1) * 3 + 1 = 3 + (i * 3 + 1) from by omega, hd]; exact q1
    · rw [show (i + 1) * 3 + 2 = 3 + (i * 3 + 2) from by omega, hd]; exact q2
theorem rowE_one' {e : E} : ∀ u ∈ cellsE e, u.oneCell' = true := by
  intro u hu; simp [cellsE] at hu; rcases hu with rfl | rfl | rfl <;> rfl

theorem add0 (g j : Nat) : (⟨g, 0, none⟩ : Addr).add j = ⟨g, 0 + j, none⟩ := by
  cases j with
  | zero => rfl
  | succ j => simp [Addr.add]
end Go.Proofs.YtkjpmngohocmlabGreat

/-
  The walk of the model's Put.
-/
namespace Go.Proofs.YtkjpmngohocmlabGreat
open Go.RowKit Go.Lib

theorem rowE_oneCell {es : List E} : ∀ u ∈ rowE es, u.oneCell' = true := by
  intro u hu
  unfold rowE at hu
  obtain ⟨e, _, h⟩ := List.mem_flatMap.1 hu
  exact rowE_one' u h
theorem rowE_cells {w : World} {g o : Nat} {fs : List E} (hF : Ents w g o fs) : ∀ j u, (rowE fs)[j]? = some u → w.cell? ((⟨g, o, none⟩ : Addr).add j) = some u := by
  intro j u hj
  have hlt : j < fs.length * 3 := by rw [← rowE_len]; exact (List.getElem?_eq_some_iff.1 hj).1
  have hq : j / 3 < fs.length := by omega
  obtain ⟨q0, q1, q2⟩ := rowE_at fs (j / 3) hq
  obtain ⟨c0, c1, c2⟩ := hF (j / 3) hq
  have ad : (⟨g, o, none⟩ : Addr).add j = ⟨g, o + j, none⟩ := by
    cases j with
    | zero => rfl
    | succ j => simp [Addr.add]
  rw [ad]
  have h3 : j = j / 3 * 3 ∨ j = j / 3 * 3 + 1 ∨ j = j / 3 * 3 + 2 := by omega
  rcases h3 with h | h | h
  · rw [← h] at q0 c0; rw [q0] at hj; rw [c0, ← hj]
  · rw [← h] at q1; rw [Nat.add_assoc, ← h] at c1; rw [q1] at hj; rw [c1, ← hj]
  · rw [← h] at q2; rw [Nat.add_assoc, ← h] at c2; rw [q2] at hj; rw [c2, ← hj]

theorem ents_drop {w : World} {g o : Nat} {es : List E} (h : Ents w g o es) (o' j : Nat) (hj : o' = o + j * 3 ∨ es.length ≤ j) : Ents w g o' (es.drop j) := by
  intro i hi
  rw [List.length_drop] at hi
  rcases hj with rfl | hj
  · rw [List.getElem_drop]
    have := h (j + i) (by omega)
    rw [show o + (j + i) * 3 = o + j * 3 + i * 3 from by omega] at this
    exact this
  · omega
theorem below_draws2 {B : Nat} {a w : World} (h : Below B a w) (n : Nat) : Below B a (w.drewN n) := h.trans ⟨rfl, rfl, rfl, Nat.le_refl _, fun _ _ => rfl⟩
theorem box3 {w w' : World} {a b c : Value} {T : TypeId} (h : Below (w.alloc (.cells #[a, b, c] T)).heap.size (w.alloc (.cells #[a, b, c] T)) w') :
    w'.cell? ⟨w.heap.size, 0, none⟩ = some a ∧ w'.cell? ⟨w.heap.size, 1, none⟩ = some b ∧ w'.cell? ⟨w.heap.size, 2, none⟩ = some c := by
  have lt : w.heap.size < (w.alloc (.cells #[a, b, c] T)).heap.size := by simp
  exact ⟨(h.cell (p := ⟨w.heap.size, 0, none⟩) lt).trans (by simp), (h.cell (p := ⟨w.heap.size, 1, none⟩) lt).trans (by simp), (h.cell (p := ⟨w.heap.size, 2, none⟩) lt).trans (by simp)⟩

end Go.Proofs.YtkjpmngohocmlabGreat

/-
  The walks of what the model tells of a path of a tree.
-/
namespace Go.Proofs.YtkjpmngohocmlabGreat
open Go.RowKit Go.Lib

theorem bcellE {W w1 : World} (hb : Below W.heap.size W w1) : (∀ b o, b < W.heap.size → w1.cell? ⟨b, o, none⟩ = W.cell? ⟨b, o, none⟩) ∧ (∀ b o, b < W.heap.size → w1.frozen? ⟨b, o, none⟩ = W.frozen? ⟨b, o, none⟩) :=
  ⟨fun b o h => hb.cell (p := ⟨b, o, none⟩) h, fun b o h => hb.frozen (p := ⟨b, o, none⟩) h⟩

end Go.Proofs.YtkjpmngohocmlabGreat

/-
  The walks of the model's names in a directory, and of its TreeList.
-/
namespace Go.Proofs.YtkjpmngohocmlabGreat
open Go.RowKit Go.Lib

end Go.Proofs.YtkjpmngohocmlabGreat

/-
  The walks of how the model says that something ends.
-/
namespace Go.Proofs.YtkjpmngohocmlabGreat
open Go.RowKit Go.Lib

end Go.Proofs.YtkjpmngohocmlabGreat

/-
  The walk of the model's OpOk.
-/
namespace Go.Proofs.YtkjpmngohocmlabGreat
open Go.RowKit Go.Lib

abbrev encO (o : O) : Value := .agg #[.int .i64 o.k, .string o.p, .string o.t, .string o.x]
theorem box4 {w w' : World} {a b c d : Value} {T : TypeId} (h : Below (w.alloc (.cells #[a, b, c, d] T)).heap.size (w.alloc (.cells #[a, b, c, d] T)) w') :
    w'.cell? ⟨w.heap.size, 0, none⟩ = some a ∧ w'.cell? ⟨w.heap.size, 1, none⟩ = some b ∧ w'.cell? ⟨w.heap.size, 2, none⟩ = some c ∧ w'.cell? ⟨w.heap.size, 3, none⟩ = some d := by
  have lt : w.heap.size < (w.alloc (.cells #[a, b, c, d] T)).heap.size := by simp
  exact ⟨(h.cell (p := ⟨w.heap.size, 0, none⟩) lt).trans (by simp), (h.cell (p := ⟨w.heap.size, 1, none⟩) lt).trans (by simp), (h.cell (p := ⟨w.heap.size, 2, none⟩) lt).trans (by simp), (h.cell (p := ⟨w.heap.size, 3, none⟩) lt).trans (by simp)⟩

end Go.Proofs.YtkjpmngohocmlabGreat

/-
  The walk of how the model says that taking away ends.
-/
namespace Go.Proofs.YtkjpmngohocmlabGreat
open Go.RowKit Go.Lib

theorem row_slice {w : World} {base : Nat} {e : TypeId} {size : Nat} {v : Value} {n : Nat} {xs : List Value} (h : w.ownsRow base e size v n xs) : ∃ a cap, v = .slice a n cap := by
  obtain ⟨_, ⟨rfl, rfl⟩ | ⟨g, cap, cur, rfl, _⟩⟩ := h
  · exact ⟨_, _, rfl⟩
  · exact ⟨_, _, rfl⟩

end Go.Proofs.YtkjpmngohocmlabGreat
