/-
  The walks of the model's small functions on layers.
-/
import Derived.Test.YtlobdnnhpaklgaaGreatDoorHMkWalkBase
import Derived.Test.YtlobdnnhpaklgaaGreatDoorHPk00
import Derived.Test.YtlobdnnhpaklgaaGreatDoorHPk19
import Derived.Test.YtlobdnnhpaklgaaGreatDoorHUnder
namespace Go.Proofs.YtlobdnnhpaklgaaGreatDoor.Mk
open Go.RowKit Go.Lib

set_option maxHeartbeats 400000 in
set_option maxRecDepth 100000 in
theorem l3Find_any (w : World) (a : Option Addr) (g o cap : Nat) (es : List E) (s : ByteArray) (hl : es.length ≤ 16777216) (ha : 0 < es.length → a = some ⟨g, o, none⟩) (hE : Ents w g o es) :
    Calls Tryz.prog 89 #[.slice a es.length cap, .string s] w fun e w' => e = .returned (.int .i64 (findE es s)) ∧ w' = w := by
  have HE := hidE hE
  clear hE
  go_enter Tryz.func89, Tryz.ntmps89
  go_wp2
  go_loop [5] (fun i => ∃ k : Nat, k ≤ es.length ∧ i = .int .i64 k ∧ Hid (findL s (es.drop k) k = findE es s)) (fun i => es.length - (RowKit.intOf i).toNat)
  case atStart => exact ⟨0, Nat.zero_le _, rfl, rfl⟩
  case round =>
    obtain ⟨k, hk, rfl, HF⟩ := hrel
    by_cases hlt : k < es.length
    · obtain rfl := ha (by omega)
      obtain ⟨c0, c1, c2⟩ := HE.out k hlt
      have HD := hidE (find_drop s es k hlt)
      cases hc : (es[k].p.toList == s.toList) with
      | true =>
        rw [hc] at HD
        go_wp2
        go_ret
        exact ⟨ret_iE (by rw [← HF.out, HD.out]; rfl), rfl⟩
      | false =>
        rw [hc] at HD
        go_wp2
        go_round
        case rel => exact ⟨k + 1, by omega, by go_num, by show _ = _; rw [← HF.out, HD.out]; rfl⟩
        case measure => simp [RowKit.intOf]; omega
    · go_wp2
      go_ret
      exact ⟨ret_iE (by rw [← HF.out, List.drop_of_length_le (by omega)]; rfl), rfl⟩

set_option maxHeartbeats 400000 in
theorem l3Kind_any (w : World) (a : Option Addr) (g o cap : Nat) (es : List E) (s : ByteArray) (hl : es.length ≤ 16777216) (ha : 0 < es.length → a = some ⟨g, o, none⟩) (hE : Ents w g o es) :
    Calls Tryz.prog 54 #[.slice a es.length cap, .string s] w fun e w' => e = .returned (.int .i64 (kindM es s)) ∧ w' = w := by
  have HE := hidE hE
  clear hE
  have HF := hidE (fun (W : World) (hW : Ents W g o es) => l3Find_any W a g o cap es s hl ha hW)
  rcases findE_is es s with hf | ⟨j, hj, hf, _⟩
  · rw [kind_no hf]
    rw [hf] at HF
    go_enter Tryz.func54, Tryz.ntmps54
    go_wp2_with (go_at_call 89; refine (HF.out _ HE.out).mono ?_; rintro e w' ⟨rfl, rfl⟩)
    go_ret
    exact ⟨rfl, rfl⟩
  · rw [kind_at hj hf]
    rw [hf] at HF
    obtain rfl := ha (by omega)
    obtain ⟨c0, c1, c2⟩ := HE.out j hj
    go_enter Tryz.func54, Tryz.ntmps54
    go_wp2_with (go_at_call 89; refine (HF.out _ HE.out).mono ?_; rintro e w' ⟨rfl, rfl⟩)
    go_ret
    exact ⟨rfl, rfl⟩

set_option maxHeartbeats 800000 in
set_option maxRecDepth 100000 in
theorem l3Bare_any (w : World) (a : Option Addr) (g o cap : Nat) (es : List E) (s : ByteArray) (hl : es.length ≤ 16777216) (hs : s.size ≤ 16777216) (hz : ∀ e ∈ es, e.p.size ≤ 16777216) (ha : 0 < es.length → a = some ⟨g, o, none⟩) (hE : Ents w g o es) :
    Calls Tryz.prog 49 #[.slice a es.length cap, .string s] w fun e w' => e = .returned (.bool (bareM es s)) ∧ w' = w := by
  have HE := hidE hE
  have HZ := hidE hz
  clear hE hz
  go_enter Tryz.func49, Tryz.ntmps49
  go_wp2
  go_loop [5] (fun i => ∃ k : Nat, k ≤ es.length ∧ i = .int .i64 k ∧ Hid (bareM (es.drop k) s = bareM es s)) (fun i => es.length - (RowKit.intOf i).toNat)
  case atStart => exact ⟨0, Nat.zero_le _, rfl, rfl⟩
  case round =>
    obtain ⟨k, hk, rfl, HF⟩ := hrel
    by_cases hlt : k < es.length
    · obtain rfl := ha (by omega)
      obtain ⟨c0, c1, c2⟩ := HE.out k hlt
      have HD := hidE (bare_drop es s k hlt)
      have hz1 := HZ.out es[k] (List.getElem_mem _)
      by_cases h4 : es[k].d = 4
      · have h4' : (es[k].d == 4) = true := by rw [beq_iff_eq]; exact h4
        have HU := hidE (l1Under_any s es[k].p hs hz1)
        rw [h4'] at HD
        rw [h4] at c1
        cases hu : underL s es[k].p with
        | true =>
          rw [hu] at HD HU
          go_wp2_with (go_at_call 86; refine (HU.out _).mono ?_; rintro e w' ⟨rfl, rfl⟩)
          go_ret
          exact ⟨ret_bE (by rw [← HF.out, HD.out]; rfl), rfl⟩
        | false =>
          rw [hu] at HD HU
          go_wp2_with (go_at_call 86; refine (HU.out _).mono ?_; rintro e w' ⟨rfl, rfl⟩)
          go_round
          case rel => exact ⟨k + 1, by omega, by go_num, by show _ = _; rw [← HF.out, HD.out]; rfl⟩
          case measure => simp [RowKit.intOf]; omega
      · have h4' : (es[k].d == 4) = false := by rw [beq_eq_false_iff_ne]; exact h4
        rw [h4'] at HD
        go_wp2
        go_round
        case rel => exact ⟨k + 1, by omega, by go_num, by show _ = _; rw [← HF.out, HD.out]; rfl⟩
        case measure => simp [RowKit.intOf]; omega
    · go_wp2
      go_ret
      exact ⟨ret_bE (by rw [← HF.out, List.drop_of_length_le (by omega)]; rfl), rfl⟩

set_option maxHeartbeats 800000 in
set_option maxRecDepth 100000 in
theorem l3In_any (w : World) (a : Option Addr) (g o cap : Nat) (es : List E) (s : ByteArray) (hl : es.length ≤ 16777216) (hs : s.size ≤ 16777216) (ha : 0 < es.length → a = some ⟨g, o, none⟩) (hE : Ents w g o es) :
    Calls Tryz.prog 48 #[.slice a es.length cap, .string s] w fun e w' => e = .returned (.bool (inM es s)) ∧ Below w.heap.size w w' := by
  have HE := hidE hE
  clear hE
  have hin : inM es s = (((upS s).toList == [47]) || ((kindM es (upS s) == 2) || (kindM es (upS s) == 4))) := rfl
  rw [hin]
  clear hin
  have HKi := hidE (fun (W : World) (hW : Ents W g o es) => l3Kind_any W a g o cap es (upS s) hl ha hW)
  obtain ⟨kk, hkk⟩ : ∃ kk, kindM es (upS s) = kk := ⟨_, rfl⟩
  rw [hkk] at HKi ⊢
  clear hkk
  go_enter Tryz.func48, Tryz.ntmps48
  go_wp2_with fail
  refine (sPathUp_any s hs _).mono ?_
  rintro e w1 ⟨rfl, hB1⟩
  have HE1 := hidE (HE.out.below hB1)
  have HB1 := hidE hB1
  clear hB1
  go_wp2_with fail
  refine (HKi.out _ HE1.out).mono ?_
  rintro e w2 ⟨rfl, rfl⟩
  cases hr : ((upS s).toList == [47]) with
  | true =>
    have hr2 : (upS s).toList = [47] := by simpa using hr
    go_wp2
    go_ret
    exact ⟨ret_bE (by rw [hr]; rfl), HB1.out⟩
  | false =>
    have hr2 : ¬ (upS s).toList = [47] := by simpa using hr
    by_cases h2 : kk = 2
    · subst h2
      go_wp2
      go_ret
      exact ⟨ret_bE (by rw [hr]; rfl), HB1.out⟩
    · have h2' : (kk == 2) = false := by rw [beq_eq_false_iff_ne]; exact h2
      go_wp2
      go_ret
      exact ⟨ret_bE (by rw [hr, h2']; rfl), HB1.out⟩

set_option maxHeartbeats 1600000 in
set_option maxRecDepth 100000 in
theorem l3Hides_any (w : World) (a : Option Addr) (g o cap : Nat) (es : List E) (s : ByteArray) (hl : es.length ≤ 16777216) (hs : s.size ≤ 16777216) (hz : ∀ e ∈ es, e.p.size ≤ 16777216) (ha : 0 < es.length → a = some ⟨g, o, none⟩) (hE : Ents w g o es) :
    Calls Tryz.prog 52 #[.slice a es.length cap, .string s] w fun e w' => e = .returned (.bool (hidesM es s)) ∧ Below w.heap.size w w' := by
  have HE := hidE hE
  have HZ := hidE hz
  clear hE hz
  go_enter Tryz.func52, Tryz.ntmps52
  go_wp2
  go_loopw [5] (fun i wl => ∃ k : Nat, k ≤ es.length ∧ i = .int .i64 k ∧ Hid (Below w.heap.size w wl) ∧ Hid (hidesM (es.drop k) s = hidesM es s)) (fun i _ => es.length - (RowKit.intOf i).toNat)
  case atStart => exact ⟨0, Nat.zero_le _, rfl, Below.refl _ _, rfl⟩
  case round =>
    obtain ⟨k, hk, rfl, HB, HF⟩ := hrel
    by_cases hlt : k < es.length
    · obtain rfl := ha (by omega)
      obtain ⟨c0, c1, c2⟩ := (HE.out.below HB.out) k hlt
      have HD := hidE (hides_drop es s k hlt)
      have hz1 := HZ.out es[k] (List.getElem_mem _)
      have HU := hidE (l1Under_any s es[k].p hs hz1)
      obtain ⟨u, hu⟩ : ∃ u, underL s es[k].p = u := ⟨_, rfl⟩
      have HM : Hid (hideM s es[k] = (((es[k].p.toList == s.toList) && (es[k].d != 2)) || ((es[k].d != 2) && u))) := by rw [← hu]; rfl
      rw [HM.out] at HD
      rw [hu] at HU
      clear hu HM
      by_cases h2 : es[k].d = 2
      · have h2' : (es[k].d != 2) = false := by simp [h2]
        rw [h2'] at HD
        rw [h2] at c1
        cases hc : (es[k].p.toList == s.toList) with
        | true =>
          rw [hc] at HD
          go_wp2
          refine ⟨⟨k + 1, by omega, by go_num, HB, by show _ = _; rw [← HF.out, HD.out]; rfl⟩, ?_⟩
          simp [RowKit.intOf]
          omega
        | false =>
          rw [hc] at HD
          go_wp2
          refine ⟨⟨k + 1, by omega, by go_num, HB, by show _ = _; rw [← HF.out, HD.out]; rfl⟩, ?_⟩
          simp [RowKit.intOf]
          omega
      · have h2' : (es[k].d != 2) = true := by simp [h2]
        have h2n : (es[k].d == 2) = false := by rw [beq_eq_false_iff_ne]; exact h2
        rw [h2'] at HD
        cases hc : (es[k].p.toList == s.toList) with
        | true =>
          rw [hc] at HD
          go_wp2
          go_ret
          exact ⟨ret_bE (by rw [← HF.out, HD.out]; rfl), HB.out⟩
        | false =>
          rw [hc] at HD
          cases u with
          | true =>
            go_wp2_with (go_at_call 86; refine (HU.out _).mono ?_; rintro e w' ⟨rfl, rfl⟩)
            go_ret
            exact ⟨ret_bE (by rw [← HF.out, HD.out]; rfl), HB.out⟩
          | false =>
            go_wp2_with (go_at_call 86; refine (HU.out _).mono ?_; rintro e w' ⟨rfl, rfl⟩)
            refine ⟨⟨k + 1, by omega, by go_num, HB, by show _ = _; rw [← HF.out, HD.out]; rfl⟩, ?_⟩
            simp [RowKit.intOf]
            omega
    · go_wp2
      go_ret
      exact ⟨ret_bE (by rw [← HF.out, List.drop_of_length_le (by omega)]; rfl), HB.out⟩
end Go.Proofs.YtlobdnnhpaklgaaGreatDoor.Mk
