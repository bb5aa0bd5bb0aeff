import Derived.WalkKit
import Derived.OwnWalk
import Derived.WalkSpells
import Derived.WalkLawsBesides
import Derived.Outline
import Derived.Maps.AppendAt
import Derived.RangeFuncBox
import Derived.Test.YtoaipphccjkphaaDoorProg
import Derived.Test.YtoaipphccjkphaaDoorHPk00
namespace Go.Proofs.YtoaipphccjkphaaDoor
open Go.RowKit Go.Lib
theorem hid' {p : Prop} (h : p) : Hid p := h
theorem ret_bool' {a b : Bool} (h : a = b) : Ending.returned (.bool a) = .returned (.bool b) := by rw [h]
set_option maxHeartbeats 400000 in
set_option maxRecDepth 100000 in
theorem l1Name_any (s : ByteArray) (hs : s.size ≤ 4611686018427387904) (w : World) :
  Calls Tryd.prog 51 #[.string s] w fun e w' => e = .returned (.bool (nameB s)) ∧ w' = w := by
 go_enter Tryd.func51, Tryd.ntmps51
 go_wp2
 go_loop [3] (fun i => ∃ k : Nat, k ≤ s.size ∧ i = .int .i64 k ∧ Hid ((s.data.toList.take k).all low = true)) (fun i => s.size - (intOf i).toNat)
 case atStart => exact ⟨0, Nat.zero_le _, rfl, rfl⟩
 case round =>
  obtain ⟨k, hk, rfl, HA⟩ := hrel; by_cases hlt : k < s.size
  ·
   by_cases h1 : 97 ≤ s[k].toNat
   ·
    by_cases h2 : s[k].toNat ≤ 122
    ·
     have HL : Hid (low s[k] = true) := decide_eq_true ⟨h1, h2⟩; go_wp2
     go_round
     case rel => exact ⟨k + 1, by omega, by go_num, by show _ = _; rw [all_take_succ s k hlt, HA.out, HL.out]; rfl⟩
     case measure => simp [intOf]; omega
    ·
     have HL : Hid (low s[k] = false) := decide_eq_false (by omega); go_wp2
     go_ret
     exact ⟨ret_bool' (nameB_bad s k hlt HL.out), rfl⟩
   ·
    have HL : Hid (low s[k] = false) := decide_eq_false (by omega); go_wp2
    go_ret
    exact ⟨ret_bool' (nameB_bad s k hlt HL.out), rfl⟩
  ·
   have HE : Hid (k = s.size) := by show _ = _; omega
   by_cases h1 : 1 ≤ s.size
   ·
    by_cases h2 : s.size ≤ 3
    ·
     go_wp2
     go_ret
     exact ⟨ret_bool' (by rw [decide_eq_true (by omega)]; exact nameB_good s k HE.out ⟨h1, h2⟩ HA.out), rfl⟩
    ·
     go_wp2
     go_ret
     exact ⟨ret_bool' (by rw [decide_eq_false (by omega)]; exact nameB_long s (by omega)), rfl⟩
   ·
    go_wp2
    go_ret
    exact ⟨ret_bool' (nameB_long s (by omega)), rfl⟩
theorem Tryd.infoS : (Tryd.prog.info? 9).map (fun i => (i.zero, i.size, i.bytes)) = some (some (.string ByteArray.empty), 1, 16) := by kernel_rfl
set_option maxHeartbeats 400000 in
set_option maxRecDepth 100000 in
theorem l10Cut_any (s : ByteArray) (c : UInt8) (hs : s.size ≤ 16777216) (w : World) :
  Calls Tryd.prog 66 #[.string s, .int .u8 c.toNat] w fun e w' => ∃ v, e = .returned v ∧ w'.ownsRow w.heap.size 9 1 v (cut c s).length ((cut c s).map Value.string) ∧ Below w.heap.size w w' := by
 obtain ⟨i0, hi, hz0, hz1, hz2⟩ := info_parts Tryd.infoS; go_enter Tryd.func66, Tryd.ntmps66
 go_wp2
 go_loopw [5, 6, 7] (fun v f i wl => ∃ (k fr : Nat) (pre : List ByteArray), k ≤ s.size + 1 ∧ i = .int .i64 k ∧ f = .int .i64 fr ∧ fr ≤ k ∧ pre.length ≤ k ∧ wl.ownsRow w.heap.size 9 1 v pre.length (pre.map Value.string) ∧ Below w.heap.size w wl ∧
  Hid (k ≤ s.size → pre ++ cutAt c s k fr = cut c s) ∧ Hid (k = s.size + 1 → pre = cut c s)) (fun _ _ i _ => s.size + 1 - (intOf i).toNat)
 case atStart =>
  exact ⟨0, 0, [], Nat.zero_le _, rfl, rfl, Nat.le_refl _, Nat.le_refl _, World.ownsRow_made w #[] 0 (Nat.le_refl _) (Nat.zero_le _) rfl, (Below.refl _ w).alloc (Nat.le_refl _) _, fun _ => rfl, fun h => by omega⟩
 case round =>
  obtain ⟨k, fr, pre, hk, rfl, rfl, hfk, hpl, hown, hB, HC, HD⟩ := hrel; by_cases hlt : k < s.size
  ·
   have hle : ((k : Int) == (s.size : Int)) = false := by rw [beq_eq_false_iff_ne]; omega
   by_cases hc : s[k] = c
   ·
    have hcb : (((s[k].toNat : Int)) == (c.toNat : Int)) = true := by rw [hc]; exact beq_self_eq_true _
    have HC2 : Hid ((pre ++ [s.extract fr k]) ++ cutAt c s (k + 1) (k + 1) = cut c s) := by
     show _ = _
     rw [← HC.out (by omega), cutAt_hit c s k fr hlt hc, List.append_assoc]; rfl
    clear hc HC HD
    go_wp2_with (first
     | (at_builtin; refine wpList_append_own _ rfl _ _ 40 rfl w.heap.size 9 i0 (.string ByteArray.empty) 1 16 Tryd.underlying40 hi hz0 hz1 hz2 rfl (by decide) _ _ _ rfl (hown.alloc _) ⟨wr.heap.size, 0, none⟩ 1 1 [.string (s.extract fr k)] rfl rfl ?c1 ?c2 ?c3 ?c4 ?c5 ?_)
     | fail)
    case c1 => exact cell_one_new _ _ _
    case c2 => intro u hu; simp at hu; subst hu; rfl
    case c3 => unfold maxLen; omega
    case c4 => omega
    case c5 => have := hB.size; simp; omega
    ·
     intro v' w3 hown' hgrow _; have hB3 : Below w.heap.size w w3 := (hB.alloc hB.size _).grown hgrow (by have := hB.size; simp; omega) (fun g hg => (hown.lt g hg).1); have hown3 : w3.ownsRow w.heap.size 9 1 v' (pre ++ [s.extract fr k]).length ((pre ++ [s.extract fr k]).map Value.string) := by simpa using hown'
     clear hown' hgrow hown hB; go_wp2
     go_roundw
     case rel => exact ⟨k + 1, k + 1, pre ++ [s.extract fr k], by omega, by go_num, by go_num, Nat.le_refl _, by rw [List.length_append, List.length_singleton]; omega, hown3, hB3, fun _ => HC2.out, fun h => by omega⟩
     case measure => simp [intOf]; omega
   ·
    have hcb : (((s[k].toNat : Int)) == (c.toNat : Int)) = false := by rw [beq_eq_false_iff_ne]; intro e; exact hc (UInt8.toNat_inj.1 (by omega))
    have HC2 : Hid (pre ++ cutAt c s (k + 1) fr = cut c s) := by
     show _ = _
     rw [← HC.out (by omega), cutAt_miss c s k fr hlt hc]
    clear hc HC HD; go_wp2
    go_roundw
    case rel => exact ⟨k + 1, fr, pre, by omega, by go_num, rfl, by omega, by omega, hown, hB, fun _ => HC2.out, fun h => by omega⟩
    case measure => simp [intOf]; omega
  ·
   by_cases hke : k = s.size
   ·
    have HC2 : Hid (pre ++ [s.extract fr k] = cut c s) := by
     show _ = _
     rw [← HC.out (by omega), cutAt_end c s k fr hlt, hke]
    have hle : ((k : Int) == (s.size : Int)) = true := by rw [hke]; exact beq_self_eq_true _
    have hkz : k ≤ s.size := by omega
    clear hke HC HD
    go_wp2_with (first
     | (at_builtin; refine wpList_append_own _ rfl _ _ 40 rfl w.heap.size 9 i0 (.string ByteArray.empty) 1 16 Tryd.underlying40 hi hz0 hz1 hz2 rfl (by decide) _ _ _ rfl (hown.alloc _) ⟨wr.heap.size, 0, none⟩ 1 1 [.string (s.extract fr k)] rfl rfl ?c1 ?c2 ?c3 ?c4 ?c5 ?_)
     | fail)
    case c1 => exact cell_one_new _ _ _
    case c2 => intro u hu; simp at hu; subst hu; rfl
    case c3 => unfold maxLen; omega
    case c4 => omega
    case c5 => have := hB.size; simp; omega
    ·
     intro v' w3 hown' hgrow _; have hB3 : Below w.heap.size w w3 := (hB.alloc hB.size _).grown hgrow (by have := hB.size; simp; omega) (fun g hg => (hown.lt g hg).1); have hown3 : w3.ownsRow w.heap.size 9 1 v' (pre ++ [s.extract fr k]).length ((pre ++ [s.extract fr k]).map Value.string) := by simpa using hown'
     clear hown' hgrow hown hB; go_wp2
     go_roundw
     case rel => exact ⟨k + 1, k + 1, pre ++ [s.extract fr k], by omega, by go_num, by go_num, Nat.le_refl _, by rw [List.length_append, List.length_singleton]; omega, hown3, hB3, fun h => by omega, fun _ => HC2.out⟩
     case measure => simp [intOf]; omega
   ·
    have HD2 : Hid (pre = cut c s) := HD.out (by omega); clear HC HD; go_wp2
    go_ret
    exact ⟨_, rfl, by rw [← HD2.out]; exact hown, hB⟩
theorem l10Cut_slash (s : ByteArray) (hs : s.size ≤ 16777216) (w : World) :
  Calls Tryd.prog 66 #[.string s, .int .u8 47] w fun e w' => ∃ v, e = .returned v ∧ w'.ownsRow w.heap.size 9 1 v (cut 47 s).length ((cut 47 s).map Value.string) ∧ Below w.heap.size w w' :=
 l10Cut_any s 47 hs w
set_option maxHeartbeats 400000 in
set_option maxRecDepth 100000 in
theorem l1Names_any (s : ByteArray) (hs : s.size ≤ 16777216) (w : World) :
  Calls Tryd.prog 50 #[.string s] w fun e w' => ∃ v, e = .returned v ∧ w'.ownsRow w.heap.size 9 1 v (namesS s).length ((namesS s).map Value.string) ∧ Below w.heap.size w w' := by
 by_cases h2 : s.size < 2
 ·
  have e : namesS s = [] := by unfold namesS; rw [if_pos (.inl h2)]
  rw [e]; go_enter Tryd.func50, Tryd.ntmps50
  go_wp2
  go_ret
  exact ⟨_, rfl, World.ownsRow_made w #[] 0 (Nat.le_refl _) (Nat.zero_le _) rfl, (Below.refl _ w).alloc (Nat.le_refl _) _⟩
 ·
  have h0 : 0 < s.size := by omega
  by_cases hc : s[0] = 47
  ·
   have HN : Hid (namesS s = cut 47 (s.extract 1 s.size)) := by
    show _ = _
    unfold namesS; rw [if_neg (by rw [get0 s h0, hc]; simp; omega)]
   have hcb : (s[0].toNat : Int) = 47 := by rw [hc]; rfl
   clear hc; go_enter Tryd.func50, Tryd.ntmps50
   go_wp2_with (go_at_call 66; refine (l10Cut_slash _ (by rw [ByteArray.size_extract]; omega) _).mono ?_; rintro e w' ⟨v, rfl, hown, hB⟩)
   go_ret
   exact ⟨_, rfl, by rw [HN.out]; exact hown, hB⟩
  ·
   have e : namesS s = [] := by unfold namesS; rw [if_pos (.inr (by rw [get0 s h0]; exact hc))]
   have hcb : ((s[0].toNat : Int) != 47) = true := by rw [bne_iff_ne]; intro e; exact hc (toNat_47.1 (by omega))
   rw [e]; clear hc; go_enter Tryd.func50, Tryd.ntmps50
   go_wp2
   go_ret
   exact ⟨_, rfl, World.ownsRow_made w #[] 0 (Nat.le_refl _) (Nat.zero_le _) rfl, (Below.refl _ w).alloc (Nat.le_refl _) _⟩
theorem row_form {w : World} {base : Nat} {e : TypeId} {v : Value} {xs : List ByteArray} (h : w.ownsRow base e 1 v xs.length (xs.map Value.string)) :
  ∃ (a : Option Addr) (g cap : Nat), v = .slice a xs.length cap ∧ (0 < xs.length → a = some ⟨g, 0, none⟩) ∧ ∀ j (hj : j < xs.length), w.cell? ⟨g, j, none⟩ = some (.string xs[j]) := by
 rcases h.2 with ⟨rfl, hn⟩ | ⟨g, cap, cur, rfl, _⟩
 ·
  exact ⟨none, 0, 0, by rw [hn], fun h0 => by omega, fun j hj => by omega⟩
 ·
  refine ⟨some ⟨g, 0, none⟩, g, cap, rfl, fun _ => rfl, fun j hj => ?_⟩; rw [h.cellAt j (by omega), List.getElem?_map, List.getElem?_eq_getElem hj]; rfl
theorem l1Names_form (s : ByteArray) (hs : s.size ≤ 16777216) (w : World) :
  Calls Tryd.prog 50 #[.string s] w fun e w' => ∃ (a : Option Addr) (g cap : Nat), e = .returned (.slice a (namesS s).length cap) ∧ (0 < (namesS s).length → a = some ⟨g, 0, none⟩) ∧
   (∀ j (hj : j < (namesS s).length), w'.cell? ⟨g, j, none⟩ = some (.string (namesS s)[j])) ∧ Below w.heap.size w w' :=
 (l1Names_any s hs w).mono fun e w' ⟨v, he, hown, hB⟩ => by
  obtain ⟨a, g, cap, hv, h1, h2⟩ := row_form hown; exact ⟨a, g, cap, by rw [he, hv], h1, h2, hB⟩
set_option maxHeartbeats 400000 in
set_option maxRecDepth 100000 in
theorem sPathOk_any (s : ByteArray) (w : World) (hm : s.size ≤ 4611686018427387904) :
  Calls Tryd.prog 27 #[.string s] w fun e w' => e = .returned (.bool (specOk s)) ∧ Below w.heap.size w w' := by
 by_cases h12 : s.size ≤ 12
 ·
  have HO : Hid (specOk s = ((namesS s).all nameB && decide (1 ≤ (namesS s).length ∧ (namesS s).length ≤ 3))) := by
   show _ = _
   unfold specOk; rw [decide_eq_true h12, Bool.true_and]
  have HL : Hid ((namesS s).length ≤ 16777216) := by
   show _ ≤ _
   have := namesS_length s; omega
  have HZ : Hid (∀ x ∈ namesS s, x.size ≤ s.size) := namesS_size s; have HF : Hid (∀ w', Calls Tryd.prog 50 #[.string s] w' _) := fun w' => l1Names_form s (by omega) w'; obtain ⟨ns, hns⟩ : ∃ ns, namesS s = ns := ⟨_, rfl⟩
  rw [hns] at HO HL HZ HF; clear hns; have hl := HL.out; go_enter Tryd.func27, Tryd.ntmps27
  go_wp2_with (go_at_call 50; refine (HF.out _).mono ?_; rintro e w1 ⟨a, g, cap, rfl, ha, hcell, hB⟩)
  have HCL := hid' hcell; clear hcell
  go_loop [4] (fun i => ∃ k : Nat, k ≤ ns.length ∧ i = .int .i64 k ∧ Hid ((ns.take k).all nameB = true)) (fun i => ns.length - (intOf i).toNat)
  case atStart => exact ⟨0, Nat.zero_le _, rfl, rfl⟩
  case round =>
   obtain ⟨k, hk, rfl, HA⟩ := hrel; by_cases hlt : k < ns.length
   ·
    have e := ha (by omega); subst e; clear ha; have hc := HCL.out k hlt; have hz : ns[k].size ≤ s.size := HZ.out _ (List.getElem_mem _)
    have HT : Hid ((ns.take (k + 1)).all nameB = ((ns.take k).all nameB && nameB ns[k])) := by
     show _ = _
     rw [List.take_succ_eq_append_getElem hlt, List.all_append]; simp
    have HM : Hid (ns[k] ∈ ns) := List.getElem_mem _; obtain ⟨x, hx⟩ : ∃ x, ns[k] = x := ⟨_, rfl⟩
    rw [hx] at hc hz HT HM; clear hx; cases hn : nameB x with
    | true =>
     go_wp2_with (go_at_call 51; refine (l1Name_any _ (by omega) _).mono ?_; rintro e w2 ⟨rfl, rfl⟩)
     go_round
     case rel => exact ⟨k + 1, by omega, by go_num, by show _ = _; rw [HT.out, HA.out, hn]; rfl⟩
     case measure => simp [intOf]; omega
    | false =>
     go_wp2_with (go_at_call 51; refine (l1Name_any _ (by omega) _).mono ?_; rintro e w2 ⟨rfl, rfl⟩)
     go_ret
     have HAll : ns.all nameB = false := by
      rw [List.all_eq_false]; exact ⟨x, HM.out, by rw [hn]; decide⟩
     exact ⟨ret_bool' (by rw [HO.out, HAll]; rfl), hB⟩
   ·
    have HAll : Hid (ns.all nameB = true) := by
     have := HA.out; rw [List.take_of_length_le (by omega)] at this; exact this
    clear HA HCL; by_cases h1 : 1 ≤ ns.length
    ·
     by_cases h3 : ns.length ≤ 3
     ·
      go_wp2
      go_ret
      exact ⟨ret_bool' (by rw [HO.out, HAll.out, decide_eq_true (p := 1 ≤ ns.length ∧ ns.length ≤ 3) ⟨h1, h3⟩, decide_eq_true (by omega)]; rfl), hB⟩
     ·
      go_wp2
      go_ret
      exact ⟨ret_bool' (by rw [HO.out, HAll.out, decide_eq_false (p := 1 ≤ ns.length ∧ ns.length ≤ 3) (by omega), decide_eq_false (by omega)]; rfl), hB⟩
    ·
     go_wp2
     go_ret
     exact ⟨ret_bool' (by rw [HO.out, HAll.out, decide_eq_false (p := 1 ≤ ns.length ∧ ns.length ≤ 3) (by omega)]; rfl), hB⟩
 ·
  go_enter Tryd.func27, Tryd.ntmps27
  go_wp2
  go_ret
  exact ⟨ret_bool' (by unfold specOk; rw [decide_eq_false h12]; rfl), Below.refl _ _⟩
theorem ret_int' {k : IntKind} {a b : Int} (h : a = b) : Ending.returned (.int k a) = .returned (.int k b) := by rw [h]
theorem ret_str' {a b : ByteArray} (h : a = b) : Ending.returned (.string a) = .returned (.string b) := by rw [h]
theorem ret_two' {a b : ByteArray} {c d : Bool} (h : a = b) (k : c = d) : Ending.returned (.tuple #[.string a, .bool c]) = .returned (.tuple #[.string b, .bool d]) := by rw [h, k]
theorem sOk_any (s : ByteArray) (hm : s.size ≤ 67108864) (w : World) :
  Calls Tryd.prog 27 #[.string s] w fun e w' => e = .returned (.bool (pathB s)) ∧ Below w.heap.size w w' := by
 rw [← specOk_eq]; exact sPathOk_any s w (by omega)
set_option maxHeartbeats 400000 in
set_option maxRecDepth 100000 in
theorem l1Slash_any (s : ByteArray) (h1 : 1 ≤ s.size) (hs : s.size ≤ 16777216) (w : World) :
  Calls Tryd.prog 53 #[.string s] w fun e w' => e = .returned (.int .i64 (slashF s (s.size - 1) : Nat)) ∧ w' = w := by
 go_enter Tryd.func53, Tryd.ntmps53
 go_wp2
 go_loop [3] (fun i => ∃ k : Nat, k < s.size ∧ i = .int .i64 k ∧ Hid (slashF s k = slashF s (s.size - 1))) (fun i => (intOf i).toNat)
 case atStart => exact ⟨s.size - 1, by omega, by congr 1; omega, rfl⟩
 case round =>
  obtain ⟨k, hk, rfl, HA⟩ := hrel; by_cases h0 : 0 < k
  ·
   obtain ⟨m, rfl⟩ : ∃ m, k = m + 1 := ⟨k - 1, by omega⟩
   by_cases hc : s[m + 1] = 47
   ·
    have hcb : ((s[m + 1].toNat : Int) != 47) = false := by rw [hc]; rfl
    have HE : Hid (slashF s (m + 1) = m + 1) := by
     show _ = _; unfold slashF; rw [if_pos (by rw [get_plus s (m + 1) hk]; exact hc)]
    clear hc; go_wp2
    go_ret
    exact ⟨ret_int' (by rw [← HA.out, HE.out]; omega), rfl⟩
   ·
    have hcb : ((s[m + 1].toNat : Int) != 47) = true := by rw [bne_iff_ne]; intro e; exact hc (toNat_47.1 (by omega))
    have HE : Hid (slashF s (m + 1) = slashF s m) := by
     show _ = _; rw [slashF, if_neg (by rw [get_plus s (m + 1) hk]; exact hc)]
    clear hc; go_wp2
    go_round
    case rel => exact ⟨m, by omega, by go_num, by show _ = _; rw [← HE.out]; exact HA.out⟩
    case measure => simp [intOf]
  ·
   obtain rfl : k = 0 := by omega
   go_wp2
   go_ret
   exact ⟨ret_int' (by rw [← HA.out]; rfl), rfl⟩
set_option maxHeartbeats 400000 in
theorem sPathUp_any (s : ByteArray) (hs : s.size ≤ 16777216) (w : World) :
  Calls Tryd.prog 30 #[.string s] w fun e w' => e = .returned (.string (upS s)) ∧ Below w.heap.size w w' := by
 cases hb : pathB s with
 | true =>
  have hh := (pathB_head s hb).1; have hle := slashF_le s (s.size - 1); have HL : Hid (lastS s = (slashF s (s.size - 1) : Nat)) := lastS_slash s hb; have HZ : Hid (∀ W : World, Calls Tryd.prog 53 #[.string s] W _) := fun W => l1Slash_any s (by omega) hs W; obtain ⟨k, hk⟩ : ∃ k, slashF s (s.size - 1) = k := ⟨_, rfl⟩
  rw [hk] at hle HL HZ; clear hk; by_cases h0 : k = 0
  ·
   subst h0; go_enter Tryd.func30, Tryd.ntmps30
   go_wp2_with (first | (go_at_call 27; refine (sOk_any _ (by omega) _).mono ?_; rintro e w1 ⟨rfl, hB1⟩) | (go_at_call 53; refine (HZ.out _).mono ?_; rintro e w2 ⟨rfl, rfl⟩))
   go_ret
   exact ⟨ret_str' (by unfold upS; rw [hb, if_pos rfl, HL.out]; rfl), hB1⟩
  ·
   have h0' : ((k : Int) == 0) = false := by rw [beq_eq_false_iff_ne]; omega
   go_enter Tryd.func30, Tryd.ntmps30
   go_wp2_with (first | (go_at_call 27; refine (sOk_any _ (by omega) _).mono ?_; rintro e w1 ⟨rfl, hB1⟩) | (go_at_call 53; refine (HZ.out _).mono ?_; rintro e w2 ⟨rfl, rfl⟩))
   go_ret
   exact ⟨ret_str' (by unfold upS; rw [hb, if_pos rfl, HL.out, if_neg (by omega)]; rfl), hB1⟩
 | false =>
  go_enter Tryd.func30, Tryd.ntmps30
  go_wp2_with (first | (go_at_call 27; refine (sOk_any _ (by omega) _).mono ?_; rintro e w1 ⟨rfl, hB1⟩))
  go_ret
  exact ⟨ret_str' (by unfold upS; rw [hb]; rfl), hB1⟩
set_option maxHeartbeats 400000 in
theorem sPathName_any (s : ByteArray) (hs : s.size ≤ 16777216) (w : World) :
  Calls Tryd.prog 91 #[.string s] w fun e w' => e = .returned (.string (nmS s)) ∧ Below w.heap.size w w' := by
 cases hb : pathB s with
 | true =>
  have hh := (pathB_head s hb).1; have hle := slashF_le s (s.size - 1); have HL : Hid (lastS s = (slashF s (s.size - 1) : Nat)) := lastS_slash s hb; have HZ : Hid (∀ W : World, Calls Tryd.prog 53 #[.string s] W _) := fun W => l1Slash_any s (by omega) hs W; obtain ⟨k, hk⟩ : ∃ k, slashF s (s.size - 1) = k := ⟨_, rfl⟩
  rw [hk] at hle HL HZ; clear hk; go_enter Tryd.func91, Tryd.ntmps91
  go_wp2_with (first | (go_at_call 27; refine (sOk_any _ (by omega) _).mono ?_; rintro e w1 ⟨rfl, hB1⟩) | (go_at_call 53; refine (HZ.out _).mono ?_; rintro e w2 ⟨rfl, rfl⟩))
  go_ret
  exact ⟨ret_str' (by unfold nmS; rw [hb, if_pos rfl, HL.out]; rfl), hB1⟩
 | false =>
  go_enter Tryd.func91, Tryd.ntmps91
  go_wp2_with (first | (go_at_call 27; refine (sOk_any _ (by omega) _).mono ?_; rintro e w1 ⟨rfl, hB1⟩))
  go_ret
  exact ⟨ret_str' (by unfold nmS; rw [hb]; rfl), hB1⟩
set_option maxHeartbeats 400000 in
theorem l1Under_any (s d : ByteArray) (_hs : s.size ≤ 16777216) (hd : d.size ≤ 16777216) (w : World) :
  Calls Tryd.prog 88 #[.string s, .string d] w fun e w' => e = .returned (.bool (underL s d)) ∧ w' = w := by
 cases hr : (d.toList == [47]) with
 | true =>
  go_enter Tryd.func88, Tryd.ntmps88
  go_wp2
  go_ret
  exact ⟨ret_bool' (by unfold underL isRoot; rw [hr]; rfl), rfl⟩
 | false =>
  by_cases hlt : d.size < s.size
  ·
   cases hp : ((s.extract 0 d.size).toList == d.toList) with
   | true =>
    go_enter Tryd.func88, Tryd.ntmps88
    go_wp2
    go_ret
    exact ⟨ret_bool' (by unfold underL isRoot; rw [hr, if_neg (by decide), decide_eq_true hlt, hp, get_plus s d.size hlt]; exact (byte_eq _).symm), rfl⟩
   | false =>
    go_enter Tryd.func88, Tryd.ntmps88
    go_wp2
    go_ret
    exact ⟨ret_bool' (by unfold underL isRoot; rw [hr, if_neg (by decide), decide_eq_true hlt, hp]; rfl), rfl⟩
  ·
   go_enter Tryd.func88, Tryd.ntmps88
   go_wp2
   go_ret
   exact ⟨ret_bool' (by unfold underL isRoot; rw [hr, if_neg (by decide), decide_eq_false hlt]; rfl), rfl⟩
theorem hit_eq {s f : ByteArray} (h : (s.toList == f.toList) = true) : movHit s f = true := by unfold movHit; rw [h]; rfl
theorem hit_pre {s f : ByteArray} {b : Bool} (h : (s.toList == f.toList) = false) (k : preB s (f ++ ⟨#[47]⟩) = b) : movHit s f = b := by unfold movHit; rw [h, k]; rfl
theorem size_of_eq {s f : ByteArray} (h : (s.toList == f.toList) = true) : s.size = f.size := by
 rw [toList_inj (beq_iff_eq.1 h)]
theorem movAll_of {s f t : ByteArray} {a b c : Bool} (h1 : pathB s = a) (h2 : pathB f = b) (h3 : pathB t = c) : movAll s f t = ((a && b) && c) := by unfold movAll; rw [h1, h2, h3]
set_option maxHeartbeats 400000 in
theorem sMove_bad (s f t : ByteArray) (hs : s.size ≤ 16777216) (hf : f.size ≤ 16777216) (ht : t.size ≤ 16777216) (w : World) (ha : movAll s f t = false) :
  Calls Tryd.prog 89 #[.string s, .string f, .string t] w fun e w' => e = .returned (.tuple #[.string (movS s f t), .bool (movOk s f t)]) ∧ Below w.heap.size w w' := by
 rw [movS_bad ha, movOk_bad ha]; cases h1 : pathB s with
 | false =>
  clear ha; go_enter Tryd.func89, Tryd.ntmps89
  go_wp2_with fail
  refine (sOk_any s (by omega) _).mono ?_; rintro e w1 ⟨rfl, hB1⟩; go_wp2
  go_ret2
  exact ⟨rfl, hB1⟩
 | true =>
  cases h2 : pathB f with
  | false =>
   clear ha; go_enter Tryd.func89, Tryd.ntmps89
   go_wp2_with fail
   refine (sOk_any s (by omega) _).mono ?_; rintro e w1 ⟨rfl, hB1⟩; go_wp2_with fail
   refine (sOk_any f (by omega) _).mono ?_; rintro e w2 ⟨rfl, hB2⟩; go_wp2
   go_ret2
   exact ⟨rfl, hB1.trans (hB2.mono hB1.size)⟩
  | true =>
   have h3 : pathB t = false := by unfold movAll at ha; rw [h1, h2] at ha; exact ha
   clear ha; go_enter Tryd.func89, Tryd.ntmps89
   go_wp2_with fail
   refine (sOk_any s (by omega) _).mono ?_; rintro e w1 ⟨rfl, hB1⟩; go_wp2_with fail
   refine (sOk_any f (by omega) _).mono ?_; rintro e w2 ⟨rfl, hB2⟩; go_wp2_with fail
   refine (sOk_any t (by omega) _).mono ?_; rintro e w3 ⟨rfl, hB3⟩; go_wp2
   go_ret2
   exact ⟨rfl, (hB1.trans (hB2.mono hB1.size)).trans (hB3.mono (Nat.le_trans hB1.size hB2.size))⟩
theorem ifS_yes {x : ByteArray} (h : pathB x = true) : ifS x = x := by unfold ifS; rw [h, if_pos rfl]
theorem ifS_no {x : ByteArray} (h : pathB x = false) : ifS x = ⟨#[]⟩ := by unfold ifS; rw [h]; rfl
set_option maxHeartbeats 800000 in
theorem sMove_good (s f t : ByteArray) (hs : s.size ≤ 16777216) (hf : f.size ≤ 16777216) (ht : t.size ≤ 16777216) (w : World) (h1 : pathB s = true) (h2 : pathB f = true) (h3 : pathB t = true) :
  Calls Tryd.prog 89 #[.string s, .string f, .string t] w fun e w' => e = .returned (.tuple #[.string (movS s f t), .bool (movOk s f t)]) ∧ Below w.heap.size w w' := by
 have HA := hid' (movAll_of h1 h2 h3)
 have hz : (t ++ s.extract f.size s.size : ByteArray).size ≤ 67108864 := by
  rw [ByteArray.size_append, ByteArray.size_extract]; omega
 cases h4 : (s.toList == f.toList) with
 | true =>
  have hn : s.toList = f.toList := beq_iff_eq.1 h4; have hfz := size_of_eq h4; have HS := hid' (movS_go (t := t) HA.out (hit_eq h4)); have HO := hid' (movOk_go (t := t) HA.out (hit_eq h4)); have hle : f.size ≤ s.size := by omega
  clear hfz; cases h6 : pathB (t ++ s.extract f.size s.size) with
  | true =>
   go_enter Tryd.func89, Tryd.ntmps89
   go_wp2_with fail
   refine (sOk_any s (by omega) _).mono ?_; rintro e w1 ⟨rfl, hB1⟩; go_wp2_with fail
   refine (sOk_any f (by omega) _).mono ?_; rintro e w2 ⟨rfl, hB2⟩; go_wp2_with fail
   refine (sOk_any t (by omega) _).mono ?_; rintro e w3 ⟨rfl, hB3⟩; go_wp2_with fail
   refine (sOk_any _ hz _).mono ?_; rintro e w4 ⟨rfl, hB4⟩; go_wp2
   go_ret2
   exact ⟨ret_two' (by rw [HS.out]; exact (ifS_yes h6).symm) (by rw [HO.out]; exact h6.symm), ((hB1.trans (hB2.mono hB1.size)).trans (hB3.mono (Nat.le_trans hB1.size hB2.size))).trans (hB4.mono (Nat.le_trans hB1.size (Nat.le_trans hB2.size hB3.size)))⟩
  | false =>
   go_enter Tryd.func89, Tryd.ntmps89
   go_wp2_with fail
   refine (sOk_any s (by omega) _).mono ?_; rintro e w1 ⟨rfl, hB1⟩; go_wp2_with fail
   refine (sOk_any f (by omega) _).mono ?_; rintro e w2 ⟨rfl, hB2⟩; go_wp2_with fail
   refine (sOk_any t (by omega) _).mono ?_; rintro e w3 ⟨rfl, hB3⟩; go_wp2_with fail
   refine (sOk_any _ hz _).mono ?_; rintro e w4 ⟨rfl, hB4⟩; go_wp2
   go_ret2
   exact ⟨ret_two' (by rw [HS.out]; exact (ifS_no h6).symm) (by rw [HO.out]; exact h6.symm), ((hB1.trans (hB2.mono hB1.size)).trans (hB3.mono (Nat.le_trans hB1.size hB2.size))).trans (hB4.mono (Nat.le_trans hB1.size (Nat.le_trans hB2.size hB3.size)))⟩
 | false =>
  have hn : ¬ s.toList = f.toList := fun e => by rw [e, beq_self_eq_true] at h4; cases h4
  have hu := underL_path s h2; cases h5 : preB s (f ++ ⟨#[47]⟩) with
  | true =>
   rw [h5] at hu; have hle := preB_stroke_size h5; have HS := hid' (movS_go (t := t) HA.out (hit_pre h4 h5)); have HO := hid' (movOk_go (t := t) HA.out (hit_pre h4 h5)); clear h5; cases h6 : pathB (t ++ s.extract f.size s.size) with
   | true =>
    go_enter Tryd.func89, Tryd.ntmps89
    go_wp2_with fail
    refine (sOk_any s (by omega) _).mono ?_; rintro e w1 ⟨rfl, hB1⟩; go_wp2_with fail
    refine (sOk_any f (by omega) _).mono ?_; rintro e w2 ⟨rfl, hB2⟩; go_wp2_with fail
    refine (sOk_any t (by omega) _).mono ?_; rintro e w3 ⟨rfl, hB3⟩; go_wp2_with fail
    refine (l1Under_any s f hs hf _).mono ?_; rintro e w5 ⟨rfl, rfl⟩; go_wp2_with fail
    refine (sOk_any _ hz _).mono ?_; rintro e w4 ⟨rfl, hB4⟩; go_wp2
    go_ret2
    exact ⟨ret_two' (by rw [HS.out]; exact (ifS_yes h6).symm) (by rw [HO.out]; exact h6.symm), ((hB1.trans (hB2.mono hB1.size)).trans (hB3.mono (Nat.le_trans hB1.size hB2.size))).trans (hB4.mono (Nat.le_trans hB1.size (Nat.le_trans hB2.size hB3.size)))⟩
   | false =>
    go_enter Tryd.func89, Tryd.ntmps89
    go_wp2_with fail
    refine (sOk_any s (by omega) _).mono ?_; rintro e w1 ⟨rfl, hB1⟩; go_wp2_with fail
    refine (sOk_any f (by omega) _).mono ?_; rintro e w2 ⟨rfl, hB2⟩; go_wp2_with fail
    refine (sOk_any t (by omega) _).mono ?_; rintro e w3 ⟨rfl, hB3⟩; go_wp2_with fail
    refine (l1Under_any s f hs hf _).mono ?_; rintro e w5 ⟨rfl, rfl⟩; go_wp2_with fail
    refine (sOk_any _ hz _).mono ?_; rintro e w4 ⟨rfl, hB4⟩; go_wp2
    go_ret2
    exact ⟨ret_two' (by rw [HS.out]; exact (ifS_no h6).symm) (by rw [HO.out]; exact h6.symm), ((hB1.trans (hB2.mono hB1.size)).trans (hB3.mono (Nat.le_trans hB1.size hB2.size))).trans (hB4.mono (Nat.le_trans hB1.size (Nat.le_trans hB2.size hB3.size)))⟩
  | false =>
   rw [h5] at hu; have HS := hid' (movS_stay (t := t) HA.out (hit_pre h4 h5)); have HO := hid' (movOk_stay (t := t) HA.out (hit_pre h4 h5)); clear h5; go_enter Tryd.func89, Tryd.ntmps89
   go_wp2_with fail
   refine (sOk_any s (by omega) _).mono ?_; rintro e w1 ⟨rfl, hB1⟩; go_wp2_with fail
   refine (sOk_any f (by omega) _).mono ?_; rintro e w2 ⟨rfl, hB2⟩; go_wp2_with fail
   refine (sOk_any t (by omega) _).mono ?_; rintro e w3 ⟨rfl, hB3⟩; go_wp2_with fail
   refine (l1Under_any s f hs hf _).mono ?_; rintro e w5 ⟨rfl, rfl⟩; go_wp2
   go_ret2
   exact ⟨ret_two' HS.out.symm HO.out.symm, (hB1.trans (hB2.mono hB1.size)).trans (hB3.mono (Nat.le_trans hB1.size hB2.size))⟩
theorem sPathMove_any (s f t : ByteArray) (hs : s.size ≤ 16777216) (hf : f.size ≤ 16777216) (ht : t.size ≤ 16777216) (w : World) :
  Calls Tryd.prog 89 #[.string s, .string f, .string t] w fun e w' => e = .returned (.tuple #[.string (movS s f t), .bool (movOk s f t)]) ∧ Below w.heap.size w w' := by
 cases ha : movAll s f t with
 | false => exact sMove_bad s f t hs hf ht w ha
 | true =>
  have hb := ha; unfold movAll at hb; simp only [Bool.and_eq_true] at hb; exact sMove_good s f t hs hf ht w hb.1.1 hb.1.2 hb.2
end Go.Proofs.YtoaipphccjkphaaDoor
