/-
  The walks of what the exact laws do with lists of strings.
-/
import Derived.Test.YteedhlljcfojfaaDoorHLawMarks
import Derived.Test.YteedhlljcfojfaaDoorHLawCMark
namespace Go.Proofs.YteedhlljcfojfaaDoor
open Go.RowKit Go.Lib Go.Sort

/-- The strings lie in the block g, from the cell o on. -/
def Strs (w : World) (g o : Nat) (ss : List ByteArray) : Prop := ∀ i (h : i < ss.length), w.cell? ⟨g, o + i, none⟩ = some (.string ss[i])
theorem Strs.below {w w' : World} {g o : Nat} {ss : List ByteArray} (h : Strs w g o ss) (hb : RowKit.Below w.heap.size w w') : Strs w' g o ss := fun i hi =>
  (hb.cell (p := ⟨g, o + i, none⟩) (World.block_lt_of_cell? w ⟨g, o + i, none⟩ (h i hi))).trans (h i hi)
def sameSS : List ByteArray → List ByteArray → Bool
  | [], [] => true
  | e :: r, f :: q => (e.toList == f.toList) && sameSS r q
  | _, _ => false
theorem sameSS_drop (es fs : List ByteArray) (k : Nat) (h : k < es.length) (h2 : k < fs.length) : sameSS (es.drop k) (fs.drop k) = ((es[k].toList == fs[k].toList) && sameSS (es.drop (k + 1)) (fs.drop (k + 1))) := by
  rw [List.drop_eq_getElem_cons h, List.drop_eq_getElem_cons h2]; rfl
theorem sameSS_len : ∀ (es fs : List ByteArray), es.length ≠ fs.length → sameSS es fs = false
  | [], [], h => absurd rfl h
  | [], _ :: _, _ => rfl
  | _ :: _, [], _ => rfl
  | e :: r, f :: q, h => by
    unfold sameSS
    rw [sameSS_len r q (fun e => h (by simp [e])), Bool.and_false]
theorem sameSS_refl : ∀ es : List ByteArray, sameSS es es = true
  | [] => rfl
  | e :: r => by unfold sameSS; rw [sameSS_refl r]; simp
theorem below_drewL {B : Nat} {a w : World} (h : RowKit.Below B a w) (n : Nat) : RowKit.Below B a (w.drewN n) := h.trans ⟨rfl, rfl, rfl, Nat.le_refl _, fun _ _ => rfl⟩

set_option maxHeartbeats 800000 in
set_option maxRecDepth 100000 in
theorem eqStringS_any (w : World) (a a' : Option Addr) (g o cap g' o' cap' : Nat) (es fs : List ByteArray) (hl : es.length ≤ 16777216) (_hl' : fs.length ≤ 16777216) (ha : 0 < es.length → a = some ⟨g, o, none⟩) (ha' : 0 < fs.length → a' = some ⟨g', o', none⟩) (hE : Strs w g o es) (hF : Strs w g' o' fs) :
    Calls Tryd.prog 9 #[.slice a es.length cap, .slice a' fs.length cap'] w fun e w' => e = .returned (.bool (sameSS es fs)) ∧ RowKit.Below w.heap.size w w' := by
  have HE := hidE hE
  have HF := hidE hF
  clear hE hF
  by_cases hn : es.length = fs.length
  · have hb : ((es.length : Int) != (fs.length : Int)) = false := by rw [hn]; simp
    have hle : fs.length ≤ es.length := by omega
    have hge : es.length ≤ fs.length := by omega
    clear hn
    go_enter Tryd.func9, Tryd.ntmps9
    go_wp2
    go_loopw [5] (fun iv wl => ∃ k : Nat, k ≤ es.length ∧ iv = .int .i64 k ∧ Hid (RowKit.Below w.heap.size w wl) ∧ Hid (sameSS es fs = sameSS (es.drop k) (fs.drop k))) (fun iv _ => es.length - (RowKit.intOf iv).toNat)
    case atStart => exact ⟨0, Nat.zero_le _, rfl, RowKit.Below.refl _ _, rfl⟩
    case round =>
      obtain ⟨k, hk, rfl, HB, HS⟩ := hrel
      by_cases hlt : k < es.length
      · have hlt' : k < fs.length := by omega
        obtain rfl := ha (by omega)
        obtain rfl := ha' (by omega)
        have c0 := (HE.out.below HB.out) k hlt
        have c1 := (HF.out.below HB.out) k hlt'
        have HD := hidE (sameSS_drop es fs k hlt hlt')
        cases h1 : (es[k].toList == fs[k].toList) with
        | true =>
          have h2 : es[k].toList = fs[k].toList := by simpa using h1
          have HN : Hid (sameSS es fs = sameSS (es.drop (k + 1)) (fs.drop (k + 1))) := by show _ = _; rw [HS.out, HD.out, h1, Bool.true_and]
          go_wp2
          go_quiet (fail)
          go_wp2
          go_roundw
          case rel => exact ⟨k + 1, by omega, by go_num, below_drewL HB.out _, HN⟩
          case measure => simp [RowKit.intOf]; omega
        | false =>
          have h2 : ¬ (es[k].toList = fs[k].toList) := by simpa using h1
          have HN : Hid (sameSS es fs = false) := by show _ = _; rw [HS.out, HD.out, h1, Bool.false_and]
          go_wp2
          go_quiet (fail)
          go_wp2
          go_ret
          exact ⟨ret_bE HN.out.symm, below_drewL HB.out _⟩
      · go_wp2
        go_ret
        exact ⟨ret_bE (by rw [HS.out, List.drop_of_length_le (by omega), List.drop_of_length_le (by omega)]; rfl), HB.out⟩
  · have hn2 : ((es.length : Int) == (fs.length : Int)) = false := by rw [beq_eq_false_iff_ne]; omega
    go_enter Tryd.func9, Tryd.ntmps9
    go_wp2
    go_ret
    exact ⟨ret_bE (sameSS_len es fs hn).symm, RowKit.Below.refl _ _⟩

/-- The marks of strings, from the number k on. -/
def markSs (n k : Nat) : List ByteArray := (List.range n).map (fun i => markS (k + i))
theorem markSs_len (n k : Nat) : (markSs n k).length = n := by unfold markSs; simp
theorem markSs_succ (n k : Nat) : markSs (n + 1) k = markSs n k ++ [markS (k + n)] := by unfold markSs; rw [List.range_succ, List.map_append]; rfl
theorem markSs_at (n k i : Nat) (h : i < (markSs n k).length) : (markSs n k)[i] = markS (k + i) :=
  (List.getElem_map (fun i => markS (k + i)) ..).trans (by rw [List.getElem_range])
theorem strs_set {w : World} {g : Nat} {es : List ByteArray} (h : Strs w g 0 es) (i : Nat) (hi : es.length ≤ i) (v : Value) : Strs (w.setCell ⟨g, i, none⟩ v) g 0 es := by
  intro j hj
  exact (cell_ne w g i _ v (by omega)).trans (h j hj)
theorem strs_snoc {w : World} {g : Nat} {es : List ByteArray} {e : ByteArray} (h : Strs w g 0 es) (c0 : w.cell? ⟨g, es.length, none⟩ = some (.string e)) : Strs w g 0 (es ++ [e]) := by
  intro j hj
  by_cases hlt : j < es.length
  · rw [List.getElem_append_left hlt]; exact h j hlt
  · have : j = es.length := by simp at hj; omega
    subst this
    simp only [Nat.zero_add]
    rw [List.getElem_append_right (Nat.le_refl _)]
    simpa using c0

set_option maxHeartbeats 1600000 in
set_option maxRecDepth 100000 in
theorem markStringS_any (w : World) (a : Option Addr) (g cap n k : Nat) (hn : n ≤ 1048576) (hk : 0 < k) (hk' : k ≤ 1048576) (ha : 0 < n → a = some ⟨g, 0, none⟩) (hR : Room w g n) :
    Calls Tryd.prog 12 #[.slice a n cap, .int .i64 k] w fun r w' => r = .returned (.int .i64 ((k + n : Nat) : Int)) ∧ Strs w' g 0 (markSs n k) ∧ Room w' g n ∧ But g w w' := by
  go_enter Tryd.func12, Tryd.ntmps12
  go_wp2
  have HR := hidE hR
  clear hR
  go_loopw [1, 5] (fun kv iv wl => ∃ j : Nat, j ≤ n ∧ iv = .int .i64 j ∧ kv = .int .i64 ((k + j : Nat) : Int) ∧ Hid (Strs wl g 0 (markSs j k)) ∧ Hid (Room wl g n) ∧ Hid (But g w wl)) (fun _ iv _ => n - (RowKit.intOf iv).toNat)
  case atStart => exact ⟨0, Nat.zero_le _, rfl, rfl, fun i hi => absurd hi (by simp [markSs]), HR, But.refl _ _⟩
  case round =>
    clear HR
    obtain ⟨j, hj, rfl, rfl, HM, HR, HB⟩ := hrel
    obtain ⟨m, hm⟩ : ∃ m, k + j = m := ⟨_, rfl⟩
    have hm0 : 0 < m := by omega
    have hm1 : m ≤ 4194304 := by omega
    have HMm := hidE hm
    rw [hm]
    clear hm
    by_cases hlt : j < n
    · obtain rfl := ha (by omega)
      obtain ⟨⟨v0, e0⟩, f0⟩ := HR.out j (by omega)
      go_wp2_with fail
      refine (markText_any m hm0 (by omega) _).mono ?_
      rintro e w1 ⟨rfl, hB1⟩
      clear e0 f0
      have HR1 := hidE (HR.out.below hB1)
      obtain ⟨⟨v0, e0⟩, f0⟩ := HR1.out j (by omega)
      have HM3 : Hid (Strs (w1.setCell ⟨g, j, none⟩ (.string (markS m))) g 0 (markSs (j + 1) k)) := by
        rw [markSs_succ, HMm.out]
        have hl := markSs_len j k
        refine strs_snoc (strs_set (HM.out.below hB1) _ (by rw [hl]; omega) _) ?_
        rw [hl]; exact cell_eq _ e0
      have HR4 := hidE (HR1.out.set g j (.string (markS m)))
      have HB4 := hidE (HB.out.trans ((But.of_below hB1).trans (But.set g w1 j (.string (markS m)))))
      clear hB1 HM HR HB HR1
      go_wp2
      go_roundw
      case rel => exact ⟨j + 1, by omega, by go_num, by have := HMm.out; congr 1; omega, HM3, HR4, HB4⟩
      case measure => simp [RowKit.intOf]; omega
    · go_wp2
      go_ret
      have hjn : j = n := by omega
      subst hjn
      exact ⟨ret_iE (by rw [HMm.out]), HM.out, HR.out, HB.out⟩

set_option maxHeartbeats 1600000 in
set_option maxRecDepth 100000 in
theorem heldStringS_any (w : World) (a : Option Addr) (g cap n k : Nat) (hn : n ≤ 1048576) (hk : 0 < k) (hk' : k ≤ 1048576) (ha : 0 < n → a = some ⟨g, 0, none⟩) (hM : Strs w g 0 (markSs n k)) :
    Calls Tryd.prog 13 #[.slice a n cap, .int .i64 k] w fun r w' => r = .returned (.int .i64 ((k + n : Nat) : Int)) ∧ RowKit.Below w.heap.size w w' := by
  have HM := hidE hM
  clear hM
  go_enter Tryd.func13, Tryd.ntmps13
  go_wp2
  go_loopw [1, 5] (fun kv iv wl => ∃ j : Nat, j ≤ n ∧ iv = .int .i64 j ∧ kv = .int .i64 ((k + j : Nat) : Int) ∧ Hid (RowKit.Below w.heap.size w wl)) (fun _ iv _ => n - (RowKit.intOf iv).toNat)
  case atStart => exact ⟨0, Nat.zero_le _, rfl, rfl, RowKit.Below.refl _ _⟩
  case round =>
    obtain ⟨j, hj, rfl, rfl, HB⟩ := hrel
    obtain ⟨m, hm⟩ : ∃ m, k + j = m := ⟨_, rfl⟩
    have hm0 : 0 < m := by omega
    have hm1 : m ≤ 4194304 := by omega
    have HMm := hidE hm
    rw [hm]
    clear hm
    by_cases hlt : j < n
    · obtain rfl := ha (by omega)
      have hjl : j < (markSs n k).length := by rw [markSs_len]; exact hlt
      have c0 := (HM.out.below HB.out) j hjl
      rw [markSs_at, HMm.out] at c0
      simp only [Nat.zero_add] at c0
      have k0 := cell_regrown c0
      clear c0
      have a1 := cMark wr m m rfl hm0 (by omega)
      go_wp2
      refine wp_region_quiet_below (by kernel_rfl) (by kernel_rfl) ?_
      repeat (go_big_quiet_step (first | exact a1 _ _))
      refine wpQuiet_nil ?_
      intro _ hw'
      obtain ⟨⟨dq, osq⟩, hw''⟩ := hw'
      subst hw''
      have HB1 := hidE (HB.out.trans ((below_regrown wr dq osq).mono HB.out.size))
      clear HB k0 a1
      go_wp2
      go_roundw
      case rel => exact ⟨j + 1, by omega, by go_num, by have := HMm.out; congr 1; omega, HB1⟩
      case measure => simp [RowKit.intOf]; omega
    · go_wp2
      go_ret
      have hjn : j = n := by omega
      subst hjn
      exact ⟨ret_iE (by rw [HMm.out]), HB.out⟩
end Go.Proofs.YteedhlljcfojfaaDoor
