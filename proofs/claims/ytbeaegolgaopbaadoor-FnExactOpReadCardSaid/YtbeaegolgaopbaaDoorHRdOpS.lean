/-
  The walks of the model's reader of what is done.
-/
import Derived.Test.YtbeaegolgaopbaaDoorHRdOpP
import Derived.Test.YtbeaegolgaopbaaDoorHSpec
import Derived.Test.YtbeaegolgaopbaaDoorHTxOpS
import Derived.Test.YtbeaegolgaopbaaDoorHRdLines
import Derived.Test.YtbeaegolgaopbaaDoorHRdKind
namespace Go.Proofs.YtbeaegolgaopbaaDoor
open Go.RowKit Go.Lib

theorem own_strs {w : World} {base n : Nat} {v : Value} {xs : List ByteArray} (h : w.ownsRow base 9 1 v n (xs.map Value.string)) (hn : n = xs.length) :
    ∃ a g cap, v = .slice a n cap ∧ (0 < n → a = some ⟨g, 0, none⟩) ∧ ∀ i (hi : i < xs.length), w.cell? ⟨g, i, none⟩ = some (.string xs[i]) := by
  have hc := fun (g : Nat) (hg : v.ownBlock = some g) => World.ownsRow.cells h hg
  rcases h.2 with ⟨rfl, e⟩ | ⟨g, cap, cur, rfl, _⟩
  · exact ⟨none, 0, 0, by rw [e], fun h => by omega, fun i hi => by omega⟩
  · refine ⟨_, g, cap, rfl, fun _ => rfl, fun i hi => ?_⟩
    have ha : (⟨g, 0, none⟩ : Addr).add i = ⟨g, i, none⟩ := by unfold Addr.add; split <;> simp_all
    have := hc g rfl i (.string xs[i]) (by rw [List.getElem?_map, List.getElem?_eq_getElem hi]; rfl)
    rw [ha] at this
    exact this

set_option maxHeartbeats 1600000 in
set_option maxRecDepth 100000 in
theorem l6Ent_any (s : ByteArray) (hs : s.size ≤ 16777216) (w : World) :
    Calls Tryd.prog 20 #[.string s] w fun r w' => r = .returned (.tuple #[.string (partL s).1, .string (partL s).2.1, .string (partL s).2.2]) ∧ Below w.heap.size w w' := by
  have HC := hidE (l10Cut_any s 32 hs w)
  obtain ⟨cs, hcs⟩ : ∃ cs, cut 32 s = cs := ⟨_, rfl⟩
  have hpl : partL s = if cs.length < 2 ∨ 3 < cs.length then (⟨#[]⟩, ⟨#[]⟩, ⟨#[]⟩) else (cs.getD 0 ⟨#[]⟩, cs.getD 1 ⟨#[]⟩, cs.getD 2 ⟨#[]⟩) := by unfold partL; rw [hcs]
  have hlen : cs.length ≤ 16777217 := by
    rw [← hcs]; unfold cut cutAt
    have h1 := cutL_length 32 s (s.data.toList.drop 0) 0 0
    have h2 : s.data.toList.length = s.size := lb_len s
    rw [List.length_drop] at h1
    omega
  rw [hcs] at HC
  clear hcs
  by_cases hb : cs.length < 2 ∨ 3 < cs.length
  · rw [hpl, if_pos hb]
    clear hpl
    by_cases h2 : cs.length < 2
    · go_enter Tryd.func20, Tryd.ntmps20
      go_wp2_with (first | (go_at_call 42; refine HC.out.mono ?_; rintro e w1 ⟨v1, rfl, hown, hB1⟩; obtain ⟨a1, g1, cap1, rfl, -, -⟩ := own_strs hown rfl; clear hown) | fail)
      refine bodyPost_ret (v := .tuple #[.string ⟨#[]⟩, .string ⟨#[]⟩, .string ⟨#[]⟩]) (by simp [results, Tryd.results20, go_sem]) rfl ⟨rfl, hB1⟩
    · have h3 : 3 < cs.length := by omega
      go_enter Tryd.func20, Tryd.ntmps20
      go_wp2_with (first | (go_at_call 42; refine HC.out.mono ?_; rintro e w1 ⟨v1, rfl, hown, hB1⟩; obtain ⟨a1, g1, cap1, rfl, -, -⟩ := own_strs hown rfl; clear hown) | fail)
      refine bodyPost_ret (v := .tuple #[.string ⟨#[]⟩, .string ⟨#[]⟩, .string ⟨#[]⟩]) (by simp [results, Tryd.results20, go_sem]) rfl ⟨rfl, hB1⟩
  · rw [hpl, if_neg hb]
    clear hpl
    match cs, hb with
    | [], hb => exact absurd (.inl (by simp)) hb
    | [x0], hb => exact absurd (.inl (by simp)) hb
    | [x0, x1], _ =>
      go_enter Tryd.func20, Tryd.ntmps20
      go_wp2_with (first | (go_at_call 42; refine HC.out.mono ?_; rintro e w1 ⟨v1, rfl, hown, hB1⟩; obtain ⟨a1, g1, cap1, rfl, ha1, hc⟩ := own_strs hown rfl; obtain rfl := ha1 (by simp); have c0 := hc 0 (by simp); have c1 := hc 1 (by simp); simp only [List.getElem_cons_zero, List.getElem_cons_succ] at c0 c1; clear hown hc) | fail)
      go_quiet (fail)
      go_wp2
      exact bodyPost_ret (v := .tuple #[.string x0, .string x1, .string ⟨#[]⟩]) (by simp [results, Tryd.results20, go_sem]) rfl ⟨rfl, below_drewN hB1⟩
    | [x0, x1, x2], _ =>
      go_enter Tryd.func20, Tryd.ntmps20
      go_wp2_with (first | (go_at_call 42; refine HC.out.mono ?_; rintro e w1 ⟨v1, rfl, hown, hB1⟩; obtain ⟨a1, g1, cap1, rfl, ha1, hc⟩ := own_strs hown rfl; obtain rfl := ha1 (by simp); have c0 := hc 0 (by simp); have c1 := hc 1 (by simp); have c2 := hc 2 (by simp); simp only [List.getElem_cons_zero, List.getElem_cons_succ] at c0 c1 c2; clear hown hc) | fail)
      go_quiet (fail)
      go_wp2
      exact bodyPost_ret (v := .tuple #[.string x0, .string x1, .string x2]) (by simp [results, Tryd.results20, go_sem]) rfl ⟨rfl, below_drewN hB1⟩
    | x0 :: x1 :: x2 :: x3 :: r, hb => exact absurd (.inr (by simp)) hb

abbrev opAggS (o : O) : Value := .agg #[.int .i64 o.k, .string o.p, .string o.t, .string o.x]
def zeroOS : O := ⟨0, ⟨#[]⟩, ⟨#[]⟩, ⟨#[]⟩⟩
/-- What is left of the search, from a kind on. -/
def specFrom (s : ByteArray) : Nat → Option O
  | 1 => specAt s 1 (specAt s 2 (specAt s 3 (specAt s 4 (specAt s 5 none))))
  | 2 => specAt s 2 (specAt s 3 (specAt s 4 (specAt s 5 none)))
  | 3 => specAt s 3 (specAt s 4 (specAt s 5 none))
  | 4 => specAt s 4 (specAt s 5 none)
  | 5 => specAt s 5 none
  | _ => none
theorem spec_hit {s : ByteArray} {k : Int} {r : Option O} (h1 : opW k = (partL s).1) (h2 : opT (mkOp k (partL s).2.1 (partL s).2.2) = s) (h3 : s.size ≠ 0) : specAt s k r = some (mkOp k (partL s).2.1 (partL s).2.2) := by
  unfold specAt hitOp; rw [if_pos (by simp [h1, h2, h3])]
theorem spec_miss {s : ByteArray} {k : Int} {r : Option O} (h : ¬ (opW k = (partL s).1 ∧ opT (mkOp k (partL s).2.1 (partL s).2.2) = s ∧ s.size ≠ 0)) : specAt s k r = r := by
  unfold specAt hitOp; rw [if_neg (by simpa using h)]
theorem part_le (s : ByteArray) : (partL s).2.1.size ≤ s.size ∧ (partL s).2.2.size ≤ s.size := by
  have hx : ∀ x ∈ cut 32 s, x.size ≤ s.size := fun x hx => cut_le 32 s x hx
  have hg : ∀ i, ((cut 32 s).getD i ⟨#[]⟩).size ≤ s.size := fun i => by
    rw [List.getD_eq_getElem?_getD]
    cases h : (cut 32 s)[i]? with
    | none => exact Nat.zero_le _
    | some x => exact hx x (List.mem_of_getElem? h)
  unfold partL
  split
  · exact ⟨Nat.zero_le _, Nat.zero_le _⟩
  · exact ⟨hg 1, hg 2⟩

set_option maxHeartbeats 6400000 in
set_option maxRecDepth 100000 in
theorem sOpRead_any (s : ByteArray) (hs : s.size ≤ 16777216) (w : World) :
    Calls Tryd.prog 16 #[.string s] w fun r w' => r = .returned (.tuple #[opAggS ((specOp s).getD zeroOS), .bool (specOp s).isSome]) ∧ Below w.heap.size w w' := by
  have HB0 : Hid (Below w.heap.size w (w.alloc (.cells #[.int .i64 0, .string ⟨#[]⟩, .string ⟨#[]⟩, .string ⟨#[]⟩] 34))) := (Below.refl _ w).alloc (Nat.le_refl _) _
  have HR0 := hidE (heap_alloc_new w (.cells #[.int .i64 0, .string ⟨#[]⟩, .string ⟨#[]⟩, .string ⟨#[]⟩] 34))
  have HE := hidE (fun W => l6Ent_any s hs W)
  have hsp : specOp s = specFrom s 1 := rfl
  obtain ⟨h1, h2⟩ := part_le s
  have HH := hidE (fun (k : Int) r => spec_hit (s := s) (k := k) (r := r))
  have HM := hidE (fun (k : Int) r => spec_miss (s := s) (k := k) (r := r))
  obtain ⟨kd, hkd⟩ : ∃ x, (partL s).1 = x := ⟨_, rfl⟩
  obtain ⟨pa, hpa⟩ : ∃ x, (partL s).2.1 = x := ⟨_, rfl⟩
  obtain ⟨mo, hmo⟩ : ∃ x, (partL s).2.2 = x := ⟨_, rfl⟩
  rw [hkd, hpa, hmo] at HE HH HM
  rw [hpa] at h1
  rw [hmo] at h2
  obtain ⟨R0, hR0⟩ : ∃ R0, specFrom s 1 = R0 := ⟨_, rfl⟩
  rw [hsp, hR0]
  have HT := hidE (fun k p t x W hp ht hx => sOpText_any k p t x W hp ht hx)
  have HQ := hidE hR0
  have hpz : pa.size ≤ 16777216 := by omega
  have hmz : mo.size ≤ 16777216 := by omega
  clear hkd hpa hmo h1 h2 hsp hR0
  go_enter Tryd.func16, Tryd.ntmps16
  go_wp2_with (first | (go_at_call 20; refine (HE.out _).mono ?_; rintro e w1 ⟨rfl, hB1⟩) | (go_at_call 37; refine (l6Words_any _).mono ?_; rintro e w2 ⟨rfl, rfl⟩) | fail)
  have hB1' := HB0.out.trans (hB1.mono (by simp))
  have hBW := hB1'.alloc hB1'.size (.cells #[.string ⟨#[]⟩, .string oW1, .string oW2, .string oW3, .string oW4, .string oW5] 9)
  have hzW : (w1.alloc (.cells #[.string ⟨#[]⟩, .string oW1, .string oW2, .string oW3, .string oW4, .string oW5] 9)).heap[w.heap.size]? = some (.cells #[.int .i64 0, .string ⟨#[]⟩, .string ⟨#[]⟩, .string ⟨#[]⟩] 34 (0, 0)) := by
    rw [(World.grownBy_alloc w1 (.cells #[.string ⟨#[]⟩, .string oW1, .string oW2, .string oW3, .string oW4, .string oW5] 9) none).block _ (by have := hB1.size; simp at this; omega) (by simp), hB1.block _ (by simp)]; exact HR0.out
  have hl : ∀ j : Nat, (w1.alloc (.cells #[.string ⟨#[]⟩, .string oW1, .string oW2, .string oW3, .string oW4, .string oW5] 9)).cell? ⟨w1.heap.size, j, none⟩ = #[.string ⟨#[]⟩, .string oW1, .string oW2, .string oW3, .string oW4, .string oW5][j]? := fun j => cell_of_row _ w1.heap.size j _ _ _ (heap_alloc_new w1 (.cells #[.string ⟨#[]⟩, .string oW1, .string oW2, .string oW3, .string oW4, .string oW5] 9))
  have hlt : w1.heap.size < (w1.alloc (.cells #[.string ⟨#[]⟩, .string oW1, .string oW2, .string oW3, .string oW4, .string oW5] 9)).heap.size := by simp
  obtain ⟨gw, hgw⟩ : ∃ g, w1.heap.size = g := ⟨_, rfl⟩
  rw [hgw] at hl hlt ⊢
  obtain ⟨W0, hW0⟩ : ∃ W0, w1.alloc (.cells #[.string ⟨#[]⟩, .string oW1, .string oW2, .string oW3, .string oW4, .string oW5] 9) = W0 := ⟨_, rfl⟩
  rw [hW0] at hBW hzW hl hlt ⊢
  clear hW0 hB1' hB1 hgw HB0 HR0
  have HC := hidE (fun (W : World) (h : Below W0.heap.size W0 W) (j : Nat) => ((h.cell (p := ⟨gw, j, none⟩) hlt).trans (hl j)))
  have HZ := hidE (fun (W : World) (h : Below W0.heap.size W0 W) => (h.block w.heap.size (Array.getElem?_eq_some_iff.1 hzW).1).trans hzW)
  have HBW := hidE hBW
  have hw0 := hBW.size
  clear hl hzW hBW hlt
  go_loopw [8] (fun iv wl => ∃ j : Nat, 1 ≤ j ∧ j ≤ 6 ∧ iv = .int .i64 j ∧ Hid (specFrom s j = R0) ∧ Hid (Below W0.heap.size W0 wl)) (fun iv _ => 6 - (RowKit.intOf iv).toNat)
  case atStart => exact ⟨1, Nat.le_refl _, by omega, rfl, HQ, Below.refl _ _⟩
  case round =>
    clear HQ
    obtain ⟨j, hj1, hj6, rfl, HQ, HB⟩ := hrel
    match j, hj1, hj6 with
    | 1, _, _ =>
      rw [show ((1 : Nat) : Int) = (1 : Int) from rfl]
      have hmk : mkOp 1 pa mo = ⟨1, pa, ⟨#[]⟩, mo⟩ := rfl
      have how : opW 1 = oW1 := rfl
      have HH1 := hidE (HH.out 1 (specFrom s 2))
      have HM1 := hidE (HM.out 1 (specFrom s 2))
      rw [hmk, how] at HH1 HM1
      have HQ' : Hid (specAt s 1 (specFrom s 2) = R0) := HQ
      have HOp := hidE (fun W => HT.out 1 pa ⟨#[]⟩ mo W hpz (by decide) hmz)
      clear hmk how HQ HH HM HT
      have hBo : Below W0.heap.size W0 (wr.alloc (.cells #[.int .i64 1, .string pa, .string ⟨#[]⟩, .string mo] 34)) := HB.out.alloc HB.out.size _
      have hlw := HC.out _ hBo 1
      rw [show #[.string ⟨#[]⟩, .string oW1, .string oW2, .string oW3, .string oW4, .string oW5][1]? = some (Value.string oW1) from rfl] at hlw
      by_cases e1 : (oW1 : ByteArray) = kd
      · obtain ⟨k1, k2⟩ := str_yes e1
        by_cases e2 : opT ⟨1, pa, ⟨#[]⟩, mo⟩ = s
        · by_cases e3 : s.size = 0
          · have HN : Hid (specFrom s 2 = R0) := by show _ = _; rw [← HQ'.out, HM1.out (fun h => h.2.2 e3)]
            have k4 : (opT ⟨1, pa, ⟨#[]⟩, mo⟩).toList = [] := by rw [e2, Lib.toList_data]; exact lb_nil.2 e3
            have k5 : s.toList = [] := by rw [Lib.toList_data]; exact lb_nil.2 e3
            clear e1 e2 e3 HQ' HH1 HM1
            go_wp2_with (first | (go_at_call 38; refine (HOp.out _).mono ?_; rintro e w3 ⟨rfl, hB3⟩) | fail)
            go_roundw
            case rel => exact ⟨2, by omega, by omega, by go_num, HN, hBo.trans (hB3.mono hBo.size)⟩
            case measure => simp [RowKit.intOf]
          · have hR : R0 = some ⟨1, pa, ⟨#[]⟩, mo⟩ := by rw [← HQ'.out, HH1.out e1 e2 e3]
            obtain ⟨k3, k4⟩ := str_yes e2
            have k5 : (s.toList == []) = false := by
              rw [Lib.toList_data]; simp; intro q; apply e3; show s.data.size = 0; rw [q]; rfl
            have k6 : ¬ s.toList = [] := by simpa using k5
            clear e1 e2 e3 HQ' HH1 HM1
            subst hR
            go_wp2_with (first | (go_at_call 38; refine (HOp.out _).mono ?_; rintro e w3 ⟨rfl, hB3⟩; have hBo3 := hBo.trans (hB3.mono hBo.size); have hzf := HZ.out _ hBo3; obtain ⟨d0, d1, d2, d3⟩ := box4t hB3; obtain ⟨⟨r0, r0'⟩, r1, r2, r3⟩ := set4_rules hzf; have r1a := fun u => (r1 u).1; have r1b := fun u => (r1 u).2; have r2a := fun u x => (r2 u x).1; have r2b := fun u x => (r2 u x).2; have r3a := fun u x y => (r3 u x y).1; have r3b := fun u x y => (r3 u x y).2; clear r1 r2 r3) | fail)
            have hBf := HBW.out.trans (hBo3.mono hw0)
            have s4 := set4_is hzf (.int .i64 1) (.string pa) (.string ⟨#[]⟩) (.string mo)
            have hBs := s4.1.below hBf (Nat.le_refl _)
            have z0 := cell_of_row _ w.heap.size 0 _ _ _ s4.2
            have z1 := cell_of_row _ w.heap.size 1 _ _ _ s4.2
            have z2 := cell_of_row _ w.heap.size 2 _ _ _ s4.2
            have z3 := cell_of_row _ w.heap.size 3 _ _ _ s4.2
            exact bodyPost_ret (v := .tuple #[opAggS ⟨1, pa, ⟨#[]⟩, mo⟩, .bool true]) (by simp [results, Tryd.results16, go_sem, z0, z1, z2, z3]) rfl ⟨rfl, hBs⟩
        · obtain ⟨k3, k4⟩ := str_no e2
          have HN : Hid (specFrom s 2 = R0) := by show _ = _; rw [← HQ'.out, HM1.out (fun h => e2 h.2.1)]
          clear e1 e2 HQ' HH1 HM1
          go_wp2_with (first | (go_at_call 38; refine (HOp.out _).mono ?_; rintro e w3 ⟨rfl, hB3⟩) | fail)
          go_roundw
          case rel => exact ⟨2, by omega, by omega, by go_num, HN, hBo.trans (hB3.mono hBo.size)⟩
          case measure => simp [RowKit.intOf]
      · obtain ⟨k1, k2⟩ := str_no e1
        have HN : Hid (specFrom s 2 = R0) := by show _ = _; rw [← HQ'.out, HM1.out (fun h => e1 h.1)]
        clear e1 HQ' HH1 HM1 HOp
        go_wp2
        go_roundw
        case rel => exact ⟨2, by omega, by omega, by go_num, HN, hBo⟩
        case measure => simp [RowKit.intOf]
    | 2, _, _ =>
      rw [show ((2 : Nat) : Int) = (2 : Int) from rfl]
      have hmk : mkOp 2 pa mo = ⟨2, pa, ⟨#[]⟩, mo⟩ := rfl
      have how : opW 2 = oW2 := rfl
      have HH2 := hidE (HH.out 2 (specFrom s 3))
      have HM2 := hidE (HM.out 2 (specFrom s 3))
      rw [hmk, how] at HH2 HM2
      have HQ' : Hid (specAt s 2 (specFrom s 3) = R0) := HQ
      have HOp := hidE (fun W => HT.out 2 pa ⟨#[]⟩ mo W hpz (by decide) hmz)
      clear hmk how HQ HH HM HT
      have hBo : Below W0.heap.size W0 (wr.alloc (.cells #[.int .i64 2, .string pa, .string ⟨#[]⟩, .string mo] 34)) := HB.out.alloc HB.out.size _
      have hlw := HC.out _ hBo 2
      rw [show #[.string ⟨#[]⟩, .string oW1, .string oW2, .string oW3, .string oW4, .string oW5][2]? = some (Value.string oW2) from rfl] at hlw
      by_cases e1 : (oW2 : ByteArray) = kd
      · obtain ⟨k1, k2⟩ := str_yes e1
        by_cases e2 : opT ⟨2, pa, ⟨#[]⟩, mo⟩ = s
        · by_cases e3 : s.size = 0
          · have HN : Hid (specFrom s 3 = R0) := by show _ = _; rw [← HQ'.out, HM2.out (fun h => h.2.2 e3)]
            have k4 : (opT ⟨2, pa, ⟨#[]⟩, mo⟩).toList = [] := by rw [e2, Lib.toList_data]; exact lb_nil.2 e3
            have k5 : s.toList = [] := by rw [Lib.toList_data]; exact lb_nil.2 e3
            clear e1 e2 e3 HQ' HH2 HM2
            go_wp2_with (first | (go_at_call 38; refine (HOp.out _).mono ?_; rintro e w3 ⟨rfl, hB3⟩) | fail)
            go_roundw
            case rel => exact ⟨3, by omega, by omega, by go_num, HN, hBo.trans (hB3.mono hBo.size)⟩
            case measure => simp [RowKit.intOf]
          · have hR : R0 = some ⟨2, pa, ⟨#[]⟩, mo⟩ := by rw [← HQ'.out, HH2.out e1 e2 e3]
            obtain ⟨k3, k4⟩ := str_yes e2
            have k5 : (s.toList == []) = false := by
              rw [Lib.toList_data]; simp; intro q; apply e3; show s.data.size = 0; rw [q]; rfl
            have k6 : ¬ s.toList = [] := by simpa using k5
            clear e1 e2 e3 HQ' HH2 HM2
            subst hR
            go_wp2_with (first | (go_at_call 38; refine (HOp.out _).mono ?_; rintro e w3 ⟨rfl, hB3⟩; have hBo3 := hBo.trans (hB3.mono hBo.size); have hzf := HZ.out _ hBo3; obtain ⟨d0, d1, d2, d3⟩ := box4t hB3; obtain ⟨⟨r0, r0'⟩, r1, r2, r3⟩ := set4_rules hzf; have r1a := fun u => (r1 u).1; have r1b := fun u => (r1 u).2; have r2a := fun u x => (r2 u x).1; have r2b := fun u x => (r2 u x).2; have r3a := fun u x y => (r3 u x y).1; have r3b := fun u x y => (r3 u x y).2; clear r1 r2 r3) | fail)
            have hBf := HBW.out.trans (hBo3.mono hw0)
            have s4 := set4_is hzf (.int .i64 2) (.string pa) (.string ⟨#[]⟩) (.string mo)
            have hBs := s4.1.below hBf (Nat.le_refl _)
            have z0 := cell_of_row _ w.heap.size 0 _ _ _ s4.2
            have z1 := cell_of_row _ w.heap.size 1 _ _ _ s4.2
            have z2 := cell_of_row _ w.heap.size 2 _ _ _ s4.2
            have z3 := cell_of_row _ w.heap.size 3 _ _ _ s4.2
            exact bodyPost_ret (v := .tuple #[opAggS ⟨2, pa, ⟨#[]⟩, mo⟩, .bool true]) (by simp [results, Tryd.results16, go_sem, z0, z1, z2, z3]) rfl ⟨rfl, hBs⟩
        · obtain ⟨k3, k4⟩ := str_no e2
          have HN : Hid (specFrom s 3 = R0) := by show _ = _; rw [← HQ'.out, HM2.out (fun h => e2 h.2.1)]
          clear e1 e2 HQ' HH2 HM2
          go_wp2_with (first | (go_at_call 38; refine (HOp.out _).mono ?_; rintro e w3 ⟨rfl, hB3⟩) | fail)
          go_roundw
          case rel => exact ⟨3, by omega, by omega, by go_num, HN, hBo.trans (hB3.mono hBo.size)⟩
          case measure => simp [RowKit.intOf]
      · obtain ⟨k1, k2⟩ := str_no e1
        have HN : Hid (specFrom s 3 = R0) := by show _ = _; rw [← HQ'.out, HM2.out (fun h => e1 h.1)]
        clear e1 HQ' HH2 HM2 HOp
        go_wp2
        go_roundw
        case rel => exact ⟨3, by omega, by omega, by go_num, HN, hBo⟩
        case measure => simp [RowKit.intOf]
    | 3, _, _ =>
      rw [show ((3 : Nat) : Int) = (3 : Int) from rfl]
      have hmk : mkOp 3 pa mo = ⟨3, pa, ⟨#[]⟩, mo⟩ := rfl
      have how : opW 3 = oW3 := rfl
      have HH3 := hidE (HH.out 3 (specFrom s 4))
      have HM3 := hidE (HM.out 3 (specFrom s 4))
      rw [hmk, how] at HH3 HM3
      have HQ' : Hid (specAt s 3 (specFrom s 4) = R0) := HQ
      have HOp := hidE (fun W => HT.out 3 pa ⟨#[]⟩ mo W hpz (by decide) hmz)
      clear hmk how HQ HH HM HT
      have hBo : Below W0.heap.size W0 (wr.alloc (.cells #[.int .i64 3, .string pa, .string ⟨#[]⟩, .string mo] 34)) := HB.out.alloc HB.out.size _
      have hlw := HC.out _ hBo 3
      rw [show #[.string ⟨#[]⟩, .string oW1, .string oW2, .string oW3, .string oW4, .string oW5][3]? = some (Value.string oW3) from rfl] at hlw
      by_cases e1 : (oW3 : ByteArray) = kd
      · obtain ⟨k1, k2⟩ := str_yes e1
        by_cases e2 : opT ⟨3, pa, ⟨#[]⟩, mo⟩ = s
        · by_cases e3 : s.size = 0
          · have HN : Hid (specFrom s 4 = R0) := by show _ = _; rw [← HQ'.out, HM3.out (fun h => h.2.2 e3)]
            have k4 : (opT ⟨3, pa, ⟨#[]⟩, mo⟩).toList = [] := by rw [e2, Lib.toList_data]; exact lb_nil.2 e3
            have k5 : s.toList = [] := by rw [Lib.toList_data]; exact lb_nil.2 e3
            clear e1 e2 e3 HQ' HH3 HM3
            go_wp2_with (first | (go_at_call 38; refine (HOp.out _).mono ?_; rintro e w3 ⟨rfl, hB3⟩) | fail)
            go_roundw
            case rel => exact ⟨4, by omega, by omega, by go_num, HN, hBo.trans (hB3.mono hBo.size)⟩
            case measure => simp [RowKit.intOf]
          · have hR : R0 = some ⟨3, pa, ⟨#[]⟩, mo⟩ := by rw [← HQ'.out, HH3.out e1 e2 e3]
            obtain ⟨k3, k4⟩ := str_yes e2
            have k5 : (s.toList == []) = false := by
              rw [Lib.toList_data]; simp; intro q; apply e3; show s.data.size = 0; rw [q]; rfl
            have k6 : ¬ s.toList = [] := by simpa using k5
            clear e1 e2 e3 HQ' HH3 HM3
            subst hR
            go_wp2_with (first | (go_at_call 38; refine (HOp.out _).mono ?_; rintro e w3 ⟨rfl, hB3⟩; have hBo3 := hBo.trans (hB3.mono hBo.size); have hzf := HZ.out _ hBo3; obtain ⟨d0, d1, d2, d3⟩ := box4t hB3; obtain ⟨⟨r0, r0'⟩, r1, r2, r3⟩ := set4_rules hzf; have r1a := fun u => (r1 u).1; have r1b := fun u => (r1 u).2; have r2a := fun u x => (r2 u x).1; have r2b := fun u x => (r2 u x).2; have r3a := fun u x y => (r3 u x y).1; have r3b := fun u x y => (r3 u x y).2; clear r1 r2 r3) | fail)
            have hBf := HBW.out.trans (hBo3.mono hw0)
            have s4 := set4_is hzf (.int .i64 3) (.string pa) (.string ⟨#[]⟩) (.string mo)
            have hBs := s4.1.below hBf (Nat.le_refl _)
            have z0 := cell_of_row _ w.heap.size 0 _ _ _ s4.2
            have z1 := cell_of_row _ w.heap.size 1 _ _ _ s4.2
            have z2 := cell_of_row _ w.heap.size 2 _ _ _ s4.2
            have z3 := cell_of_row _ w.heap.size 3 _ _ _ s4.2
            exact bodyPost_ret (v := .tuple #[opAggS ⟨3, pa, ⟨#[]⟩, mo⟩, .bool true]) (by simp [results, Tryd.results16, go_sem, z0, z1, z2, z3]) rfl ⟨rfl, hBs⟩
        · obtain ⟨k3, k4⟩ := str_no e2
          have HN : Hid (specFrom s 4 = R0) := by show _ = _; rw [← HQ'.out, HM3.out (fun h => e2 h.2.1)]
          clear e1 e2 HQ' HH3 HM3
          go_wp2_with (first | (go_at_call 38; refine (HOp.out _).mono ?_; rintro e w3 ⟨rfl, hB3⟩) | fail)
          go_roundw
          case rel => exact ⟨4, by omega, by omega, by go_num, HN, hBo.trans (hB3.mono hBo.size)⟩
          case measure => simp [RowKit.intOf]
      · obtain ⟨k1, k2⟩ := str_no e1
        have HN : Hid (specFrom s 4 = R0) := by show _ = _; rw [← HQ'.out, HM3.out (fun h => e1 h.1)]
        clear e1 HQ' HH3 HM3 HOp
        go_wp2
        go_roundw
        case rel => exact ⟨4, by omega, by omega, by go_num, HN, hBo⟩
        case measure => simp [RowKit.intOf]
    | 4, _, _ =>
      rw [show ((4 : Nat) : Int) = (4 : Int) from rfl]
      have hmk : mkOp 4 pa mo = ⟨4, pa, ⟨#[]⟩, mo⟩ := rfl
      have how : opW 4 = oW4 := rfl
      have HH4 := hidE (HH.out 4 (specFrom s 5))
      have HM4 := hidE (HM.out 4 (specFrom s 5))
      rw [hmk, how] at HH4 HM4
      have HQ' : Hid (specAt s 4 (specFrom s 5) = R0) := HQ
      have HOp := hidE (fun W => HT.out 4 pa ⟨#[]⟩ mo W hpz (by decide) hmz)
      clear hmk how HQ HH HM HT
      have hBo : Below W0.heap.size W0 (wr.alloc (.cells #[.int .i64 4, .string pa, .string ⟨#[]⟩, .string mo] 34)) := HB.out.alloc HB.out.size _
      have hlw := HC.out _ hBo 4
      rw [show #[.string ⟨#[]⟩, .string oW1, .string oW2, .string oW3, .string oW4, .string oW5][4]? = some (Value.string oW4) from rfl] at hlw
      by_cases e1 : (oW4 : ByteArray) = kd
      · obtain ⟨k1, k2⟩ := str_yes e1
        by_cases e2 : opT ⟨4, pa, ⟨#[]⟩, mo⟩ = s
        · by_cases e3 : s.size = 0
          · have HN : Hid (specFrom s 5 = R0) := by show _ = _; rw [← HQ'.out, HM4.out (fun h => h.2.2 e3)]
            have k4 : (opT ⟨4, pa, ⟨#[]⟩, mo⟩).toList = [] := by rw [e2, Lib.toList_data]; exact lb_nil.2 e3
            have k5 : s.toList = [] := by rw [Lib.toList_data]; exact lb_nil.2 e3
            clear e1 e2 e3 HQ' HH4 HM4
            go_wp2_with (first | (go_at_call 38; refine (HOp.out _).mono ?_; rintro e w3 ⟨rfl, hB3⟩) | fail)
            go_roundw
            case rel => exact ⟨5, by omega, by omega, by go_num, HN, hBo.trans (hB3.mono hBo.size)⟩
            case measure => simp [RowKit.intOf]
          · have hR : R0 = some ⟨4, pa, ⟨#[]⟩, mo⟩ := by rw [← HQ'.out, HH4.out e1 e2 e3]
            obtain ⟨k3, k4⟩ := str_yes e2
            have k5 : (s.toList == []) = false := by
              rw [Lib.toList_data]; simp; intro q; apply e3; show s.data.size = 0; rw [q]; rfl
            have k6 : ¬ s.toList = [] := by simpa using k5
            clear e1 e2 e3 HQ' HH4 HM4
            subst hR
            go_wp2_with (first | (go_at_call 38; refine (HOp.out _).mono ?_; rintro e w3 ⟨rfl, hB3⟩; have hBo3 := hBo.trans (hB3.mono hBo.size); have hzf := HZ.out _ hBo3; obtain ⟨d0, d1, d2, d3⟩ := box4t hB3; obtain ⟨⟨r0, r0'⟩, r1, r2, r3⟩ := set4_rules hzf; have r1a := fun u => (r1 u).1; have r1b := fun u => (r1 u).2; have r2a := fun u x => (r2 u x).1; have r2b := fun u x => (r2 u x).2; have r3a := fun u x y => (r3 u x y).1; have r3b := fun u x y => (r3 u x y).2; clear r1 r2 r3) | fail)
            have hBf := HBW.out.trans (hBo3.mono hw0)
            have s4 := set4_is hzf (.int .i64 4) (.string pa) (.string ⟨#[]⟩) (.string mo)
            have hBs := s4.1.below hBf (Nat.le_refl _)
            have z0 := cell_of_row _ w.heap.size 0 _ _ _ s4.2
            have z1 := cell_of_row _ w.heap.size 1 _ _ _ s4.2
            have z2 := cell_of_row _ w.heap.size 2 _ _ _ s4.2
            have z3 := cell_of_row _ w.heap.size 3 _ _ _ s4.2
            exact bodyPost_ret (v := .tuple #[opAggS ⟨4, pa, ⟨#[]⟩, mo⟩, .bool true]) (by simp [results, Tryd.results16, go_sem, z0, z1, z2, z3]) rfl ⟨rfl, hBs⟩
        · obtain ⟨k3, k4⟩ := str_no e2
          have HN : Hid (specFrom s 5 = R0) := by show _ = _; rw [← HQ'.out, HM4.out (fun h => e2 h.2.1)]
          clear e1 e2 HQ' HH4 HM4
          go_wp2_with (first | (go_at_call 38; refine (HOp.out _).mono ?_; rintro e w3 ⟨rfl, hB3⟩) | fail)
          go_roundw
          case rel => exact ⟨5, by omega, by omega, by go_num, HN, hBo.trans (hB3.mono hBo.size)⟩
          case measure => simp [RowKit.intOf]
      · obtain ⟨k1, k2⟩ := str_no e1
        have HN : Hid (specFrom s 5 = R0) := by show _ = _; rw [← HQ'.out, HM4.out (fun h => e1 h.1)]
        clear e1 HQ' HH4 HM4 HOp
        go_wp2
        go_roundw
        case rel => exact ⟨5, by omega, by omega, by go_num, HN, hBo⟩
        case measure => simp [RowKit.intOf]
    | 5, _, _ =>
      rw [show ((5 : Nat) : Int) = (5 : Int) from rfl]
      have hmk : mkOp 5 pa mo = ⟨5, pa, mo, ⟨#[]⟩⟩ := rfl
      have how : opW 5 = oW5 := rfl
      have HH5 := hidE (HH.out 5 (specFrom s 6))
      have HM5 := hidE (HM.out 5 (specFrom s 6))
      rw [hmk, how] at HH5 HM5
      have HQ' : Hid (specAt s 5 (specFrom s 6) = R0) := HQ
      have HOp := hidE (fun W => HT.out 5 pa mo ⟨#[]⟩ W hpz hmz (by decide))
      clear hmk how HQ HH HM HT
      have hBo : Below W0.heap.size W0 (wr.alloc (.cells #[.int .i64 5, .string pa, .string mo, .string ⟨#[]⟩] 34)) := HB.out.alloc HB.out.size _
      have hlw := HC.out _ hBo 5
      rw [show #[.string ⟨#[]⟩, .string oW1, .string oW2, .string oW3, .string oW4, .string oW5][5]? = some (Value.string oW5) from rfl] at hlw
      by_cases e1 : (oW5 : ByteArray) = kd
      · obtain ⟨k1, k2⟩ := str_yes e1
        by_cases e2 : opT ⟨5, pa, mo, ⟨#[]⟩⟩ = s
        · by_cases e3 : s.size = 0
          · have HN : Hid (specFrom s 6 = R0) := by show _ = _; rw [← HQ'.out, HM5.out (fun h => h.2.2 e3)]
            have k4 : (opT ⟨5, pa, mo, ⟨#[]⟩⟩).toList = [] := by rw [e2, Lib.toList_data]; exact lb_nil.2 e3
            have k5 : s.toList = [] := by rw [Lib.toList_data]; exact lb_nil.2 e3
            clear e1 e2 e3 HQ' HH5 HM5
            go_wp2_with (first | (go_at_call 38; refine (HOp.out _).mono ?_; rintro e w3 ⟨rfl, hB3⟩) | fail)
            go_roundw
            case rel => exact ⟨6, by omega, by omega, by go_num, HN, hBo.trans (hB3.mono hBo.size)⟩
            case measure => simp [RowKit.intOf]
          · have hR : R0 = some ⟨5, pa, mo, ⟨#[]⟩⟩ := by rw [← HQ'.out, HH5.out e1 e2 e3]
            obtain ⟨k3, k4⟩ := str_yes e2
            have k5 : (s.toList == []) = false := by
              rw [Lib.toList_data]; simp; intro q; apply e3; show s.data.size = 0; rw [q]; rfl
            have k6 : ¬ s.toList = [] := by simpa using k5
            clear e1 e2 e3 HQ' HH5 HM5
            subst hR
            go_wp2_with (first | (go_at_call 38; refine (HOp.out _).mono ?_; rintro e w3 ⟨rfl, hB3⟩; have hBo3 := hBo.trans (hB3.mono hBo.size); have hzf := HZ.out _ hBo3; obtain ⟨d0, d1, d2, d3⟩ := box4t hB3; obtain ⟨⟨r0, r0'⟩, r1, r2, r3⟩ := set4_rules hzf; have r1a := fun u => (r1 u).1; have r1b := fun u => (r1 u).2; have r2a := fun u x => (r2 u x).1; have r2b := fun u x => (r2 u x).2; have r3a := fun u x y => (r3 u x y).1; have r3b := fun u x y => (r3 u x y).2; clear r1 r2 r3) | fail)
            have hBf := HBW.out.trans (hBo3.mono hw0)
            have s4 := set4_is hzf (.int .i64 5) (.string pa) (.string mo) (.string ⟨#[]⟩)
            have hBs := s4.1.below hBf (Nat.le_refl _)
            have z0 := cell_of_row _ w.heap.size 0 _ _ _ s4.2
            have z1 := cell_of_row _ w.heap.size 1 _ _ _ s4.2
            have z2 := cell_of_row _ w.heap.size 2 _ _ _ s4.2
            have z3 := cell_of_row _ w.heap.size 3 _ _ _ s4.2
            exact bodyPost_ret (v := .tuple #[opAggS ⟨5, pa, mo, ⟨#[]⟩⟩, .bool true]) (by simp [results, Tryd.results16, go_sem, z0, z1, z2, z3]) rfl ⟨rfl, hBs⟩
        · obtain ⟨k3, k4⟩ := str_no e2
          have HN : Hid (specFrom s 6 = R0) := by show _ = _; rw [← HQ'.out, HM5.out (fun h => e2 h.2.1)]
          clear e1 e2 HQ' HH5 HM5
          go_wp2_with (first | (go_at_call 38; refine (HOp.out _).mono ?_; rintro e w3 ⟨rfl, hB3⟩) | fail)
          go_roundw
          case rel => exact ⟨6, by omega, by omega, by go_num, HN, hBo.trans (hB3.mono hBo.size)⟩
          case measure => simp [RowKit.intOf]
      · obtain ⟨k1, k2⟩ := str_no e1
        have HN : Hid (specFrom s 6 = R0) := by show _ = _; rw [← HQ'.out, HM5.out (fun h => e1 h.1)]
        clear e1 HQ' HH5 HM5 HOp
        go_wp2
        go_roundw
        case rel => exact ⟨6, by omega, by omega, by go_num, HN, hBo⟩
        case measure => simp [RowKit.intOf]
    | 6, _, _ =>
      have hR : R0 = none := HQ.out.symm
      subst hR
      have hzf := HZ.out _ HB.out
      obtain ⟨⟨r0, r0'⟩, r1, r2, r3⟩ := set4_rules hzf; have r1a := fun u => (r1 u).1; have r1b := fun u => (r1 u).2; have r2a := fun u x => (r2 u x).1; have r2b := fun u x => (r2 u x).2; have r3a := fun u x y => (r3 u x y).1; have r3b := fun u x y => (r3 u x y).2; clear r1 r2 r3
      have hBf := HBW.out.trans (HB.out.mono hw0)
      have s4 := set4_is hzf (.int .i64 0) (.string ⟨#[]⟩) (.string ⟨#[]⟩) (.string ⟨#[]⟩)
      have hBs := s4.1.below hBf (Nat.le_refl _)
      have z0 := cell_of_row _ w.heap.size 0 _ _ _ s4.2
      have z1 := cell_of_row _ w.heap.size 1 _ _ _ s4.2
      have z2 := cell_of_row _ w.heap.size 2 _ _ _ s4.2
      have z3 := cell_of_row _ w.heap.size 3 _ _ _ s4.2
      rw [show ((6 : Nat) : Int) = (6 : Int) from rfl]
      go_wp2
      exact bodyPost_ret (v := .tuple #[opAggS zeroOS, .bool false]) (by simp [results, Tryd.results16, go_sem, z0, z1, z2, z3, zeroOS]) rfl ⟨rfl, hBs⟩
end Go.Proofs.YtbeaegolgaopbaaDoor
