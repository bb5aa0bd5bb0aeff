/-
  The walks of the model's reader of what is done.
-/
import Derived.Test.YtgkfhcpegdlejaaDoorHPk02
import Derived.Test.YtgkfhcpegdlejaaDoorHPk10
import Derived.Test.YtgkfhcpegdlejaaDoorHPk06
import Derived.Test.YtgkfhcpegdlejaaDoorHPk27
import Derived.Test.YtgkfhcpegdlejaaDoorHPk04
namespace Go.Proofs.YtgkfhcpegdlejaaDoor
open Go.RowKit Go.Lib

abbrev opAggS (o : O) : Value := .agg #[.int .i64 o.k, .string o.p, .string o.t, .string o.x]
def zeroOS : O := ⟨0, ⟨#[]⟩, ⟨#[]⟩, ⟨#[]⟩⟩
/-- What is left of the search, from a kind on. -/
def specFrom (s : ByteArray) : Nat → Option O
  | 1 => specAt s 1 (specAt s 2 (specAt s 3 (specAt s 4 (specAt s 5 none))))
  | 2 => specAt s 2 (specAt s 3 (specAt s 4 (specAt s 5 none)))
  | 3 => specAt s 3 (specAt s 4 (specAt s 5 none))
  | 4 => specAt s 4 (specAt s 5 none)
  | 5 => specAt s 5 none
  | _ => none
theorem spec_hit {s : ByteArray} {k : Int} {r : Option O} (h1 : opW k = (partL s).1) (h2 : opT (mkOp k (partL s).2.1 (partL s).2.2) = s) (h3 : s.size ≠ 0) : specAt s k r = some (mkOp k (partL s).2.1 (partL s).2.2) := by
  unfold specAt hitOp; rw [if_pos (by simp [h1, h2, h3])]
theorem spec_miss {s : ByteArray} {k : Int} {r : Option O} (h : ¬ (opW k = (partL s).1 ∧ opT (mkOp k (partL s).2.1 (partL s).2.2) = s ∧ s.size ≠ 0)) : specAt s k r = r := by
  unfold specAt hitOp; rw [if_neg (by simpa using h)]
set_option maxHeartbeats 6400000 in
set_option maxRecDepth 100000 in
theorem sOpRead_any (s : ByteArray) (hs : s.size ≤ 16777216) (w : World) :
    Calls Tryd.prog 30 #[.string s] w fun r w' => r = .returned (.tuple #[opAggS ((specOp s).getD zeroOS), .bool (specOp s).isSome]) ∧ Below w.heap.size w w' := by
  have HB0 : Hid (Below w.heap.size w (w.alloc (.cells #[.int .i64 0, .string ⟨#[]⟩, .string ⟨#[]⟩, .string ⟨#[]⟩] 40))) := (Below.refl _ w).alloc (Nat.le_refl _) _
  have HR0 := hidE (heap_alloc_new w (.cells #[.int .i64 0, .string ⟨#[]⟩, .string ⟨#[]⟩, .string ⟨#[]⟩] 40))
  have HE := hidE (fun W => l6Ent_any s hs W)
  have hsp : specOp s = specFrom s 1 := rfl
  obtain ⟨h1, h2⟩ := part_le s
  have HH := hidE (fun (k : Int) r => spec_hit (s := s) (k := k) (r := r))
  have HM := hidE (fun (k : Int) r => spec_miss (s := s) (k := k) (r := r))
  obtain ⟨kd, hkd⟩ : ∃ x, (partL s).1 = x := ⟨_, rfl⟩
  obtain ⟨pa, hpa⟩ : ∃ x, (partL s).2.1 = x := ⟨_, rfl⟩
  obtain ⟨mo, hmo⟩ : ∃ x, (partL s).2.2 = x := ⟨_, rfl⟩
  rw [hkd, hpa, hmo] at HE HH HM
  rw [hpa] at h1
  rw [hmo] at h2
  obtain ⟨R0, hR0⟩ : ∃ R0, specFrom s 1 = R0 := ⟨_, rfl⟩
  rw [hsp, hR0]
  have HT := hidE (fun k p t x W hp ht hx => sOpText_any k p t x W hp ht hx)
  have HQ := hidE hR0
  have hpz : pa.size ≤ 16777216 := by omega
  have hmz : mo.size ≤ 16777216 := by omega
  clear hkd hpa hmo h1 h2 hsp hR0
  go_enter Tryd.func30, Tryd.ntmps30
  go_wp2_with (first | (go_at_call 50; refine (HE.out _).mono ?_; rintro e w1 ⟨rfl, hB1⟩) | (go_at_call 68; refine (l6Words_any _).mono ?_; rintro e w2 ⟨rfl, rfl⟩) | fail)
  have hB1' := HB0.out.trans (hB1.mono (by simp))
  have hBW := hB1'.alloc hB1'.size (.cells #[.string ⟨#[]⟩, .string oW1, .string oW2, .string oW3, .string oW4, .string oW5] 9)
  have hzW : (w1.alloc (.cells #[.string ⟨#[]⟩, .string oW1, .string oW2, .string oW3, .string oW4, .string oW5] 9)).heap[w.heap.size]? = some (.cells #[.int .i64 0, .string ⟨#[]⟩, .string ⟨#[]⟩, .string ⟨#[]⟩] 40 (0, 0)) := by
    rw [(World.grownBy_alloc w1 (.cells #[.string ⟨#[]⟩, .string oW1, .string oW2, .string oW3, .string oW4, .string oW5] 9) none).block _ (by have := hB1.size; simp at this; omega) (by simp), hB1.block _ (by simp)]; exact HR0.out
  have hl : ∀ j : Nat, (w1.alloc (.cells #[.string ⟨#[]⟩, .string oW1, .string oW2, .string oW3, .string oW4, .string oW5] 9)).cell? ⟨w1.heap.size, j, none⟩ = #[.string ⟨#[]⟩, .string oW1, .string oW2, .string oW3, .string oW4, .string oW5][j]? := fun j => cell_of_row _ w1.heap.size j _ _ _ (heap_alloc_new w1 (.cells #[.string ⟨#[]⟩, .string oW1, .string oW2, .string oW3, .string oW4, .string oW5] 9))
  have hlt : w1.heap.size < (w1.alloc (.cells #[.string ⟨#[]⟩, .string oW1, .string oW2, .string oW3, .string oW4, .string oW5] 9)).heap.size := by simp
  obtain ⟨gw, hgw⟩ : ∃ g, w1.heap.size = g := ⟨_, rfl⟩
  rw [hgw] at hl hlt ⊢
  obtain ⟨W0, hW0⟩ : ∃ W0, w1.alloc (.cells #[.string ⟨#[]⟩, .string oW1, .string oW2, .string oW3, .string oW4, .string oW5] 9) = W0 := ⟨_, rfl⟩
  rw [hW0] at hBW hzW hl hlt ⊢
  clear hW0 hB1' hB1 hgw HB0 HR0
  have HC := hidE (fun (W : World) (h : Below W0.heap.size W0 W) (j : Nat) => ((h.cell (p := ⟨gw, j, none⟩) hlt).trans (hl j)))
  have HZ := hidE (fun (W : World) (h : Below W0.heap.size W0 W) => (h.block w.heap.size (Array.getElem?_eq_some_iff.1 hzW).1).trans hzW)
  have HBW := hidE hBW
  have hw0 := hBW.size
  clear hl hzW hBW hlt
  go_loopw [8] (fun iv wl => ∃ j : Nat, 1 ≤ j ∧ j ≤ 6 ∧ iv = .int .i64 j ∧ Hid (specFrom s j = R0) ∧ Hid (Below W0.heap.size W0 wl)) (fun iv _ => 6 - (RowKit.intOf iv).toNat)
  case atStart => exact ⟨1, Nat.le_refl _, by omega, rfl, HQ, Below.refl _ _⟩
  case round =>
    clear HQ
    obtain ⟨j, hj1, hj6, rfl, HQ, HB⟩ := hrel
    match j, hj1, hj6 with
    | 1, _, _ =>
      rw [show ((1 : Nat) : Int) = (1 : Int) from rfl]
      have hmk : mkOp 1 pa mo = ⟨1, pa, ⟨#[]⟩, mo⟩ := rfl
      have how : opW 1 = oW1 := rfl
      have HH1 := hidE (HH.out 1 (specFrom s 2))
      have HM1 := hidE (HM.out 1 (specFrom s 2))
      rw [hmk, how] at HH1 HM1
      have HQ' : Hid (specAt s 1 (specFrom s 2) = R0) := HQ
      have HOp := hidE (fun W => HT.out 1 pa ⟨#[]⟩ mo W hpz (by decide) hmz)
      clear hmk how HQ HH HM HT
      have hBo : Below W0.heap.size W0 (wr.alloc (.cells #[.int .i64 1, .string pa, .string ⟨#[]⟩, .string mo] 40)) := HB.out.alloc HB.out.size _
      have hlw := HC.out _ hBo 1
      rw [show #[.string ⟨#[]⟩, .string oW1, .string oW2, .string oW3, .string oW4, .string oW5][1]? = some (Value.string oW1) from rfl] at hlw
      by_cases e1 : (oW1 : ByteArray) = kd
      · obtain ⟨k1, k2⟩ := str_yes e1
        by_cases e2 : opT ⟨1, pa, ⟨#[]⟩, mo⟩ = s
        · by_cases e3 : s.size = 0
          · have HN : Hid (specFrom s 2 = R0) := by show _ = _; rw [← HQ'.out, HM1.out (fun h => h.2.2 e3)]
            have k4 : (opT ⟨1, pa, ⟨#[]⟩, mo⟩).toList = [] := by rw [e2, Lib.toList_data]; exact lb_nil.2 e3
            have k5 : s.toList = [] := by rw [Lib.toList_data]; exact lb_nil.2 e3
            clear e1 e2 e3 HQ' HH1 HM1
            go_wp2_with (first | (go_at_call 27; refine (HOp.out _).mono ?_; rintro e w3 ⟨rfl, hB3⟩) | fail)
            go_roundw
            case rel => exact ⟨2, by omega, by omega, by go_num, HN, hBo.trans (hB3.mono hBo.size)⟩
            case measure => simp [RowKit.intOf]
          · have hR : R0 = some ⟨1, pa, ⟨#[]⟩, mo⟩ := by rw [← HQ'.out, HH1.out e1 e2 e3]
            obtain ⟨k3, k4⟩ := str_yes e2
            have k5 : (s.toList == []) = false := by
              rw [Lib.toList_data]; simp; intro q; apply e3; show s.data.size = 0; rw [q]; rfl
            have k6 : ¬ s.toList = [] := by simpa using k5
            clear e1 e2 e3 HQ' HH1 HM1
            subst hR
            go_wp2_with (first | (go_at_call 27; refine (HOp.out _).mono ?_; rintro e w3 ⟨rfl, hB3⟩; have hBo3 := hBo.trans (hB3.mono hBo.size); have hzf := HZ.out _ hBo3; obtain ⟨d0, d1, d2, d3⟩ := box4t hB3; obtain ⟨⟨r0, r0'⟩, r1, r2, r3⟩ := set4_rules hzf; have r1a := fun u => (r1 u).1; have r1b := fun u => (r1 u).2; have r2a := fun u x => (r2 u x).1; have r2b := fun u x => (r2 u x).2; have r3a := fun u x y => (r3 u x y).1; have r3b := fun u x y => (r3 u x y).2; clear r1 r2 r3) | fail)
            have hBf := HBW.out.trans (hBo3.mono hw0)
            have s4 := set4_is hzf (.int .i64 1) (.string pa) (.string ⟨#[]⟩) (.string mo)
            have hBs := s4.1.below hBf (Nat.le_refl _)
            have z0 := cell_of_row _ w.heap.size 0 _ _ _ s4.2
            have z1 := cell_of_row _ w.heap.size 1 _ _ _ s4.2
            have z2 := cell_of_row _ w.heap.size 2 _ _ _ s4.2
            have z3 := cell_of_row _ w.heap.size 3 _ _ _ s4.2
            exact bodyPost_ret (v := .tuple #[opAggS ⟨1, pa, ⟨#[]⟩, mo⟩, .bool true]) (by simp [results, Tryd.results30, go_sem, z0, z1, z2, z3]) rfl ⟨rfl, hBs⟩
        · obtain ⟨k3, k4⟩ := str_no e2
          have HN : Hid (specFrom s 2 = R0) := by show _ = _; rw [← HQ'.out, HM1.out (fun h => e2 h.2.1)]
          clear e1 e2 HQ' HH1 HM1
          go_wp2_with (first | (go_at_call 27; refine (HOp.out _).mono ?_; rintro e w3 ⟨rfl, hB3⟩) | fail)
          go_roundw
          case rel => exact ⟨2, by omega, by omega, by go_num, HN, hBo.trans (hB3.mono hBo.size)⟩
          case measure => simp [RowKit.intOf]
      · obtain ⟨k1, k2⟩ := str_no e1
        have HN : Hid (specFrom s 2 = R0) := by show _ = _; rw [← HQ'.out, HM1.out (fun h => e1 h.1)]
        clear e1 HQ' HH1 HM1 HOp
        go_wp2
        go_roundw
        case rel => exact ⟨2, by omega, by omega, by go_num, HN, hBo⟩
        case measure => simp [RowKit.intOf]
    | 2, _, _ =>
      rw [show ((2 : Nat) : Int) = (2 : Int) from rfl]
      have hmk : mkOp 2 pa mo = ⟨2, pa, ⟨#[]⟩, mo⟩ := rfl
      have how : opW 2 = oW2 := rfl
      have HH2 := hidE (HH.out 2 (specFrom s 3))
      have HM2 := hidE (HM.out 2 (specFrom s 3))
      rw [hmk, how] at HH2 HM2
      have HQ' : Hid (specAt s 2 (specFrom s 3) = R0) := HQ
      have HOp := hidE (fun W => HT.out 2 pa ⟨#[]⟩ mo W hpz (by decide) hmz)
      clear hmk how HQ HH HM HT
      have hBo : Below W0.heap.size W0 (wr.alloc (.cells #[.int .i64 2, .string pa, .string ⟨#[]⟩, .string mo] 40)) := HB.out.alloc HB.out.size _
      have hlw := HC.out _ hBo 2
      rw [show #[.string ⟨#[]⟩, .string oW1, .string oW2, .string oW3, .string oW4, .string oW5][2]? = some (Value.string oW2) from rfl] at hlw
      by_cases e1 : (oW2 : ByteArray) = kd
      · obtain ⟨k1, k2⟩ := str_yes e1
        by_cases e2 : opT ⟨2, pa, ⟨#[]⟩, mo⟩ = s
        · by_cases e3 : s.size = 0
          · have HN : Hid (specFrom s 3 = R0) := by show _ = _; rw [← HQ'.out, HM2.out (fun h => h.2.2 e3)]
            have k4 : (opT ⟨2, pa, ⟨#[]⟩, mo⟩).toList = [] := by rw [e2, Lib.toList_data]; exact lb_nil.2 e3
            have k5 : s.toList = [] := by rw [Lib.toList_data]; exact lb_nil.2 e3
            clear e1 e2 e3 HQ' HH2 HM2
            go_wp2_with (first | (go_at_call 27; refine (HOp.out _).mono ?_; rintro e w3 ⟨rfl, hB3⟩) | fail)
            go_roundw
            case rel => exact ⟨3, by omega, by omega, by go_num, HN, hBo.trans (hB3.mono hBo.size)⟩
            case measure => simp [RowKit.intOf]
          · have hR : R0 = some ⟨2, pa, ⟨#[]⟩, mo⟩ := by rw [← HQ'.out, HH2.out e1 e2 e3]
            obtain ⟨k3, k4⟩ := str_yes e2
            have k5 : (s.toList == []) = false := by
              rw [Lib.toList_data]; simp; intro q; apply e3; show s.data.size = 0; rw [q]; rfl
            have k6 : ¬ s.toList = [] := by simpa using k5
            clear e1 e2 e3 HQ' HH2 HM2
            subst hR
            go_wp2_with (first | (go_at_call 27; refine (HOp.out _).mono ?_; rintro e w3 ⟨rfl, hB3⟩; have hBo3 := hBo.trans (hB3.mono hBo.size); have hzf := HZ.out _ hBo3; obtain ⟨d0, d1, d2, d3⟩ := box4t hB3; obtain ⟨⟨r0, r0'⟩, r1, r2, r3⟩ := set4_rules hzf; have r1a := fun u => (r1 u).1; have r1b := fun u => (r1 u).2; have r2a := fun u x => (r2 u x).1; have r2b := fun u x => (r2 u x).2; have r3a := fun u x y => (r3 u x y).1; have r3b := fun u x y => (r3 u x y).2; clear r1 r2 r3) | fail)
            have hBf := HBW.out.trans (hBo3.mono hw0)
            have s4 := set4_is hzf (.int .i64 2) (.string pa) (.string ⟨#[]⟩) (.string mo)
            have hBs := s4.1.below hBf (Nat.le_refl _)
            have z0 := cell_of_row _ w.heap.size 0 _ _ _ s4.2
            have z1 := cell_of_row _ w.heap.size 1 _ _ _ s4.2
            have z2 := cell_of_row _ w.heap.size 2 _ _ _ s4.2
            have z3 := cell_of_row _ w.heap.size 3 _ _ _ s4.2
            exact bodyPost_ret (v := .tuple #[opAggS ⟨2, pa, ⟨#[]⟩, mo⟩, .bool true]) (by simp [results, Tryd.results30, go_sem, z0, z1, z2, z3]) rfl ⟨rfl, hBs⟩
        · obtain ⟨k3, k4⟩ := str_no e2
          have HN : Hid (specFrom s 3 = R0) := by show _ = _; rw [← HQ'.out, HM2.out (fun h => e2 h.2.1)]
          clear e1 e2 HQ' HH2 HM2
          go_wp2_with (first | (go_at_call 27; refine (HOp.out _).mono ?_; rintro e w3 ⟨rfl, hB3⟩) | fail)
          go_roundw
          case rel => exact ⟨3, by omega, by omega, by go_num, HN, hBo.trans (hB3.mono hBo.size)⟩
          case measure => simp [RowKit.intOf]
      · obtain ⟨k1, k2⟩ := str_no e1
        have HN : Hid (specFrom s 3 = R0) := by show _ = _; rw [← HQ'.out, HM2.out (fun h => e1 h.1)]
        clear e1 HQ' HH2 HM2 HOp
        go_wp2
        go_roundw
        case rel => exact ⟨3, by omega, by omega, by go_num, HN, hBo⟩
        case measure => simp [RowKit.intOf]
    | 3, _, _ =>
      rw [show ((3 : Nat) : Int) = (3 : Int) from rfl]
      have hmk : mkOp 3 pa mo = ⟨3, pa, ⟨#[]⟩, mo⟩ := rfl
      have how : opW 3 = oW3 := rfl
      have HH3 := hidE (HH.out 3 (specFrom s 4))
      have HM3 := hidE (HM.out 3 (specFrom s 4))
      rw [hmk, how] at HH3 HM3
      have HQ' : Hid (specAt s 3 (specFrom s 4) = R0) := HQ
      have HOp := hidE (fun W => HT.out 3 pa ⟨#[]⟩ mo W hpz (by decide) hmz)
      clear hmk how HQ HH HM HT
      have hBo : Below W0.heap.size W0 (wr.alloc (.cells #[.int .i64 3, .string pa, .string ⟨#[]⟩, .string mo] 40)) := HB.out.alloc HB.out.size _
      have hlw := HC.out _ hBo 3
      rw [show #[.string ⟨#[]⟩, .string oW1, .string oW2, .string oW3, .string oW4, .string oW5][3]? = some (Value.string oW3) from rfl] at hlw
      by_cases e1 : (oW3 : ByteArray) = kd
      · obtain ⟨k1, k2⟩ := str_yes e1
        by_cases e2 : opT ⟨3, pa, ⟨#[]⟩, mo⟩ = s
        · by_cases e3 : s.size = 0
          · have HN : Hid (specFrom s 4 = R0) := by show _ = _; rw [← HQ'.out, HM3.out (fun h => h.2.2 e3)]
            have k4 : (opT ⟨3, pa, ⟨#[]⟩, mo⟩).toList = [] := by rw [e2, Lib.toList_data]; exact lb_nil.2 e3
            have k5 : s.toList = [] := by rw [Lib.toList_data]; exact lb_nil.2 e3
            clear e1 e2 e3 HQ' HH3 HM3
            go_wp2_with (first | (go_at_call 27; refine (HOp.out _).mono ?_; rintro e w3 ⟨rfl, hB3⟩) | fail)
            go_roundw
            case rel => exact ⟨4, by omega, by omega, by go_num, HN, hBo.trans (hB3.mono hBo.size)⟩
            case measure => simp [RowKit.intOf]
          · have hR : R0 = some ⟨3, pa, ⟨#[]⟩, mo⟩ := by rw [← HQ'.out, HH3.out e1 e2 e3]
            obtain ⟨k3, k4⟩ := str_yes e2
            have k5 : (s.toList == []) = false := by
              rw [Lib.toList_data]; simp; intro q; apply e3; show s.data.size = 0; rw [q]; rfl
            have k6 : ¬ s.toList = [] := by simpa using k5
            clear e1 e2 e3 HQ' HH3 HM3
            subst hR
            go_wp2_with (first | (go_at_call 27; refine (HOp.out _).mono ?_; rintro e w3 ⟨rfl, hB3⟩; have hBo3 := hBo.trans (hB3.mono hBo.size); have hzf := HZ.out _ hBo3; obtain ⟨d0, d1, d2, d3⟩ := box4t hB3; obtain ⟨⟨r0, r0'⟩, r1, r2, r3⟩ := set4_rules hzf; have r1a := fun u => (r1 u).1; have r1b := fun u => (r1 u).2; have r2a := fun u x => (r2 u x).1; have r2b := fun u x => (r2 u x).2; have r3a := fun u x y => (r3 u x y).1; have r3b := fun u x y => (r3 u x y).2; clear r1 r2 r3) | fail)
            have hBf := HBW.out.trans (hBo3.mono hw0)
            have s4 := set4_is hzf (.int .i64 3) (.string pa) (.string ⟨#[]⟩) (.string mo)
            have hBs := s4.1.below hBf (Nat.le_refl _)
            have z0 := cell_of_row _ w.heap.size 0 _ _ _ s4.2
            have z1 := cell_of_row _ w.heap.size 1 _ _ _ s4.2
            have z2 := cell_of_row _ w.heap.size 2 _ _ _ s4.2
            have z3 := cell_of_row _ w.heap.size 3 _ _ _ s4.2
            exact bodyPost_ret (v := .tuple #[opAggS ⟨3, pa, ⟨#[]⟩, mo⟩, .bool true]) (by simp [results, Tryd.results30, go_sem, z0, z1, z2, z3]) rfl ⟨rfl, hBs⟩
        · obtain ⟨k3, k4⟩ := str_no e2
          have HN : Hid (specFrom s 4 = R0) := by show _ = _; rw [← HQ'.out, HM3.out (fun h => e2 h.2.1)]
          clear e1 e2 HQ' HH3 HM3
          go_wp2_with (first | (go_at_call 27; refine (HOp.out _).mono ?_; rintro e w3 ⟨rfl, hB3⟩) | fail)
          go_roundw
          case rel => exact ⟨4, by omega, by omega, by go_num, HN, hBo.trans (hB3.mono hBo.size)⟩
          case measure => simp [RowKit.intOf]
      · obtain ⟨k1, k2⟩ := str_no e1
        have HN : Hid (specFrom s 4 = R0) := by show _ = _; rw [← HQ'.out, HM3.out (fun h => e1 h.1)]
        clear e1 HQ' HH3 HM3 HOp
        go_wp2
        go_roundw
        case rel => exact ⟨4, by omega, by omega, by go_num, HN, hBo⟩
        case measure => simp [RowKit.intOf]
    | 4, _, _ =>
      rw [show ((4 : Nat) : Int) = (4 : Int) from rfl]
      have hmk : mkOp 4 pa mo = ⟨4, pa, ⟨#[]⟩, mo⟩ := rfl
      have how : opW 4 = oW4 := rfl
      have HH4 := hidE (HH.out 4 (specFrom s 5))
      have HM4 := hidE (HM.out 4 (specFrom s 5))
      rw [hmk, how] at HH4 HM4
      have HQ' : Hid (specAt s 4 (specFrom s 5) = R0) := HQ
      have HOp := hidE (fun W => HT.out 4 pa ⟨#[]⟩ mo W hpz (by decide) hmz)
      clear hmk how HQ HH HM HT
      have hBo : Below W0.heap.size W0 (wr.alloc (.cells #[.int .i64 4, .string pa, .string ⟨#[]⟩, .string mo] 40)) := HB.out.alloc HB.out.size _
      have hlw := HC.out _ hBo 4
      rw [show #[.string ⟨#[]⟩, .string oW1, .string oW2, .string oW3, .string oW4, .string oW5][4]? = some (Value.string oW4) from rfl] at hlw
      by_cases e1 : (oW4 : ByteArray) = kd
      · obtain ⟨k1, k2⟩ := str_yes e1
        by_cases e2 : opT ⟨4, pa, ⟨#[]⟩, mo⟩ = s
        · by_cases e3 : s.size = 0
          · have HN : Hid (specFrom s 5 = R0) := by show _ = _; rw [← HQ'.out, HM4.out (fun h => h.2.2 e3)]
            have k4 : (opT ⟨4, pa, ⟨#[]⟩, mo⟩).toList = [] := by rw [e2, Lib.toList_data]; exact lb_nil.2 e3
            have k5 : s.toList = [] := by rw [Lib.toList_data]; exact lb_nil.2 e3
            clear e1 e2 e3 HQ' HH4 HM4
            go_wp2_with (first | (go_at_call 27; refine (HOp.out _).mono ?_; rintro e w3 ⟨rfl, hB3⟩) | fail)
            go_roundw
            case rel => exact ⟨5, by omega, by omega, by go_num, HN, hBo.trans (hB3.mono hBo.size)⟩
            case measure => simp [RowKit.intOf]
          · have hR : R0 = some ⟨4, pa, ⟨#[]⟩, mo⟩ := by rw [← HQ'.out, HH4.out e1 e2 e3]
            obtain ⟨k3, k4⟩ := str_yes e2
            have k5 : (s.toList == []) = false := by
              rw [Lib.toList_data]; simp; intro q; apply e3; show s.data.size = 0; rw [q]; rfl
            have k6 : ¬ s.toList = [] := by simpa using k5
            clear e1 e2 e3 HQ' HH4 HM4
            subst hR
            go_wp2_with (first | (go_at_call 27; refine (HOp.out _).mono ?_; rintro e w3 ⟨rfl, hB3⟩; have hBo3 := hBo.trans (hB3.mono hBo.size); have hzf := HZ.out _ hBo3; obtain ⟨d0, d1, d2, d3⟩ := box4t hB3; obtain ⟨⟨r0, r0'⟩, r1, r2, r3⟩ := set4_rules hzf; have r1a := fun u => (r1 u).1; have r1b := fun u => (r1 u).2; have r2a := fun u x => (r2 u x).1; have r2b := fun u x => (r2 u x).2; have r3a := fun u x y => (r3 u x y).1; have r3b := fun u x y => (r3 u x y).2; clear r1 r2 r3) | fail)
            have hBf := HBW.out.trans (hBo3.mono hw0)
            have s4 := set4_is hzf (.int .i64 4) (.string pa) (.string ⟨#[]⟩) (.string mo)
            have hBs := s4.1.below hBf (Nat.le_refl _)
            have z0 := cell_of_row _ w.heap.size 0 _ _ _ s4.2
            have z1 := cell_of_row _ w.heap.size 1 _ _ _ s4.2
            have z2 := cell_of_row _ w.heap.size 2 _ _ _ s4.2
            have z3 := cell_of_row _ w.heap.size 3 _ _ _ s4.2
            exact bodyPost_ret (v := .tuple #[opAggS ⟨4, pa, ⟨#[]⟩, mo⟩, .bool true]) (by simp [results, Tryd.results30, go_sem, z0, z1, z2, z3]) rfl ⟨rfl, hBs⟩
        · obtain ⟨k3, k4⟩ := str_no e2
          have HN : Hid (specFrom s 5 = R0) := by show _ = _; rw [← HQ'.out, HM4.out (fun h => e2 h.2.1)]
          clear e1 e2 HQ' HH4 HM4
          go_wp2_with (first | (go_at_call 27; refine (HOp.out _).mono ?_; rintro e w3 ⟨rfl, hB3⟩) | fail)
          go_roundw
          case rel => exact ⟨5, by omega, by omega, by go_num, HN, hBo.trans (hB3.mono hBo.size)⟩
          case measure => simp [RowKit.intOf]
      · obtain ⟨k1, k2⟩ := str_no e1
        have HN : Hid (specFrom s 5 = R0) := by show _ = _; rw [← HQ'.out, HM4.out (fun h => e1 h.1)]
        clear e1 HQ' HH4 HM4 HOp
        go_wp2
        go_roundw
        case rel => exact ⟨5, by omega, by omega, by go_num, HN, hBo⟩
        case measure => simp [RowKit.intOf]
    | 5, _, _ =>
      rw [show ((5 : Nat) : Int) = (5 : Int) from rfl]
      have hmk : mkOp 5 pa mo = ⟨5, pa, mo, ⟨#[]⟩⟩ := rfl
      have how : opW 5 = oW5 := rfl
      have HH5 := hidE (HH.out 5 (specFrom s 6))
      have HM5 := hidE (HM.out 5 (specFrom s 6))
      rw [hmk, how] at HH5 HM5
      have HQ' : Hid (specAt s 5 (specFrom s 6) = R0) := HQ
      have HOp := hidE (fun W => HT.out 5 pa mo ⟨#[]⟩ W hpz hmz (by decide))
      clear hmk how HQ HH HM HT
      have hBo : Below W0.heap.size W0 (wr.alloc (.cells #[.int .i64 5, .string pa, .string mo, .string ⟨#[]⟩] 40)) := HB.out.alloc HB.out.size _
      have hlw := HC.out _ hBo 5
      rw [show #[.string ⟨#[]⟩, .string oW1, .string oW2, .string oW3, .string oW4, .string oW5][5]? = some (Value.string oW5) from rfl] at hlw
      by_cases e1 : (oW5 : ByteArray) = kd
      · obtain ⟨k1, k2⟩ := str_yes e1
        by_cases e2 : opT ⟨5, pa, mo, ⟨#[]⟩⟩ = s
        · by_cases e3 : s.size = 0
          · have HN : Hid (specFrom s 6 = R0) := by show _ = _; rw [← HQ'.out, HM5.out (fun h => h.2.2 e3)]
            have k4 : (opT ⟨5, pa, mo, ⟨#[]⟩⟩).toList = [] := by rw [e2, Lib.toList_data]; exact lb_nil.2 e3
            have k5 : s.toList = [] := by rw [Lib.toList_data]; exact lb_nil.2 e3
            clear e1 e2 e3 HQ' HH5 HM5
            go_wp2_with (first | (go_at_call 27; refine (HOp.out _).mono ?_; rintro e w3 ⟨rfl, hB3⟩) | fail)
            go_roundw
            case rel => exact ⟨6, by omega, by omega, by go_num, HN, hBo.trans (hB3.mono hBo.size)⟩
            case measure => simp [RowKit.intOf]
          · have hR : R0 = some ⟨5, pa, mo, ⟨#[]⟩⟩ := by rw [← HQ'.out, HH5.out e1 e2 e3]
            obtain ⟨k3, k4⟩ := str_yes e2
            have k5 : (s.toList == []) = false := by
              rw [Lib.toList_data]; simp; intro q; apply e3; show s.data.size = 0; rw [q]; rfl
            have k6 : ¬ s.toList = [] := by simpa using k5
            clear e1 e2 e3 HQ' HH5 HM5
            subst hR
            go_wp2_with (first | (go_at_call 27; refine (HOp.out _).mono ?_; rintro e w3 ⟨rfl, hB3⟩; have hBo3 := hBo.trans (hB3.mono hBo.size); have hzf := HZ.out _ hBo3; obtain ⟨d0, d1, d2, d3⟩ := box4t hB3; obtain ⟨⟨r0, r0'⟩, r1, r2, r3⟩ := set4_rules hzf; have r1a := fun u => (r1 u).1; have r1b := fun u => (r1 u).2; have r2a := fun u x => (r2 u x).1; have r2b := fun u x => (r2 u x).2; have r3a := fun u x y => (r3 u x y).1; have r3b := fun u x y => (r3 u x y).2; clear r1 r2 r3) | fail)
            have hBf := HBW.out.trans (hBo3.mono hw0)
            have s4 := set4_is hzf (.int .i64 5) (.string pa) (.string mo) (.string ⟨#[]⟩)
            have hBs := s4.1.below hBf (Nat.le_refl _)
            have z0 := cell_of_row _ w.heap.size 0 _ _ _ s4.2
            have z1 := cell_of_row _ w.heap.size 1 _ _ _ s4.2
            have z2 := cell_of_row _ w.heap.size 2 _ _ _ s4.2
            have z3 := cell_of_row _ w.heap.size 3 _ _ _ s4.2
            exact bodyPost_ret (v := .tuple #[opAggS ⟨5, pa, mo, ⟨#[]⟩⟩, .bool true]) (by simp [results, Tryd.results30, go_sem, z0, z1, z2, z3]) rfl ⟨rfl, hBs⟩
        · obtain ⟨k3, k4⟩ := str_no e2
          have HN : Hid (specFrom s 6 = R0) := by show _ = _; rw [← HQ'.out, HM5.out (fun h => e2 h.2.1)]
          clear e1 e2 HQ' HH5 HM5
          go_wp2_with (first | (go_at_call 27; refine (HOp.out _).mono ?_; rintro e w3 ⟨rfl, hB3⟩) | fail)
          go_roundw
          case rel => exact ⟨6, by omega, by omega, by go_num, HN, hBo.trans (hB3.mono hBo.size)⟩
          case measure => simp [RowKit.intOf]
      · obtain ⟨k1, k2⟩ := str_no e1
        have HN : Hid (specFrom s 6 = R0) := by show _ = _; rw [← HQ'.out, HM5.out (fun h => e1 h.1)]
        clear e1 HQ' HH5 HM5 HOp
        go_wp2
        go_roundw
        case rel => exact ⟨6, by omega, by omega, by go_num, HN, hBo⟩
        case measure => simp [RowKit.intOf]
    | 6, _, _ =>
      have hR : R0 = none := HQ.out.symm
      subst hR
      have hzf := HZ.out _ HB.out
      obtain ⟨⟨r0, r0'⟩, r1, r2, r3⟩ := set4_rules hzf; have r1a := fun u => (r1 u).1; have r1b := fun u => (r1 u).2; have r2a := fun u x => (r2 u x).1; have r2b := fun u x => (r2 u x).2; have r3a := fun u x y => (r3 u x y).1; have r3b := fun u x y => (r3 u x y).2; clear r1 r2 r3
      have hBf := HBW.out.trans (HB.out.mono hw0)
      have s4 := set4_is hzf (.int .i64 0) (.string ⟨#[]⟩) (.string ⟨#[]⟩) (.string ⟨#[]⟩)
      have hBs := s4.1.below hBf (Nat.le_refl _)
      have z0 := cell_of_row _ w.heap.size 0 _ _ _ s4.2
      have z1 := cell_of_row _ w.heap.size 1 _ _ _ s4.2
      have z2 := cell_of_row _ w.heap.size 2 _ _ _ s4.2
      have z3 := cell_of_row _ w.heap.size 3 _ _ _ s4.2
      rw [show ((6 : Nat) : Int) = (6 : Int) from rfl]
      go_wp2
      exact bodyPost_ret (v := .tuple #[opAggS zeroOS, .bool false]) (by simp [results, Tryd.results30, go_sem, z0, z1, z2, z3, zeroOS]) rfl ⟨rfl, hBs⟩
end Go.Proofs.YtgkfhcpegdlejaaDoor
