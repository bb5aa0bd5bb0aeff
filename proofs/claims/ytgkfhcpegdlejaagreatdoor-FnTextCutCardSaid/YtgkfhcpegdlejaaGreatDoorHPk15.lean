/-
  The walk of the program's own: the lines of a text.
-/
import Derived.Test.YtgkfhcpegdlejaaGreatDoorHPk14
import Derived.Test.YtgkfhcpegdlejaaGreatDoorHPk02
import Derived.Test.YtgkfhcpegdlejaaGreatDoorHPk05
import Derived.RangeFuncOwn
import Derived.Deep.LoopGhost
import Derived.WalkMore
import Derived.BigQuiet
import Derived.Deep.QuietTactic
import Derived.Test.YtgkfhcpegdlejaaGreatDoorHPk12
import Derived.Test.YtgkfhcpegdlejaaGreatDoorHPk04
namespace Go.Proofs.YtgkfhcpegdlejaaGreatDoor
open Go.RowKit Go.Lib

def rowL (ls : List (List (List UInt8))) : List Value := ls.flatMap fun ln => (lineC ln).toList
theorem rowL_snoc (ls : List (List (List UInt8))) (ln : List (List UInt8)) : rowL (ls ++ [ln]) = rowL ls ++ (lineC ln).toList := by unfold rowL; simp
theorem Tryz.infoL : (Tryz.prog.info? 64).map (fun i => (i.zero, i.size, i.bytes)) = some (some (.agg #[.string ByteArray.empty, .string ByteArray.empty, .string ByteArray.empty, .int .i64 0]), 4, 56) := by kernel_rfl
theorem OnlyB.grown {b : Nat} {w w' : World} (h : OnlyB b w w') : w.grownBy w' (some b) := ⟨h.os, h.tape, h.output, by rw [h.size]; exact Nat.le_refl _, fun k _ hk => h.block k (fun e => hk (by rw [e]))⟩

theorem below_drewN {n q : Nat} {a w : World} (h : Below n a w) : Below n a (w.drewN q) := ⟨h.os, h.tape, h.output, h.size, h.block⟩

/-- What the scan holds in memory: the line that is read, the place, the lines so far. -/
structure Scan (w : World) (s : ByteArray) (pos : Nat) (ln : List (List UInt8)) (v : Value) (ls : List (List (List UInt8))) (wx : World) : Prop where
  line : wx.heap[w.heap.size]? = some (.cells (lineC ln) 64 (0, 0))
  iter : wx.heap[w.heap.size + 1]? = some (.stringIter s pos)
  own : wx.ownsRow (w.heap.size + 2) 64 4 v ls.length (rowL ls)
  below : Below w.heap.size w wx
  size : w.heap.size + 2 ≤ wx.heap.size
theorem Scan.kept {w : World} {s : ByteArray} {pos : Nat} {ln : List (List UInt8)} {v : Value} {ls : List (List (List UInt8))} {wx wy : World} (h : Scan w s pos ln v ls wx) {row : Option Nat} (hg : wx.grownBy wy row) (h0 : row ≠ some w.heap.size) (h1 : row ≠ some (w.heap.size + 1)) (hv : v.ownBlock = none ∨ v.ownBlock ≠ row) (hr : ∀ k, row = some k → w.heap.size ≤ k) : Scan w s pos ln v ls wy :=
  ⟨by rw [hg.block _ (by have := h.size; omega) (fun e => h0 e.symm)]; exact h.line, by rw [hg.block _ (by have := h.size; omega) (fun e => h1 e.symm)]; exact h.iter, h.own.kept hg hv, h.below.grown hg (by have := h.size; omega) hr, Nat.le_trans h.size hg.size⟩
theorem Scan.next {w : World} {s : ByteArray} {pos : Nat} {ln : List (List UInt8)} {v : Value} {ls : List (List (List UInt8))} {wx : World} (h : Scan w s pos ln v ls wx) (p2 : Nat) : Scan w s p2 ln v ls (wx.iterAt (w.heap.size + 1) s p2) := by
  have hg := grownBy_putObj' wx (w.heap.size + 1) (.stringIter s p2)
  refine ⟨?_, Lib.iterAt_heap wx _ s pos p2 h.iter, h.own.kept hg ?_, Lib.below_iterAt h.below (k := w.heap.size + 1) (by omega) s p2, Nat.le_trans h.size hg.size⟩
  · show (wx.putObj (w.heap.size + 1) (.stringIter s p2)).heap[w.heap.size]? = _
    rw [hg.block _ (by have := h.size; omega) (by intro e; injection e with e; omega)]
    exact h.line
  · cases hob : v.ownBlock with
    | none => exact .inl rfl
    | some q => exact .inr (by intro e; injection e with e; have := (h.own.lt q hob).1; omega)
theorem Scan.line' {w : World} {s : ByteArray} {pos : Nat} {ln ln' : List (List UInt8)} {v : Value} {ls : List (List (List UInt8))} {wx wy : World} (h : Scan w s pos ln v ls wx) (ho : OnlyB w.heap.size wx wy) (hl : wy.heap[w.heap.size]? = some (.cells (lineC ln') 64 (0, 0))) : Scan w s pos ln' v ls wy :=
  ⟨hl, by rw [ho.block _ (by omega)]; exact h.iter, h.own.kept ho.grown (by
    cases hob : v.ownBlock with
    | none => exact .inl rfl
    | some q => exact .inr (by intro e; injection e with e; have := (h.own.lt q hob).1; omega)), ho.below h.below (Nat.le_refl _), by rw [ho.size]; exact h.size⟩

theorem Scan.push {w : World} {s : ByteArray} {pos : Nat} {ln lw : List (List UInt8)} {v v' : Value} {ls : List (List (List UInt8))} {wx wy : World} {o : Obj} (h : Scan w s pos ln v ls wx) (hg : (wx.alloc o).grownBy wy v.ownBlock) (hown : wy.ownsRow (w.heap.size + 2) 64 4 v' (ls.length + 1) (rowL ls ++ (lineC lw).toList)) : Scan w s pos ln v' (ls ++ [lw]) wy := by
  have hga := World.grownBy_alloc wx o none
  have hsz := h.size
  have hne : ∀ q, v.ownBlock = some q → w.heap.size + 2 ≤ q := fun q hq => (h.own.lt q hq).1
  have hsa := hga.size
  refine ⟨?_, ?_, by rw [List.length_append, List.length_singleton, rowL_snoc]; exact hown, (h.below.alloc (by omega) o).grown hg (by omega) (fun k hk => by have := hne k hk; omega), Nat.le_trans (Nat.le_trans hsz hsa) hg.size⟩
  · rw [hg.block _ (by omega) (fun e => by have := hne _ e.symm; omega), hga.block _ (by omega) (by simp)]
    exact h.line
  · rw [hg.block _ (by omega) (fun e => by have := hne _ e.symm; omega), hga.block _ (by omega) (by simp)]
    exact h.iter
theorem line_new (w : World) (lw : List (List UInt8)) : ∀ j u, (lineC lw).toList[j]? = some u → (w.alloc (.cells (lineC lw) 64)).cell? ((⟨w.heap.size, 0, none⟩ : Addr).add j) = some u := by
  intro j u hj
  have h1 := cell_of_row (w.alloc (.cells (lineC lw) 64)) w.heap.size j _ _ _ (heap_alloc_new w (.cells (lineC lw) 64))
  have h2 : (⟨w.heap.size, 0, none⟩ : Addr).add j = ⟨w.heap.size, j, none⟩ := by unfold Addr.add; split <;> simp_all
  rw [h2, h1]
  simpa using hj
theorem line_one (lw : List (List UInt8)) : ∀ u ∈ (lineC lw).toList, u.oneCell' = true := by
  intro u hu
  simp only [List.mem_cons, List.not_mem_nil, or_false] at hu
  rcases hu with rfl | rfl | rfl | rfl <;> rfl
theorem cell_off (w : World) (b i j : Nat) (v : Value) (h : i ≠ j) : (w.setCell ⟨b, i, none⟩ v).cell? ⟨b, j, none⟩ = w.cell? ⟨b, j, none⟩ := World.cell?_setCell_other _ _ _ _ (fun q => by have e := congrArg Addr.off q; dsimp only at e; omega)
theorem set4_rules {w : World} {b : Nat} {c0 c1 c2 c3 : Value} {T : TypeId} (h : w.heap[b]? = some (.cells #[c0, c1, c2, c3] T (0, 0))) :
    (w.cell? ⟨b, 0, none⟩ = some c0 ∧ w.frozen? ⟨b, 0, none⟩ = false) ∧ (∀ u, (w.setCell ⟨b, 0, none⟩ u).cell? ⟨b, 1, none⟩ = some c1 ∧ (w.setCell ⟨b, 0, none⟩ u).frozen? ⟨b, 1, none⟩ = false) ∧
    (∀ u x, ((w.setCell ⟨b, 0, none⟩ u).setCell ⟨b, 1, none⟩ x).cell? ⟨b, 2, none⟩ = some c2 ∧ ((w.setCell ⟨b, 0, none⟩ u).setCell ⟨b, 1, none⟩ x).frozen? ⟨b, 2, none⟩ = false) ∧
    (∀ u x y, (((w.setCell ⟨b, 0, none⟩ u).setCell ⟨b, 1, none⟩ x).setCell ⟨b, 2, none⟩ y).cell? ⟨b, 3, none⟩ = some c3 ∧ (((w.setCell ⟨b, 0, none⟩ u).setCell ⟨b, 1, none⟩ x).setCell ⟨b, 2, none⟩ y).frozen? ⟨b, 3, none⟩ = false) := by
  have hf : ∀ j, w.frozen? ⟨b, j, none⟩ = false := fun j => by simp [World.frozen?, h]
  have hc : ∀ j, w.cell? ⟨b, j, none⟩ = #[c0, c1, c2, c3][j]? := fun j => cell_of_row w b j _ _ _ h
  refine ⟨⟨hc 0, hf 0⟩, fun u => ⟨?_, ?_⟩, fun u x => ⟨?_, ?_⟩, fun u x y => ⟨?_, ?_⟩⟩
  · rw [cell_off _ _ _ _ _ (by omega)]; exact hc 1
  · rw [World.frozen?_setCell]; exact hf 1
  · rw [cell_off _ _ _ _ _ (by omega), cell_off _ _ _ _ _ (by omega)]; exact hc 2
  · rw [World.frozen?_setCell, World.frozen?_setCell]; exact hf 2
  · rw [cell_off _ _ _ _ _ (by omega), cell_off _ _ _ _ _ (by omega), cell_off _ _ _ _ _ (by omega)]; exact hc 3
  · rw [World.frozen?_setCell, World.frozen?_setCell, World.frozen?_setCell]; exact hf 3
theorem set4_is {w : World} {b : Nat} {c0 c1 c2 c3 : Value} {T : TypeId} (h : w.heap[b]? = some (.cells #[c0, c1, c2, c3] T (0, 0))) (u x y z : Value) :
    OnlyB b w ((((w.setCell ⟨b, 0, none⟩ u).setCell ⟨b, 1, none⟩ x).setCell ⟨b, 2, none⟩ y).setCell ⟨b, 3, none⟩ z) ∧ ((((w.setCell ⟨b, 0, none⟩ u).setCell ⟨b, 1, none⟩ x).setCell ⟨b, 2, none⟩ y).setCell ⟨b, 3, none⟩ z).heap[b]? = some (.cells #[u, x, y, z] T (0, 0)) := by
  rw [setCell_eq_setRow w b 0 _ T (0, 0) u h]
  have h1 := setRow_heap w b _ (#[c0, c1, c2, c3].setIfInBounds 0 u) T (0, 0) h
  rw [setCell_eq_setRow _ b 1 _ T (0, 0) x h1]
  have h2 := setRow_heap _ b _ ((#[c0, c1, c2, c3].setIfInBounds 0 u).setIfInBounds 1 x) T (0, 0) h1
  rw [setCell_eq_setRow _ b 2 _ T (0, 0) y h2]
  have h3 := setRow_heap _ b _ (((#[c0, c1, c2, c3].setIfInBounds 0 u).setIfInBounds 1 x).setIfInBounds 2 y) T (0, 0) h2
  rw [setCell_eq_setRow _ b 3 _ T (0, 0) z h3]
  exact ⟨(((OnlyB.setRow b w _).trans (OnlyB.setRow b _ _)).trans (OnlyB.setRow b _ _)).trans (OnlyB.setRow b _ _), setRow_heap _ b _ _ T (0, 0) h3⟩
theorem own_shape {w : World} {base e n : Nat} {v : Value} {xs : List Value} (h : w.ownsRow base e 4 v n xs) : ∃ a c, v = Value.slice a n c := by
  rcases h.2 with ⟨rfl, rfl⟩ | ⟨g, cap, cur, rfl, _⟩
  · exact ⟨_, _, rfl⟩
  · exact ⟨_, _, rfl⟩
set_option maxHeartbeats 3200000 in
set_option maxRecDepth 100000 in
theorem linesOf_any (s : ByteArray) (most : Nat) (hm : most ≤ 32) (hs : s.size ≤ 16777217) (w : World) :
    Calls Tryz.prog 34 #[.string s, .int .i64 (most : Nat)] w fun r w' => ∃ v, r = .returned (.tuple #[v, .bool (scanL most (LB s) [] [] []).isSome]) ∧ Below w.heap.size w w' ∧ ∀ R, scanL most (LB s) [] [] [] = some R → w'.ownsRow w.heap.size 64 4 v R.length (rowL R) := by
  obtain ⟨R0, hR0⟩ : ∃ R0, scanL most (LB s) [] [] [] = R0 := ⟨_, rfl⟩
  rw [hR0]
  obtain ⟨i0, hi, hx0⟩ := Option.map_eq_some_iff.1 Tryz.infoL
  simp only [Prod.mk.injEq] at hx0
  obtain ⟨hz0, hz1, hz2⟩ := hx0
  have HI := hidE (show ((Tryz.prog.info? 64).map (·.size) = some 4) by rw [hi]; simp [hz1])
  have S0 : Scan w s 0 [] (.slice none 0 0) [] ((w.alloc (.cells (lineC []) 64)).alloc (.stringIter s 0)) := by
    refine ⟨?_, ?_, World.ownsRow_nil _ _ _ _, ((Below.refl _ w).alloc (Nat.le_refl _) _).alloc (by simp) _, by simp⟩
    · have h1 := (World.grownBy_alloc (w.alloc (.cells (lineC []) 64)) (.stringIter s 0) none).block w.heap.size (by simp) (by simp)
      rw [h1]; exact heap_alloc_new w _
    · have := heap_alloc_new (w.alloc (.cells (lineC []) 64)) (.stringIter s 0)
      simpa using this
  have HR := hidE hR0
  clear hR0
  go_enter Tryz.func34, Tryz.ntmps34
  go_wp2
  go_step3
  go_wp2
  go_step3
  go_wp2
  go_loopg [6, 8] s.size (fun gf lv sv wx => ∃ (pos st : Nat) (ln : List (List UInt8)) (ls : List (List (List UInt8))), sv = .int .i64 (st : Nat) ∧ Scan w s pos ln lv ls wx ∧ st ≤ pos ∧ pos ≤ s.size ∧ s.size ≤ pos + gf ∧ ln.length ≤ 3 ∧ ls.length ≤ most ∧ Hid (scanL most ((LB s).drop pos) (curL s st pos) ln ls = R0))
  case atStart => exact ⟨0, 0, [], [], rfl, S0, Nat.le_refl _, Nat.zero_le _, by omega, by simp, by simp, HR⟩
  case round =>
    clear HR S0
    obtain ⟨pos, st, ln, ls, rfl, SC, hst, hle, hfu, hl3, hlm, HQ⟩ := hrel
    by_cases hps : pos < s.size
    · obtain ⟨g', rfl⟩ : ∃ g', gk = g' + 1 := ⟨gk - 1, by omega⟩
      have hnx : ∀ ty, (Instr.next (.pointer (some ⟨w.heap.size + 1, 0, none⟩)) true ty).run Tryz.prog wr = _ := fun ty => Lib.run_next_any_at wr (w.heap.size + 1) s pos ty SC.iter hps
      have hend := rune_end s pos hps
      have HSp := hidE (rune_sep s pos 32 (by decide) hps)
      have HEn := hidE (rune_sep s pos 10 (by decide) hps)
      have HOt := hidE (scan_other most s pos st ln ls hps hst)
      have SC2 := SC.next (pos + (Utf8.decode s pos).2)
      obtain ⟨R, hR⟩ : ∃ R, (Utf8.decode s pos).1 = R := ⟨_, rfl⟩
      obtain ⟨K, hK⟩ : ∃ K, (Utf8.decode s pos).2 = K := ⟨_, rfl⟩
      rw [hR, hK] at hnx HSp HEn HOt
      rw [hK] at hend SC2
      obtain ⟨W, hWd⟩ : ∃ W, wr.iterAt (w.heap.size + 1) s (pos + K) = W := ⟨_, rfl⟩
      rw [hWd] at hnx SC2
      clear hR hK hWd SC
      by_cases h32 : R = 32
      · obtain ⟨rfl, hb⟩ := HSp.out h32
        subst h32
        have HC := hidE (scan_space most s pos st ln ls hps hb)
        have hcur := cur_extract s (st := st) (pos := pos) (by omega)
        have hne : ((st : Int) == (s.size : Int)) = false := by rw [beq_eq_false_iff_ne]; omega
        by_cases hno : (s.extract st pos).size = 0 ∨ ln.length = 3
        · have hR0 : R0 = none := by
            rw [← HQ.out, HC.out, if_pos]
            rcases hno with h | h
            · exact .inl (by rw [← hcur]; exact lb_nil.2 h)
            · exact .inr h
          have HA := hidE (add_no_any w.heap.size ln (s.extract st pos) W SC2.line hno)
          subst hR0
          clear HC HQ HSp HEn HOt
          go_wp2_with (first | (go_at_call 66; refine HA.out.mono ?_; rintro e w3 ⟨rfl, ho3⟩) | fail)
          go_quiet (fail)
          go_wp2
          rw [Exit.noGoto_ret]
          refine bodyPost_ret (v := .tuple #[u6, .bool false]) (by simp [results, Tryz.results34, go_sem]) rfl ⟨_, rfl, below_drewN (ho3.below SC2.below (Nat.le_refl _)), fun R h => by cases h⟩
        · have h0 : ¬ (s.extract st pos).size = 0 := fun h => hno (.inl h)
          have h3 : ln.length < 3 := by rw [not_or] at hno; omega
          have HA := hidE (add_yes_any w.heap.size ln (s.extract st pos) W SC2.line h3 h0)
          have HN : Hid (scanL most ((LB s).drop (pos + 1)) (curL s (pos + 1) (pos + 1)) (ln ++ [LB (s.extract st pos)]) ls = R0) := by
            show _ = _
            rw [← HQ.out, HC.out, if_neg (by rw [not_or]; exact ⟨fun h => h0 (lb_nil.1 (by rw [hcur]; exact h)), by omega⟩), hcur]
          clear HC HQ HSp HEn HOt hno
          go_wp2_with (first | (go_at_call 66; refine HA.out.mono ?_; rintro e w3 ⟨rfl, ho3, hl3'⟩) | fail)
          go_roundg g'
          case measure => omega
          case rel => exact ⟨pos + 1, pos + 1, ln ++ [LB (s.extract st pos)], ls, by go_num, SC2.line' ho3 hl3', by omega, by omega, by omega, by rw [List.length_append, List.length_singleton]; omega, hlm, HN⟩
      · by_cases h10 : R = 10
        · skip
          obtain ⟨rfl, hb⟩ := HEn.out h10
          subst h10
          have HC := hidE (scan_end most s pos st ln ls hps hb)
          have hcur := cur_extract s (st := st) (pos := pos) (by omega)
          have hne : ((st : Int) == (s.size : Int)) = false := by rw [beq_eq_false_iff_ne]; omega
          by_cases hno : (s.extract st pos).size = 0 ∨ ln.length = 3
          · have hR0 : R0 = none := by
              rw [← HQ.out, HC.out, if_pos]
              rcases hno with h | h
              · exact .inl (by rw [← hcur]; exact lb_nil.2 h)
              · exact .inr (.inl h)
            have HA := hidE (add_no_any w.heap.size ln (s.extract st pos) W SC2.line hno)
            subst hR0
            clear HC HQ HSp HEn HOt
            go_wp2_with (first | (go_at_call 66; refine HA.out.mono ?_; rintro e w3 ⟨rfl, ho3⟩) | fail)
            go_quiet (fail)
            go_wp2
            rw [Exit.noGoto_ret]
            refine bodyPost_ret (v := .tuple #[u6, .bool false]) (by simp [results, Tryz.results34, go_sem]) rfl ⟨_, rfl, below_drewN (ho3.below SC2.below (Nat.le_refl _)), fun R h => by cases h⟩
          · have h0 : ¬ (s.extract st pos).size = 0 := fun h => hno (.inl h)
            have h3 : ln.length < 3 := by rw [not_or] at hno; omega
            have HA := hidE (add_yes_any w.heap.size ln (s.extract st pos) W SC2.line h3 h0)
            obtain ⟨va, vc, hv⟩ := own_shape SC2.own
            by_cases hmo : ls.length = most
            · have hR0 : R0 = none := by
                rw [← HQ.out, HC.out, if_pos (.inr (.inr hmo))]
              have hme : ((ls.length : Int) == (most : Int)) = true := by rw [hmo]; simp
              subst hR0
              subst hv
              clear HC HQ HSp HEn HOt hmo
              go_wp2_with (first | (go_at_call 66; refine HA.out.mono ?_; rintro e w3 ⟨rfl, ho3, hl3'⟩) | fail)
              go_quiet (fail)
              go_wp2
              rw [Exit.noGoto_ret]
              refine bodyPost_ret (v := .tuple #[.slice va ls.length vc, .bool false]) (by simp [results, Tryz.results34, go_sem]) rfl ⟨_, rfl, below_drewN (ho3.below SC2.below (Nat.le_refl _)), fun R h => by cases h⟩
            · have hme : ((ls.length : Int) == (most : Int)) = false := by rw [beq_eq_false_iff_ne]; omega
              have HN : Hid (scanL most ((LB s).drop (pos + 1)) (curL s (pos + 1) (pos + 1)) [] (ls ++ [ln ++ [LB (s.extract st pos)]]) = R0) := by
                show _ = _
                rw [← HQ.out, HC.out, if_neg (by rw [not_or, not_or]; exact ⟨fun h => h0 (lb_nil.1 (by rw [hcur]; exact h)), by omega, hmo⟩), hcur]
              subst hv
              clear HC HQ HSp HEn HOt hno
              obtain ⟨lw, hlw⟩ : ∃ lw, ln ++ [LB (s.extract st pos)] = lw := ⟨_, rfl⟩
              rw [hlw] at HA HN
              go_wp2_with (first
                | (go_at_call 66; refine HA.out.mono ?_; rintro e w3 ⟨rfl, ho3, hl3'⟩; have SC3 := SC2.line' ho3 hl3'; have c0 := cell_of_row w3 w.heap.size 0 _ _ _ hl3'; have c1 := cell_of_row w3 w.heap.size 1 _ _ _ hl3'; have c2 := cell_of_row w3 w.heap.size 2 _ _ _ hl3'; have c3 := cell_of_row w3 w.heap.size 3 _ _ _ hl3'; have hsz3 := SC3.size; have hc1 := line_new w3 lw)
                | (at_builtin; refine wpList_append_own _ rfl (.tmp 40) (.tmp 42) 59 rfl (w.heap.size + 2) 64 i0 _ 4 56 Tryz.underlying59 hi hz0 hz1 hz2 rfl (by decide) _ ls.length (rowL ls) rfl (SC3.own.alloc _) ⟨w3.heap.size, 0, none⟩ 1 1 (lineC lw).toList rfl rfl hc1 (line_one lw) (by unfold maxLen; omega) (by omega) (by simp; omega) ?_; intro v4 w4 hown4 hgrow4 _; have SC4 := SC3.push hgrow4 hown4; obtain ⟨⟨r0, r0'⟩, r1, r2, r3⟩ := set4_rules SC4.line; have r1a := fun u => (r1 u).1; have r1b := fun u => (r1 u).2; have r2a := fun u x => (r2 u x).1; have r2b := fun u x => (r2 u x).2; have r3a := fun u x y => (r3 u x y).1; have r3b := fun u x y => (r3 u x y).2; clear r1 r2 r3)
                | fail)
              have s4 := set4_is SC4.line (.string ⟨#[]⟩) (.string ⟨#[]⟩) (.string ⟨#[]⟩) (.int .i64 0)
              have SC5 := SC4.line' (ln' := []) s4.1 s4.2
              go_roundg g'
              case measure => omega
              case rel => exact ⟨pos + 1, pos + 1, [], ls ++ [lw], by go_num, SC5, by omega, by omega, by omega, by simp, by rw [List.length_append, List.length_singleton]; omega, HN⟩
        · go_wp2
          go_roundg g'
          case measure => omega
          case rel => exact ⟨pos + K, st, ln, ls, rfl, SC2, by omega, by omega, by omega, hl3, hlm, by show _ = _; rw [← HOt.out h32 h10]; exact HQ.out⟩
    · have hnx : ∀ ty, (Instr.next (.pointer (some ⟨w.heap.size + 1, 0, none⟩)) true ty).run Tryz.prog wr = _ := fun ty => Lib.run_next_end_at wr (w.heap.size + 1) s pos ty SC.iter hps
      have HF := hidE (scan_fin most s pos st ln ls hps hle hst)
      have c3 : wr.cell? ⟨w.heap.size, 3, none⟩ = some (.int .i64 (ln.length : Nat)) := cell_of_row wr w.heap.size 3 _ _ _ SC.line
      have c3' : ∀ q, (wr.drewN q).cell? ⟨w.heap.size, 3, none⟩ = some (.int .i64 (ln.length : Nat)) := fun q => c3
      have HOw := hidE SC.own
      have HBl := hidE SC.below
      clear SC
      by_cases hse : st = s.size
      · have hne : ((st : Int) == (s.size : Int)) = true := by rw [hse]; simp
        by_cases hln : ln.length = 0
        · have hR0 : R0 = some ls := by rw [← HQ.out, HF.out, if_pos ⟨hse, hln⟩]
          have hn0 : ((ln.length : Int) == (0 : Int)) = true := by rw [hln]; rfl
          subst hR0
          clear HQ HF hse hln
          go_wp2
          go_quiet (fail)
          go_wp2
          rw [Exit.noGoto_ret]
          refine bodyPost_ret (v := .tuple #[u6, .bool true]) (by simp [results, Tryz.results34, go_sem]) rfl ⟨_, rfl, below_drewN HBl.out, fun R h => ?_⟩
          obtain rfl := Option.some.inj h
          obtain ⟨o1, o2⟩ := HOw.out
          exact ⟨o1, o2.imp id (fun ⟨g, cp, cu, q1, q2, q3⟩ => ⟨g, cp, cu, q1, by omega, q3⟩)⟩
        · have hR0 : R0 = none := by rw [← HQ.out, HF.out, if_neg (fun h => hln h.2)]
          have hn0 : ((ln.length : Int) == (0 : Int)) = false := by rw [beq_eq_false_iff_ne]; omega
          subst hR0
          clear HQ HF hse hln
          go_wp2
          go_quiet (fail)
          go_wp2
          rw [Exit.noGoto_ret]
          refine bodyPost_ret (v := .tuple #[u6, .bool false]) (by simp [results, Tryz.results34, go_sem]) rfl ⟨_, rfl, below_drewN HBl.out, fun R h => by cases h⟩
      · have hne : ((st : Int) == (s.size : Int)) = false := by rw [beq_eq_false_iff_ne]; omega
        have hR0 : R0 = none := by rw [← HQ.out, HF.out, if_neg (fun h => hse h.1)]
        subst hR0
        clear HQ HF hse
        go_wp2
        go_quiet (fail)
        go_wp2
        rw [Exit.noGoto_ret]
        refine bodyPost_ret (v := .tuple #[u6, .bool false]) (by simp [results, Tryz.results34, go_sem]) rfl ⟨_, rfl, below_drewN HBl.out, fun R h => by cases h⟩
end Go.Proofs.YtgkfhcpegdlejaaGreatDoor

/-
  The walks of the model's own: the words of a line.
-/
namespace Go.Proofs.YtgkfhcpegdlejaaGreatDoor
open Go.RowKit Go.Lib

theorem own_strs {w : World} {base n : Nat} {v : Value} {xs : List ByteArray} (h : w.ownsRow base 9 1 v n (xs.map Value.string)) (hn : n = xs.length) :
    ∃ a g cap, v = .slice a n cap ∧ (0 < n → a = some ⟨g, 0, none⟩) ∧ ∀ i (hi : i < xs.length), w.cell? ⟨g, i, none⟩ = some (.string xs[i]) := by
  have hc := fun (g : Nat) (hg : v.ownBlock = some g) => World.ownsRow.cells h hg
  rcases h.2 with ⟨rfl, e⟩ | ⟨g, cap, cur, rfl, _⟩
  · exact ⟨none, 0, 0, by rw [e], fun h => by omega, fun i hi => by omega⟩
  · refine ⟨_, g, cap, rfl, fun _ => rfl, fun i hi => ?_⟩
    have ha : (⟨g, 0, none⟩ : Addr).add i = ⟨g, i, none⟩ := by unfold Addr.add; split <;> simp_all
    have := hc g rfl i (.string xs[i]) (by rw [List.getElem?_map, List.getElem?_eq_getElem hi]; rfl)
    rw [ha] at this
    exact this

theorem part_le (s : ByteArray) : (partL s).2.1.size ≤ s.size ∧ (partL s).2.2.size ≤ s.size := by
  have hx : ∀ x ∈ cut 32 s, x.size ≤ s.size := fun x hx => cut_le 32 s x hx
  have hg : ∀ i, ((cut 32 s).getD i ⟨#[]⟩).size ≤ s.size := fun i => by
    rw [List.getD_eq_getElem?_getD]
    cases h : (cut 32 s)[i]? with
    | none => exact Nat.zero_le _
    | some x => exact hx x (List.mem_of_getElem? h)
  unfold partL
  split
  · exact ⟨Nat.zero_le _, Nat.zero_le _⟩
  · exact ⟨hg 1, hg 2⟩

end Go.Proofs.YtgkfhcpegdlejaaGreatDoor

/-
  Lines in a row: where they lie.
-/
namespace Go.Proofs.YtgkfhcpegdlejaaGreatDoor
open Go.RowKit Go.Lib

def Lins (w : World) (g : Nat) (R : List (List (List UInt8))) : Prop := ∀ i (h : i < R.length), w.cell? ⟨g, i * 4, none⟩ = some (.string (nthL R[i] 0)) ∧ w.cell? ⟨g, i * 4 + 1, none⟩ = some (.string (nthL R[i] 1)) ∧ w.cell? ⟨g, i * 4 + 2, none⟩ = some (.string (nthL R[i] 2)) ∧ w.cell? ⟨g, i * 4 + 3, none⟩ = some (.int .i64 ((R[i].length : Nat) : Int))
theorem Lins.below {w w' : World} {g : Nat} {R : List (List (List UInt8))} (h : Lins w g R) (hb : Below w.heap.size w w') : Lins w' g R := fun i hi => by
  obtain ⟨c0, c1, c2, c3⟩ := h i hi
  have lt : g < w.heap.size := World.block_lt_of_cell? w ⟨g, i * 4, none⟩ c0
  exact ⟨(hb.cell (p := ⟨g, _, none⟩) lt).trans c0, (hb.cell (p := ⟨g, _, none⟩) lt).trans c1, (hb.cell (p := ⟨g, _, none⟩) lt).trans c2, (hb.cell (p := ⟨g, _, none⟩) lt).trans c3⟩
theorem rowL_at : ∀ (R : List (List (List UInt8))) (i : Nat) (h : i < R.length), (rowL R)[i * 4]? = some (.string (nthL R[i] 0)) ∧ (rowL R)[i * 4 + 1]? = some (.string (nthL R[i] 1)) ∧ (rowL R)[i * 4 + 2]? = some (.string (nthL R[i] 2)) ∧ (rowL R)[i * 4 + 3]? = some (.int .i64 ((R[i].length : Nat) : Int))
  | e :: r, 0, _ => ⟨rfl, rfl, rfl, rfl⟩
  | e :: r, i + 1, h => by
    obtain ⟨q0, q1, q2, q3⟩ := rowL_at r i (by simpa using h)
    have hd : ∀ j, (rowL (e :: r))[4 + j]? = (rowL r)[j]? := fun j => by
      show ((lineC e).toList ++ rowL r)[4 + j]? = _
      rw [List.getElem?_append_right (by show 4 ≤ _; omega)]
      show (rowL r)[4 + j - 4]? = _
      rw [Nat.add_sub_cancel_left]
    refine ⟨?_, ?_, ?_, ?_⟩
    · rw [show (i + 1) * 4 = 4 + i * 4 from by omega, hd]; exact q0
    · rw [show (i + 1) * 4 + 1 = 4 + (i * 4 + 1) from by omega, hd]; exact q1
    · rw [show (i + 1) * 4 + 2 = 4 + (i * 4 + 2) from by omega, hd]; exact q2
    · rw [show (i + 1) * 4 + 3 = 4 + (i * 4 + 3) from by omega, hd]; exact q3
theorem own_lins {w : World} {base : Nat} {v : Value} {R : List (List (List UInt8))} (h : w.ownsRow base 64 4 v R.length (rowL R)) :
    ∃ a g cap, v = .slice a R.length cap ∧ (0 < R.length → a = some ⟨g, 0, none⟩) ∧ Lins w g R := by
  have hc := fun (g : Nat) (hg : v.ownBlock = some g) => World.ownsRow.cells h hg
  obtain ⟨_, ⟨rfl, e0⟩ | ⟨g, cap, cur, rfl, _⟩⟩ := h
  · exact ⟨none, 0, 0, by rw [e0], fun h => by omega, fun i hi => by omega⟩
  · have ha : ∀ j, (⟨g, 0, none⟩ : Addr).add j = ⟨g, j, none⟩ := fun j => by unfold Addr.add; split <;> simp_all
    refine ⟨_, g, cap, rfl, fun _ => rfl, fun i hi => ?_⟩
    obtain ⟨q0, q1, q2, q3⟩ := rowL_at R i hi
    refine ⟨?_, ?_, ?_, ?_⟩
    · have := hc g rfl _ _ q0; rw [ha] at this; exact this
    · have := hc g rfl _ _ q1; rw [ha] at this; exact this
    · have := hc g rfl _ _ q2; rw [ha] at this; exact this
    · have := hc g rfl _ _ q3; rw [ha] at this; exact this
end Go.Proofs.YtgkfhcpegdlejaaGreatDoor

/-
  The walk of the program's own: an entry, out of the words of a line.
-/
namespace Go.Proofs.YtgkfhcpegdlejaaGreatDoor
open Go.RowKit Go.Lib

theorem box4e {w w' : World} {a b c d : Value} {T : TypeId} (h : Below (w.alloc (.cells #[a, b, c, d] T)).heap.size (w.alloc (.cells #[a, b, c, d] T)) w') :
    w'.cell? ⟨w.heap.size, 0, none⟩ = some a ∧ w'.cell? ⟨w.heap.size, 1, none⟩ = some b ∧ w'.cell? ⟨w.heap.size, 2, none⟩ = some c ∧ w'.cell? ⟨w.heap.size, 3, none⟩ = some d := by
  have hl : w.heap.size < (w.alloc (.cells #[a, b, c, d] T)).heap.size := by simp
  exact ⟨(h.cell (p := ⟨w.heap.size, 0, none⟩) hl).trans (by simp), (h.cell (p := ⟨w.heap.size, 1, none⟩) hl).trans (by simp), (h.cell (p := ⟨w.heap.size, 2, none⟩) hl).trans (by simp), (h.cell (p := ⟨w.heap.size, 3, none⟩) hl).trans (by simp)⟩

set_option maxHeartbeats 1600000 in
set_option maxRecDepth 100000 in
theorem lineEnt_any (ln : List (List UInt8)) (w : World) (hw : MarkTab w) :
    Calls Tryz.prog 35 #[.agg (lineC ln)] w fun r w' => r = .returned (.tuple #[encE (entOf ln), .bool (decide (kindW (nthL ln 0) = 2 ∨ kindW (nthL ln 0) = 1))]) ∧ Below w.heap.size w w' := by
  have hE : entOf ln = ⟨nthL ln 1, decide (kindW (nthL ln 0) = 2), nthL ln 2⟩ := rfl
  rw [hE]
  obtain ⟨x0, e0⟩ : ∃ x, nthL ln 0 = x := ⟨_, rfl⟩
  obtain ⟨x1, e1⟩ : ∃ x, nthL ln 1 = x := ⟨_, rfl⟩
  obtain ⟨x2, e2⟩ : ∃ x, nthL ln 2 = x := ⟨_, rfl⟩
  obtain ⟨nl, e3⟩ : ∃ x : Int, ((ln.length : Nat) : Int) = x := ⟨_, rfl⟩
  unfold lineC
  rw [e0, e1, e2, e3]
  clear e0 e1 e2 e3 hE
  have HW := hidE hw
  have HC := hidE (fun (W : World) (h : Below w.heap.size w W) => markKind_any x0 W (HW.out.below h))
  rw [show findK [⟨#[]⟩, wF, wD, wX, wB] 0 x0 = kindW x0 from rfl] at HC
  obtain ⟨k, hk⟩ : ∃ k, kindW x0 = k := ⟨_, rfl⟩
  rw [hk] at HC ⊢
  clear hw hk
  have hB1 : Below w.heap.size w ((w.alloc (.cells #[.string x0, .string x1, .string x2, .int .i64 nl] 64)).alloc (.cells #[.string ⟨#[]⟩, .bool false, .string ⟨#[]⟩] 50)) := ((Below.refl _ w).alloc (Nat.le_refl _) _).alloc (by simp) _
  have hB2 : Below (w.heap.size + 1) (w.alloc (.cells #[.string x0, .string x1, .string x2, .int .i64 nl] 64)) ((w.alloc (.cells #[.string x0, .string x1, .string x2, .int .i64 nl] 64)).alloc (.cells #[.string ⟨#[]⟩, .bool false, .string ⟨#[]⟩] 50)) := by
    have := (Below.refl _ (w.alloc (.cells #[.string x0, .string x1, .string x2, .int .i64 nl] 64))).alloc (Nat.le_refl _) (.cells #[.string ⟨#[]⟩, .bool false, .string ⟨#[]⟩] 50)
    simpa using this
  have hR1 : ((w.alloc (.cells #[.string x0, .string x1, .string x2, .int .i64 nl] 64)).alloc (.cells #[.string ⟨#[]⟩, .bool false, .string ⟨#[]⟩] 50)).heap[w.heap.size + 1]? = some (.cells #[.string ⟨#[]⟩, .bool false, .string ⟨#[]⟩] 50 (0, 0)) := by
    have := heap_alloc_new (w.alloc (.cells #[.string x0, .string x1, .string x2, .int .i64 nl] 64)) (.cells #[.string ⟨#[]⟩, .bool false, .string ⟨#[]⟩] 50)
    simpa using this
  have hs1 : ((w.alloc (.cells #[.string x0, .string x1, .string x2, .int .i64 nl] 64)).alloc (.cells #[.string ⟨#[]⟩, .bool false, .string ⟨#[]⟩] 50)).heap.size = w.heap.size + 2 := by simp
  have HB1 := hidE hB1
  have HB2 := hidE hB2
  have HR1 := hidE hR1
  have HS1 := hidE hs1
  clear hB1 hB2 hR1 hs1
  by_cases h2 : k = 2
  · subst h2
    go_enter Tryz.func35, Tryz.ntmps35
    go_wp2_with (first | (go_at_call 67; refine (HC.out _ HB1.out).mono ?_; rintro e w1 ⟨rfl, hB3⟩; have hBf := (HB1.out.trans (hB3.mono HB1.out.size)).alloc (by have := HB1.out.size; have := hB3.size; omega) (.cells #[.string x1, .bool true, .string x2] 50); have hz1 := ((hB3.alloc hB3.size (.cells #[.string x1, .bool true, .string x2] 50)).block (w.heap.size + 1) (by have := HS1.out; omega)).trans HR1.out; obtain ⟨q0, q1, q2, q3⟩ := box4e (w := w) (w' := w1) (a := .string x0) (b := .string x1) (c := .string x2) (d := .int .i64 nl) (T := 64) (by have := HB2.out.trans (hB3.mono (by have := HS1.out; omega)); simpa using this); obtain ⟨⟨r0, r0'⟩, r1, r2⟩ := set3_rules hz1; have r1a := fun u => (r1 u).1; have r1b := fun u => (r1 u).2; have r2a := fun u x => (r2 u x).1; have r2b := fun u x => (r2 u x).2; clear r1 r2) | fail)
    have s3 := set3_is hz1 (.string x1) (.bool true) (.string x2)
    have hBs := s3.1.below hBf (by omega)
    have z0 := cell_of_row _ (w.heap.size + 1) 0 _ _ _ s3.2
    have z1 := cell_of_row _ (w.heap.size + 1) 1 _ _ _ s3.2
    have z2 := cell_of_row _ (w.heap.size + 1) 2 _ _ _ s3.2
    exact bodyPost_ret (v := .tuple #[encE ⟨x1, true, x2⟩, .bool true]) (by simp [results, Tryz.results35, go_sem, z0, z1, z2]) rfl ⟨by simp, hBs⟩
  by_cases h1 : k = 1
  · subst h1
    go_enter Tryz.func35, Tryz.ntmps35
    go_wp2_with (first | (go_at_call 67; refine (HC.out _ HB1.out).mono ?_; rintro e w1 ⟨rfl, hB3⟩; have hBf := (HB1.out.trans (hB3.mono HB1.out.size)).alloc (by have := HB1.out.size; have := hB3.size; omega) (.cells #[.string x1, .bool false, .string x2] 50); have hz1 := ((hB3.alloc hB3.size (.cells #[.string x1, .bool false, .string x2] 50)).block (w.heap.size + 1) (by have := HS1.out; omega)).trans HR1.out; obtain ⟨q0, q1, q2, q3⟩ := box4e (w := w) (w' := w1) (a := .string x0) (b := .string x1) (c := .string x2) (d := .int .i64 nl) (T := 64) (by have := HB2.out.trans (hB3.mono (by have := HS1.out; omega)); simpa using this); obtain ⟨⟨r0, r0'⟩, r1, r2⟩ := set3_rules hz1; have r1a := fun u => (r1 u).1; have r1b := fun u => (r1 u).2; have r2a := fun u x => (r2 u x).1; have r2b := fun u x => (r2 u x).2; clear r1 r2) | fail)
    have s3 := set3_is hz1 (.string x1) (.bool false) (.string x2)
    have hBs := s3.1.below hBf (by omega)
    have z0 := cell_of_row _ (w.heap.size + 1) 0 _ _ _ s3.2
    have z1 := cell_of_row _ (w.heap.size + 1) 1 _ _ _ s3.2
    have z2 := cell_of_row _ (w.heap.size + 1) 2 _ _ _ s3.2
    exact bodyPost_ret (v := .tuple #[encE ⟨x1, false, x2⟩, .bool true]) (by simp [results, Tryz.results35, go_sem, z0, z1, z2]) rfl ⟨by simp, hBs⟩
  · have k2 : (k == 2) = false := by rw [beq_eq_false_iff_ne]; exact h2
    have k1 : (k == 1) = false := by rw [beq_eq_false_iff_ne]; exact h1
    go_enter Tryz.func35, Tryz.ntmps35
    go_wp2_with (first | (go_at_call 67; refine (HC.out _ HB1.out).mono ?_; rintro e w1 ⟨rfl, hB3⟩; have hBf := (HB1.out.trans (hB3.mono HB1.out.size)).alloc (by have := HB1.out.size; have := hB3.size; omega) (.cells #[.string x1, .bool false, .string x2] 50); have hz1 := ((hB3.alloc hB3.size (.cells #[.string x1, .bool false, .string x2] 50)).block (w.heap.size + 1) (by have := HS1.out; omega)).trans HR1.out; obtain ⟨q0, q1, q2, q3⟩ := box4e (w := w) (w' := w1) (a := .string x0) (b := .string x1) (c := .string x2) (d := .int .i64 nl) (T := 64) (by have := HB2.out.trans (hB3.mono (by have := HS1.out; omega)); simpa using this); obtain ⟨⟨r0, r0'⟩, r1, r2⟩ := set3_rules hz1; have r1a := fun u => (r1 u).1; have r1b := fun u => (r1 u).2; have r2a := fun u x => (r2 u x).1; have r2b := fun u x => (r2 u x).2; clear r1 r2) | fail)
    have s3 := set3_is hz1 (.string x1) (.bool false) (.string x2)
    have hBs := s3.1.below hBf (by omega)
    have z0 := cell_of_row _ (w.heap.size + 1) 0 _ _ _ s3.2
    have z1 := cell_of_row _ (w.heap.size + 1) 1 _ _ _ s3.2
    have z2 := cell_of_row _ (w.heap.size + 1) 2 _ _ _ s3.2
    exact bodyPost_ret (v := .tuple #[encE ⟨x1, false, x2⟩, .bool false]) (by simp [results, Tryz.results35, go_sem, z0, z1, z2]) rfl ⟨by simp [h1, h2], hBs⟩
end Go.Proofs.YtgkfhcpegdlejaaGreatDoor
