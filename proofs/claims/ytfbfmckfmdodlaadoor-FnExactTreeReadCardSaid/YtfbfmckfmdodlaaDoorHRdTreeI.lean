/-
  The walk of the program's own reader of trees.
-/
import Derived.Test.YtfbfmckfmdodlaaDoorHPk17
import Derived.Test.YtfbfmckfmdodlaaDoorHPk02
import Derived.Test.YtfbfmckfmdodlaaDoorHRdList
import Derived.Test.YtfbfmckfmdodlaaDoorHImplOk
namespace Go.Proofs.YtfbfmckfmdodlaaDoor
open Go.RowKit Go.Lib

def okLine (ws : List (List UInt8)) : Prop := kindW (nthL ws 0) = 2 ∨ kindW (nthL ws 0) = 1
instance (ws : List (List UInt8)) : Decidable (okLine ws) := inferInstanceAs (Decidable (_ ∨ _))
theorem prog_none {s : ByteArray} (h : scanL 16 (LB s) [] [] [] = none) : progTree s = none := by unfold progTree; rw [h]
theorem prog_bad {s : ByteArray} {R : List (List (List UInt8))} {j : Nat} (h : scanL 16 (LB s) [] [] [] = some R) (hj : j < R.length) (hb : ¬ okLine R[j]) : progTree s = none := by
  unfold progTree; rw [h]; dsimp only
  rw [if_neg (fun q => hb (q.1 _ (List.getElem_mem hj)))]
theorem prog_no {s : ByteArray} {R : List (List (List UInt8))} (h : scanL 16 (LB s) [] [] [] = some R) (hb : treeE (R.map entOf) = false) : progTree s = none := by
  unfold progTree; rw [h]; dsimp only
  rw [if_neg (fun q => by rw [hb] at q; exact absurd q.2 (by decide))]
theorem prog_yes {s : ByteArray} {R : List (List (List UInt8))} (h : scanL 16 (LB s) [] [] [] = some R) (ho : ∀ i (hi : i < R.length), okLine R[i]) (hb : treeE (R.map entOf) = true) : progTree s = some (R.map entOf) := by
  unfold progTree; rw [h]; dsimp only
  rw [if_pos ⟨fun ws hw => by obtain ⟨i, hi, rfl⟩ := List.getElem_of_mem hw; exact ho i hi, hb⟩]

set_option maxHeartbeats 3200000 in
set_option maxRecDepth 100000 in
theorem iTreeRead_any (s : ByteArray) (hs : s.size ≤ 16777216) (w : World) (ae : Int → Addr) (hErr : Errs2 w ae) (hw : MarkTab w) :
    Calls Tryd.prog 7 #[.string s] w fun r w' => ∃ v, r = .returned (.tuple #[v, .bool (progTree s).isSome]) ∧ OwnE w' w.heap.size v ((progTree s).getD []) ∧ Below w.heap.size w w' := by
  obtain ⟨i0, hi, hz0, hz1, hz2⟩ := info_parts Tryd.infoE'
  have HL := hidE (linesOf_any s 16 (by omega) (by omega) w)
  have HW := hidE hw
  have HEr := hidE hErr
  clear hw hErr
  cases hsc : scanL 16 (LB s) [] [] [] with
  | none =>
    rw [prog_none hsc]
    rw [hsc] at HL
    clear hsc
    go_enter Tryd.func7, Tryd.ntmps7
    go_wp2_with (first | (go_at_call 23; refine HL.out.mono ?_; rintro e w1 ⟨v1, rfl, hB1, -⟩) | fail)
    exact bodyPost_ret (v := .tuple #[.slice none 0 0, .bool false]) (by simp [results, Tryd.results7, go_sem]) rfl ⟨_, rfl, World.ownsRow_nil _ _ _ _, hB1⟩
  | some R =>
    obtain ⟨hz, hn⟩ := scan_le hsc
    rw [hsc] at HL
    have HZ : Hid (∀ ws ∈ R, ∀ i, (nthL ws i).size ≤ 16777216) := fun ws hw i => by have := hz ws hw i; omega
    have HBad := hidE (fun (j : Nat) (hj : j < R.length) hb => prog_bad hsc hj hb)
    have HNo := hidE (prog_no hsc)
    have HYes := hidE (prog_yes hsc)
    clear hz hsc
    go_enter Tryd.func7, Tryd.ntmps7
    go_wp2_with (first | (go_at_call 23; refine HL.out.mono ?_; rintro e w1 ⟨v1, rfl, hB1, hown⟩; obtain ⟨a1, g1, cap1, rfl, ha, hR⟩ := own_lins (hown R rfl); have HB1 := hidE hB1; have HR := hidE hR; clear hown hB1 hR) | fail)
    clear HL
    go_loopw [6, 20] (fun tv iv wl => ∃ j : Nat, j ≤ R.length ∧ iv = .int .i64 j ∧ OwnE wl w1.heap.size tv ((R.take j).map entOf) ∧ Hid (Below w1.heap.size w1 wl) ∧ Hid (∀ i (hi : i < R.length), i < j → okLine R[i])) (fun _ iv _ => R.length - (RowKit.intOf iv).toNat)
    case atStart => exact ⟨0, Nat.zero_le _, rfl, World.ownsRow_nil _ _ _ _, Below.refl _ _, fun i _ h => absurd h (by omega)⟩
    case round =>
      obtain ⟨j, hj, rfl, hown, HB, HO⟩ := hrel
      have HBw := hidE (HB1.out.trans (HB.out.mono HB1.out.size))
      by_cases hlt : j < R.length
      · obtain rfl := ha (by omega)
        have hc := (HR.out.below HB.out) j hlt
        have hz := HZ.out R[j] (List.getElem_mem hlt)
        have HT : Hid ((R.take (j + 1)).map entOf = (R.take j).map entOf ++ [entOf R[j]]) := by show _ = _; rw [List.take_succ_eq_append_getElem hlt, List.map_append]; rfl
        have HO2 : Hid (okLine R[j] → ∀ i (hi : i < R.length), i < j + 1 → okLine R[i]) := fun h i hi hij => by
          rcases Nat.lt_or_ge i j with q | q
          · exact HO.out i hi q
          · obtain rfl : i = j := by omega
            exact h
        have HBd := hidE (HBad.out j hlt)
        obtain ⟨ln, hln⟩ : ∃ ln, R[j] = ln := ⟨_, rfl⟩
        rw [hln] at hc hz HT HO2 HBd
        clear hln HO
        obtain ⟨c0, c1, c2, c3⟩ := hc
        have hy1 := hz 1
        have hy2 := hz 2
        have HC := hidE (fun (W : World) (h : Below w.heap.size w W) => lineEnt_any ln W (HW.out.below h))
        have hent : entOf ln = ⟨nthL ln 1, decide (kindW (nthL ln 0) = 2), nthL ln 2⟩ := rfl
        obtain ⟨d, hd⟩ : ∃ d, decide (kindW (nthL ln 0) = 2) = d := ⟨_, rfl⟩
        rw [hd] at hent
        rw [hent] at HC HT
        clear hent hd hz
        have hlen : ((R.take j).map entOf).length ≤ 1000 := by rw [List.length_map, List.length_take]; omega
        obtain ⟨ts, hts⟩ : ∃ ts, (R.take j).map entOf = ts := ⟨_, rfl⟩
        rw [hts] at hown hlen HT
        clear hts
        by_cases hk : okLine ln
        · have e1 : decide (kindW (nthL ln 0) = 2 ∨ kindW (nthL ln 0) = 1) = true := decide_eq_true hk
          rw [e1] at HC
          have HO3 := hidE (HO2.out hk)
          clear HO2 HBd e1 hk
          go_wp2_with (first
            | (go_at_call 24; refine (HC.out _ (HBw.out.alloc HBw.out.size _)).mono ?_; rintro e w2 ⟨rfl, hB2⟩; have HB2 := hidE ((HB.out.alloc HB.out.size (.cells (lineC ln) 52)).trans (hB2.mono (by have := HB.out.size; simp; omega))); have hown2 : OwnE w2 w1.heap.size _ ts := OwnE.below (hown.alloc (.cells (lineC ln) 52)) hB2; have HB3 := hidE (HB2.out.alloc HB2.out.size (.cells #[.string (nthL ln 1), .bool d, .string (nthL ln 2)] 44)); have hown3 : OwnE (w2.alloc (.cells #[.string (nthL ln 1), .bool d, .string (nthL ln 2)] 44)) w1.heap.size _ ts := hown2.alloc _; have hc1 := cells_new (w2.alloc (.cells #[.string (nthL ln 1), .bool d, .string (nthL ln 2)] 44)) ⟨nthL ln 1, d, nthL ln 2⟩; rw [show (w2.alloc (.cells #[.string (nthL ln 1), .bool d, .string (nthL ln 2)] 44)).heap.size = w2.heap.size + 1 from by simp] at hc1; have hsz := HB1.out.size; have hsz2 := HB2.out.size; clear c0 c1 c2 c3)
            | (at_builtin; refine wpList_append_own _ rfl (.tmp 31) (.tmp 33) 22 rfl w1.heap.size 44 i0 _ 3 40 Tryd.underlying22 hi hz0 hz1 hz2 rfl (by decide) _ ts.length (rowE ts) rfl (hown3.alloc _) ⟨w2.heap.size + 1, 0, none⟩ 1 1 (cellsE ⟨nthL ln 1, d, nthL ln 2⟩) rfl rfl hc1 rowE_one' (by unfold maxLen; omega) (by omega) (by simp; omega) ?_; intro v4 w4 hown4 hgrow4 _)
            | fail)
          have HB4 := hidE ((HB3.out.alloc HB3.out.size _).grown hgrow4 (by simp; omega) (fun k hk => (hown3.lt k hk).1))
          have hown5 := OwnE.push hown4
          clear hown4 hgrow4 HB3 HB2 hown3 hown2
          go_roundw
          case rel => exact ⟨j + 1, by omega, by go_num, by show OwnE _ _ _ _; rw [HT.out]; exact hown5, HB4, HO3⟩
          case measure => simp [RowKit.intOf]; omega
        · have e1 : decide (kindW (nthL ln 0) = 2 ∨ kindW (nthL ln 0) = 1) = false := decide_eq_false hk
          rw [e1] at HC
          have HP := hidE (HBd.out hk)
          clear HO2 HBd e1 hk
          go_wp2_with (first | (go_at_call 24; refine (HC.out _ (HBw.out.alloc HBw.out.size _)).mono ?_; rintro e w2 ⟨rfl, hB2⟩; have hBf := (HBw.out.alloc HBw.out.size (.cells (lineC ln) 52)).trans (hB2.mono (by have := HBw.out.size; simp; omega)); clear c0 c1 c2 c3) | fail)
          exact bodyPost_ret (v := .tuple #[.slice none 0 0, .bool false]) (by simp [results, Tryd.results7, go_sem]) rfl ⟨_, by rw [HP.out]; rfl, by rw [HP.out]; exact World.ownsRow_nil _ _ _ _, hBf.alloc hBf.size _⟩
      · have hjn : j = R.length := by omega
        subst hjn
        rw [List.take_length] at hown
        have HOk := hidE (fun i (hi : i < R.length) => HO.out i hi hi)
        clear HO hlt
        obtain ⟨es, hes⟩ : ∃ es, R.map entOf = es := ⟨_, rfl⟩
        have hel : es.length ≤ 16 := by rw [← hes, List.length_map]; exact hn
        have hez : ∀ e ∈ es, e.p.size ≤ 16777216 ∧ e.x.size ≤ 16777216 := fun e he => by
          rw [← hes] at he
          obtain ⟨ws, hw, rfl⟩ := List.mem_map.1 he
          exact ⟨HZ.out ws hw 1, HZ.out ws hw 2⟩
        have HYs := hidE (HYes.out HOk.out)
        rw [hes] at hown HNo HYs
        clear hes HYes HOk
        obtain ⟨a2, g2, cap2, rfl, ha2, hE2, -⟩ := hown.ents
        have HK := hidE (iTreeOk_any wr a2 g2 0 cap2 es ae (HEr.out.below HBw.out) (by omega) hez ha2 hE2)
        have HF := hidE (fun (W : World) (h : Below wr.heap.size wr W) => freshList_any W a2 g2 0 cap2 es (by omega) hez ha2 (hE2.below h))
        clear hown hE2 hez HZ
        cases htr : treeE es with
        | false =>
          have HP := hidE (HNo.out htr)
          rw [htr] at HK
          clear htr HNo HYs
          go_wp2_with (first | (go_at_call 25; refine HK.out.mono ?_; rintro e w2 ⟨rfl, hB2⟩; have hBf := HBw.out.trans (hB2.mono HBw.out.size)) | fail)
          exact bodyPost_ret (v := .tuple #[.slice none 0 0, .bool false]) (by simp [results, Tryd.results7, go_sem]) rfl ⟨_, by rw [HP.out]; rfl, by rw [HP.out]; exact World.ownsRow_nil _ _ _ _, hBf⟩
        | true =>
          have HP := hidE (HYs.out htr)
          rw [htr] at HK
          clear htr HNo HYs
          go_wp2_with (first | (go_at_call 25; refine HK.out.mono ?_; rintro e w2 ⟨rfl, hB2⟩; have HB2 := hidE hB2; clear hB2) | (go_at_call 26; refine (HF.out _ HB2.out).mono ?_; rintro e w3 ⟨v3, rfl, hown3, hB3⟩) | fail)
          have hBf := HBw.out.trans ((HB2.out.trans (hB3.mono HB2.out.size)).mono HBw.out.size)
          exact bodyPost_ret (v := .tuple #[v3, .bool true]) (by simp [results, Tryd.results7, go_sem]) rfl ⟨_, by rw [HP.out]; rfl, by rw [HP.out]; exact OwnE.lower hown3 (by have := HBw.out.size; have := HB2.out.size; omega), hBf⟩
end Go.Proofs.YtfbfmckfmdodlaaDoor
