/-
  The walk of the program's own reader of layers.
-/
import Derived.Test.YtgkfhcpegdlejaaGreatDoorHPk15
import Derived.Test.YtgkfhcpegdlejaaGreatDoorHPk02
import Derived.Test.YtgkfhcpegdlejaaGreatDoorHPk19
import Derived.Test.YtgkfhcpegdlejaaGreatDoorHRdMarkI
import Derived.Test.YtgkfhcpegdlejaaGreatDoorHPk16
namespace Go.Proofs.YtgkfhcpegdlejaaGreatDoor.Mk
open Go.RowKit Go.Lib

theorem prog_none {s : ByteArray} (h : scanL 32 (LB s) [] [] [] = none) : progLay s = none := by unfold progLay; rw [h]
theorem prog_no {s : ByteArray} {R : List (List (List UInt8))} (h : scanL 32 (LB s) [] [] [] = some R) (hb : layB (R.map markOf) = false) : progLay s = none := by
  unfold progLay; rw [h]; dsimp only
  rw [if_neg (fun q => by rw [hb] at q; exact absurd q (by decide))]
theorem prog_yes {s : ByteArray} {R : List (List (List UInt8))} (h : scanL 32 (LB s) [] [] [] = some R) (hb : layB (R.map markOf) = true) : progLay s = some (R.map markOf) := by
  unfold progLay; rw [h]; dsimp only
  rw [if_pos hb]
theorem freshLayer_any (w : World) (a : Option Addr) (g o cap : Nat) (es : List E) (hn : es.length ≤ 1000) (hz : ∀ e ∈ es, e.p.size ≤ 16777216 ∧ e.x.size ≤ 16777216) (ha : 0 < es.length → a = some ⟨g, o, none⟩) (hE : Ents w g o es) :
    Calls Tryz.prog 40 #[.slice a es.length cap] w fun r w' => ∃ v, r = .returned v ∧ OwnE w' w.heap.size v es ∧ Below w.heap.size w w' := by
  have HF := hidE (freshList_any w a g o cap es hn hz ha hE)
  go_enter Tryz.func40, Tryz.ntmps40
  go_wp2_with (first | (go_at_call 69; refine HF.out.mono ?_; rintro e w1 ⟨v1, rfl, hown, hB1⟩) | fail)
  go_ret
  exact ⟨_, rfl, hown, hB1⟩

set_option maxHeartbeats 3200000 in
set_option maxRecDepth 100000 in
theorem iLayerRead_any (s : ByteArray) (hs : s.size ≤ 16777216) (w : World) (hw : MarkTab w) :
    Calls Tryz.prog 13 #[.string s] w fun r w' => ∃ v, r = .returned (.tuple #[v, .bool (progLay s).isSome]) ∧ OwnE w' w.heap.size v ((progLay s).getD []) ∧ Below w.heap.size w w' := by
  obtain ⟨i0, hi, hz0, hz1, hz2⟩ := info_parts Tryz.infoE'
  have HL := hidE (linesOf_any s 32 (by omega) (by omega) w)
  have HW := hidE hw
  clear hw
  cases hsc : scanL 32 (LB s) [] [] [] with
  | none =>
    rw [prog_none hsc]
    rw [hsc] at HL
    clear hsc
    go_enter Tryz.func13, Tryz.ntmps13
    go_wp2_with (first | (go_at_call 34; refine HL.out.mono ?_; rintro e w1 ⟨v1, rfl, hB1, -⟩) | fail)
    exact bodyPost_ret (v := .tuple #[.slice none 0 0, .bool false]) (by simp [results, Tryz.results13, go_sem]) rfl ⟨_, rfl, World.ownsRow_nil _ _ _ _, hB1⟩
  | some R =>
    obtain ⟨hz, hn⟩ := scan_le hsc
    rw [hsc] at HL
    have HZ : Hid (∀ ws ∈ R, ∀ i, (nthL ws i).size ≤ 16777216) := fun ws hw i => by have := hz ws hw i; omega
    have HNo := hidE (prog_no hsc)
    have HYes := hidE (prog_yes hsc)
    clear hz hsc
    go_enter Tryz.func13, Tryz.ntmps13
    go_wp2_with (first | (go_at_call 34; refine HL.out.mono ?_; rintro e w1 ⟨v1, rfl, hB1, hown⟩; obtain ⟨a1, g1, cap1, rfl, ha, hR⟩ := own_lins (hown R rfl); have HB1 := hidE hB1; have HR := hidE hR; clear hown hB1 hR) | fail)
    clear HL
    go_loopw [6, 18] (fun tv iv wl => ∃ j : Nat, j ≤ R.length ∧ iv = .int .i64 j ∧ OwnE wl w1.heap.size tv ((R.take j).map markOf) ∧ Hid (Below w1.heap.size w1 wl)) (fun _ iv _ => R.length - (RowKit.intOf iv).toNat)
    case atStart => exact ⟨0, Nat.zero_le _, rfl, World.ownsRow_nil _ _ _ _, Below.refl _ _⟩
    case round =>
      obtain ⟨j, hj, rfl, hown, HB⟩ := hrel
      have HBw := hidE (HB1.out.trans (HB.out.mono HB1.out.size))
      by_cases hlt : j < R.length
      · obtain rfl := ha (by omega)
        have hc := (HR.out.below HB.out) j hlt
        have hz := HZ.out R[j] (List.getElem_mem hlt)
        have HT : Hid ((R.take (j + 1)).map markOf = (R.take j).map markOf ++ [markOf R[j]]) := by show _ = _; rw [List.take_succ_eq_append_getElem hlt, List.map_append]; rfl
        obtain ⟨ln, hln⟩ : ∃ ln, R[j] = ln := ⟨_, rfl⟩
        rw [hln] at hc hz HT
        clear hln
        obtain ⟨c0, c1, c2, c3⟩ := hc
        have hy1 := hz 1
        have hy2 := hz 2
        have HC := hidE (fun (W : World) (h : Below w.heap.size w W) => lineMark_any ln W (HW.out.below h))
        have hent : Mk.markOf ln = ⟨nthL ln 1, kindW (nthL ln 0), nthL ln 2⟩ := rfl
        obtain ⟨d, hd⟩ : ∃ d, kindW (nthL ln 0) = d := ⟨_, rfl⟩
        rw [hd] at hent
        rw [hent] at HC HT
        clear hent hd hz
        have hlen : ((R.take j).map markOf).length ≤ 1000 := by rw [List.length_map, List.length_take]; omega
        obtain ⟨ts, hts⟩ : ∃ ts, (R.take j).map markOf = ts := ⟨_, rfl⟩
        rw [hts] at hown hlen HT
        clear hts
        go_wp2_with (first
          | (go_at_call 39; refine (HC.out _ (HBw.out.alloc HBw.out.size _)).mono ?_; rintro e w2 ⟨rfl, hB2⟩; have HB2 := hidE ((HB.out.alloc HB.out.size (.cells (lineC ln) 64)).trans (hB2.mono (by have := HB.out.size; simp; omega))); have hown2 : OwnE w2 w1.heap.size _ ts := OwnE.below (hown.alloc (.cells (lineC ln) 64)) hB2; have hc1 := cells_new w2 ⟨nthL ln 1, d, nthL ln 2⟩; have hsz := HB1.out.size; have hsz2 := HB2.out.size; clear c0 c1 c2 c3)
          | (at_builtin; refine wpList_append_own _ rfl (.tmp 22) (.tmp 25) 25 rfl w1.heap.size 55 i0 _ 3 40 Tryz.underlying25 hi hz0 hz1 hz2 rfl (by decide) _ ts.length (rowE ts) rfl (hown2.alloc _) ⟨w2.heap.size, 0, none⟩ 1 1 (cellsE ⟨nthL ln 1, d, nthL ln 2⟩) rfl rfl hc1 rowE_one' (by unfold maxLen; omega) (by omega) (by simp; omega) ?_; intro v4 w4 hown4 hgrow4 _)
          | fail)
        have HB4 := hidE ((HB2.out.alloc HB2.out.size _).grown hgrow4 (by simp; omega) (fun k hk => (hown2.lt k hk).1))
        have hown5 := OwnE.push hown4
        clear hown4 hgrow4 HB2 hown2
        go_roundw
        case rel => exact ⟨j + 1, by omega, by go_num, by show OwnE _ _ _ _; rw [HT.out]; exact hown5, HB4⟩
        case measure => simp [RowKit.intOf]; omega
      · have hjn : j = R.length := by omega
        subst hjn
        rw [List.take_length] at hown
        clear hlt
        obtain ⟨es, hes⟩ : ∃ es, R.map markOf = es := ⟨_, rfl⟩
        have hel : es.length ≤ 32 := by rw [← hes, List.length_map]; exact hn
        have hez : ∀ e ∈ es, e.p.size ≤ 16777216 ∧ e.x.size ≤ 16777216 := fun e he => by
          rw [← hes] at he
          obtain ⟨ws, hw, rfl⟩ := List.mem_map.1 he
          exact ⟨HZ.out ws hw 1, HZ.out ws hw 2⟩
        have HYs := HYes
        rw [hes] at hown HNo HYs
        clear hes HYes
        obtain ⟨a2, g2, cap2, rfl, ha2, hE2, -⟩ := hown.ents
        have HK := hidE (iLayerOk_any wr a2 g2 0 cap2 es (by omega) hez ha2 hE2)
        have HF := hidE (fun (W : World) (h : Below wr.heap.size wr W) => freshLayer_any W a2 g2 0 cap2 es (by omega) hez ha2 (hE2.below h))
        clear hown hE2 hez HZ
        cases htr : layB es with
        | false =>
          have HP := hidE (HNo.out htr)
          rw [htr] at HK
          clear htr HNo HYs
          go_wp2_with (first | (go_at_call 28; refine HK.out.mono ?_; rintro e w2 ⟨rfl, hB2⟩; have hBf := HBw.out.trans (hB2.mono HBw.out.size)) | fail)
          exact bodyPost_ret (v := .tuple #[.slice none 0 0, .bool false]) (by simp [results, Tryz.results13, go_sem]) rfl ⟨_, by rw [HP.out]; rfl, by rw [HP.out]; exact World.ownsRow_nil _ _ _ _, hBf⟩
        | true =>
          have HP := hidE (HYs.out htr)
          rw [htr] at HK
          clear htr HNo HYs
          go_wp2_with (first | (go_at_call 28; refine HK.out.mono ?_; rintro e w2 ⟨rfl, hB2⟩; have HB2 := hidE hB2; clear hB2) | (go_at_call 40; refine (HF.out _ HB2.out).mono ?_; rintro e w3 ⟨v3, rfl, hown3, hB3⟩) | fail)
          have hBf := HBw.out.trans ((HB2.out.trans (hB3.mono HB2.out.size)).mono HBw.out.size)
          exact bodyPost_ret (v := .tuple #[v3, .bool true]) (by simp [results, Tryz.results13, go_sem]) rfl ⟨_, by rw [HP.out]; rfl, by rw [HP.out]; exact OwnE.lower hown3 (by have := HBw.out.size; have := HB2.out.size; omega), hBf⟩
end Go.Proofs.YtgkfhcpegdlejaaGreatDoor.Mk
