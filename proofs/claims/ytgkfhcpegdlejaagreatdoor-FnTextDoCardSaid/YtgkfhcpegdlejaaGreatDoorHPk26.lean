/-
  The walk of the program's own reader of trees.
-/
import Derived.Test.YtgkfhcpegdlejaaGreatDoorHPk20
import Derived.Test.YtgkfhcpegdlejaaGreatDoorHPk02
import Derived.Test.YtgkfhcpegdlejaaGreatDoorHRdList
import Derived.Test.YtgkfhcpegdlejaaGreatDoorHPk21
import Derived.Test.YtgkfhcpegdlejaaGreatDoorHPk04
import Derived.Test.YtgkfhcpegdlejaaGreatDoorHClone
import Derived.Test.YtgkfhcpegdlejaaGreatDoorHPk06
import Derived.Deep.RegionHeld3
namespace Go.Proofs.YtgkfhcpegdlejaaGreatDoor
open Go.RowKit Go.Lib

def okLine (ws : List (List UInt8)) : Prop := kindW (nthL ws 0) = 2 ∨ kindW (nthL ws 0) = 1
instance (ws : List (List UInt8)) : Decidable (okLine ws) := inferInstanceAs (Decidable (_ ∨ _))
theorem prog_none {s : ByteArray} (h : scanL 16 (LB s) [] [] [] = none) : progTree s = none := by unfold progTree; rw [h]
theorem prog_bad {s : ByteArray} {R : List (List (List UInt8))} {j : Nat} (h : scanL 16 (LB s) [] [] [] = some R) (hj : j < R.length) (hb : ¬ okLine R[j]) : progTree s = none := by
  unfold progTree; rw [h]; dsimp only
  rw [if_neg (fun q => hb (q.1 _ (List.getElem_mem hj)))]
theorem prog_no {s : ByteArray} {R : List (List (List UInt8))} (h : scanL 16 (LB s) [] [] [] = some R) (hb : treeE (R.map entOf) = false) : progTree s = none := by
  unfold progTree; rw [h]; dsimp only
  rw [if_neg (fun q => by rw [hb] at q; exact absurd q.2 (by decide))]
theorem prog_yes {s : ByteArray} {R : List (List (List UInt8))} (h : scanL 16 (LB s) [] [] [] = some R) (ho : ∀ i (hi : i < R.length), okLine R[i]) (hb : treeE (R.map entOf) = true) : progTree s = some (R.map entOf) := by
  unfold progTree; rw [h]; dsimp only
  rw [if_pos ⟨fun ws hw => by obtain ⟨i, hi, rfl⟩ := List.getElem_of_mem hw; exact ho i hi, hb⟩]

set_option maxHeartbeats 3200000 in
set_option maxRecDepth 100000 in
theorem iTreeRead_any (s : ByteArray) (hs : s.size ≤ 16777216) (w : World) (ae : Int → Addr) (hErr : Errs2 w ae) (hw : MarkTab w) :
    Calls Tryz.prog 11 #[.string s] w fun r w' => ∃ v, r = .returned (.tuple #[v, .bool (progTree s).isSome]) ∧ OwnE w' w.heap.size v ((progTree s).getD []) ∧ Below w.heap.size w w' := by
  obtain ⟨i0, hi, hz0, hz1, hz2⟩ := info_parts Tryz.infoE'
  have HL := hidE (linesOf_any s 16 (by omega) (by omega) w)
  have HW := hidE hw
  have HEr := hidE hErr
  clear hw hErr
  cases hsc : scanL 16 (LB s) [] [] [] with
  | none =>
    rw [prog_none hsc]
    rw [hsc] at HL
    clear hsc
    go_enter Tryz.func11, Tryz.ntmps11
    go_wp2_with (first | (go_at_call 34; refine HL.out.mono ?_; rintro e w1 ⟨v1, rfl, hB1, -⟩) | fail)
    exact bodyPost_ret (v := .tuple #[.slice none 0 0, .bool false]) (by simp [results, Tryz.results11, go_sem]) rfl ⟨_, rfl, World.ownsRow_nil _ _ _ _, hB1⟩
  | some R =>
    obtain ⟨hz, hn⟩ := scan_le hsc
    rw [hsc] at HL
    have HZ : Hid (∀ ws ∈ R, ∀ i, (nthL ws i).size ≤ 16777216) := fun ws hw i => by have := hz ws hw i; omega
    have HBad := hidE (fun (j : Nat) (hj : j < R.length) hb => prog_bad hsc hj hb)
    have HNo := hidE (prog_no hsc)
    have HYes := hidE (prog_yes hsc)
    clear hz hsc
    go_enter Tryz.func11, Tryz.ntmps11
    go_wp2_with (first | (go_at_call 34; refine HL.out.mono ?_; rintro e w1 ⟨v1, rfl, hB1, hown⟩; obtain ⟨a1, g1, cap1, rfl, ha, hR⟩ := own_lins (hown R rfl); have HB1 := hidE hB1; have HR := hidE hR; clear hown hB1 hR) | fail)
    clear HL
    go_loopw [6, 20] (fun tv iv wl => ∃ j : Nat, j ≤ R.length ∧ iv = .int .i64 j ∧ OwnE wl w1.heap.size tv ((R.take j).map entOf) ∧ Hid (Below w1.heap.size w1 wl) ∧ Hid (∀ i (hi : i < R.length), i < j → okLine R[i])) (fun _ iv _ => R.length - (RowKit.intOf iv).toNat)
    case atStart => exact ⟨0, Nat.zero_le _, rfl, World.ownsRow_nil _ _ _ _, Below.refl _ _, fun i _ h => absurd h (by omega)⟩
    case round =>
      obtain ⟨j, hj, rfl, hown, HB, HO⟩ := hrel
      have HBw := hidE (HB1.out.trans (HB.out.mono HB1.out.size))
      by_cases hlt : j < R.length
      · obtain rfl := ha (by omega)
        have hc := (HR.out.below HB.out) j hlt
        have hz := HZ.out R[j] (List.getElem_mem hlt)
        have HT : Hid ((R.take (j + 1)).map entOf = (R.take j).map entOf ++ [entOf R[j]]) := by show _ = _; rw [List.take_succ_eq_append_getElem hlt, List.map_append]; rfl
        have HO2 : Hid (okLine R[j] → ∀ i (hi : i < R.length), i < j + 1 → okLine R[i]) := fun h i hi hij => by
          rcases Nat.lt_or_ge i j with q | q
          · exact HO.out i hi q
          · obtain rfl : i = j := by omega
            exact h
        have HBd := hidE (HBad.out j hlt)
        obtain ⟨ln, hln⟩ : ∃ ln, R[j] = ln := ⟨_, rfl⟩
        rw [hln] at hc hz HT HO2 HBd
        clear hln HO
        obtain ⟨c0, c1, c2, c3⟩ := hc
        have hy1 := hz 1
        have hy2 := hz 2
        have HC := hidE (fun (W : World) (h : Below w.heap.size w W) => lineEnt_any ln W (HW.out.below h))
        have hent : entOf ln = ⟨nthL ln 1, decide (kindW (nthL ln 0) = 2), nthL ln 2⟩ := rfl
        obtain ⟨d, hd⟩ : ∃ d, decide (kindW (nthL ln 0) = 2) = d := ⟨_, rfl⟩
        rw [hd] at hent
        rw [hent] at HC HT
        clear hent hd hz
        have hlen : ((R.take j).map entOf).length ≤ 1000 := by rw [List.length_map, List.length_take]; omega
        obtain ⟨ts, hts⟩ : ∃ ts, (R.take j).map entOf = ts := ⟨_, rfl⟩
        rw [hts] at hown hlen HT
        clear hts
        by_cases hk : okLine ln
        · have e1 : decide (kindW (nthL ln 0) = 2 ∨ kindW (nthL ln 0) = 1) = true := decide_eq_true hk
          rw [e1] at HC
          have HO3 := hidE (HO2.out hk)
          clear HO2 HBd e1 hk
          go_wp2_with (first
            | (go_at_call 35; refine (HC.out _ (HBw.out.alloc HBw.out.size _)).mono ?_; rintro e w2 ⟨rfl, hB2⟩; have HB2 := hidE ((HB.out.alloc HB.out.size (.cells (lineC ln) 64)).trans (hB2.mono (by have := HB.out.size; simp; omega))); have hown2 : OwnE w2 w1.heap.size _ ts := OwnE.below (hown.alloc (.cells (lineC ln) 64)) hB2; have HB3 := hidE (HB2.out.alloc HB2.out.size (.cells #[.string (nthL ln 1), .bool d, .string (nthL ln 2)] 50)); have hown3 : OwnE (w2.alloc (.cells #[.string (nthL ln 1), .bool d, .string (nthL ln 2)] 50)) w1.heap.size _ ts := hown2.alloc _; have hc1 := cells_new (w2.alloc (.cells #[.string (nthL ln 1), .bool d, .string (nthL ln 2)] 50)) ⟨nthL ln 1, d, nthL ln 2⟩; rw [show (w2.alloc (.cells #[.string (nthL ln 1), .bool d, .string (nthL ln 2)] 50)).heap.size = w2.heap.size + 1 from by simp] at hc1; have hsz := HB1.out.size; have hsz2 := HB2.out.size; clear c0 c1 c2 c3)
            | (at_builtin; refine wpList_append_own _ rfl (.tmp 31) (.tmp 33) 23 rfl w1.heap.size 50 i0 _ 3 40 Tryz.underlying23 hi hz0 hz1 hz2 rfl (by decide) _ ts.length (rowE ts) rfl (hown3.alloc _) ⟨w2.heap.size + 1, 0, none⟩ 1 1 (cellsE ⟨nthL ln 1, d, nthL ln 2⟩) rfl rfl hc1 rowE_one' (by unfold maxLen; omega) (by omega) (by simp; omega) ?_; intro v4 w4 hown4 hgrow4 _)
            | fail)
          have HB4 := hidE ((HB3.out.alloc HB3.out.size _).grown hgrow4 (by simp; omega) (fun k hk => (hown3.lt k hk).1))
          have hown5 := OwnE.push hown4
          clear hown4 hgrow4 HB3 HB2 hown3 hown2
          go_roundw
          case rel => exact ⟨j + 1, by omega, by go_num, by show OwnE _ _ _ _; rw [HT.out]; exact hown5, HB4, HO3⟩
          case measure => simp [RowKit.intOf]; omega
        · have e1 : decide (kindW (nthL ln 0) = 2 ∨ kindW (nthL ln 0) = 1) = false := decide_eq_false hk
          rw [e1] at HC
          have HP := hidE (HBd.out hk)
          clear HO2 HBd e1 hk
          go_wp2_with (first | (go_at_call 35; refine (HC.out _ (HBw.out.alloc HBw.out.size _)).mono ?_; rintro e w2 ⟨rfl, hB2⟩; have hBf := (HBw.out.alloc HBw.out.size (.cells (lineC ln) 64)).trans (hB2.mono (by have := HBw.out.size; simp; omega)); clear c0 c1 c2 c3) | fail)
          exact bodyPost_ret (v := .tuple #[.slice none 0 0, .bool false]) (by simp [results, Tryz.results11, go_sem]) rfl ⟨_, by rw [HP.out]; rfl, by rw [HP.out]; exact World.ownsRow_nil _ _ _ _, hBf.alloc hBf.size _⟩
      · have hjn : j = R.length := by omega
        subst hjn
        rw [List.take_length] at hown
        have HOk := hidE (fun i (hi : i < R.length) => HO.out i hi hi)
        clear HO hlt
        obtain ⟨es, hes⟩ : ∃ es, R.map entOf = es := ⟨_, rfl⟩
        have hel : es.length ≤ 16 := by rw [← hes, List.length_map]; exact hn
        have hez : ∀ e ∈ es, e.p.size ≤ 16777216 ∧ e.x.size ≤ 16777216 := fun e he => by
          rw [← hes] at he
          obtain ⟨ws, hw, rfl⟩ := List.mem_map.1 he
          exact ⟨HZ.out ws hw 1, HZ.out ws hw 2⟩
        have HYs := hidE (HYes.out HOk.out)
        rw [hes] at hown HNo HYs
        clear hes HYes HOk
        obtain ⟨a2, g2, cap2, rfl, ha2, hE2, -⟩ := hown.ents
        have HK := hidE (iTreeOk_any wr a2 g2 0 cap2 es ae (HEr.out.below HBw.out) (by omega) hez ha2 hE2)
        have HF := hidE (fun (W : World) (h : Below wr.heap.size wr W) => freshList_any W a2 g2 0 cap2 es (by omega) hez ha2 (hE2.below h))
        clear hown hE2 hez HZ
        cases htr : treeE es with
        | false =>
          have HP := hidE (HNo.out htr)
          rw [htr] at HK
          clear htr HNo HYs
          go_wp2_with (first | (go_at_call 25; refine HK.out.mono ?_; rintro e w2 ⟨rfl, hB2⟩; have hBf := HBw.out.trans (hB2.mono HBw.out.size)) | fail)
          exact bodyPost_ret (v := .tuple #[.slice none 0 0, .bool false]) (by simp [results, Tryz.results11, go_sem]) rfl ⟨_, by rw [HP.out]; rfl, by rw [HP.out]; exact World.ownsRow_nil _ _ _ _, hBf⟩
        | true =>
          have HP := hidE (HYs.out htr)
          rw [htr] at HK
          clear htr HNo HYs
          go_wp2_with (first | (go_at_call 25; refine HK.out.mono ?_; rintro e w2 ⟨rfl, hB2⟩; have HB2 := hidE hB2; clear hB2) | (go_at_call 36; refine (HF.out _ HB2.out).mono ?_; rintro e w3 ⟨v3, rfl, hown3, hB3⟩) | fail)
          have hBf := HBw.out.trans ((HB2.out.trans (hB3.mono HB2.out.size)).mono HBw.out.size)
          exact bodyPost_ret (v := .tuple #[v3, .bool true]) (by simp [results, Tryz.results11, go_sem]) rfl ⟨_, by rw [HP.out]; rfl, by rw [HP.out]; exact OwnE.lower hown3 (by have := HBw.out.size; have := HB2.out.size; omega), hBf⟩
end Go.Proofs.YtgkfhcpegdlejaaGreatDoor

/-
  The walks of the program's own: what is done, out of the words of a line; and a copy of it.
-/
namespace Go.Proofs.YtgkfhcpegdlejaaGreatDoor
open Go.RowKit Go.Lib

theorem kind_is (s : ByteArray) : findK [⟨#[]⟩, oW1, oW2, oW3, oW4, oW5] 0 s = opKind s := by
  have hs : ∀ a b : ByteArray, (a = b) = (b = a) := fun a b => propext ⟨Eq.symm, Eq.symm⟩
  unfold opKind
  simp only [findK, hs _ s]
  by_cases h0 : s = ⟨#[]⟩
  · rw [if_pos h0]; subst h0; decide
  · rw [if_neg h0]; rfl
theorem box4r {w w' : World} {a b c d : Value} {T : TypeId} (h : Below (w.alloc (.cells #[a, b, c, d] T)).heap.size (w.alloc (.cells #[a, b, c, d] T)) w') :
    w'.cell? ⟨w.heap.size, 0, none⟩ = some a ∧ w'.cell? ⟨w.heap.size, 1, none⟩ = some b ∧ w'.cell? ⟨w.heap.size, 2, none⟩ = some c ∧ w'.cell? ⟨w.heap.size, 3, none⟩ = some d := by
  have hl : w.heap.size < (w.alloc (.cells #[a, b, c, d] T)).heap.size := by simp
  exact ⟨(h.cell (p := ⟨w.heap.size, 0, none⟩) hl).trans (by simp), (h.cell (p := ⟨w.heap.size, 1, none⟩) hl).trans (by simp), (h.cell (p := ⟨w.heap.size, 2, none⟩) hl).trans (by simp), (h.cell (p := ⟨w.heap.size, 3, none⟩) hl).trans (by simp)⟩

set_option maxHeartbeats 1600000 in
set_option maxRecDepth 100000 in
theorem lineOp_any (ln : List (List UInt8)) (w : World) (hw : OpTab w) :
    Calls Tryz.prog 53 #[.agg (lineC ln)] w fun r w' => r = .returned (.agg #[.int .i64 (mkOp (opKind (nthL ln 0)) (nthL ln 1) (nthL ln 2)).k, .string (mkOp (opKind (nthL ln 0)) (nthL ln 1) (nthL ln 2)).p, .string (mkOp (opKind (nthL ln 0)) (nthL ln 1) (nthL ln 2)).t, .string (mkOp (opKind (nthL ln 0)) (nthL ln 1) (nthL ln 2)).x]) ∧ Below w.heap.size w w' := by
  obtain ⟨x0, e0⟩ : ∃ x, nthL ln 0 = x := ⟨_, rfl⟩
  obtain ⟨x1, e1⟩ : ∃ x, nthL ln 1 = x := ⟨_, rfl⟩
  obtain ⟨x2, e2⟩ : ∃ x, nthL ln 2 = x := ⟨_, rfl⟩
  obtain ⟨nl, e3⟩ : ∃ x : Int, ((ln.length : Nat) : Int) = x := ⟨_, rfl⟩
  unfold lineC
  rw [e0, e1, e2, e3]
  clear e0 e1 e2 e3
  have HB0 : Hid (Below w.heap.size w (w.alloc (.cells #[.string x0, .string x1, .string x2, .int .i64 nl] 64))) := (Below.refl _ w).alloc (Nat.le_refl _) _
  have HW := hidE hw
  have HC := hidE (fun (W : World) (h : Below w.heap.size w W) => opKind_any x0 W (HW.out.below h))
  rw [kind_is] at HC
  clear hw
  obtain ⟨k, hk⟩ : ∃ k, opKind x0 = k := ⟨_, rfl⟩
  rw [hk] at HC ⊢
  clear hk
  go_enter Tryz.func53, Tryz.ntmps53
  go_wp2
  have hB1 : Below w.heap.size w ((w.alloc (.cells #[.string x0, .string x1, .string x2, .int .i64 nl] 64)).alloc (.cells #[.int .i64 0, .string ⟨#[]⟩, .string ⟨#[]⟩, .string ⟨#[]⟩] 37)) := ((Below.refl _ w).alloc (Nat.le_refl _) _).alloc (by simp) _
  have hB2 : Below (w.heap.size + 1) (w.alloc (.cells #[.string x0, .string x1, .string x2, .int .i64 nl] 64)) ((w.alloc (.cells #[.string x0, .string x1, .string x2, .int .i64 nl] 64)).alloc (.cells #[.int .i64 0, .string ⟨#[]⟩, .string ⟨#[]⟩, .string ⟨#[]⟩] 37)) := by
    have := (Below.refl _ (w.alloc (.cells #[.string x0, .string x1, .string x2, .int .i64 nl] 64))).alloc (Nat.le_refl _) (.cells #[.int .i64 0, .string ⟨#[]⟩, .string ⟨#[]⟩, .string ⟨#[]⟩] 37)
    simpa using this
  have hR1 : ((w.alloc (.cells #[.string x0, .string x1, .string x2, .int .i64 nl] 64)).alloc (.cells #[.int .i64 0, .string ⟨#[]⟩, .string ⟨#[]⟩, .string ⟨#[]⟩] 37)).heap[w.heap.size + 1]? = some (.cells #[.int .i64 0, .string ⟨#[]⟩, .string ⟨#[]⟩, .string ⟨#[]⟩] 37 (0, 0)) := by
    have := heap_alloc_new (w.alloc (.cells #[.string x0, .string x1, .string x2, .int .i64 nl] 64)) (.cells #[.int .i64 0, .string ⟨#[]⟩, .string ⟨#[]⟩, .string ⟨#[]⟩] 37)
    simpa using this
  have hs1 : ((w.alloc (.cells #[.string x0, .string x1, .string x2, .int .i64 nl] 64)).alloc (.cells #[.int .i64 0, .string ⟨#[]⟩, .string ⟨#[]⟩, .string ⟨#[]⟩] 37)).heap.size = w.heap.size + 2 := by simp
  obtain ⟨W1, hW1⟩ : ∃ W1, (w.alloc (.cells #[.string x0, .string x1, .string x2, .int .i64 nl] 64)).alloc (.cells #[.int .i64 0, .string ⟨#[]⟩, .string ⟨#[]⟩, .string ⟨#[]⟩] 37) = W1 := ⟨_, rfl⟩
  rw [hW1] at hB1 hB2 hR1 hs1 ⊢
  clear hW1
  have HS := hidE (fun (W' : World) (h : Below W1.heap.size W1 W') => box4r (w := w) (w' := W') (a := .string x0) (b := .string x1) (c := .string x2) (d := .int .i64 nl) (T := 64) (by
    have := hB2.trans (h.mono (by omega))
    simpa using this))
  rename_i Qx Kx hKx
  have HK : Hid (∀ (b3 : Nat) (W : World), Below W1.heap.size W1 W → W.heap[b3]? = some (.cells #[.int .i64 k, .string x1, .string ⟨#[]⟩, .string ⟨#[]⟩] 37 (0, 0)) → w.heap.size + 2 ≤ b3 →
      Kx { tmps := #[.agg #[.string x0, .string x1, .string x2, .int .i64 nl], .pointer (some ⟨w.heap.size, 0, none⟩), .pointer (some ⟨w.heap.size + 1, 0, none⟩), .pointer (some ⟨b3, 0, none⟩), .pointer (some ⟨w.heap.size, 0, none⟩), .pointer (some ⟨w.heap.size, 0, none⟩), .string x0, .int .i64 k, .pointer (some ⟨w.heap.size, 0, none⟩), .pointer (some ⟨w.heap.size, 1, none⟩), .string x1, .agg #[.int .i64 k, .string x1, .string ⟨#[]⟩, .string ⟨#[]⟩], undef, undef, undef, undef, undef, undef, undef, undef, undef, undef, undef, undef], defers := [] } W) := by
    intro b3 W hBW hb3 hge
    refine hKx _ _ ?_
    obtain ⟨q0, q1, q2, q3⟩ := HS.out W hBW
    have hrb : W.heap[w.heap.size + 1]? = some (.cells #[.int .i64 0, .string ⟨#[]⟩, .string ⟨#[]⟩, .string ⟨#[]⟩] 37 (0, 0)) := by rw [hBW.block _ (by omega)]; exact hR1
    have k0 := cell_of_row W b3 0 _ _ _ hb3
    have k1 := cell_of_row W b3 1 _ _ _ hb3
    have k2 := cell_of_row W b3 2 _ _ _ hb3
    have k3 := cell_of_row W b3 3 _ _ _ hb3
    have f2 : W.frozen? ⟨b3, 2, none⟩ = false := by simp [World.frozen?, hb3]
    have f3 : W.frozen? ⟨b3, 3, none⟩ = false := by simp [World.frozen?, hb3]
    by_cases h5 : k = 5
    · subst h5
      have hm : mkOp 5 x1 x2 = ⟨5, x1, x2, ⟨#[]⟩⟩ := rfl
      clear hm
      have hsr : ∀ v, (W.setCell ⟨b3, 2, none⟩ v).heap[w.heap.size + 1]? = some (.cells #[.int .i64 0, .string ⟨#[]⟩, .string ⟨#[]⟩, .string ⟨#[]⟩] 37 (0, 0)) := fun v => by
        rw [setCell_eq_setRow W b3 2 _ _ (0, 0) v hb3, setRow_other W b3 (w.heap.size + 1) _ (by omega)]; exact hrb
      have hsb : (W.setCell ⟨b3, 2, none⟩ (.string x2)).heap[b3]? = some (.cells #[.int .i64 5, .string x1, .string x2, .string ⟨#[]⟩] 37 (0, 0)) := by
        rw [setCell_eq_setRow W b3 2 _ _ (0, 0) (.string x2) hb3]; exact setRow_heap W b3 _ _ _ (0, 0) hb3
      have hos : OnlyB b3 W (W.setCell ⟨b3, 2, none⟩ (.string x2)) := by rw [setCell_eq_setRow W b3 2 _ _ (0, 0) (.string x2) hb3]; exact OnlyB.setRow b3 W _
      have hBf := hos.below (hB1.trans (hBW.mono hB1.size)) (by omega)
      have hrf := hsr (.string x2)
      obtain ⟨Wf, hWf⟩ : ∃ Wf, W.setCell ⟨b3, 2, none⟩ (.string x2) = Wf := ⟨_, rfl⟩
      rw [hWf] at hsb hBf hrf
      have j0 := cell_of_row Wf b3 0 _ _ _ hsb
      have j1 := cell_of_row Wf b3 1 _ _ _ hsb
      have j2 := cell_of_row Wf b3 2 _ _ _ hsb
      have j3 := cell_of_row Wf b3 3 _ _ _ hsb
      obtain ⟨⟨r0, r0'⟩, r1, r2, r3⟩ := set4_rules hrf
      have r1a := fun u => (r1 u).1
      have r1b := fun u => (r1 u).2
      have r2a := fun u x => (r2 u x).1
      have r2b := fun u x => (r2 u x).2
      have r3a := fun u x y => (r3 u x y).1
      have r3b := fun u x y => (r3 u x y).2
      clear r1 r2 r3 hos hsr hKx
      have s4 := set4_is hrf (.int .i64 5) (.string x1) (.string x2) (.string ⟨#[]⟩)
      have hBs := s4.1.below hBf (by omega)
      have z0 := cell_of_row _ (w.heap.size + 1) 0 _ _ _ s4.2
      have z1 := cell_of_row _ (w.heap.size + 1) 1 _ _ _ s4.2
      have z2 := cell_of_row _ (w.heap.size + 1) 2 _ _ _ s4.2
      have z3 := cell_of_row _ (w.heap.size + 1) 3 _ _ _ s4.2
      go_wp2
      exact bodyPost_ret (v := .agg #[.int .i64 5, .string x1, .string x2, .string ⟨#[]⟩]) (by simp [results, Tryz.results53, go_sem, z0, z1, z2, z3]) rfl ⟨rfl, hBs⟩
    · have hm : mkOp k x1 x2 = ⟨k, x1, ⟨#[]⟩, x2⟩ := by unfold mkOp; rw [if_neg h5]
      have hsr : ∀ v, (W.setCell ⟨b3, 3, none⟩ v).heap[w.heap.size + 1]? = some (.cells #[.int .i64 0, .string ⟨#[]⟩, .string ⟨#[]⟩, .string ⟨#[]⟩] 37 (0, 0)) := fun v => by
        rw [setCell_eq_setRow W b3 3 _ _ (0, 0) v hb3, setRow_other W b3 (w.heap.size + 1) _ (by omega)]; exact hrb
      have hsb : (W.setCell ⟨b3, 3, none⟩ (.string x2)).heap[b3]? = some (.cells #[.int .i64 k, .string x1, .string ⟨#[]⟩, .string x2] 37 (0, 0)) := by
        rw [setCell_eq_setRow W b3 3 _ _ (0, 0) (.string x2) hb3]; exact setRow_heap W b3 _ _ _ (0, 0) hb3
      have hos : OnlyB b3 W (W.setCell ⟨b3, 3, none⟩ (.string x2)) := by rw [setCell_eq_setRow W b3 3 _ _ (0, 0) (.string x2) hb3]; exact OnlyB.setRow b3 W _
      have hBf := hos.below (hB1.trans (hBW.mono hB1.size)) (by omega)
      have hrf := hsr (.string x2)
      obtain ⟨Wf, hWf⟩ : ∃ Wf, W.setCell ⟨b3, 3, none⟩ (.string x2) = Wf := ⟨_, rfl⟩
      rw [hWf] at hsb hBf hrf
      have j0 := cell_of_row Wf b3 0 _ _ _ hsb
      have j1 := cell_of_row Wf b3 1 _ _ _ hsb
      have j2 := cell_of_row Wf b3 2 _ _ _ hsb
      have j3 := cell_of_row Wf b3 3 _ _ _ hsb
      obtain ⟨⟨r0, r0'⟩, r1, r2, r3⟩ := set4_rules hrf
      have r1a := fun u => (r1 u).1
      have r1b := fun u => (r1 u).2
      have r2a := fun u x => (r2 u x).1
      have r2b := fun u x => (r2 u x).2
      have r3a := fun u x y => (r3 u x y).1
      have r3b := fun u x y => (r3 u x y).2
      clear r1 r2 r3 hos hsr hKx
      have s4 := set4_is hrf (.int .i64 k) (.string x1) (.string ⟨#[]⟩) (.string x2)
      have hBs := s4.1.below hBf (by omega)
      have z0 := cell_of_row _ (w.heap.size + 1) 0 _ _ _ s4.2
      have z1 := cell_of_row _ (w.heap.size + 1) 1 _ _ _ s4.2
      have z2 := cell_of_row _ (w.heap.size + 1) 2 _ _ _ s4.2
      have z3 := cell_of_row _ (w.heap.size + 1) 3 _ _ _ s4.2
      go_wp2
      exact bodyPost_ret (v := .agg #[.int .i64 k, .string x1, .string ⟨#[]⟩, .string x2]) (by simp [results, Tryz.results53, go_sem, z0, z1, z2, z3]) rfl ⟨by rw [hm], hBs⟩
  refine wp_region_held_drew (S := fun W' => Below W1.heap.size W1 W') (by kernel_rfl) ((Below.refl _ W1).drew) (fun hS0 => ?_)
  refine wpAnyH_take (i := 0) (v := ?_) rfl (by kernel_rfl) (by kernel_rfl) (by kernel_rfl) (fun _ _ _ h => h) (Or.inl ⟨by rfl, ?_⟩) hS0 ?_
  rotate_left 1
  · intro w' hw'; obtain ⟨q0, q1, q2, q3⟩ := HS.out w' hw'; go_simp; first | done | with_reducible rfl
  refine wpAnyH_take (i := 1) (v := ?_) rfl (by kernel_rfl) (by kernel_rfl) (by kernel_rfl) (fun _ _ _ h => h) (Or.inl ⟨by rfl, ?_⟩) hS0 ?_
  rotate_left 1
  · intro w' hw'; obtain ⟨q0, q1, q2, q3⟩ := HS.out w' hw'; go_simp; first | done | with_reducible rfl
  refine wpAnyH_take (i := 2) (v := ?_) rfl (by kernel_rfl) (by kernel_rfl) (by kernel_rfl) (fun _ _ _ h => h) (Or.inl ⟨by rfl, ?_⟩) hS0 ?_
  rotate_left 1
  · intro w' hw'; obtain ⟨q0, q1, q2, q3⟩ := HS.out w' hw'; go_simp; first | done | with_reducible rfl
  refine wpAnyH_take (i := 4) (v := ?_) rfl (by kernel_rfl) (by kernel_rfl) (by kernel_rfl) (fun _ _ _ h => h) (Or.inl ⟨by rfl, ?_⟩) hS0 ?_
  rotate_left 1
  · intro w' hw'; obtain ⟨q0, q1, q2, q3⟩ := HS.out w' hw'; go_simp; first | done | with_reducible rfl
  refine wpAnyH_take (i := 5) (v := ?_) rfl (by kernel_rfl) (by kernel_rfl) (by kernel_rfl) (fun _ _ _ h => h) (Or.inl ⟨by rfl, ?_⟩) hS0 ?_
  rotate_left 1
  · intro w' hw'; obtain ⟨q0, q1, q2, q3⟩ := HS.out w' hw'; go_simp; first | done | with_reducible rfl
  refine wpAnyH_take (i := 6) (v := ?_) rfl (by kernel_rfl) (by kernel_rfl) (by kernel_rfl) (fun _ _ _ h => h) (Or.inl ⟨by rfl, ?_⟩) hS0 ?_
  rotate_left 1
  · intro w' hw'; obtain ⟨q0, q1, q2, q3⟩ := HS.out w' hw'; go_simp; first | done | with_reducible rfl
  refine wpAnyH_ready (rs := [3, 8]) (by kernel_rfl) (by simp) (AllReadyH.cons rfl (fun K hK => ?_) (AllReadyH.cons rfl (fun K hK => ?_) AllReadyH.nil))
  · go_simp
    go_wp2_with (first | (go_at_call 82; refine (HC.out _ (hB1.trans (hS0.mono hB1.size))).mono ?_; rintro e w2 ⟨rfl, hB2'⟩) | fail)
    have hS2 : Below W1.heap.size W1 w2 := hS0.trans (hB2'.mono (Nat.le_refl _))
    refine hK.out _ _ hS2 (fun _ => ?_)
    clear hK K
    refine wpAnyH_take (i := 7) (v := ?_) rfl (by kernel_rfl) (by kernel_rfl) (by kernel_rfl) (fun _ _ _ h => h) (Or.inl ⟨by rfl, ?_⟩) hS2 ?_
    rotate_left 1
    · intro w' hw'; go_simp; first | done | with_reducible rfl
    refine wpAnyH_ready (rs := [8]) (by kernel_rfl) (by simp) (AllReadyH.cons rfl (fun K hK => ?_) AllReadyH.nil)
    go_simp
    have hS3 := hS2.alloc hS2.size (.cells #[.int .i64 0, .string ⟨#[]⟩, .string ⟨#[]⟩, .string ⟨#[]⟩] 37)
    refine hK.out _ _ hS3 (fun _ => ?_)
    clear hK K
    have hS4 := hS2.alloc hS2.size (.cells #[.int .i64 k, .string x1, .string ⟨#[]⟩, .string ⟨#[]⟩] 37)
    refine wpAnyH_ready (rs := [9]) (by kernel_rfl) (by simp) (AllReadyH.cons rfl (fun K hK => ?_) AllReadyH.nil)
    go_simp
    refine hK.out _ _ hS4 (fun _ => ?_)
    clear hK K
    refine wpAnyH_done (by kernel_rfl) ?_ _
    exact HK.out w2.heap.size _ hS4 (heap_alloc_new w2 (.cells #[.int .i64 k, .string x1, .string ⟨#[]⟩, .string ⟨#[]⟩] 37)) (by have := hS2.size; omega)
  · go_simp
    have hS3 : Below W1.heap.size W1 (W1.alloc (.cells #[.int .i64 0, .string ⟨#[]⟩, .string ⟨#[]⟩, .string ⟨#[]⟩] 37)).drew := ((Below.refl _ W1).alloc (Nat.le_refl _) _).drew
    refine hK.out _ _ hS3 (fun _ => ?_)
    clear hK K
    refine wpAnyH_ready (rs := [3]) (by kernel_rfl) (by simp) (AllReadyH.cons rfl (fun K hK => ?_) AllReadyH.nil)
    go_simp
    go_wp2_with (first | (go_at_call 82; refine (HC.out _ (hB1.trans (hS3.mono hB1.size))).mono ?_; rintro e w2 ⟨rfl, hB2'⟩) | fail)
    have hS2 : Below W1.heap.size W1 w2 := hS3.trans (hB2'.mono hS3.size)
    have hz : w2.heap[W1.heap.size]? = some (.cells #[.int .i64 0, .string ⟨#[]⟩, .string ⟨#[]⟩, .string ⟨#[]⟩] 37 (0, 0)) := by
      rw [hB2'.block W1.heap.size (show W1.heap.size < (W1.alloc (.cells #[.int .i64 0, .string ⟨#[]⟩, .string ⟨#[]⟩, .string ⟨#[]⟩] 37)).heap.size by simp)]
      exact heap_alloc_new W1 (.cells #[.int .i64 0, .string ⟨#[]⟩, .string ⟨#[]⟩, .string ⟨#[]⟩] 37)
    rw [hs1] at hz
    refine hK.out _ _ hS2 (fun _ => ?_)
    clear hK K
    refine wpAnyH_take (i := 7) (v := ?_) rfl (by kernel_rfl) (by kernel_rfl) (by kernel_rfl) (fun _ _ _ h => h) (Or.inl ⟨by rfl, ?_⟩) hS2 ?_
    rotate_left 1
    · intro w' hw'; go_simp; first | done | with_reducible rfl
    obtain ⟨⟨r0, r0'⟩, r1, r2, r3⟩ := set4_rules hz
    have r1a := fun u => (r1 u).1
    have r1b := fun u => (r1 u).2
    have r2a := fun u x => (r2 u x).1
    have r2b := fun u x => (r2 u x).2
    have r3a := fun u x y => (r3 u x y).1
    have r3b := fun u x y => (r3 u x y).2
    clear r1 r2 r3
    have s4 := set4_is hz (.int .i64 k) (.string x1) (.string ⟨#[]⟩) (.string ⟨#[]⟩)
    have hS4 := s4.1.below hS2 (by omega)
    refine wpAnyH_ready (rs := [9]) (by kernel_rfl) (by simp) (AllReadyH.cons rfl (fun K hK => ?_) AllReadyH.nil)
    go_simp
    refine hK.out _ _ hS4 (fun _ => ?_)
    clear hK K
    refine wpAnyH_done (by kernel_rfl) ?_ _
    exact HK.out (w.heap.size + 2) _ hS4 s4.2 (Nat.le_refl _)

theorem clone_op (s : ByteArray) (hs : s.size ≤ 16777217) (w : World) :
    Calls Tryz.prog 68 #[.string s] w fun e w' => e = .returned (.string s) ∧ Below w.heap.size w w' := by
  go_enter Tryz.func68, Tryz.ntmps68
  go_wp2_with (first | (go_at_call 103; refine (sClone_any _ _ (by omega)).mono ?_; rintro e w' ⟨rfl, hB⟩) | fail)
  go_ret
  exact ⟨rfl, hB⟩

set_option maxHeartbeats 3200000 in
set_option maxRecDepth 100000 in
theorem freshOp_any (k : Int) (p t x : ByteArray) (w : World) (hp : p.size ≤ 16777217) (ht : t.size ≤ 16777217) (hx : x.size ≤ 16777217) :
    Calls Tryz.prog 54 #[.agg #[.int .i64 k, .string p, .string t, .string x]] w fun r w' => r = .returned (.agg #[.int .i64 k, .string p, .string t, .string x]) ∧ Below w.heap.size w w' := by
  have C1 := hidE (fun W => clone_op p hp W)
  have C2 := hidE (fun W => clone_op t ht W)
  have C3 := hidE (fun W => clone_op x hx W)
  clear hp ht hx
  go_enter Tryz.func54, Tryz.ntmps54
  go_wp2
  have hB1 : Below w.heap.size w ((w.alloc (.cells #[.int .i64 k, .string p, .string t, .string x] 37)).alloc (.cells #[.int .i64 0, .string ⟨#[]⟩, .string ⟨#[]⟩, .string ⟨#[]⟩] 37)) := ((Below.refl _ w).alloc (Nat.le_refl _) _).alloc (by simp) _
  have hB2 : Below (w.heap.size + 1) (w.alloc (.cells #[.int .i64 k, .string p, .string t, .string x] 37)) ((w.alloc (.cells #[.int .i64 k, .string p, .string t, .string x] 37)).alloc (.cells #[.int .i64 0, .string ⟨#[]⟩, .string ⟨#[]⟩, .string ⟨#[]⟩] 37)) := by
    have := (Below.refl _ (w.alloc (.cells #[.int .i64 k, .string p, .string t, .string x] 37))).alloc (Nat.le_refl _) (.cells #[.int .i64 0, .string ⟨#[]⟩, .string ⟨#[]⟩, .string ⟨#[]⟩] 37)
    simpa using this
  have hR1 : ((w.alloc (.cells #[.int .i64 k, .string p, .string t, .string x] 37)).alloc (.cells #[.int .i64 0, .string ⟨#[]⟩, .string ⟨#[]⟩, .string ⟨#[]⟩] 37)).heap[w.heap.size + 1]? = some (.cells #[.int .i64 0, .string ⟨#[]⟩, .string ⟨#[]⟩, .string ⟨#[]⟩] 37 (0, 0)) := by
    have := heap_alloc_new (w.alloc (.cells #[.int .i64 k, .string p, .string t, .string x] 37)) (.cells #[.int .i64 0, .string ⟨#[]⟩, .string ⟨#[]⟩, .string ⟨#[]⟩] 37)
    simpa using this
  have hs1 : ((w.alloc (.cells #[.int .i64 k, .string p, .string t, .string x] 37)).alloc (.cells #[.int .i64 0, .string ⟨#[]⟩, .string ⟨#[]⟩, .string ⟨#[]⟩] 37)).heap.size = w.heap.size + 2 := by simp
  obtain ⟨W1, hW1⟩ : ∃ W1, (w.alloc (.cells #[.int .i64 k, .string p, .string t, .string x] 37)).alloc (.cells #[.int .i64 0, .string ⟨#[]⟩, .string ⟨#[]⟩, .string ⟨#[]⟩] 37) = W1 := ⟨_, rfl⟩
  rw [hW1] at hB1 hB2 hR1 hs1 ⊢
  clear hW1
  have HS := hidE (fun (W' : World) (h : Below W1.heap.size W1 W') => box4r (w := w) (w' := W') (a := .int .i64 k) (b := .string p) (c := .string t) (d := .string x) (T := 37) (by
    have := hB2.trans (h.mono (by omega))
    simpa using this))
  have HF := hidE (fun (W' : World) (h : Below W1.heap.size W1 W') => show W'.heap[w.heap.size + 1]? = some (.cells #[.int .i64 0, .string ⟨#[]⟩, .string ⟨#[]⟩, .string ⟨#[]⟩] 37 (0, 0)) from by rw [h.block _ (by omega)]; exact hR1)
  refine wp_region_held_drew (S := fun W' => Below (w.heap.size + 1) (w.alloc (.cells #[.int .i64 k, .string p, .string t, .string x] 37)) W') (by kernel_rfl) (hB2.trans (((Below.refl W1.heap.size W1).drew).mono (by omega))) (fun hS0 => ?_)
  have HS' := hidE (fun (W' : World) (h : Below (w.heap.size + 1) (w.alloc (.cells #[.int .i64 k, .string p, .string t, .string x] 37)) W') => box4r (w := w) (w' := W') (a := .int .i64 k) (b := .string p) (c := .string t) (d := .string x) (T := 37) (by simpa using h))
  have hT0 : Below W1.heap.size W1 W1.drew := (Below.refl _ W1).drew
  refine wpAnyH_take (i := 0) (v := ?_) rfl (by kernel_rfl) (by kernel_rfl) (by kernel_rfl) (fun _ _ _ h => h) (Or.inl ⟨by rfl, ?_⟩) hS0 ?_
  rotate_left 1
  · intro w' hw'; obtain ⟨q0, q1, q2, q3⟩ := HS'.out w' hw'; go_simp; first | done | with_reducible rfl
  refine wpAnyH_take (i := 1) (v := ?_) rfl (by kernel_rfl) (by kernel_rfl) (by kernel_rfl) (fun _ _ _ h => h) (Or.inl ⟨by rfl, ?_⟩) hS0 ?_
  rotate_left 1
  · intro w' hw'; obtain ⟨q0, q1, q2, q3⟩ := HS'.out w' hw'; go_simp; first | done | with_reducible rfl
  refine wpAnyH_take (i := 2) (v := ?_) rfl (by kernel_rfl) (by kernel_rfl) (by kernel_rfl) (fun _ _ _ h => h) (Or.inl ⟨by rfl, ?_⟩) hS0 ?_
  rotate_left 1
  · intro w' hw'; obtain ⟨q0, q1, q2, q3⟩ := HS'.out w' hw'; go_simp; first | done | with_reducible rfl
  refine wpAnyH_take (i := 3) (v := ?_) rfl (by kernel_rfl) (by kernel_rfl) (by kernel_rfl) (fun _ _ _ h => h) (Or.inl ⟨by rfl, ?_⟩) hS0 ?_
  rotate_left 1
  · intro w' hw'; obtain ⟨q0, q1, q2, q3⟩ := HS'.out w' hw'; go_simp; first | done | with_reducible rfl
  refine wpAnyH_take (i := 5) (v := ?_) rfl (by kernel_rfl) (by kernel_rfl) (by kernel_rfl) (fun _ _ _ h => h) (Or.inl ⟨by rfl, ?_⟩) hS0 ?_
  rotate_left 1
  · intro w' hw'; obtain ⟨q0, q1, q2, q3⟩ := HS'.out w' hw'; go_simp; first | done | with_reducible rfl
  refine wpAnyH_take (i := 6) (v := ?_) rfl (by kernel_rfl) (by kernel_rfl) (by kernel_rfl) (fun _ _ _ h => h) (Or.inl ⟨by rfl, ?_⟩) hS0 ?_
  rotate_left 1
  · intro w' hw'; obtain ⟨q0, q1, q2, q3⟩ := HS'.out w' hw'; go_simp; first | done | with_reducible rfl
  refine wpAnyH_take (i := 8) (v := ?_) rfl (by kernel_rfl) (by kernel_rfl) (by kernel_rfl) (fun _ _ _ h => h) (Or.inl ⟨by rfl, ?_⟩) hS0 ?_
  rotate_left 1
  · intro w' hw'; obtain ⟨q0, q1, q2, q3⟩ := HS'.out w' hw'; go_simp; first | done | with_reducible rfl
  refine wpAnyH_take (i := 9) (v := ?_) rfl (by kernel_rfl) (by kernel_rfl) (by kernel_rfl) (fun _ _ _ h => h) (Or.inl ⟨by rfl, ?_⟩) hS0 ?_
  rotate_left 1
  · intro w' hw'; obtain ⟨q0, q1, q2, q3⟩ := HS'.out w' hw'; go_simp; first | done | with_reducible rfl
  refine wpAnyH_ready (rs := [4]) (by kernel_rfl) (by simp) (AllReadyH.cons rfl (fun K hK => ?_) AllReadyH.nil)
  go_simp
  go_wp2_with (first | (go_at_call 68; refine (C1.out _).mono ?_; rintro e w1 ⟨rfl, hB1'⟩) | fail)
  have hT1 : Below W1.heap.size W1 w1 := hT0.trans (hB1'.mono hT0.size)
  have hS1 : Below (w.heap.size + 1) (w.alloc (.cells #[.int .i64 k, .string p, .string t, .string x] 37)) w1 := hB2.trans (hT1.mono (by omega))
  refine hK.out _ _ hS1 (fun _ => ?_)
  clear hK K
  refine wpAnyH_ready (rs := [7]) (by kernel_rfl) (by simp) (AllReadyH.cons rfl (fun K hK => ?_) AllReadyH.nil)
  go_simp
  go_wp2_with (first | (go_at_call 68; refine (C2.out _).mono ?_; rintro e w2 ⟨rfl, hB2'⟩) | fail)
  have hT2 : Below W1.heap.size W1 w2 := hT1.trans (hB2'.mono hT1.size)
  have hS2 : Below (w.heap.size + 1) (w.alloc (.cells #[.int .i64 k, .string p, .string t, .string x] 37)) w2 := hB2.trans (hT2.mono (by omega))
  refine hK.out _ _ hS2 (fun _ => ?_)
  clear hK K
  refine wpAnyH_ready (rs := [10]) (by kernel_rfl) (by simp) (AllReadyH.cons rfl (fun K hK => ?_) AllReadyH.nil)
  go_simp
  go_wp2_with (first | (go_at_call 68; refine (C3.out _).mono ?_; rintro e w3 ⟨rfl, hB3'⟩) | fail)
  have hT3 : Below W1.heap.size W1 w3 := hT2.trans (hB3'.mono hT2.size)
  have hS3 : Below (w.heap.size + 1) (w.alloc (.cells #[.int .i64 k, .string p, .string t, .string x] 37)) w3 := hB2.trans (hT3.mono (by omega))
  refine hK.out _ _ hS3 (fun _ => ?_)
  clear hK K
  refine wpAnyH_take (i := 11) (v := ?_) rfl (by kernel_rfl) (by kernel_rfl) (by kernel_rfl) (fun _ _ _ h => h) (Or.inl ⟨by rfl, ?_⟩) hS3 ?_
  rotate_left 1
  · intro w' hw'; go_simp; first | done | with_reducible rfl
  have hz := HF.out _ hT3
  obtain ⟨⟨r0, r0'⟩, r1, r2, r3⟩ := set4_rules hz
  have r1a := fun u => (r1 u).1
  have r1b := fun u => (r1 u).2
  have r2a := fun u x => (r2 u x).1
  have r2b := fun u x => (r2 u x).2
  have r3a := fun u x y => (r3 u x y).1
  have r3b := fun u x y => (r3 u x y).2
  clear r1 r2 r3
  have s4 := set4_is hz (.int .i64 k) (.string p) (.string t) (.string x)
  have hSf := s4.1.below hS3 (Nat.le_refl _)
  have hBf := s4.1.below (hB1.trans (hT3.mono hB1.size)) (by omega)
  have z0 := cell_of_row _ (w.heap.size + 1) 0 _ _ _ s4.2
  have z1 := cell_of_row _ (w.heap.size + 1) 1 _ _ _ s4.2
  have z2 := cell_of_row _ (w.heap.size + 1) 2 _ _ _ s4.2
  have z3 := cell_of_row _ (w.heap.size + 1) 3 _ _ _ s4.2
  refine wpAnyH_ready (rs := [12]) (by kernel_rfl) (by simp) (AllReadyH.cons rfl (fun K hK => ?_) AllReadyH.nil)
  go_simp
  refine hK.out _ _ hSf (fun _ => ?_)
  clear hK K
  refine wpAnyH_done (by kernel_rfl) ?_ _
  go_wp2
  exact bodyPost_ret (v := .agg #[.int .i64 k, .string p, .string t, .string x]) (by simp [results, Tryz.results54, go_sem, z0, z1, z2, z3]) rfl ⟨rfl, hBf⟩
end Go.Proofs.YtgkfhcpegdlejaaGreatDoor

/-
  The walk of the program's own OpRead.
-/
namespace Go.Proofs.YtgkfhcpegdlejaaGreatDoor
open Go.RowKit Go.Lib

abbrev opAgg (o : O) : Value := .agg #[.int .i64 o.k, .string o.p, .string o.t, .string o.x]
def zeroO : O := ⟨0, ⟨#[]⟩, ⟨#[]⟩, ⟨#[]⟩⟩
/-- What the scan of a line tells. -/
theorem scan_one (s : ByteArray) (R : List (List (List UInt8))) (h : scanL 1 (LB s ++ [10]) [] [] [] = some R) : ∃ ws, R = [ws] ∧ LB s = joinL ws := by
  obtain ⟨e1, e2, e3⟩ := scan_sound 1 _ [] [] [] R (fun _ h => by simp at h) (fun _ h => by simp at h) (by simp) (fun _ h => by simp at h) (by simp) h
  match R, e1, e3 with
  | [], e1, _ => simp [aheadL, linesL] at e1
  | [ws], e1, _ =>
    refine ⟨ws, rfl, ?_⟩
    have e4 : LB s ++ [10] = joinL ws ++ [10] := by simpa [aheadL, linesL] using e1
    exact List.append_cancel_right e4

theorem own_one {w : World} {base : Nat} {v : Value} {ws : List (List UInt8)} (h : w.ownsRow base 64 4 v [ws].length (rowL [ws])) :
    ∃ g cap, v = .slice (some ⟨g, 0, none⟩) 1 cap ∧ w.cell? ⟨g, 0, none⟩ = some (.string (nthL ws 0)) ∧ w.cell? ⟨g, 1, none⟩ = some (.string (nthL ws 1)) ∧ w.cell? ⟨g, 2, none⟩ = some (.string (nthL ws 2)) ∧ w.cell? ⟨g, 3, none⟩ = some (.int .i64 (ws.length : Nat)) := by
  have hc := fun (g : Nat) (hg : v.ownBlock = some g) => World.ownsRow.cells h hg
  rcases h.2 with ⟨rfl, e⟩ | ⟨g, cap, cur, rfl, _⟩
  · simp at e
  · have ha : ∀ j, (⟨g, 0, none⟩ : Addr).add j = ⟨g, j, none⟩ := fun j => by unfold Addr.add; split <;> simp_all
    have h0 := hc g rfl 0 _ rfl
    have h1 := hc g rfl 1 _ rfl
    have h2 := hc g rfl 2 _ rfl
    have h3 := hc g rfl 3 _ rfl
    rw [ha] at h0 h1 h2 h3
    exact ⟨g, cap, rfl, h0, h1, h2, h3⟩
/-- A block that lies below, behind two calls and a box between. -/
theorem box_keep {b : Nat} {o n : Obj} {w1 w2 w3 : World} (h : w1.heap[b]? = some o) (h2 : Below w1.heap.size w1 w2) (h3 : Below (w2.alloc n).heap.size (w2.alloc n) w3) : w3.heap[b]? = some o := by
  have hl : b < w1.heap.size := (Array.getElem?_eq_some_iff.1 h).1
  have h2s := h2.size
  rw [h3.block b (by simp; omega), (World.grownBy_alloc w2 n none).block b (by omega) (by simp), h2.block b hl]
  exact h
set_option maxHeartbeats 3200000 in
set_option maxRecDepth 100000 in
theorem iOpRead_any (s : ByteArray) (hs : s.size ≤ 16777216) (w : World) (hw : OpTab w) :
    Calls Tryz.prog 20 #[.string s] w fun r w' => r = .returned (.tuple #[opAgg ((progOp s).getD zeroO), .bool (progOp s).isSome]) ∧ Below w.heap.size w w' := by
  have hz10 : (s ++ (⟨#[10]⟩ : ByteArray)).size = s.size + 1 := by rw [ByteArray.size_append]; rfl
  have hB0 : Below w.heap.size w (w.alloc (.cells #[.int .i64 0, .string ⟨#[]⟩, .string ⟨#[]⟩, .string ⟨#[]⟩] 37)) := (Below.refl _ w).alloc (Nat.le_refl _) _
  have hR0 := heap_alloc_new w (.cells #[.int .i64 0, .string ⟨#[]⟩, .string ⟨#[]⟩, .string ⟨#[]⟩] 37)
  have hL := linesOf_any (s ++ ⟨#[10]⟩) 1 (by omega) (by omega) (w.alloc (.cells #[.int .i64 0, .string ⟨#[]⟩, .string ⟨#[]⟩, .string ⟨#[]⟩] 37))
  have hlb : LB (s ++ (⟨#[10]⟩ : ByteArray)) = LB s ++ [10] := lb_app _ _
  rw [hlb] at hL
  have HL := hidE hL
  have HW := hidE hw
  have HB0 := hidE hB0
  have HR0 := hidE hR0
  clear hL hw hB0 hR0 hlb
  have q0 : s.size + 1 ≤ 16777217 := by omega
  cases hsc : scanL 1 (LB s ++ [10]) [] [] [] with
  | none =>
    have hp : progOp s = none := by unfold progOp; rw [hsc]
    rw [hp]
    rw [hsc] at HL
    clear hsc hp
    go_enter Tryz.func20, Tryz.ntmps20
    go_wp2_with (first | (go_at_call 34; refine HL.out.mono ?_; rintro e w1 ⟨v1, rfl, hB1, -⟩; have hz1 := (hB1.block w.heap.size (by simp)).trans HR0.out; obtain ⟨⟨r0, r0'⟩, r1, r2, r3⟩ := set4_rules hz1; have r1a := fun u => (r1 u).1; have r1b := fun u => (r1 u).2; have r2a := fun u x => (r2 u x).1; have r2b := fun u x => (r2 u x).2; have r3a := fun u x y => (r3 u x y).1; have r3b := fun u x y => (r3 u x y).2; clear r1 r2 r3) | fail)
    have hB1' := HB0.out.trans (hB1.mono (by simp))
    have s4 := set4_is hz1 (.int .i64 0) (.string ⟨#[]⟩) (.string ⟨#[]⟩) (.string ⟨#[]⟩)
    have hBs := s4.1.below hB1' (Nat.le_refl _)
    have z0 := cell_of_row _ w.heap.size 0 _ _ _ s4.2
    have z1 := cell_of_row _ w.heap.size 1 _ _ _ s4.2
    have z2 := cell_of_row _ w.heap.size 2 _ _ _ s4.2
    have z3 := cell_of_row _ w.heap.size 3 _ _ _ s4.2
    exact bodyPost_ret (v := .tuple #[opAgg zeroO, .bool false]) (by simp [results, Tryz.results20, go_sem, z0, z1, z2, z3, zeroO]) rfl ⟨rfl, hBs⟩
  | some R =>
    obtain ⟨ws, rfl, hj⟩ := scan_one s R hsc
    have hn : ∀ i, (nthL ws i).size ≤ 16777216 := fun i => by have h1 := nth_le (ws := ws) i; rw [← hj, lb_len] at h1; omega
    obtain ⟨o, ho⟩ : ∃ o, mkOp (opKind (nthL ws 0)) (nthL ws 1) (nthL ws 2) = o := ⟨_, rfl⟩
    have hp : progOp s = if opB o = true then some o else none := by unfold progOp; rw [hsc]; dsimp only; rw [ho]
    have hzo : o.p.size ≤ 16777216 ∧ o.t.size ≤ 16777216 ∧ o.x.size ≤ 16777216 := by
      rw [← ho]; unfold mkOp
      split
      · exact ⟨hn 1, hn 2, Nat.zero_le _⟩
      · exact ⟨hn 1, Nat.zero_le _, hn 2⟩
    have HO := hidE (fun (W : World) (h : OpTab W) => lineOp_any ws W h)
    rw [ho] at HO
    rw [hsc] at HL
    clear hsc hj hn ho
    obtain ⟨k, p, t, x⟩ := o
    obtain ⟨hp1, hp2, hp3⟩ := hzo
    have HK := hidE (fun W => iOpOk_any W k p t x hp1 hp2)
    have HF := hidE (fun W => freshOp_any k p t x W (Nat.le_succ_of_le hp1) (Nat.le_succ_of_le hp2) (Nat.le_succ_of_le hp3))
    rw [fit_op] at HK
    clear hp1 hp2 hp3
    cases hb : opB ⟨k, p, t, x⟩ with
    | false =>
      rw [hb] at HK
      rw [if_neg (by simp [hb])] at hp
      rw [hp]
      clear hp hb
      go_enter Tryz.func20, Tryz.ntmps20
      go_wp2_with (first
        | (go_at_call 34; refine HL.out.mono ?_; rintro e w1 ⟨v1, rfl, hB1, hown⟩; have hz1 := (hB1.block w.heap.size (by simp)).trans HR0.out; have hB1' := HB0.out.trans (hB1.mono (by simp)); obtain ⟨g1, cap1, rfl, c0, c1, c2, c3⟩ := own_one (hown _ rfl); clear hown)
        | (go_at_call 53; refine (HO.out _ (HW.out.below hB1')).mono ?_; rintro e w2 ⟨rfl, hB2⟩; clear c0 c1 c2 c3)
        | (go_at_call 46; refine (HK.out _).mono ?_; rintro e w3 ⟨rfl, hB3⟩; have hz3 := box_keep hz1 hB2 hB3; obtain ⟨⟨r0, r0'⟩, r1, r2, r3⟩ := set4_rules hz3; have r1a := fun u => (r1 u).1; have r1b := fun u => (r1 u).2; have r2a := fun u x => (r2 u x).1; have r2b := fun u x => (r2 u x).2; have r3a := fun u x y => (r3 u x y).1; have r3b := fun u x y => (r3 u x y).2; clear r1 r2 r3)
        | fail)
      have hB3' := (hB1'.trans (hB2.mono hB1'.size))
      have hB3'' := (hB3'.alloc hB3'.size (.cells #[.int .i64 k, .string p, .string t, .string x] 37)).trans (hB3.mono (by have := hB3'.size; simp; omega))
      have s4 := set4_is hz3 (.int .i64 0) (.string ⟨#[]⟩) (.string ⟨#[]⟩) (.string ⟨#[]⟩)
      have hBs := s4.1.below hB3'' (Nat.le_refl _)
      have z0 := cell_of_row _ w.heap.size 0 _ _ _ s4.2
      have z1 := cell_of_row _ w.heap.size 1 _ _ _ s4.2
      have z2 := cell_of_row _ w.heap.size 2 _ _ _ s4.2
      have z3 := cell_of_row _ w.heap.size 3 _ _ _ s4.2
      exact bodyPost_ret (v := .tuple #[opAgg zeroO, .bool false]) (by simp [results, Tryz.results20, go_sem, z0, z1, z2, z3, zeroO]) rfl ⟨rfl, hBs⟩
    | true =>
      rw [hb] at HK
      rw [if_pos hb] at hp
      rw [hp]
      clear hp hb
      go_enter Tryz.func20, Tryz.ntmps20
      go_wp2_with (first
        | (go_at_call 34; refine HL.out.mono ?_; rintro e w1 ⟨v1, rfl, hB1, hown⟩; have hz1 := (hB1.block w.heap.size (by simp)).trans HR0.out; have hB1' := HB0.out.trans (hB1.mono (by simp)); obtain ⟨g1, cap1, rfl, c0, c1, c2, c3⟩ := own_one (hown _ rfl); clear hown)
        | (go_at_call 53; refine (HO.out _ (HW.out.below hB1')).mono ?_; rintro e w2 ⟨rfl, hB2⟩; clear c0 c1 c2 c3)
        | (go_at_call 46; refine (HK.out _).mono ?_; rintro e w3 ⟨rfl, hB3⟩; have hz3 := box_keep hz1 hB2 hB3; have hbx := box4r (w := w2) (w' := w3) (T := 37) hB3; obtain ⟨d0, d1, d2, d3⟩ := hbx)
        | (go_at_call 54; refine (HF.out _).mono ?_; rintro e w4 ⟨rfl, hB4⟩; have hz4 := (hB4.block w.heap.size (Array.getElem?_eq_some_iff.1 hz3).1).trans hz3; obtain ⟨⟨r0, r0'⟩, r1, r2, r3⟩ := set4_rules hz4; have r1a := fun u => (r1 u).1; have r1b := fun u => (r1 u).2; have r2a := fun u x => (r2 u x).1; have r2b := fun u x => (r2 u x).2; have r3a := fun u x y => (r3 u x y).1; have r3b := fun u x y => (r3 u x y).2; clear r1 r2 r3)
        | fail)
      have hB3' := (hB1'.trans (hB2.mono hB1'.size))
      have hB3'' := (hB3'.alloc hB3'.size (.cells #[.int .i64 k, .string p, .string t, .string x] 37)).trans (hB3.mono (by have := hB3'.size; simp; omega))
      have hB4' := hB3''.trans (hB4.mono hB3''.size)
      have s4 := set4_is hz4 (.int .i64 k) (.string p) (.string t) (.string x)
      have hBs := s4.1.below hB4' (Nat.le_refl _)
      have z0 := cell_of_row _ w.heap.size 0 _ _ _ s4.2
      have z1 := cell_of_row _ w.heap.size 1 _ _ _ s4.2
      have z2 := cell_of_row _ w.heap.size 2 _ _ _ s4.2
      have z3 := cell_of_row _ w.heap.size 3 _ _ _ s4.2
      exact bodyPost_ret (v := .tuple #[.agg #[.int .i64 k, .string p, .string t, .string x], .bool true]) (by simp [results, Tryz.results20, go_sem, z0, z1, z2, z3]) rfl ⟨rfl, hBs⟩
end Go.Proofs.YtgkfhcpegdlejaaGreatDoor
