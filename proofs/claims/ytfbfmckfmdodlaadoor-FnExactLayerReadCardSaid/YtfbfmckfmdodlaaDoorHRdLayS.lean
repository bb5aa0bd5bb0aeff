/-
  The walks of the model's reader of layers.
-/
import Derived.Test.YtfbfmckfmdodlaaDoorHRdTreeS
import Derived.Test.YtfbfmckfmdodlaaDoorHPk02
import Derived.Test.YtfbfmckfmdodlaaDoorHTxLay
import Derived.Test.YtfbfmckfmdodlaaDoorHPk04
namespace Go.Proofs.YtfbfmckfmdodlaaDoor.Mk
open Go.RowKit Go.Lib

theorem linesM_T : ∀ es : List E, linesM es = linesT es
  | [] => rfl
  | e :: r => by show markT e ++ ⟨#[10]⟩ ++ linesM r = markT e ++ ⟨#[10]⟩ ++ linesT r; rw [linesM_T r]
theorem lineM_le (l : ByteArray) : (lineM l).p.size ≤ l.size ∧ (lineM l).x.size ≤ l.size := by unfold lineM; exact part_le l
set_option maxHeartbeats 800000 in
theorem l6Kind_any (s : ByteArray) (w : World) :
    Calls Tryd.prog 30 #[.string s] w fun r w' => r = .returned (.int .i64 (kindS s)) ∧ Below w.heap.size w w' := by
  have eD : wD.toList = [100] := by rw [Lib.toList_data]; rfl
  have eX : wX.toList = [120] := by rw [Lib.toList_data]; rfl
  have eB : wB.toList = [98] := by rw [Lib.toList_data]; rfl
  by_cases h1 : s = wD
  · have hk : kindS s = 2 := by unfold kindS; rw [if_pos h1]
    rw [hk]
    have q1 := str_yes h1
    rw [eD] at q1
    obtain ⟨p1, p1'⟩ := q1
    clear h1 hk eD eX eB
    go_enter Tryd.func30, Tryd.ntmps30
    go_wp2
    go_ret
    exact ⟨rfl, Below.refl _ _⟩
  have q1 := str_no h1
  rw [eD] at q1
  obtain ⟨p1, p1'⟩ := q1
  by_cases h2 : s = wX
  · have hk : kindS s = 3 := by unfold kindS; rw [if_neg h1, if_pos h2]
    rw [hk]
    have q2 := str_yes h2
    rw [eX] at q2
    obtain ⟨p2, p2'⟩ := q2
    clear h1 h2 hk eD eX eB
    go_enter Tryd.func30, Tryd.ntmps30
    go_wp2
    go_ret
    exact ⟨rfl, Below.refl _ _⟩
  have q2 := str_no h2
  rw [eX] at q2
  obtain ⟨p2, p2'⟩ := q2
  by_cases h3 : s = wB
  · have hk : kindS s = 4 := by unfold kindS; rw [if_neg h1, if_neg h2, if_pos h3]
    rw [hk]
    have q3 := str_yes h3
    rw [eB] at q3
    obtain ⟨p3, p3'⟩ := q3
    clear h1 h2 h3 hk eD eX eB
    go_enter Tryd.func30, Tryd.ntmps30
    go_wp2
    go_ret
    exact ⟨rfl, Below.refl _ _⟩
  have q3 := str_no h3
  rw [eB] at q3
  obtain ⟨p3, p3'⟩ := q3
  have hk : kindS s = 1 := by unfold kindS; rw [if_neg h1, if_neg h2, if_neg h3]
  rw [hk]
  clear h1 h2 h3 hk eD eX eB
  go_enter Tryd.func30, Tryd.ntmps30
  go_wp2
  go_ret
  exact ⟨rfl, Below.refl _ _⟩
theorem spec_is (s : ByteArray) {n : Nat} (hn : (cut 10 s).length = n + 1) : outM s = (((cut 10 s).take n).take 33).map lineM := by
  unfold outM; rw [hn]; rfl
theorem spec_none {s : ByteArray} {n : Nat} (hn : (cut 10 s).length = n + 1) (h : ¬ ((cut 10 s).getD n ⟨#[]⟩ = ⟨#[]⟩ ∧ layB (outM s) = true ∧ linesT (outM s) = s)) : specLay s = none := by
  unfold specLay; rw [hn, if_neg]
  rintro ⟨h1, h2, h3⟩
  exact h ⟨h1, h2, by rw [← linesM_T]; exact h3⟩
theorem spec_some {s : ByteArray} {n : Nat} (hn : (cut 10 s).length = n + 1) (h1 : (cut 10 s).getD n ⟨#[]⟩ = ⟨#[]⟩) (h2 : layB (outM s) = true) (h3 : linesT (outM s) = s) : specLay s = some (outM s) := by
  unfold specLay; rw [hn, if_pos ⟨h1, h2, by rw [linesM_T]; exact h3⟩]

set_option maxHeartbeats 3200000 in
set_option maxRecDepth 100000 in
theorem sLayerRead_any (s : ByteArray) (hs : s.size ≤ 16777216) (w : World) :
    Calls Tryd.prog 11 #[.string s] w fun r w' => ∃ v, r = .returned (.tuple #[v, .bool (specLay s).isSome]) ∧ OwnE w' w.heap.size v ((specLay s).getD []) ∧ Below w.heap.size w w' := by
  obtain ⟨i0, hi, hz0, hz1, hz2⟩ := info_parts Tryd.infoE'
  have HL := hidE (l6Lines_any s hs w)
  have HN0 := hidE (fun n (hn : (cut 10 s).length = n + 1) h => spec_none hn h)
  have HN1 := hidE (fun n (hn : (cut 10 s).length = n + 1) h1 h2 h3 => spec_some hn h1 h2 h3)
  have HO := hidE (fun n (hn : (cut 10 s).length = n + 1) => spec_is s hn)
  have HCz : Hid (∀ l ∈ cut 10 s, l.size ≤ s.size) := fun l hl => cut_le 10 s l hl
  obtain ⟨cs, hcs⟩ : ∃ cs, cut 10 s = cs := ⟨_, rfl⟩
  have hcl := cut_len 10 s
  rw [hcs] at HL HN0 HN1 HO HCz hcl
  clear hcs
  go_enter Tryd.func11, Tryd.ntmps11
  go_wp2_with (first | (go_at_call 19; refine HL.out.mono ?_; rintro e w1 ⟨n, g1, cap1, hn, rfl, hL1, hB1⟩; obtain ⟨b, hb⟩ : ∃ b, decide (cs.getD n (⟨#[]⟩ : ByteArray) = ⟨#[]⟩) = b := ⟨_, rfl⟩; rw [hb]; have HBb := hidE hb; clear hb; have HL1 := hidE hL1; have HB1 := hidE hB1; have HN := hidE hn; clear hL1 hB1) | fail)
  clear HL
  have HN0' := hidE (HN0.out n hn)
  have HN1' := hidE (HN1.out n hn)
  have hOs := HO.out n hn
  clear HN0 HN1 HO
  obtain ⟨L, hL⟩ : ∃ L, outM s = L := ⟨_, rfl⟩
  rw [hL] at HN0' HN1' hOs
  clear hL
  have hLl : L.length = min 33 n := by rw [hOs, List.length_map, List.length_take, List.length_take, hn]; omega
  have hLa : ∀ j (hj : j < L.length), L[j] = lineM (cs[j]'(by omega)) := fun j hj => by
    subst hOs
    simp only [List.getElem_map, List.getElem_take]
  have HLa := hidE hLa
  have HLz : Hid (∀ e ∈ L, e.p.size ≤ 16777216 ∧ e.x.size ≤ 16777216) := fun e he => by
    obtain ⟨j, hj, rfl⟩ := List.getElem_of_mem he
    rw [hLa j hj]
    have h1 := lineM_le (cs[j]'(by omega))
    have h2 := HCz.out (cs[j]'(by omega)) (List.getElem_mem _)
    omega
  clear hLa hOs
  have hnz : n ≤ 16777216 := by omega
  go_loopw [6, 7] (fun tv iv wl => ∃ j : Nat, j ≤ L.length ∧ iv = .int .i64 j ∧ OwnE wl w1.heap.size tv (L.take j) ∧ Hid (Below w1.heap.size w1 wl)) (fun _ iv _ => L.length - (RowKit.intOf iv).toNat)
  case atStart => exact ⟨0, Nat.zero_le _, rfl, OwnE.made w1 (Nat.le_refl _), (Below.refl _ w1).alloc (Nat.le_refl _) _⟩
  case round =>
    obtain ⟨j, hj, rfl, hown, HB⟩ := hrel
    have HBw := hidE (HB1.out.trans (HB.out.mono HB1.out.size))
    by_cases hlt : j < L.length
    · have hj1 : j < n := by omega
      have hj2 : j ≤ 32 := by omega
      have c0 := (HL1.out.below HB.out) j (by omega)
      have hT : L.take (j + 1) = L.take j ++ [L[j]] := List.take_succ_eq_append_getElem hlt
      have hz := HCz.out (cs[j]'(by omega)) (List.getElem_mem _)
      rw [HLa.out j hlt] at hT
      obtain ⟨l, hl⟩ : ∃ l, cs[j]'(by omega) = l := ⟨_, rfl⟩
      rw [hl] at c0 hT hz
      clear hl
      have HT := hidE hT
      clear hT
      have hls : l.size ≤ 16777216 := by omega
      have HC := hidE (fun W => l6Ent_any l hls W)
      have hlen : (L.take j).length ≤ 1000 := by rw [List.length_take]; omega
      obtain ⟨ts, hts⟩ : ∃ ts, L.take j = ts := ⟨_, rfl⟩
      rw [hts] at hown hlen HT
      clear hts
      have hLE : lineM l = ⟨(partL l).2.1, kindS (partL l).1, (partL l).2.2⟩ := rfl
      rw [hLE] at HT
      have hp1 := part_le l
      obtain ⟨kd, hkd⟩ : ∃ x, (partL l).1 = x := ⟨_, rfl⟩
      obtain ⟨pa, hpa⟩ : ∃ x, (partL l).2.1 = x := ⟨_, rfl⟩
      obtain ⟨mo, hmo⟩ : ∃ x, (partL l).2.2 = x := ⟨_, rfl⟩
      rw [hkd, hpa, hmo] at HC HT
      rw [hpa, hmo] at hp1
      clear hkd hpa hmo hLE
      have HKd := hidE (fun W => l6Kind_any kd W)
      obtain ⟨d, hd⟩ : ∃ d, kindS kd = d := ⟨_, rfl⟩
      rw [hd] at HT HKd
      clear hd
      have hs1 := HB1.out.size
      go_wp2_with (first
        | (go_at_call 20; refine (HC.out _).mono ?_; rintro e w2 ⟨rfl, hB2⟩; have HB2 := hidE (HB.out.trans (hB2.mono HB.out.size)); have hown2 : OwnE w2 w1.heap.size _ ts := OwnE.below hown hB2; have hs2 := HB2.out.size; clear c0)
        | (go_at_call 30; refine (HKd.out _).mono ?_; rintro e w3 ⟨rfl, hB3⟩; have HB3 := hidE (HB2.out.trans (hB3.mono HB2.out.size)); have hown3 : OwnE w3 w1.heap.size _ ts := OwnE.below hown2 hB3; have hs3 := HB3.out.size)
        | (at_builtin; refine wpList_append_own _ rfl _ _ 28 rfl w1.heap.size 61 i0 _ 3 40 Tryd.underlying28 hi hz0 hz1 hz2 rfl (by decide) _ _ (rowE ts) rfl (hown3.alloc _) ⟨w3.heap.size, 0, none⟩ 1 1 (cellsE ⟨pa, d, mo⟩) rfl rfl ?y1 rowE_one' ?y2 ?y3 ?y4 ?_)
        | fail)
      case y1 => exact cells_new w3 ⟨pa, d, mo⟩
      case y2 => unfold maxLen; omega
      case y3 => omega
      case y4 => simp; omega
      intro v4 w4 hown4 hgrow4 _
      have HB4 := hidE ((HB3.out.alloc HB3.out.size _).grown hgrow4 (by simp; omega) (fun k hk => (hown3.lt k hk).1))
      have hown5 := OwnE.push hown4
      clear hown4 hgrow4 HB2 hown2 HB3 hown3
      go_wp2
      go_roundw
      case rel => exact ⟨j + 1, by omega, by go_num, by show OwnE _ _ _ _; rw [HT.out]; exact hown5, HB4⟩
      case measure => simp [RowKit.intOf]; omega
    · have hjl : j = L.length := by omega
      subst hjl
      rw [List.take_length] at hown
      have hfin : (n ≤ 33 ∧ L.length = n) ∨ (33 < n ∧ L.length = 33) := by omega
      have hL16 : L.length ≤ 33 := by omega
      clear hlt
      obtain ⟨a2, g2, cap2, rfl, ha2, hE2, hcap2⟩ := hown.ents
      have HOw := hidE hown
      have HK := hidE (sLayerOk_any wr a2 g2 0 cap2 L (by omega) hcap2 HLz.out ha2 hE2)
      have HF := hidE (fun (W : World) (h : Below wr.heap.size wr W) => sText_any W a2 g2 0 cap2 L (by omega) hcap2 HLz.out ha2 (hE2.below h))
      clear hown hE2 hcap2 HLa HLz
      cases b with
      | false =>
        have HP := hidE (HN0'.out (fun h => by rw [decide_eq_true h.1] at HBb; exact absurd HBb.out (by decide)))
        clear HN0' HN1' HBb HK HF HOw
        rcases hfin with ⟨q1, q2⟩ | ⟨q1, q2⟩
        · rw [q2]
          go_wp2
          exact bodyPost_ret (v := .tuple #[.slice (some ⟨wr.heap.size, 0, none⟩) 0 0, .bool false]) (by simp [results, Tryd.results11, go_sem]) rfl ⟨_, by rw [HP.out]; rfl, by rw [HP.out]; exact OwnE.made wr HBw.out.size, HBw.out.alloc HBw.out.size _⟩
        · rw [q2]
          go_wp2
          exact bodyPost_ret (v := .tuple #[.slice (some ⟨wr.heap.size, 0, none⟩) 0 0, .bool false]) (by simp [results, Tryd.results11, go_sem]) rfl ⟨_, by rw [HP.out]; rfl, by rw [HP.out]; exact OwnE.made wr HBw.out.size, HBw.out.alloc HBw.out.size _⟩
      | true =>
        have hb1 : cs.getD n ⟨#[]⟩ = ⟨#[]⟩ := of_decide_eq_true HBb.out
        cases htr : layB L with
        | false =>
          have HP := hidE (HN0'.out (fun h => by rw [htr] at h; exact absurd h.2.1 (by decide)))
          rw [htr] at HK
          clear HN0' HN1' HBb HF HOw htr hb1
          rcases hfin with ⟨q1, q2⟩ | ⟨q1, q2⟩
          · rw [q2] at HK ⊢
            go_wp2_with (first | (go_at_call 31; refine HK.out.mono ?_; rintro e w2 ⟨rfl, hB2⟩; have hBf := HBw.out.trans (hB2.mono HBw.out.size)) | fail)
            exact bodyPost_ret (v := .tuple #[.slice (some ⟨w2.heap.size, 0, none⟩) 0 0, .bool false]) (by simp [results, Tryd.results11, go_sem]) rfl ⟨_, by rw [HP.out]; rfl, by rw [HP.out]; exact OwnE.made w2 hBf.size, hBf.alloc hBf.size _⟩
          · rw [q2] at HK ⊢
            go_wp2_with (first | (go_at_call 31; refine HK.out.mono ?_; rintro e w2 ⟨rfl, hB2⟩; have hBf := HBw.out.trans (hB2.mono HBw.out.size)) | fail)
            exact bodyPost_ret (v := .tuple #[.slice (some ⟨w2.heap.size, 0, none⟩) 0 0, .bool false]) (by simp [results, Tryd.results11, go_sem]) rfl ⟨_, by rw [HP.out]; rfl, by rw [HP.out]; exact OwnE.made w2 hBf.size, hBf.alloc hBf.size _⟩
        | true =>
          rw [htr] at HK
          have htx : layT L = linesT L := by unfold layT; rw [if_pos htr]
          rw [htx] at HF
          clear htx
          have hst := HN1'.out hb1 htr
          have hsn := HN0'.out
          obtain ⟨tx, htx⟩ : ∃ tx, linesT L = tx := ⟨_, rfl⟩
          rw [htx] at HF hst hsn
          clear htx
          by_cases he : tx = s
          · have HP := hidE (hst he)
            obtain ⟨k1, k2⟩ := str_yes he
            clear HN0' HN1' HBb htr hb1 hst hsn he
            rcases hfin with ⟨q1, q2⟩ | ⟨q1, q2⟩
            · rw [q2] at HK HF ⊢
              go_wp2_with (first | (go_at_call 31; refine HK.out.mono ?_; rintro e w2 ⟨rfl, hB2⟩; have HB2 := hidE hB2; clear hB2) | (go_at_call 32; refine (HF.out _ HB2.out).mono ?_; rintro e w3 ⟨rfl, hB3⟩) | fail)
              have hB23 := HB2.out.trans (hB3.mono HB2.out.size)
              have hBf := HBw.out.trans (hB23.mono HBw.out.size)
              exact bodyPost_ret (v := .tuple #[.slice a2 n cap2, .bool true]) (by simp [results, Tryd.results11, go_sem]) rfl ⟨_, by rw [HP.out]; rfl, by rw [HP.out, ← q2]; exact OwnE.lower (OwnE.below HOw.out hB23) HB1.out.size, hBf⟩
            · rw [q2] at HK HF ⊢
              go_wp2_with (first | (go_at_call 31; refine HK.out.mono ?_; rintro e w2 ⟨rfl, hB2⟩; have HB2 := hidE hB2; clear hB2) | (go_at_call 32; refine (HF.out _ HB2.out).mono ?_; rintro e w3 ⟨rfl, hB3⟩) | fail)
              have hB23 := HB2.out.trans (hB3.mono HB2.out.size)
              have hBf := HBw.out.trans (hB23.mono HBw.out.size)
              exact bodyPost_ret (v := .tuple #[.slice a2 33 cap2, .bool true]) (by simp [results, Tryd.results11, go_sem]) rfl ⟨_, by rw [HP.out]; rfl, by rw [HP.out, ← q2]; exact OwnE.lower (OwnE.below HOw.out hB23) HB1.out.size, hBf⟩
          · have HP := hidE (hsn (fun h => he h.2.2))
            obtain ⟨k1, k2⟩ := str_no he
            clear HN0' HN1' HBb htr hb1 hst hsn he HOw
            rcases hfin with ⟨q1, q2⟩ | ⟨q1, q2⟩
            · rw [q2] at HK HF ⊢
              go_wp2_with (first | (go_at_call 31; refine HK.out.mono ?_; rintro e w2 ⟨rfl, hB2⟩; have HB2 := hidE hB2; clear hB2) | (go_at_call 32; refine (HF.out _ HB2.out).mono ?_; rintro e w3 ⟨rfl, hB3⟩) | fail)
              have hB23 := HB2.out.trans (hB3.mono HB2.out.size)
              have hBf := HBw.out.trans (hB23.mono HBw.out.size)
              exact bodyPost_ret (v := .tuple #[.slice (some ⟨w3.heap.size, 0, none⟩) 0 0, .bool false]) (by simp [results, Tryd.results11, go_sem]) rfl ⟨_, by rw [HP.out]; rfl, by rw [HP.out]; exact OwnE.made w3 hBf.size, hBf.alloc hBf.size _⟩
            · rw [q2] at HK HF ⊢
              go_wp2_with (first | (go_at_call 31; refine HK.out.mono ?_; rintro e w2 ⟨rfl, hB2⟩; have HB2 := hidE hB2; clear hB2) | (go_at_call 32; refine (HF.out _ HB2.out).mono ?_; rintro e w3 ⟨rfl, hB3⟩) | fail)
              have hB23 := HB2.out.trans (hB3.mono HB2.out.size)
              have hBf := HBw.out.trans (hB23.mono HBw.out.size)
              exact bodyPost_ret (v := .tuple #[.slice (some ⟨w3.heap.size, 0, none⟩) 0 0, .bool false]) (by simp [results, Tryd.results11, go_sem]) rfl ⟨_, by rw [HP.out]; rfl, by rw [HP.out]; exact OwnE.made w3 hBf.size, hBf.alloc hBf.size _⟩
end Go.Proofs.YtfbfmckfmdodlaaDoor.Mk
