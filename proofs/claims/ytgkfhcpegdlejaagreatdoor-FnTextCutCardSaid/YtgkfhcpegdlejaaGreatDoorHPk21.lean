/-
  The walk of the program's own reader of trees.
-/
import Derived.Test.YtgkfhcpegdlejaaGreatDoorHPk15
import Derived.Test.YtgkfhcpegdlejaaGreatDoorHPk02
import Derived.Test.YtgkfhcpegdlejaaGreatDoorHRdList
import Derived.Test.YtgkfhcpegdlejaaGreatDoorHPk16
import Derived.Test.YtgkfhcpegdlejaaGreatDoorHPk14
import Derived.Test.YtgkfhcpegdlejaaGreatDoorHPk17
import Derived.Test.YtgkfhcpegdlejaaGreatDoorHPk18
import Derived.Test.YtgkfhcpegdlejaaGreatDoorHPk04
namespace Go.Proofs.YtgkfhcpegdlejaaGreatDoor
open Go.RowKit Go.Lib

def okLine (ws : List (List UInt8)) : Prop := kindW (nthL ws 0) = 2 ∨ kindW (nthL ws 0) = 1
instance (ws : List (List UInt8)) : Decidable (okLine ws) := inferInstanceAs (Decidable (_ ∨ _))
theorem prog_none {s : ByteArray} (h : scanL 16 (LB s) [] [] [] = none) : progTree s = none := by unfold progTree; rw [h]
theorem prog_bad {s : ByteArray} {R : List (List (List UInt8))} {j : Nat} (h : scanL 16 (LB s) [] [] [] = some R) (hj : j < R.length) (hb : ¬ okLine R[j]) : progTree s = none := by
  unfold progTree; rw [h]; dsimp only
  rw [if_neg (fun q => hb (q.1 _ (List.getElem_mem hj)))]
theorem prog_no {s : ByteArray} {R : List (List (List UInt8))} (h : scanL 16 (LB s) [] [] [] = some R) (hb : treeE (R.map entOf) = false) : progTree s = none := by
  unfold progTree; rw [h]; dsimp only
  rw [if_neg (fun q => by rw [hb] at q; exact absurd q.2 (by decide))]
theorem prog_yes {s : ByteArray} {R : List (List (List UInt8))} (h : scanL 16 (LB s) [] [] [] = some R) (ho : ∀ i (hi : i < R.length), okLine R[i]) (hb : treeE (R.map entOf) = true) : progTree s = some (R.map entOf) := by
  unfold progTree; rw [h]; dsimp only
  rw [if_pos ⟨fun ws hw => by obtain ⟨i, hi, rfl⟩ := List.getElem_of_mem hw; exact ho i hi, hb⟩]

set_option maxHeartbeats 3200000 in
set_option maxRecDepth 100000 in
theorem iTreeRead_any (s : ByteArray) (hs : s.size ≤ 16777216) (w : World) (ae : Int → Addr) (hErr : Errs2 w ae) (hw : MarkTab w) :
    Calls Tryz.prog 11 #[.string s] w fun r w' => ∃ v, r = .returned (.tuple #[v, .bool (progTree s).isSome]) ∧ OwnE w' w.heap.size v ((progTree s).getD []) ∧ Below w.heap.size w w' := by
  obtain ⟨i0, hi, hz0, hz1, hz2⟩ := info_parts Tryz.infoE'
  have HL := hidE (linesOf_any s 16 (by omega) (by omega) w)
  have HW := hidE hw
  have HEr := hidE hErr
  clear hw hErr
  cases hsc : scanL 16 (LB s) [] [] [] with
  | none =>
    rw [prog_none hsc]
    rw [hsc] at HL
    clear hsc
    go_enter Tryz.func11, Tryz.ntmps11
    go_wp2_with (first | (go_at_call 34; refine HL.out.mono ?_; rintro e w1 ⟨v1, rfl, hB1, -⟩) | fail)
    exact bodyPost_ret (v := .tuple #[.slice none 0 0, .bool false]) (by simp [results, Tryz.results11, go_sem]) rfl ⟨_, rfl, World.ownsRow_nil _ _ _ _, hB1⟩
  | some R =>
    obtain ⟨hz, hn⟩ := scan_le hsc
    rw [hsc] at HL
    have HZ : Hid (∀ ws ∈ R, ∀ i, (nthL ws i).size ≤ 16777216) := fun ws hw i => by have := hz ws hw i; omega
    have HBad := hidE (fun (j : Nat) (hj : j < R.length) hb => prog_bad hsc hj hb)
    have HNo := hidE (prog_no hsc)
    have HYes := hidE (prog_yes hsc)
    clear hz hsc
    go_enter Tryz.func11, Tryz.ntmps11
    go_wp2_with (first | (go_at_call 34; refine HL.out.mono ?_; rintro e w1 ⟨v1, rfl, hB1, hown⟩; obtain ⟨a1, g1, cap1, rfl, ha, hR⟩ := own_lins (hown R rfl); have HB1 := hidE hB1; have HR := hidE hR; clear hown hB1 hR) | fail)
    clear HL
    go_loopw [6, 20] (fun tv iv wl => ∃ j : Nat, j ≤ R.length ∧ iv = .int .i64 j ∧ OwnE wl w1.heap.size tv ((R.take j).map entOf) ∧ Hid (Below w1.heap.size w1 wl) ∧ Hid (∀ i (hi : i < R.length), i < j → okLine R[i])) (fun _ iv _ => R.length - (RowKit.intOf iv).toNat)
    case atStart => exact ⟨0, Nat.zero_le _, rfl, World.ownsRow_nil _ _ _ _, Below.refl _ _, fun i _ h => absurd h (by omega)⟩
    case round =>
      obtain ⟨j, hj, rfl, hown, HB, HO⟩ := hrel
      have HBw := hidE (HB1.out.trans (HB.out.mono HB1.out.size))
      by_cases hlt : j < R.length
      · obtain rfl := ha (by omega)
        have hc := (HR.out.below HB.out) j hlt
        have hz := HZ.out R[j] (List.getElem_mem hlt)
        have HT : Hid ((R.take (j + 1)).map entOf = (R.take j).map entOf ++ [entOf R[j]]) := by show _ = _; rw [List.take_succ_eq_append_getElem hlt, List.map_append]; rfl
        have HO2 : Hid (okLine R[j] → ∀ i (hi : i < R.length), i < j + 1 → okLine R[i]) := fun h i hi hij => by
          rcases Nat.lt_or_ge i j with q | q
          · exact HO.out i hi q
          · obtain rfl : i = j := by omega
            exact h
        have HBd := hidE (HBad.out j hlt)
        obtain ⟨ln, hln⟩ : ∃ ln, R[j] = ln := ⟨_, rfl⟩
        rw [hln] at hc hz HT HO2 HBd
        clear hln HO
        obtain ⟨c0, c1, c2, c3⟩ := hc
        have hy1 := hz 1
        have hy2 := hz 2
        have HC := hidE (fun (W : World) (h : Below w.heap.size w W) => lineEnt_any ln W (HW.out.below h))
        have hent : entOf ln = ⟨nthL ln 1, decide (kindW (nthL ln 0) = 2), nthL ln 2⟩ := rfl
        obtain ⟨d, hd⟩ : ∃ d, decide (kindW (nthL ln 0) = 2) = d := ⟨_, rfl⟩
        rw [hd] at hent
        rw [hent] at HC HT
        clear hent hd hz
        have hlen : ((R.take j).map entOf).length ≤ 1000 := by rw [List.length_map, List.length_take]; omega
        obtain ⟨ts, hts⟩ : ∃ ts, (R.take j).map entOf = ts := ⟨_, rfl⟩
        rw [hts] at hown hlen HT
        clear hts
        by_cases hk : okLine ln
        · have e1 : decide (kindW (nthL ln 0) = 2 ∨ kindW (nthL ln 0) = 1) = true := decide_eq_true hk
          rw [e1] at HC
          have HO3 := hidE (HO2.out hk)
          clear HO2 HBd e1 hk
          go_wp2_with (first
            | (go_at_call 35; refine (HC.out _ (HBw.out.alloc HBw.out.size _)).mono ?_; rintro e w2 ⟨rfl, hB2⟩; have HB2 := hidE ((HB.out.alloc HB.out.size (.cells (lineC ln) 64)).trans (hB2.mono (by have := HB.out.size; simp; omega))); have hown2 : OwnE w2 w1.heap.size _ ts := OwnE.below (hown.alloc (.cells (lineC ln) 64)) hB2; have HB3 := hidE (HB2.out.alloc HB2.out.size (.cells #[.string (nthL ln 1), .bool d, .string (nthL ln 2)] 50)); have hown3 : OwnE (w2.alloc (.cells #[.string (nthL ln 1), .bool d, .string (nthL ln 2)] 50)) w1.heap.size _ ts := hown2.alloc _; have hc1 := cells_new (w2.alloc (.cells #[.string (nthL ln 1), .bool d, .string (nthL ln 2)] 50)) ⟨nthL ln 1, d, nthL ln 2⟩; rw [show (w2.alloc (.cells #[.string (nthL ln 1), .bool d, .string (nthL ln 2)] 50)).heap.size = w2.heap.size + 1 from by simp] at hc1; have hsz := HB1.out.size; have hsz2 := HB2.out.size; clear c0 c1 c2 c3)
            | (at_builtin; refine wpList_append_own _ rfl (.tmp 31) (.tmp 33) 23 rfl w1.heap.size 50 i0 _ 3 40 Tryz.underlying23 hi hz0 hz1 hz2 rfl (by decide) _ ts.length (rowE ts) rfl (hown3.alloc _) ⟨w2.heap.size + 1, 0, none⟩ 1 1 (cellsE ⟨nthL ln 1, d, nthL ln 2⟩) rfl rfl hc1 rowE_one' (by unfold maxLen; omega) (by omega) (by simp; omega) ?_; intro v4 w4 hown4 hgrow4 _)
            | fail)
          have HB4 := hidE ((HB3.out.alloc HB3.out.size _).grown hgrow4 (by simp; omega) (fun k hk => (hown3.lt k hk).1))
          have hown5 := OwnE.push hown4
          clear hown4 hgrow4 HB3 HB2 hown3 hown2
          go_roundw
          case rel => exact ⟨j + 1, by omega, by go_num, by show OwnE _ _ _ _; rw [HT.out]; exact hown5, HB4, HO3⟩
          case measure => simp [RowKit.intOf]; omega
        · have e1 : decide (kindW (nthL ln 0) = 2 ∨ kindW (nthL ln 0) = 1) = false := decide_eq_false hk
          rw [e1] at HC
          have HP := hidE (HBd.out hk)
          clear HO2 HBd e1 hk
          go_wp2_with (first | (go_at_call 35; refine (HC.out _ (HBw.out.alloc HBw.out.size _)).mono ?_; rintro e w2 ⟨rfl, hB2⟩; have hBf := (HBw.out.alloc HBw.out.size (.cells (lineC ln) 64)).trans (hB2.mono (by have := HBw.out.size; simp; omega)); clear c0 c1 c2 c3) | fail)
          exact bodyPost_ret (v := .tuple #[.slice none 0 0, .bool false]) (by simp [results, Tryz.results11, go_sem]) rfl ⟨_, by rw [HP.out]; rfl, by rw [HP.out]; exact World.ownsRow_nil _ _ _ _, hBf.alloc hBf.size _⟩
      · have hjn : j = R.length := by omega
        subst hjn
        rw [List.take_length] at hown
        have HOk := hidE (fun i (hi : i < R.length) => HO.out i hi hi)
        clear HO hlt
        obtain ⟨es, hes⟩ : ∃ es, R.map entOf = es := ⟨_, rfl⟩
        have hel : es.length ≤ 16 := by rw [← hes, List.length_map]; exact hn
        have hez : ∀ e ∈ es, e.p.size ≤ 16777216 ∧ e.x.size ≤ 16777216 := fun e he => by
          rw [← hes] at he
          obtain ⟨ws, hw, rfl⟩ := List.mem_map.1 he
          exact ⟨HZ.out ws hw 1, HZ.out ws hw 2⟩
        have HYs := hidE (HYes.out HOk.out)
        rw [hes] at hown HNo HYs
        clear hes HYes HOk
        obtain ⟨a2, g2, cap2, rfl, ha2, hE2, -⟩ := hown.ents
        have HK := hidE (iTreeOk_any wr a2 g2 0 cap2 es ae (HEr.out.below HBw.out) (by omega) hez ha2 hE2)
        have HF := hidE (fun (W : World) (h : Below wr.heap.size wr W) => freshList_any W a2 g2 0 cap2 es (by omega) hez ha2 (hE2.below h))
        clear hown hE2 hez HZ
        cases htr : treeE es with
        | false =>
          have HP := hidE (HNo.out htr)
          rw [htr] at HK
          clear htr HNo HYs
          go_wp2_with (first | (go_at_call 25; refine HK.out.mono ?_; rintro e w2 ⟨rfl, hB2⟩; have hBf := HBw.out.trans (hB2.mono HBw.out.size)) | fail)
          exact bodyPost_ret (v := .tuple #[.slice none 0 0, .bool false]) (by simp [results, Tryz.results11, go_sem]) rfl ⟨_, by rw [HP.out]; rfl, by rw [HP.out]; exact World.ownsRow_nil _ _ _ _, hBf⟩
        | true =>
          have HP := hidE (HYs.out htr)
          rw [htr] at HK
          clear htr HNo HYs
          go_wp2_with (first | (go_at_call 25; refine HK.out.mono ?_; rintro e w2 ⟨rfl, hB2⟩; have HB2 := hidE hB2; clear hB2) | (go_at_call 36; refine (HF.out _ HB2.out).mono ?_; rintro e w3 ⟨v3, rfl, hown3, hB3⟩) | fail)
          have hBf := HBw.out.trans ((HB2.out.trans (hB3.mono HB2.out.size)).mono HBw.out.size)
          exact bodyPost_ret (v := .tuple #[v3, .bool true]) (by simp [results, Tryz.results11, go_sem]) rfl ⟨_, by rw [HP.out]; rfl, by rw [HP.out]; exact OwnE.lower hown3 (by have := HBw.out.size; have := HB2.out.size; omega), hBf⟩
end Go.Proofs.YtgkfhcpegdlejaaGreatDoor

/-
  The walks of the text of a layer: the program's own, and the model's.
-/
namespace Go.Proofs.YtgkfhcpegdlejaaGreatDoor.Mk
open Go.RowKit Go.Lib

/-- A line for each. -/
def linesT : List E → ByteArray
  | [] => ⟨#[]⟩
  | e :: r => markT e ++ ⟨#[10]⟩ ++ linesT r
def layT (es : List E) : ByteArray := if layB es = true then linesT es else ⟨#[]⟩
theorem lines_add : ∀ (es fs : List E), linesT (es ++ fs) = linesT es ++ linesT fs
  | [], fs => by rw [List.nil_append, show linesT [] = ⟨#[]⟩ from rfl, nil_app]
  | e :: r, fs => by rw [List.cons_append]; show markT e ++ ⟨#[10]⟩ ++ linesT (r ++ fs) = markT e ++ ⟨#[10]⟩ ++ linesT r ++ linesT fs; rw [lines_add r fs, app_assoc (markT e ++ ⟨#[10]⟩)]
theorem lines_take {es : List E} {j : Nat} (h : j < es.length) : linesT (es.take (j + 1)) = linesT (es.take j) ++ markT es[j] ++ ⟨#[10]⟩ := by
  rw [List.take_succ_eq_append_getElem h, lines_add]
  show _ ++ (markT es[j] ++ ⟨#[10]⟩ ++ ⟨#[]⟩) = _
  rw [app_nil, ← app_assoc]
theorem lines_le : ∀ (es : List E), (∀ e ∈ es, e.p.size ≤ 16777216 ∧ e.x.size ≤ 16777216) → (linesT es).size ≤ es.length * 33554436
  | [], _ => by show 0 ≤ _; omega
  | e :: r, h => by
    have h1 := lines_le r (fun x hx => h x (List.mem_cons_of_mem _ hx))
    have h2 := h e List.mem_cons_self
    have h3 := markT_le e
    show (markT e ++ ⟨#[10]⟩ ++ linesT r).size ≤ (r.length + 1) * 33554436
    rw [ByteArray.size_append, ByteArray.size_append, Nat.add_mul]
    show (markT e).size + 1 + _ ≤ _
    omega
theorem lines_room {es : List E} (hn : es.length ≤ 32) (hz : ∀ e ∈ es, e.p.size ≤ 16777216 ∧ e.x.size ≤ 16777216) (j : Nat) : (linesT (es.take j)).size ≤ 1073741952 := by
  have h1 := lines_le (es.take j) (fun x hx => hz x (List.mem_of_mem_take hx))
  have h2 : (es.take j).length ≤ 32 := by rw [List.length_take]; omega
  have h3 := Nat.mul_le_mul_right 33554436 h2
  omega

set_option maxHeartbeats 1600000 in
set_option maxRecDepth 100000 in
theorem lines_any (w : World) (a : Option Addr) (g o cap : Nat) (es : List E) (hw : Words w) (hn : es.length ≤ 32) (hz : ∀ e ∈ es, e.p.size ≤ 16777216 ∧ e.x.size ≤ 16777216) (ha : 0 < es.length → a = some ⟨g, o, none⟩) (hE : Ents w g o es) :
    Calls Tryz.prog 29 #[.slice a es.length cap, .func (.func 30) #[] #[]] w fun r w' => r = .returned (.string (linesT es)) ∧ Below w.heap.size w w' := by
  have HE := hidE hE
  have HZ := hidE hz
  have HW := hidE hw
  clear hE hz hw
  go_enter Tryz.func29, Tryz.ntmps29
  go_wp2
  go_loopw [5, 10] (fun tv iv wl => ∃ j : Nat, j ≤ es.length ∧ iv = .int .i64 j ∧ Hid (BufB w.heap.size 5 tv (linesT (es.take j)) w wl)) (fun _ iv _ => es.length - (RowKit.intOf iv).toNat)
  case atStart => exact ⟨0, Nat.zero_le _, rfl, BufB.nil 5 (Nat.le_refl _)⟩
  case round =>
    obtain ⟨j, hj, rfl, hbj⟩ := hrel
    by_cases hlt : j < es.length
    · obtain rfl := ha (by omega)
      have HBl := hidE hbj.out.below
      obtain ⟨c0, c1, c2⟩ := (HE.out.below HBl.out) j hlt
      have hz := HZ.out es[j] (List.getElem_mem hlt)
      have HT := hidE (lines_take hlt)
      have hro := lines_room hn HZ.out j
      have hro2 := lines_room hn HZ.out (j + 1)
      obtain ⟨p, hp⟩ : ∃ p, es[j].p = p := ⟨_, rfl⟩
      obtain ⟨d, hd⟩ : ∃ d, es[j].d = d := ⟨_, rfl⟩
      obtain ⟨x, hx⟩ : ∃ x, es[j].x = x := ⟨_, rfl⟩
      have HX : es[j] = ⟨p, d, x⟩ := by rw [← hp, ← hd, ← hx]
      rw [hp] at c0 hz
      rw [hd] at c1
      rw [hx] at c2 hz
      rw [HX] at HT
      clear hp hd hx HX
      obtain ⟨S, hS⟩ : ∃ S, linesT (es.take j) = S := ⟨_, rfl⟩
      rw [hS] at hbj hro HT
      rw [HT.out] at hro2
      have hro3 : (S ++ markT ⟨p, d, x⟩).size + 1 ≤ 1073741952 := by rw [ByteArray.size_append] at hro2; exact hro2
      clear hS hro2
      have HC := hidE (appendMark_any w.heap.size _ S ⟨p, d, x⟩ w (wr.alloc (.cells #[.string p, .int .i64 d, .string x] 55)) (hbj.out.alloc _) ((HW.out.below HBl.out).alloc _) (by omega) (by show p.size ≤ _; omega) (by show x.size ≤ _; omega))
      clear hbj
      go_wp2_with (first
        | (go_at_call 30; refine HC.out.mono ?_; rintro e w1 ⟨v1, rfl, hb1⟩)
        | (at_builtin; refine bufC rfl (.tmp 17) (.tmp 18) rfl w.heap.size v1 (S ++ markT ⟨p, d, x⟩) rfl w 10 10 rfl hb1 rfl (by omega) ?_; intro v2 w2 hb2)
        | fail)
      go_roundw
      case rel => exact ⟨j + 1, by omega, by go_num, by show BufB _ _ _ _ _ _; rw [HT.out]; exact hb2⟩
      case measure => simp [RowKit.intOf]; omega
    · have hb := hbj.out
      rw [List.take_of_length_le (by omega)] at hb
      have hcv := run_convert_buf (P := Tryz.prog) hb 22 9 Tryz.underlying22 Tryz.underlying5 Tryz.underlying9
      have HBl := hidE hb.below
      clear hbj hb
      go_wp2
      go_ret
      exact ⟨rfl, HBl.out⟩

set_option maxHeartbeats 800000 in
set_option maxRecDepth 100000 in
theorem iText_any (w : World) (a : Option Addr) (g o cap : Nat) (es : List E) (hw : Words w) (hl : es.length ≤ 16777216) (hz : ∀ e ∈ es, e.p.size ≤ 16777216 ∧ e.x.size ≤ 16777216) (ha : 0 < es.length → a = some ⟨g, o, none⟩) (hE : Ents w g o es) :
    Calls Tryz.prog 8 #[.slice a es.length cap] w fun r w' => r = .returned (.string (layT es)) ∧ Below w.heap.size w w' := by
  have HO := hidE (iLayerOk_any w a g o cap es hl hz ha hE)
  have HL := hidE (fun (W : World) (hb : Below w.heap.size w W) (hn : es.length ≤ 32) => lines_any W a g o cap es (hw.below hb) hn hz ha (hE.below hb))
  clear hz hE hw ha
  cases ht : layB es with
  | true =>
    have hn : es.length ≤ 32 := by unfold layB at ht; simp only [Bool.and_eq_true, decide_eq_true_eq] at ht; first | exact ht.1 | exact ht.2
    have HE : Hid (layT es = linesT es) := by show _ = _; unfold layT; rw [if_pos ht]
    rw [ht] at HO
    clear ht
    go_enter Tryz.func8, Tryz.ntmps8
    go_wp2_with (first | (go_at_call 28; refine HO.out.mono ?_; rintro e w1 ⟨rfl, hB1⟩) | (go_at_call 29; refine (HL.out _ hB1 hn).mono ?_; rintro e w2 ⟨rfl, hB2⟩) | fail)
    go_ret
    exact ⟨retS HE.out.symm, hB1.trans (hB2.mono hB1.size)⟩
  | false =>
    have HE : Hid (layT es = ⟨#[]⟩) := by show _ = _; unfold layT; rw [if_neg (by simp [ht])]
    rw [ht] at HO
    clear ht
    go_enter Tryz.func8, Tryz.ntmps8
    go_wp2_with (first | (go_at_call 28; refine HO.out.mono ?_; rintro e w1 ⟨rfl, hB1⟩) | fail)
    go_ret
    exact ⟨retS HE.out.symm, hB1⟩

set_option maxHeartbeats 1600000 in
set_option maxRecDepth 100000 in
theorem sText_any (w : World) (a : Option Addr) (g o cap : Nat) (es : List E) (hl : es.length ≤ 16777216) (hcap : es.length ≤ cap) (hz : ∀ e ∈ es, e.p.size ≤ 16777216 ∧ e.x.size ≤ 16777216) (ha : 0 < es.length → a = some ⟨g, o, none⟩) (hE : Ents w g o es) :
    Calls Tryz.prog 10 #[.slice a es.length cap] w fun r w' => r = .returned (.string (layT es)) ∧ Below w.heap.size w w' := by
  have HO := hidE (fun (W : World) (hb : Below w.heap.size w W) => sLayerOk_any W a g o cap es hl hcap hz ha (hE.below hb))
  have HE := hidE hE
  have HZ := hidE hz
  clear hz hE hcap
  cases ht : layB es with
  | true =>
    have hn : es.length ≤ 32 := by unfold layB at ht; simp only [Bool.and_eq_true, decide_eq_true_eq] at ht; first | exact ht.1 | exact ht.2
    have HQ : Hid (layT es = linesT es) := by show _ = _; unfold layT; rw [if_pos ht]
    rw [ht] at HO
    clear ht
    go_enter Tryz.func10, Tryz.ntmps10
    go_wp2
    go_loopw [3, 4] (fun tv iv wl => ∃ j : Nat, j ≤ es.length ∧ iv = .int .i64 j ∧ tv = .string (linesT (es.take j)) ∧ Hid (Below w.heap.size w wl)) (fun _ iv _ => es.length - (RowKit.intOf iv).toNat)
    case atStart => exact ⟨0, Nat.zero_le _, rfl, rfl, Below.refl _ _⟩
    case round =>
      obtain ⟨j, hj, rfl, rfl, HB⟩ := hrel
      by_cases hlt : j < es.length
      · obtain rfl := ha (by omega)
        have hz := HZ.out es[j] (List.getElem_mem hlt)
        have HT := hidE (lines_take hlt)
        have hro := lines_room hn HZ.out j
        have hro2 := lines_room hn HZ.out (j + 1)
        have HEj := hidE (fun (W : World) (hb : Below w.heap.size w W) => (HE.out.below hb) j hlt)
        obtain ⟨p, hp⟩ : ∃ p, es[j].p = p := ⟨_, rfl⟩
        obtain ⟨d, hd⟩ : ∃ d, es[j].d = d := ⟨_, rfl⟩
        obtain ⟨x, hx⟩ : ∃ x, es[j].x = x := ⟨_, rfl⟩
        have HX : es[j] = ⟨p, d, x⟩ := by rw [← hp, ← hd, ← hx]
        rw [hp, hd, hx] at HEj
        rw [hp, hx] at hz
        rw [HX] at HT
        clear hp hd hx HX
        obtain ⟨S, hS⟩ : ∃ S, linesT (es.take j) = S := ⟨_, rfl⟩
        rw [hS] at hro HT ⊢
        rw [HT.out] at hro2
        have hro3 : (S ++ markT ⟨p, d, x⟩).size + 1 ≤ 1073741952 := by rw [ByteArray.size_append] at hro2; exact hro2
        have hro4 : S.size + (markT ⟨p, d, x⟩).size + 1 ≤ 1073741952 := by rw [ByteArray.size_append] at hro3; exact hro3
        clear hS hro2
        have HC := hidE (fun W => sMarkText_any ⟨p, d, x⟩ W (by show p.size ≤ _; omega) (by show x.size ≤ _; omega))
        go_wp2_with (first
          | (go_at_call 32; refine (HO.out _ HB.out).mono ?_; rintro e w1 ⟨rfl, hB1⟩; have HB1 := hidE (HB.out.trans (hB1.mono HB.out.size)); obtain ⟨c0, c1, c2⟩ := HEj.out _ HB1.out)
          | (go_at_call 33; refine (HC.out _).mono ?_; rintro e w2 ⟨rfl, hB2⟩; clear c0 c1 c2)
          | fail)
        go_roundw
        case rel => exact ⟨j + 1, by omega, by go_num, by rw [HT.out], HB1.out.trans (hB2.mono HB1.out.size)⟩
        case measure => simp [RowKit.intOf]; omega
      · go_wp2
        go_ret
        rw [List.take_of_length_le (by omega)]
        exact ⟨retS HQ.out.symm, HB.out⟩
  | false =>
    have HQ : Hid (layT es = ⟨#[]⟩) := by show _ = _; unfold layT; rw [if_neg (by simp [ht])]
    have hpos : 0 < es.length := by
      cases es with
      | nil => exfalso; revert ht; decide
      | cons _ _ => simp
    rw [ht] at HO
    clear ht HZ HE
    obtain rfl := ha hpos
    clear ha
    obtain ⟨n, hnl⟩ : ∃ n, es.length = n := ⟨_, rfl⟩
    rw [hnl] at HO hpos hl ⊢
    clear hnl
    go_enter Tryz.func10, Tryz.ntmps10
    go_wp2
    go_loopw [3, 4] (fun tv iv wl => iv = .int .i64 0 ∧ tv = .string ⟨#[]⟩ ∧ Hid (Below w.heap.size w wl)) (fun _ _ _ => 0)
    case atStart => exact ⟨rfl, rfl, Below.refl _ _⟩
    case round =>
      obtain ⟨rfl, rfl, HB⟩ := hrel
      have HO1 := hidE (HO.out _ HB.out)
      clear HO
      go_wp2_with (first | (go_at_call 32; refine HO1.out.mono ?_; rintro e w1 ⟨rfl, hB1⟩; have HB1 := hidE (HB.out.trans (hB1.mono HB.out.size))) | fail)
      go_ret
      exact ⟨retS HQ.out.symm, HB1.out⟩
end Go.Proofs.YtgkfhcpegdlejaaGreatDoor.Mk

/-
  The walks of the model's reader of layers.
-/
namespace Go.Proofs.YtgkfhcpegdlejaaGreatDoor.Mk
open Go.RowKit Go.Lib

theorem linesM_T : ∀ es : List E, linesM es = linesT es
  | [] => rfl
  | e :: r => by show markT e ++ ⟨#[10]⟩ ++ linesM r = markT e ++ ⟨#[10]⟩ ++ linesT r; rw [linesM_T r]
theorem lineM_le (l : ByteArray) : (lineM l).p.size ≤ l.size ∧ (lineM l).x.size ≤ l.size := by unfold lineM; exact part_le l
theorem spec_is (s : ByteArray) {n : Nat} (hn : (cut 10 s).length = n + 1) : outM s = (((cut 10 s).take n).take 33).map lineM := by
  unfold outM; rw [hn]; rfl
theorem spec_none {s : ByteArray} {n : Nat} (hn : (cut 10 s).length = n + 1) (h : ¬ ((cut 10 s).getD n ⟨#[]⟩ = ⟨#[]⟩ ∧ layB (outM s) = true ∧ linesT (outM s) = s)) : specLay s = none := by
  unfold specLay; rw [hn, if_neg]
  rintro ⟨h1, h2, h3⟩
  exact h ⟨h1, h2, by rw [← linesM_T]; exact h3⟩
theorem spec_some {s : ByteArray} {n : Nat} (hn : (cut 10 s).length = n + 1) (h1 : (cut 10 s).getD n ⟨#[]⟩ = ⟨#[]⟩) (h2 : layB (outM s) = true) (h3 : linesT (outM s) = s) : specLay s = some (outM s) := by
  unfold specLay; rw [hn, if_pos ⟨h1, h2, by rw [linesM_T]; exact h3⟩]

end Go.Proofs.YtgkfhcpegdlejaaGreatDoor.Mk
