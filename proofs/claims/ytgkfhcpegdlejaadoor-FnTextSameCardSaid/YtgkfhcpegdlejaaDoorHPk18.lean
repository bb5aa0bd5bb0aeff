/-
  The walks of the text of a tree: the program's own, and the model's.
-/
import Derived.Test.YtgkfhcpegdlejaaDoorHPk08
import Derived.Test.YtgkfhcpegdlejaaDoorHPk16
import Derived.Test.YtgkfhcpegdlejaaDoorHPk17
import Derived.Test.YtgkfhcpegdlejaaDoorHPk02
import Derived.Test.YtgkfhcpegdlejaaDoorHPk10
import Derived.Test.YtgkfhcpegdlejaaDoorHPk04
namespace Go.Proofs.YtgkfhcpegdlejaaDoor
open Go.RowKit Go.Lib

/-- A line for each. -/
def linesT : List E → ByteArray
  | [] => ⟨#[]⟩
  | e :: r => entT e ++ ⟨#[10]⟩ ++ linesT r
def treeT (es : List E) : ByteArray := if treeE es = true then linesT es else ⟨#[]⟩
theorem lines_add : ∀ (es fs : List E), linesT (es ++ fs) = linesT es ++ linesT fs
  | [], fs => by rw [List.nil_append, show linesT [] = ⟨#[]⟩ from rfl, nil_app]
  | e :: r, fs => by rw [List.cons_append]; show entT e ++ ⟨#[10]⟩ ++ linesT (r ++ fs) = entT e ++ ⟨#[10]⟩ ++ linesT r ++ linesT fs; rw [lines_add r fs, app_assoc (entT e ++ ⟨#[10]⟩)]
theorem lines_take {es : List E} {j : Nat} (h : j < es.length) : linesT (es.take (j + 1)) = linesT (es.take j) ++ entT es[j] ++ ⟨#[10]⟩ := by
  rw [List.take_succ_eq_append_getElem h, lines_add]
  show _ ++ (entT es[j] ++ ⟨#[10]⟩ ++ ⟨#[]⟩) = _
  rw [app_nil, ← app_assoc]
theorem lines_le : ∀ (es : List E), (∀ e ∈ es, e.p.size ≤ 16777216 ∧ e.x.size ≤ 16777216) → (linesT es).size ≤ es.length * 33554436
  | [], _ => by show 0 ≤ _; omega
  | e :: r, h => by
    have h1 := lines_le r (fun x hx => h x (List.mem_cons_of_mem _ hx))
    have h2 := h e List.mem_cons_self
    have h3 := entT_le e
    show (entT e ++ ⟨#[10]⟩ ++ linesT r).size ≤ (r.length + 1) * 33554436
    rw [ByteArray.size_append, ByteArray.size_append, Nat.add_mul]
    show (entT e).size + 1 + _ ≤ _
    omega
theorem lines_room {es : List E} (hn : es.length ≤ 16) (hz : ∀ e ∈ es, e.p.size ≤ 16777216 ∧ e.x.size ≤ 16777216) (j : Nat) : (linesT (es.take j)).size ≤ 1073741952 := by
  have h1 := lines_le (es.take j) (fun x hx => hz x (List.mem_of_mem_take hx))
  have h2 : (es.take j).length ≤ 32 := by rw [List.length_take]; omega
  have h3 := Nat.mul_le_mul_right 33554436 h2
  omega

set_option maxHeartbeats 1600000 in
set_option maxRecDepth 100000 in
theorem lines_any (w : World) (a : Option Addr) (g o cap : Nat) (es : List E) (hw : Words w) (hn : es.length ≤ 16) (hz : ∀ e ∈ es, e.p.size ≤ 16777216 ∧ e.x.size ≤ 16777216) (ha : 0 < es.length → a = some ⟨g, o, none⟩) (hE : Ents w g o es) :
    Calls Tryd.prog 34 #[.slice a es.length cap, .func (.func 35) #[] #[]] w fun r w' => r = .returned (.string (linesT es)) ∧ Below w.heap.size w w' := by
  have HE := hidE hE
  have HZ := hidE hz
  have HW := hidE hw
  clear hE hz hw
  go_enter Tryd.func34, Tryd.ntmps34
  go_wp2
  go_loopw [5, 10] (fun tv iv wl => ∃ j : Nat, j ≤ es.length ∧ iv = .int .i64 j ∧ Hid (BufB w.heap.size 5 tv (linesT (es.take j)) w wl)) (fun _ iv _ => es.length - (RowKit.intOf iv).toNat)
  case atStart => exact ⟨0, Nat.zero_le _, rfl, BufB.nil 5 (Nat.le_refl _)⟩
  case round =>
    obtain ⟨j, hj, rfl, hbj⟩ := hrel
    by_cases hlt : j < es.length
    · obtain rfl := ha (by omega)
      have HBl := hidE hbj.out.below
      obtain ⟨c0, c1, c2⟩ := (HE.out.below HBl.out) j hlt
      have hz := HZ.out es[j] (List.getElem_mem hlt)
      have HT := hidE (lines_take hlt)
      have hro := lines_room hn HZ.out j
      have hro2 := lines_room hn HZ.out (j + 1)
      obtain ⟨p, hp⟩ : ∃ p, es[j].p = p := ⟨_, rfl⟩
      obtain ⟨d, hd⟩ : ∃ d, es[j].d = d := ⟨_, rfl⟩
      obtain ⟨x, hx⟩ : ∃ x, es[j].x = x := ⟨_, rfl⟩
      have HX : es[j] = ⟨p, d, x⟩ := by rw [← hp, ← hd, ← hx]
      rw [hp] at c0 hz
      rw [hd] at c1
      rw [hx] at c2 hz
      rw [HX] at HT
      clear hp hd hx HX
      obtain ⟨S, hS⟩ : ∃ S, linesT (es.take j) = S := ⟨_, rfl⟩
      rw [hS] at hbj hro HT
      rw [HT.out] at hro2
      have hro3 : (S ++ entT ⟨p, d, x⟩).size + 1 ≤ 1073741952 := by rw [ByteArray.size_append] at hro2; exact hro2
      clear hS hro2
      have HC := hidE (appendEnt_any w.heap.size _ S ⟨p, d, x⟩ w (wr.alloc (.cells #[.string p, .bool d, .string x] 50)) (hbj.out.alloc _) ((HW.out.below HBl.out).alloc _) (by omega) (by show p.size ≤ _; omega) (by show x.size ≤ _; omega))
      clear hbj
      go_wp2_with (first
        | (go_at_call 35; refine HC.out.mono ?_; rintro e w1 ⟨v1, rfl, hb1⟩)
        | (at_builtin; refine bufC rfl (.tmp 17) (.tmp 18) rfl w.heap.size v1 (S ++ entT ⟨p, d, x⟩) rfl w 10 10 rfl hb1 rfl (by omega) ?_; intro v2 w2 hb2)
        | fail)
      go_roundw
      case rel => exact ⟨j + 1, by omega, by go_num, by show BufB _ _ _ _ _ _; rw [HT.out]; exact hb2⟩
      case measure => simp [RowKit.intOf]; omega
    · have hb := hbj.out
      rw [List.take_of_length_le (by omega)] at hb
      have hcv := run_convert_buf (P := Tryd.prog) hb 22 9 Tryd.underlying22 Tryd.underlying5 Tryd.underlying9
      have HBl := hidE hb.below
      clear hbj hb
      go_wp2
      go_ret
      exact ⟨rfl, HBl.out⟩

set_option maxHeartbeats 800000 in
set_option maxRecDepth 100000 in
theorem iText_any (w : World) (a : Option Addr) (g o cap : Nat) (es : List E) (ae : Int → Addr) (hErr : Errs2 w ae) (hw : Words w) (hl : es.length ≤ 16777216) (hz : ∀ e ∈ es, e.p.size ≤ 16777216 ∧ e.x.size ≤ 16777216) (ha : 0 < es.length → a = some ⟨g, o, none⟩) (hE : Ents w g o es) :
    Calls Tryd.prog 8 #[.slice a es.length cap] w fun r w' => r = .returned (.string (treeT es)) ∧ Below w.heap.size w w' := by
  have HO := hidE (iTreeOk_any w a g o cap es ae hErr hl hz ha hE)
  have HL := hidE (fun (W : World) (hb : Below w.heap.size w W) (hn : es.length ≤ 16) => lines_any W a g o cap es (hw.below hb) hn hz ha (hE.below hb))
  clear hz hE hw ha
  cases ht : treeE es with
  | true =>
    have hn : es.length ≤ 16 := by unfold treeE at ht; simp only [Bool.and_eq_true, decide_eq_true_eq] at ht; first | exact ht.1 | exact ht.2
    have HE : Hid (treeT es = linesT es) := by show _ = _; unfold treeT; rw [if_pos ht]
    rw [ht] at HO
    clear ht
    go_enter Tryd.func8, Tryd.ntmps8
    go_wp2_with (first | (go_at_call 33; refine HO.out.mono ?_; rintro e w1 ⟨rfl, hB1⟩) | (go_at_call 34; refine (HL.out _ hB1 hn).mono ?_; rintro e w2 ⟨rfl, hB2⟩) | fail)
    go_ret
    exact ⟨retS HE.out.symm, hB1.trans (hB2.mono hB1.size)⟩
  | false =>
    have HE : Hid (treeT es = ⟨#[]⟩) := by show _ = _; unfold treeT; rw [if_neg (by simp [ht])]
    rw [ht] at HO
    clear ht
    go_enter Tryd.func8, Tryd.ntmps8
    go_wp2_with (first | (go_at_call 33; refine HO.out.mono ?_; rintro e w1 ⟨rfl, hB1⟩) | fail)
    go_ret
    exact ⟨retS HE.out.symm, hB1⟩

set_option maxHeartbeats 1600000 in
set_option maxRecDepth 100000 in
theorem sText_any (w : World) (a : Option Addr) (g o cap : Nat) (es : List E) (hl : es.length ≤ 16777216) (hcap : es.length ≤ cap) (hz : ∀ e ∈ es, e.p.size ≤ 16777216 ∧ e.x.size ≤ 16777216) (ha : 0 < es.length → a = some ⟨g, o, none⟩) (hE : Ents w g o es) :
    Calls Tryd.prog 10 #[.slice a es.length cap] w fun r w' => r = .returned (.string (treeT es)) ∧ Below w.heap.size w w' := by
  have HO := hidE (fun (W : World) (hb : Below w.heap.size w W) => sTreeOk_any W a g o cap es hl hcap hz ha (hE.below hb))
  have HE := hidE hE
  have HZ := hidE hz
  clear hz hE hcap
  cases ht : treeE es with
  | true =>
    have hn : es.length ≤ 16 := by unfold treeE at ht; simp only [Bool.and_eq_true, decide_eq_true_eq] at ht; first | exact ht.1 | exact ht.2
    have HQ : Hid (treeT es = linesT es) := by show _ = _; unfold treeT; rw [if_pos ht]
    rw [ht] at HO
    clear ht
    go_enter Tryd.func10, Tryd.ntmps10
    go_wp2
    go_loopw [3, 4] (fun tv iv wl => ∃ j : Nat, j ≤ es.length ∧ iv = .int .i64 j ∧ tv = .string (linesT (es.take j)) ∧ Hid (Below w.heap.size w wl)) (fun _ iv _ => es.length - (RowKit.intOf iv).toNat)
    case atStart => exact ⟨0, Nat.zero_le _, rfl, rfl, Below.refl _ _⟩
    case round =>
      obtain ⟨j, hj, rfl, rfl, HB⟩ := hrel
      by_cases hlt : j < es.length
      · obtain rfl := ha (by omega)
        have hz := HZ.out es[j] (List.getElem_mem hlt)
        have HT := hidE (lines_take hlt)
        have hro := lines_room hn HZ.out j
        have hro2 := lines_room hn HZ.out (j + 1)
        have HEj := hidE (fun (W : World) (hb : Below w.heap.size w W) => (HE.out.below hb) j hlt)
        obtain ⟨p, hp⟩ : ∃ p, es[j].p = p := ⟨_, rfl⟩
        obtain ⟨d, hd⟩ : ∃ d, es[j].d = d := ⟨_, rfl⟩
        obtain ⟨x, hx⟩ : ∃ x, es[j].x = x := ⟨_, rfl⟩
        have HX : es[j] = ⟨p, d, x⟩ := by rw [← hp, ← hd, ← hx]
        rw [hp, hd, hx] at HEj
        rw [hp, hx] at hz
        rw [HX] at HT
        clear hp hd hx HX
        obtain ⟨S, hS⟩ : ∃ S, linesT (es.take j) = S := ⟨_, rfl⟩
        rw [hS] at hro HT ⊢
        rw [HT.out] at hro2
        have hro3 : (S ++ entT ⟨p, d, x⟩).size + 1 ≤ 1073741952 := by rw [ByteArray.size_append] at hro2; exact hro2
        have hro4 : S.size + (entT ⟨p, d, x⟩).size + 1 ≤ 1073741952 := by rw [ByteArray.size_append] at hro3; exact hro3
        clear hS hro2
        have HC := hidE (fun W => sEntText_any ⟨p, d, x⟩ W (by show p.size ≤ _; omega) (by show x.size ≤ _; omega))
        go_wp2_with (first
          | (go_at_call 11; refine (HO.out _ HB.out).mono ?_; rintro e w1 ⟨rfl, hB1⟩; have HB1 := hidE (HB.out.trans (hB1.mono HB.out.size)); obtain ⟨c0, c1, c2⟩ := HEj.out _ HB1.out)
          | (go_at_call 40; refine (HC.out _).mono ?_; rintro e w2 ⟨rfl, hB2⟩; clear c0 c1 c2)
          | fail)
        go_roundw
        case rel => exact ⟨j + 1, by omega, by go_num, by rw [HT.out], HB1.out.trans (hB2.mono HB1.out.size)⟩
        case measure => simp [RowKit.intOf]; omega
      · go_wp2
        go_ret
        rw [List.take_of_length_le (by omega)]
        exact ⟨retS HQ.out.symm, HB.out⟩
  | false =>
    have HQ : Hid (treeT es = ⟨#[]⟩) := by show _ = _; unfold treeT; rw [if_neg (by simp [ht])]
    have hpos : 0 < es.length := by
      cases es with
      | nil => exfalso; revert ht; decide
      | cons _ _ => simp
    rw [ht] at HO
    clear ht HZ HE
    obtain rfl := ha hpos
    clear ha
    obtain ⟨n, hnl⟩ : ∃ n, es.length = n := ⟨_, rfl⟩
    rw [hnl] at HO hpos hl ⊢
    clear hnl
    go_enter Tryd.func10, Tryd.ntmps10
    go_wp2
    go_loopw [3, 4] (fun tv iv wl => iv = .int .i64 0 ∧ tv = .string ⟨#[]⟩ ∧ Hid (Below w.heap.size w wl)) (fun _ _ _ => 0)
    case atStart => exact ⟨rfl, rfl, Below.refl _ _⟩
    case round =>
      obtain ⟨rfl, rfl, HB⟩ := hrel
      have HO1 := hidE (HO.out _ HB.out)
      clear HO
      go_wp2_with (first | (go_at_call 11; refine HO1.out.mono ?_; rintro e w1 ⟨rfl, hB1⟩; have HB1 := hidE (HB.out.trans (hB1.mono HB.out.size))) | fail)
      go_ret
      exact ⟨retS HQ.out.symm, HB1.out⟩
end Go.Proofs.YtgkfhcpegdlejaaDoor

/-
  The walks of the model's reader of trees.
-/
namespace Go.Proofs.YtgkfhcpegdlejaaDoor
open Go.RowKit Go.Lib

theorem cut_pos (c : UInt8) (s : ByteArray) : 0 < (cut c s).length := by
  have h := cut_is c s
  have h2 := split_len c (LB s) []
  rw [← h] at h2
  cases hc : cut c s with
  | nil => rw [hc] at h2; exact absurd rfl h2
  | cons _ _ => simp
theorem cut_len (c : UInt8) (s : ByteArray) : (cut c s).length ≤ s.size + 1 := by
  unfold cut cutAt
  have h1 := cutL_length c s (s.data.toList.drop 0) 0 0
  have h2 : s.data.toList.length = s.size := lb_len s
  rw [List.length_drop] at h1
  omega
theorem linesE_T : ∀ es : List E, linesE es = linesT es
  | [] => rfl
  | e :: r => by show entT e ++ ⟨#[10]⟩ ++ linesE r = entT e ++ ⟨#[10]⟩ ++ linesT r; rw [linesE_T r]
theorem lineE_le (l : ByteArray) : (lineE l).p.size ≤ l.size ∧ (lineE l).x.size ≤ l.size := by unfold lineE; exact part_le l
/-- The model's lines: where they lie. -/
def LinesAt (w : World) (g : Nat) (cs : List ByteArray) : Prop := ∀ i (h : i < cs.length), w.cell? ⟨g, i, none⟩ = some (.string cs[i])
theorem LinesAt.below {w w' : World} {g : Nat} {cs : List ByteArray} (h : LinesAt w g cs) (hb : Below w.heap.size w w') : LinesAt w' g cs := fun i hi =>
  (hb.cell (World.block_lt_of_cell? w ⟨g, i, none⟩ (h i hi))).trans (h i hi)

theorem own_cap {w : World} {base n : Nat} {v : Value} {xs : List ByteArray} (h : w.ownsRow base 9 1 v n (xs.map Value.string)) : ∀ a m cap, v = .slice a m cap → n ≤ cap := by
  rcases h.2 with ⟨rfl, e⟩ | ⟨g, cap, cur, rfl, _, _, hcap, _⟩
  · intro a m cap q; omega
  · intro a m c q; injection q with _ _ q; omega

set_option maxHeartbeats 1600000 in
set_option maxRecDepth 100000 in
theorem l6Lines_any (s : ByteArray) (hs : s.size ≤ 16777216) (w : World) :
    Calls Tryd.prog 49 #[.string s] w fun r w' => ∃ n g cap, (cut 10 s).length = n + 1 ∧ r = .returned (.tuple #[.slice (some ⟨g, 0, none⟩) n cap, .bool (decide ((cut 10 s).getD n ⟨#[]⟩ = ⟨#[]⟩))]) ∧ LinesAt w' g (cut 10 s) ∧ Below w.heap.size w w' := by
  have HC := hidE (l10Cut_any s 10 hs w)
  have hp := cut_pos 10 s
  have hl := cut_len 10 s
  obtain ⟨cs, hcs⟩ : ∃ cs, cut 10 s = cs := ⟨_, rfl⟩
  rw [hcs] at HC hp hl ⊢
  clear hcs
  obtain ⟨n, hn⟩ : ∃ n, cs.length = n + 1 := ⟨cs.length - 1, by omega⟩
  have hlast : cs[n]? = some (cs[n]'(by omega)) := List.getElem?_eq_getElem (by omega)
  obtain ⟨x, hx⟩ : ∃ x, cs[n]'(by omega) = x := ⟨_, rfl⟩
  have hD : cs.getD n ⟨#[]⟩ = x := by rw [List.getD_eq_getElem?_getD, hlast, ← hx]; rfl
  have HD := hidE hD
  clear hD hlast
  have HX := hidE hx
  have hln : n ≤ 16777217 := by omega
  clear hx hp hl
  have HN := hidE hn
  have HE : Hid (decide (cs.getD n ⟨#[]⟩ = ⟨#[]⟩) = (x.toList == [])) := by
    show _ = _
    rw [HD.out]
    have e0 : (⟨#[]⟩ : ByteArray).toList = [] := by rw [Lib.toList_data]
    by_cases h0 : x = (⟨#[]⟩ : ByteArray)
    · have h1 := (str_yes h0).1; rw [e0] at h1; rw [decide_eq_true h0, h1]
    · have h1 := (str_no h0).1; rw [e0] at h1; rw [decide_eq_false h0, h1]
  clear HD
  cases hb : (x.toList == []) with
  | true =>
    rw [hb] at HE
    have hb2 : x.toList = [] := by simpa using hb
    go_enter Tryd.func49, Tryd.ntmps49
    go_wp2_with (first | (go_at_call 86; refine HC.out.mono ?_; rintro e w1 ⟨v1, rfl, hown, hB1⟩; have hcp := own_cap hown; obtain ⟨a1, g1, cap1, rfl, ha, hc⟩ := own_strs hown rfl; have hcap := hcp _ _ _ rfl; rw [HN.out] at hcap; clear hcp; obtain rfl := ha (by omega); have hcn := hc n (by omega); rw [HX.out] at hcn; have HL : Hid (LinesAt w1 g1 cs) := hc; clear hown hc ha; rw [HN.out]) | fail)
    go_quiet (fail)
    go_wp2
    exact bodyPost_ret (v := .tuple #[.slice (some ⟨g1, 0, none⟩) n cap1, .bool true]) (by simp [results, Tryd.results49, go_sem]) rfl ⟨n, g1, cap1, HN.out, by rw [HE.out], HL.out, below_drewN hB1⟩
  | false =>
    rw [hb] at HE
    have hb2 : ¬ x.toList = [] := by simpa using hb
    go_enter Tryd.func49, Tryd.ntmps49
    go_wp2_with (first | (go_at_call 86; refine HC.out.mono ?_; rintro e w1 ⟨v1, rfl, hown, hB1⟩; have hcp := own_cap hown; obtain ⟨a1, g1, cap1, rfl, ha, hc⟩ := own_strs hown rfl; have hcap := hcp _ _ _ rfl; rw [HN.out] at hcap; clear hcp; obtain rfl := ha (by omega); have hcn := hc n (by omega); rw [HX.out] at hcn; have HL : Hid (LinesAt w1 g1 cs) := hc; clear hown hc ha; rw [HN.out]) | fail)
    go_quiet (fail)
    go_wp2
    exact bodyPost_ret (v := .tuple #[.slice (some ⟨g1, 0, none⟩) n cap1, .bool false]) (by simp [results, Tryd.results49, go_sem]) rfl ⟨n, g1, cap1, HN.out, by rw [HE.out], HL.out, below_drewN hB1⟩
theorem spec_is (s : ByteArray) {n : Nat} (hn : (cut 10 s).length = n + 1) : outE s = (((cut 10 s).take n).take 17).map lineE := by
  unfold outE; rw [hn]; rfl
theorem spec_none {s : ByteArray} {n : Nat} (hn : (cut 10 s).length = n + 1) (h : ¬ ((cut 10 s).getD n ⟨#[]⟩ = ⟨#[]⟩ ∧ treeE (outE s) = true ∧ linesT (outE s) = s)) : specTree s = none := by
  unfold specTree; rw [hn, if_neg]
  rintro ⟨h1, h2, h3⟩
  exact h ⟨h1, h2, by rw [← linesE_T]; exact h3⟩
theorem spec_some {s : ByteArray} {n : Nat} (hn : (cut 10 s).length = n + 1) (h1 : (cut 10 s).getD n ⟨#[]⟩ = ⟨#[]⟩) (h2 : treeE (outE s) = true) (h3 : linesT (outE s) = s) : specTree s = some (outE s) := by
  unfold specTree; rw [hn, if_pos ⟨h1, h2, by rw [linesE_T]; exact h3⟩]

set_option maxHeartbeats 3200000 in
set_option maxRecDepth 100000 in
theorem sTreeRead_any (s : ByteArray) (hs : s.size ≤ 16777216) (w : World) :
    Calls Tryd.prog 14 #[.string s] w fun r w' => ∃ v, r = .returned (.tuple #[v, .bool (specTree s).isSome]) ∧ OwnE w' w.heap.size v ((specTree s).getD []) ∧ Below w.heap.size w w' := by
  obtain ⟨i0, hi, hz0, hz1, hz2⟩ := info_parts Tryd.infoE'
  have HL := hidE (l6Lines_any s hs w)
  have HN0 := hidE (fun n (hn : (cut 10 s).length = n + 1) h => spec_none hn h)
  have HN1 := hidE (fun n (hn : (cut 10 s).length = n + 1) h1 h2 h3 => spec_some hn h1 h2 h3)
  have HO := hidE (fun n (hn : (cut 10 s).length = n + 1) => spec_is s hn)
  have HCz : Hid (∀ l ∈ cut 10 s, l.size ≤ s.size) := fun l hl => cut_le 10 s l hl
  obtain ⟨cs, hcs⟩ : ∃ cs, cut 10 s = cs := ⟨_, rfl⟩
  have hcl := cut_len 10 s
  rw [hcs] at HL HN0 HN1 HO HCz hcl
  clear hcs
  go_enter Tryd.func14, Tryd.ntmps14
  go_wp2_with (first | (go_at_call 49; refine HL.out.mono ?_; rintro e w1 ⟨n, g1, cap1, hn, rfl, hL1, hB1⟩; obtain ⟨b, hb⟩ : ∃ b, decide (cs.getD n (⟨#[]⟩ : ByteArray) = ⟨#[]⟩) = b := ⟨_, rfl⟩; rw [hb]; have HBb := hidE hb; clear hb; have HL1 := hidE hL1; have HB1 := hidE hB1; have HN := hidE hn; clear hL1 hB1) | fail)
  clear HL
  have HN0' := hidE (HN0.out n hn)
  have HN1' := hidE (HN1.out n hn)
  have hOs := HO.out n hn
  clear HN0 HN1 HO
  obtain ⟨L, hL⟩ : ∃ L, outE s = L := ⟨_, rfl⟩
  rw [hL] at HN0' HN1' hOs
  clear hL
  have hLl : L.length = min 17 n := by rw [hOs, List.length_map, List.length_take, List.length_take, hn]; omega
  have hLa : ∀ j (hj : j < L.length), L[j] = lineE (cs[j]'(by omega)) := fun j hj => by
    subst hOs
    simp only [List.getElem_map, List.getElem_take]
  have HLa := hidE hLa
  have HLz : Hid (∀ e ∈ L, e.p.size ≤ 16777216 ∧ e.x.size ≤ 16777216) := fun e he => by
    obtain ⟨j, hj, rfl⟩ := List.getElem_of_mem he
    rw [hLa j hj]
    have h1 := lineE_le (cs[j]'(by omega))
    have h2 := HCz.out (cs[j]'(by omega)) (List.getElem_mem _)
    omega
  clear hLa hOs
  have hnz : n ≤ 16777216 := by omega
  go_loopw [6, 7] (fun tv iv wl => ∃ j : Nat, j ≤ L.length ∧ iv = .int .i64 j ∧ OwnE wl w1.heap.size tv (L.take j) ∧ Hid (Below w1.heap.size w1 wl)) (fun _ iv _ => L.length - (RowKit.intOf iv).toNat)
  case atStart => exact ⟨0, Nat.zero_le _, rfl, OwnE.made w1 (Nat.le_refl _), (Below.refl _ w1).alloc (Nat.le_refl _) _⟩
  case round =>
    obtain ⟨j, hj, rfl, hown, HB⟩ := hrel
    have HBw := hidE (HB1.out.trans (HB.out.mono HB1.out.size))
    by_cases hlt : j < L.length
    · have hj1 : j < n := by omega
      have hj2 : j ≤ 16 := by omega
      have c0 := (HL1.out.below HB.out) j (by omega)
      have hT : L.take (j + 1) = L.take j ++ [L[j]] := List.take_succ_eq_append_getElem hlt
      have hz := HCz.out (cs[j]'(by omega)) (List.getElem_mem _)
      rw [HLa.out j hlt] at hT
      obtain ⟨l, hl⟩ : ∃ l, cs[j]'(by omega) = l := ⟨_, rfl⟩
      rw [hl] at c0 hT hz
      clear hl
      have HT := hidE hT
      clear hT
      have hls : l.size ≤ 16777216 := by omega
      have HC := hidE (fun W => l6Ent_any l hls W)
      have hlen : (L.take j).length ≤ 1000 := by rw [List.length_take]; omega
      obtain ⟨ts, hts⟩ : ∃ ts, L.take j = ts := ⟨_, rfl⟩
      rw [hts] at hown hlen HT
      clear hts
      have hLE : lineE l = ⟨(partL l).2.1, decide ((partL l).1 = wD), (partL l).2.2⟩ := rfl
      have hdd : decide ((partL l).1 = wD) = ((partL l).1.toList == [100]) := by
        have e0 : wD.toList = [100] := by rw [Lib.toList_data]; rfl
        by_cases h0 : (partL l).1 = wD
        · have h1 := (str_yes h0).1; rw [e0] at h1; rw [decide_eq_true h0, h1]
        · have h1 := (str_no h0).1; rw [e0] at h1; rw [decide_eq_false h0, h1]
      rw [hdd] at hLE
      rw [hLE] at HT
      have hp1 := part_le l
      obtain ⟨kd, hkd⟩ : ∃ x, (partL l).1 = x := ⟨_, rfl⟩
      obtain ⟨pa, hpa⟩ : ∃ x, (partL l).2.1 = x := ⟨_, rfl⟩
      obtain ⟨mo, hmo⟩ : ∃ x, (partL l).2.2 = x := ⟨_, rfl⟩
      rw [hkd, hpa, hmo] at HC HT
      rw [hpa, hmo] at hp1
      clear hkd hpa hmo hdd hLE
      obtain ⟨d, hd⟩ : ∃ d, (kd.toList == [100]) = d := ⟨_, rfl⟩
      rw [hd] at HT
      have hs1 := HB1.out.size
      go_wp2_with (first
        | (go_at_call 50; refine (HC.out _).mono ?_; rintro e w2 ⟨rfl, hB2⟩; have HB2 := hidE (HB.out.trans (hB2.mono HB.out.size)); have hown2 : OwnE w2 w1.heap.size _ ts := OwnE.below hown hB2; have hs2 := HB2.out.size; clear c0)
        | (at_builtin; refine wpList_append_own _ rfl _ _ 23 rfl w1.heap.size 50 i0 _ 3 40 Tryd.underlying23 hi hz0 hz1 hz2 rfl (by decide) _ _ (rowE ts) rfl (hown2.alloc _) ⟨w2.heap.size, 0, none⟩ 1 1 (cellsE ⟨pa, d, mo⟩) rfl rfl ?y1 rowE_one' ?y2 ?y3 ?y4 ?_)
        | fail)
      case y1 => exact cells_new w2 ⟨pa, d, mo⟩
      case y2 => unfold maxLen; omega
      case y3 => omega
      case y4 => simp; omega
      intro v4 w4 hown4 hgrow4 _
      have HB4 := hidE ((HB2.out.alloc HB2.out.size _).grown hgrow4 (by simp; omega) (fun k hk => (hown2.lt k hk).1))
      have hown5 := OwnE.push hown4
      clear hown4 hgrow4 HB2 hown2
      go_wp2
      go_roundw
      case rel => exact ⟨j + 1, by omega, by go_num, by show OwnE _ _ _ _; rw [HT.out]; exact hown5, HB4⟩
      case measure => simp [RowKit.intOf]; omega
    · have hjl : j = L.length := by omega
      subst hjl
      rw [List.take_length] at hown
      have hfin : (n ≤ 17 ∧ L.length = n) ∨ (17 < n ∧ L.length = 17) := by omega
      have hL16 : L.length ≤ 17 := by omega
      clear hlt
      obtain ⟨a2, g2, cap2, rfl, ha2, hE2, hcap2⟩ := hown.ents
      have HOw := hidE hown
      have HK := hidE (sTreeOk_any wr a2 g2 0 cap2 L (by omega) hcap2 HLz.out ha2 hE2)
      have HF := hidE (fun (W : World) (h : Below wr.heap.size wr W) => sText_any W a2 g2 0 cap2 L (by omega) hcap2 HLz.out ha2 (hE2.below h))
      clear hown hE2 hcap2 HLa HLz
      cases b with
      | false =>
        have HP := hidE (HN0'.out (fun h => by rw [decide_eq_true h.1] at HBb; exact absurd HBb.out (by decide)))
        clear HN0' HN1' HBb HK HF HOw
        rcases hfin with ⟨q1, q2⟩ | ⟨q1, q2⟩
        · rw [q2]
          go_wp2
          exact bodyPost_ret (v := .tuple #[.slice (some ⟨wr.heap.size, 0, none⟩) 0 0, .bool false]) (by simp [results, Tryd.results14, go_sem]) rfl ⟨_, by rw [HP.out]; rfl, by rw [HP.out]; exact OwnE.made wr HBw.out.size, HBw.out.alloc HBw.out.size _⟩
        · rw [q2]
          go_wp2
          exact bodyPost_ret (v := .tuple #[.slice (some ⟨wr.heap.size, 0, none⟩) 0 0, .bool false]) (by simp [results, Tryd.results14, go_sem]) rfl ⟨_, by rw [HP.out]; rfl, by rw [HP.out]; exact OwnE.made wr HBw.out.size, HBw.out.alloc HBw.out.size _⟩
      | true =>
        have hb1 : cs.getD n ⟨#[]⟩ = ⟨#[]⟩ := of_decide_eq_true HBb.out
        cases htr : treeE L with
        | false =>
          have HP := hidE (HN0'.out (fun h => by rw [htr] at h; exact absurd h.2.1 (by decide)))
          rw [htr] at HK
          clear HN0' HN1' HBb HF HOw htr hb1
          rcases hfin with ⟨q1, q2⟩ | ⟨q1, q2⟩
          · rw [q2] at HK ⊢
            go_wp2_with (first | (go_at_call 11; refine HK.out.mono ?_; rintro e w2 ⟨rfl, hB2⟩; have hBf := HBw.out.trans (hB2.mono HBw.out.size)) | fail)
            exact bodyPost_ret (v := .tuple #[.slice (some ⟨w2.heap.size, 0, none⟩) 0 0, .bool false]) (by simp [results, Tryd.results14, go_sem]) rfl ⟨_, by rw [HP.out]; rfl, by rw [HP.out]; exact OwnE.made w2 hBf.size, hBf.alloc hBf.size _⟩
          · rw [q2] at HK ⊢
            go_wp2_with (first | (go_at_call 11; refine HK.out.mono ?_; rintro e w2 ⟨rfl, hB2⟩; have hBf := HBw.out.trans (hB2.mono HBw.out.size)) | fail)
            exact bodyPost_ret (v := .tuple #[.slice (some ⟨w2.heap.size, 0, none⟩) 0 0, .bool false]) (by simp [results, Tryd.results14, go_sem]) rfl ⟨_, by rw [HP.out]; rfl, by rw [HP.out]; exact OwnE.made w2 hBf.size, hBf.alloc hBf.size _⟩
        | true =>
          rw [htr] at HK
          have htx : treeT L = linesT L := by unfold treeT; rw [if_pos htr]
          rw [htx] at HF
          clear htx
          have hst := HN1'.out hb1 htr
          have hsn := HN0'.out
          obtain ⟨tx, htx⟩ : ∃ tx, linesT L = tx := ⟨_, rfl⟩
          rw [htx] at HF hst hsn
          clear htx
          by_cases he : tx = s
          · have HP := hidE (hst he)
            obtain ⟨k1, k2⟩ := str_yes he
            clear HN0' HN1' HBb htr hb1 hst hsn he
            rcases hfin with ⟨q1, q2⟩ | ⟨q1, q2⟩
            · rw [q2] at HK HF ⊢
              go_wp2_with (first | (go_at_call 11; refine HK.out.mono ?_; rintro e w2 ⟨rfl, hB2⟩; have HB2 := hidE hB2; clear hB2) | (go_at_call 10; refine (HF.out _ HB2.out).mono ?_; rintro e w3 ⟨rfl, hB3⟩) | fail)
              have hB23 := HB2.out.trans (hB3.mono HB2.out.size)
              have hBf := HBw.out.trans (hB23.mono HBw.out.size)
              exact bodyPost_ret (v := .tuple #[.slice a2 n cap2, .bool true]) (by simp [results, Tryd.results14, go_sem]) rfl ⟨_, by rw [HP.out]; rfl, by rw [HP.out, ← q2]; exact OwnE.lower (OwnE.below HOw.out hB23) HB1.out.size, hBf⟩
            · rw [q2] at HK HF ⊢
              go_wp2_with (first | (go_at_call 11; refine HK.out.mono ?_; rintro e w2 ⟨rfl, hB2⟩; have HB2 := hidE hB2; clear hB2) | (go_at_call 10; refine (HF.out _ HB2.out).mono ?_; rintro e w3 ⟨rfl, hB3⟩) | fail)
              have hB23 := HB2.out.trans (hB3.mono HB2.out.size)
              have hBf := HBw.out.trans (hB23.mono HBw.out.size)
              exact bodyPost_ret (v := .tuple #[.slice a2 17 cap2, .bool true]) (by simp [results, Tryd.results14, go_sem]) rfl ⟨_, by rw [HP.out]; rfl, by rw [HP.out, ← q2]; exact OwnE.lower (OwnE.below HOw.out hB23) HB1.out.size, hBf⟩
          · have HP := hidE (hsn (fun h => he h.2.2))
            obtain ⟨k1, k2⟩ := str_no he
            clear HN0' HN1' HBb htr hb1 hst hsn he HOw
            rcases hfin with ⟨q1, q2⟩ | ⟨q1, q2⟩
            · rw [q2] at HK HF ⊢
              go_wp2_with (first | (go_at_call 11; refine HK.out.mono ?_; rintro e w2 ⟨rfl, hB2⟩; have HB2 := hidE hB2; clear hB2) | (go_at_call 10; refine (HF.out _ HB2.out).mono ?_; rintro e w3 ⟨rfl, hB3⟩) | fail)
              have hB23 := HB2.out.trans (hB3.mono HB2.out.size)
              have hBf := HBw.out.trans (hB23.mono HBw.out.size)
              exact bodyPost_ret (v := .tuple #[.slice (some ⟨w3.heap.size, 0, none⟩) 0 0, .bool false]) (by simp [results, Tryd.results14, go_sem]) rfl ⟨_, by rw [HP.out]; rfl, by rw [HP.out]; exact OwnE.made w3 hBf.size, hBf.alloc hBf.size _⟩
            · rw [q2] at HK HF ⊢
              go_wp2_with (first | (go_at_call 11; refine HK.out.mono ?_; rintro e w2 ⟨rfl, hB2⟩; have HB2 := hidE hB2; clear hB2) | (go_at_call 10; refine (HF.out _ HB2.out).mono ?_; rintro e w3 ⟨rfl, hB3⟩) | fail)
              have hB23 := HB2.out.trans (hB3.mono HB2.out.size)
              have hBf := HBw.out.trans (hB23.mono HBw.out.size)
              exact bodyPost_ret (v := .tuple #[.slice (some ⟨w3.heap.size, 0, none⟩) 0 0, .bool false]) (by simp [results, Tryd.results14, go_sem]) rfl ⟨_, by rw [HP.out]; rfl, by rw [HP.out]; exact OwnE.made w3 hBf.size, hBf.alloc hBf.size _⟩
end Go.Proofs.YtgkfhcpegdlejaaDoor

/-
  The walks of the text of a layer: the program's own, and the model's.
-/
namespace Go.Proofs.YtgkfhcpegdlejaaDoor.Mk
open Go.RowKit Go.Lib

/-- A line for each. -/
def linesT : List E → ByteArray
  | [] => ⟨#[]⟩
  | e :: r => markT e ++ ⟨#[10]⟩ ++ linesT r
def layT (es : List E) : ByteArray := if layB es = true then linesT es else ⟨#[]⟩
theorem lines_add : ∀ (es fs : List E), linesT (es ++ fs) = linesT es ++ linesT fs
  | [], fs => by rw [List.nil_append, show linesT [] = ⟨#[]⟩ from rfl, nil_app]
  | e :: r, fs => by rw [List.cons_append]; show markT e ++ ⟨#[10]⟩ ++ linesT (r ++ fs) = markT e ++ ⟨#[10]⟩ ++ linesT r ++ linesT fs; rw [lines_add r fs, app_assoc (markT e ++ ⟨#[10]⟩)]
theorem lines_take {es : List E} {j : Nat} (h : j < es.length) : linesT (es.take (j + 1)) = linesT (es.take j) ++ markT es[j] ++ ⟨#[10]⟩ := by
  rw [List.take_succ_eq_append_getElem h, lines_add]
  show _ ++ (markT es[j] ++ ⟨#[10]⟩ ++ ⟨#[]⟩) = _
  rw [app_nil, ← app_assoc]
theorem lines_le : ∀ (es : List E), (∀ e ∈ es, e.p.size ≤ 16777216 ∧ e.x.size ≤ 16777216) → (linesT es).size ≤ es.length * 33554436
  | [], _ => by show 0 ≤ _; omega
  | e :: r, h => by
    have h1 := lines_le r (fun x hx => h x (List.mem_cons_of_mem _ hx))
    have h2 := h e List.mem_cons_self
    have h3 := markT_le e
    show (markT e ++ ⟨#[10]⟩ ++ linesT r).size ≤ (r.length + 1) * 33554436
    rw [ByteArray.size_append, ByteArray.size_append, Nat.add_mul]
    show (markT e).size + 1 + _ ≤ _
    omega
theorem lines_room {es : List E} (hn : es.length ≤ 32) (hz : ∀ e ∈ es, e.p.size ≤ 16777216 ∧ e.x.size ≤ 16777216) (j : Nat) : (linesT (es.take j)).size ≤ 1073741952 := by
  have h1 := lines_le (es.take j) (fun x hx => hz x (List.mem_of_mem_take hx))
  have h2 : (es.take j).length ≤ 32 := by rw [List.length_take]; omega
  have h3 := Nat.mul_le_mul_right 33554436 h2
  omega

set_option maxHeartbeats 1600000 in
set_option maxRecDepth 100000 in
theorem lines_any (w : World) (a : Option Addr) (g o cap : Nat) (es : List E) (hw : Words w) (hn : es.length ≤ 32) (hz : ∀ e ∈ es, e.p.size ≤ 16777216 ∧ e.x.size ≤ 16777216) (ha : 0 < es.length → a = some ⟨g, o, none⟩) (hE : Ents w g o es) :
    Calls Tryd.prog 52 #[.slice a es.length cap, .func (.func 53) #[] #[]] w fun r w' => r = .returned (.string (linesT es)) ∧ Below w.heap.size w w' := by
  have HE := hidE hE
  have HZ := hidE hz
  have HW := hidE hw
  clear hE hz hw
  go_enter Tryd.func52, Tryd.ntmps52
  go_wp2
  go_loopw [5, 10] (fun tv iv wl => ∃ j : Nat, j ≤ es.length ∧ iv = .int .i64 j ∧ Hid (BufB w.heap.size 5 tv (linesT (es.take j)) w wl)) (fun _ iv _ => es.length - (RowKit.intOf iv).toNat)
  case atStart => exact ⟨0, Nat.zero_le _, rfl, BufB.nil 5 (Nat.le_refl _)⟩
  case round =>
    obtain ⟨j, hj, rfl, hbj⟩ := hrel
    by_cases hlt : j < es.length
    · obtain rfl := ha (by omega)
      have HBl := hidE hbj.out.below
      obtain ⟨c0, c1, c2⟩ := (HE.out.below HBl.out) j hlt
      have hz := HZ.out es[j] (List.getElem_mem hlt)
      have HT := hidE (lines_take hlt)
      have hro := lines_room hn HZ.out j
      have hro2 := lines_room hn HZ.out (j + 1)
      obtain ⟨p, hp⟩ : ∃ p, es[j].p = p := ⟨_, rfl⟩
      obtain ⟨d, hd⟩ : ∃ d, es[j].d = d := ⟨_, rfl⟩
      obtain ⟨x, hx⟩ : ∃ x, es[j].x = x := ⟨_, rfl⟩
      have HX : es[j] = ⟨p, d, x⟩ := by rw [← hp, ← hd, ← hx]
      rw [hp] at c0 hz
      rw [hd] at c1
      rw [hx] at c2 hz
      rw [HX] at HT
      clear hp hd hx HX
      obtain ⟨S, hS⟩ : ∃ S, linesT (es.take j) = S := ⟨_, rfl⟩
      rw [hS] at hbj hro HT
      rw [HT.out] at hro2
      have hro3 : (S ++ markT ⟨p, d, x⟩).size + 1 ≤ 1073741952 := by rw [ByteArray.size_append] at hro2; exact hro2
      clear hS hro2
      have HC := hidE (appendMark_any w.heap.size _ S ⟨p, d, x⟩ w (wr.alloc (.cells #[.string p, .int .i64 d, .string x] 77)) (hbj.out.alloc _) ((HW.out.below HBl.out).alloc _) (by omega) (by show p.size ≤ _; omega) (by show x.size ≤ _; omega))
      clear hbj
      go_wp2_with (first
        | (go_at_call 53; refine HC.out.mono ?_; rintro e w1 ⟨v1, rfl, hb1⟩)
        | (at_builtin; refine bufC rfl (.tmp 17) (.tmp 18) rfl w.heap.size v1 (S ++ markT ⟨p, d, x⟩) rfl w 10 10 rfl hb1 rfl (by omega) ?_; intro v2 w2 hb2)
        | fail)
      go_roundw
      case rel => exact ⟨j + 1, by omega, by go_num, by show BufB _ _ _ _ _ _; rw [HT.out]; exact hb2⟩
      case measure => simp [RowKit.intOf]; omega
    · have hb := hbj.out
      rw [List.take_of_length_le (by omega)] at hb
      have hcv := run_convert_buf (P := Tryd.prog) hb 22 9 Tryd.underlying22 Tryd.underlying5 Tryd.underlying9
      have HBl := hidE hb.below
      clear hbj hb
      go_wp2
      go_ret
      exact ⟨rfl, HBl.out⟩

set_option maxHeartbeats 800000 in
set_option maxRecDepth 100000 in
theorem iText_any (w : World) (a : Option Addr) (g o cap : Nat) (es : List E) (hw : Words w) (hl : es.length ≤ 16777216) (hz : ∀ e ∈ es, e.p.size ≤ 16777216 ∧ e.x.size ≤ 16777216) (ha : 0 < es.length → a = some ⟨g, o, none⟩) (hE : Ents w g o es) :
    Calls Tryd.prog 16 #[.slice a es.length cap] w fun r w' => r = .returned (.string (layT es)) ∧ Below w.heap.size w w' := by
  have HO := hidE (iLayerOk_any w a g o cap es hl hz ha hE)
  have HL := hidE (fun (W : World) (hb : Below w.heap.size w W) (hn : es.length ≤ 32) => lines_any W a g o cap es (hw.below hb) hn hz ha (hE.below hb))
  clear hz hE hw ha
  cases ht : layB es with
  | true =>
    have hn : es.length ≤ 32 := by unfold layB at ht; simp only [Bool.and_eq_true, decide_eq_true_eq] at ht; first | exact ht.1 | exact ht.2
    have HE : Hid (layT es = linesT es) := by show _ = _; unfold layT; rw [if_pos ht]
    rw [ht] at HO
    clear ht
    go_enter Tryd.func16, Tryd.ntmps16
    go_wp2_with (first | (go_at_call 23; refine HO.out.mono ?_; rintro e w1 ⟨rfl, hB1⟩) | (go_at_call 52; refine (HL.out _ hB1 hn).mono ?_; rintro e w2 ⟨rfl, hB2⟩) | fail)
    go_ret
    exact ⟨retS HE.out.symm, hB1.trans (hB2.mono hB1.size)⟩
  | false =>
    have HE : Hid (layT es = ⟨#[]⟩) := by show _ = _; unfold layT; rw [if_neg (by simp [ht])]
    rw [ht] at HO
    clear ht
    go_enter Tryd.func16, Tryd.ntmps16
    go_wp2_with (first | (go_at_call 23; refine HO.out.mono ?_; rintro e w1 ⟨rfl, hB1⟩) | fail)
    go_ret
    exact ⟨retS HE.out.symm, hB1⟩

set_option maxHeartbeats 1600000 in
set_option maxRecDepth 100000 in
theorem sText_any (w : World) (a : Option Addr) (g o cap : Nat) (es : List E) (hl : es.length ≤ 16777216) (hcap : es.length ≤ cap) (hz : ∀ e ∈ es, e.p.size ≤ 16777216 ∧ e.x.size ≤ 16777216) (ha : 0 < es.length → a = some ⟨g, o, none⟩) (hE : Ents w g o es) :
    Calls Tryd.prog 18 #[.slice a es.length cap] w fun r w' => r = .returned (.string (layT es)) ∧ Below w.heap.size w w' := by
  have HO := hidE (fun (W : World) (hb : Below w.heap.size w W) => sLayerOk_any W a g o cap es hl hcap hz ha (hE.below hb))
  have HE := hidE hE
  have HZ := hidE hz
  clear hz hE hcap
  cases ht : layB es with
  | true =>
    have hn : es.length ≤ 32 := by unfold layB at ht; simp only [Bool.and_eq_true, decide_eq_true_eq] at ht; first | exact ht.1 | exact ht.2
    have HQ : Hid (layT es = linesT es) := by show _ = _; unfold layT; rw [if_pos ht]
    rw [ht] at HO
    clear ht
    go_enter Tryd.func18, Tryd.ntmps18
    go_wp2
    go_loopw [3, 4] (fun tv iv wl => ∃ j : Nat, j ≤ es.length ∧ iv = .int .i64 j ∧ tv = .string (linesT (es.take j)) ∧ Hid (Below w.heap.size w wl)) (fun _ iv _ => es.length - (RowKit.intOf iv).toNat)
    case atStart => exact ⟨0, Nat.zero_le _, rfl, rfl, Below.refl _ _⟩
    case round =>
      obtain ⟨j, hj, rfl, rfl, HB⟩ := hrel
      by_cases hlt : j < es.length
      · obtain rfl := ha (by omega)
        have hz := HZ.out es[j] (List.getElem_mem hlt)
        have HT := hidE (lines_take hlt)
        have hro := lines_room hn HZ.out j
        have hro2 := lines_room hn HZ.out (j + 1)
        have HEj := hidE (fun (W : World) (hb : Below w.heap.size w W) => (HE.out.below hb) j hlt)
        obtain ⟨p, hp⟩ : ∃ p, es[j].p = p := ⟨_, rfl⟩
        obtain ⟨d, hd⟩ : ∃ d, es[j].d = d := ⟨_, rfl⟩
        obtain ⟨x, hx⟩ : ∃ x, es[j].x = x := ⟨_, rfl⟩
        have HX : es[j] = ⟨p, d, x⟩ := by rw [← hp, ← hd, ← hx]
        rw [hp, hd, hx] at HEj
        rw [hp, hx] at hz
        rw [HX] at HT
        clear hp hd hx HX
        obtain ⟨S, hS⟩ : ∃ S, linesT (es.take j) = S := ⟨_, rfl⟩
        rw [hS] at hro HT ⊢
        rw [HT.out] at hro2
        have hro3 : (S ++ markT ⟨p, d, x⟩).size + 1 ≤ 1073741952 := by rw [ByteArray.size_append] at hro2; exact hro2
        have hro4 : S.size + (markT ⟨p, d, x⟩).size + 1 ≤ 1073741952 := by rw [ByteArray.size_append] at hro3; exact hro3
        clear hS hro2
        have HC := hidE (fun W => sMarkText_any ⟨p, d, x⟩ W (by show p.size ≤ _; omega) (by show x.size ≤ _; omega))
        go_wp2_with (first
          | (go_at_call 19; refine (HO.out _ HB.out).mono ?_; rintro e w1 ⟨rfl, hB1⟩; have HB1 := hidE (HB.out.trans (hB1.mono HB.out.size)); obtain ⟨c0, c1, c2⟩ := HEj.out _ HB1.out)
          | (go_at_call 56; refine (HC.out _).mono ?_; rintro e w2 ⟨rfl, hB2⟩; clear c0 c1 c2)
          | fail)
        go_roundw
        case rel => exact ⟨j + 1, by omega, by go_num, by rw [HT.out], HB1.out.trans (hB2.mono HB1.out.size)⟩
        case measure => simp [RowKit.intOf]; omega
      · go_wp2
        go_ret
        rw [List.take_of_length_le (by omega)]
        exact ⟨retS HQ.out.symm, HB.out⟩
  | false =>
    have HQ : Hid (layT es = ⟨#[]⟩) := by show _ = _; unfold layT; rw [if_neg (by simp [ht])]
    have hpos : 0 < es.length := by
      cases es with
      | nil => exfalso; revert ht; decide
      | cons _ _ => simp
    rw [ht] at HO
    clear ht HZ HE
    obtain rfl := ha hpos
    clear ha
    obtain ⟨n, hnl⟩ : ∃ n, es.length = n := ⟨_, rfl⟩
    rw [hnl] at HO hpos hl ⊢
    clear hnl
    go_enter Tryd.func18, Tryd.ntmps18
    go_wp2
    go_loopw [3, 4] (fun tv iv wl => iv = .int .i64 0 ∧ tv = .string ⟨#[]⟩ ∧ Hid (Below w.heap.size w wl)) (fun _ _ _ => 0)
    case atStart => exact ⟨rfl, rfl, Below.refl _ _⟩
    case round =>
      obtain ⟨rfl, rfl, HB⟩ := hrel
      have HO1 := hidE (HO.out _ HB.out)
      clear HO
      go_wp2_with (first | (go_at_call 19; refine HO1.out.mono ?_; rintro e w1 ⟨rfl, hB1⟩; have HB1 := hidE (HB.out.trans (hB1.mono HB.out.size))) | fail)
      go_ret
      exact ⟨retS HQ.out.symm, HB1.out⟩
end Go.Proofs.YtgkfhcpegdlejaaDoor.Mk

/-
  The walks of the model's reader of layers.
-/
namespace Go.Proofs.YtgkfhcpegdlejaaDoor.Mk
open Go.RowKit Go.Lib

theorem linesM_T : ∀ es : List E, linesM es = linesT es
  | [] => rfl
  | e :: r => by show markT e ++ ⟨#[10]⟩ ++ linesM r = markT e ++ ⟨#[10]⟩ ++ linesT r; rw [linesM_T r]
theorem lineM_le (l : ByteArray) : (lineM l).p.size ≤ l.size ∧ (lineM l).x.size ≤ l.size := by unfold lineM; exact part_le l
set_option maxHeartbeats 800000 in
theorem l6Kind_any (s : ByteArray) (w : World) :
    Calls Tryd.prog 61 #[.string s] w fun r w' => r = .returned (.int .i64 (kindS s)) ∧ Below w.heap.size w w' := by
  have eD : wD.toList = [100] := by rw [Lib.toList_data]; rfl
  have eX : wX.toList = [120] := by rw [Lib.toList_data]; rfl
  have eB : wB.toList = [98] := by rw [Lib.toList_data]; rfl
  by_cases h1 : s = wD
  · have hk : kindS s = 2 := by unfold kindS; rw [if_pos h1]
    rw [hk]
    have q1 := str_yes h1
    rw [eD] at q1
    obtain ⟨p1, p1'⟩ := q1
    clear h1 hk eD eX eB
    go_enter Tryd.func61, Tryd.ntmps61
    go_wp2
    go_ret
    exact ⟨rfl, Below.refl _ _⟩
  have q1 := str_no h1
  rw [eD] at q1
  obtain ⟨p1, p1'⟩ := q1
  by_cases h2 : s = wX
  · have hk : kindS s = 3 := by unfold kindS; rw [if_neg h1, if_pos h2]
    rw [hk]
    have q2 := str_yes h2
    rw [eX] at q2
    obtain ⟨p2, p2'⟩ := q2
    clear h1 h2 hk eD eX eB
    go_enter Tryd.func61, Tryd.ntmps61
    go_wp2
    go_ret
    exact ⟨rfl, Below.refl _ _⟩
  have q2 := str_no h2
  rw [eX] at q2
  obtain ⟨p2, p2'⟩ := q2
  by_cases h3 : s = wB
  · have hk : kindS s = 4 := by unfold kindS; rw [if_neg h1, if_neg h2, if_pos h3]
    rw [hk]
    have q3 := str_yes h3
    rw [eB] at q3
    obtain ⟨p3, p3'⟩ := q3
    clear h1 h2 h3 hk eD eX eB
    go_enter Tryd.func61, Tryd.ntmps61
    go_wp2
    go_ret
    exact ⟨rfl, Below.refl _ _⟩
  have q3 := str_no h3
  rw [eB] at q3
  obtain ⟨p3, p3'⟩ := q3
  have hk : kindS s = 1 := by unfold kindS; rw [if_neg h1, if_neg h2, if_neg h3]
  rw [hk]
  clear h1 h2 h3 hk eD eX eB
  go_enter Tryd.func61, Tryd.ntmps61
  go_wp2
  go_ret
  exact ⟨rfl, Below.refl _ _⟩
theorem spec_is (s : ByteArray) {n : Nat} (hn : (cut 10 s).length = n + 1) : outM s = (((cut 10 s).take n).take 33).map lineM := by
  unfold outM; rw [hn]; rfl
theorem spec_none {s : ByteArray} {n : Nat} (hn : (cut 10 s).length = n + 1) (h : ¬ ((cut 10 s).getD n ⟨#[]⟩ = ⟨#[]⟩ ∧ layB (outM s) = true ∧ linesT (outM s) = s)) : specLay s = none := by
  unfold specLay; rw [hn, if_neg]
  rintro ⟨h1, h2, h3⟩
  exact h ⟨h1, h2, by rw [← linesM_T]; exact h3⟩
theorem spec_some {s : ByteArray} {n : Nat} (hn : (cut 10 s).length = n + 1) (h1 : (cut 10 s).getD n ⟨#[]⟩ = ⟨#[]⟩) (h2 : layB (outM s) = true) (h3 : linesT (outM s) = s) : specLay s = some (outM s) := by
  unfold specLay; rw [hn, if_pos ⟨h1, h2, by rw [linesM_T]; exact h3⟩]

set_option maxHeartbeats 3200000 in
set_option maxRecDepth 100000 in
theorem sLayerRead_any (s : ByteArray) (hs : s.size ≤ 16777216) (w : World) :
    Calls Tryd.prog 22 #[.string s] w fun r w' => ∃ v, r = .returned (.tuple #[v, .bool (specLay s).isSome]) ∧ OwnE w' w.heap.size v ((specLay s).getD []) ∧ Below w.heap.size w w' := by
  obtain ⟨i0, hi, hz0, hz1, hz2⟩ := info_parts Tryd.infoE'
  have HL := hidE (l6Lines_any s hs w)
  have HN0 := hidE (fun n (hn : (cut 10 s).length = n + 1) h => spec_none hn h)
  have HN1 := hidE (fun n (hn : (cut 10 s).length = n + 1) h1 h2 h3 => spec_some hn h1 h2 h3)
  have HO := hidE (fun n (hn : (cut 10 s).length = n + 1) => spec_is s hn)
  have HCz : Hid (∀ l ∈ cut 10 s, l.size ≤ s.size) := fun l hl => cut_le 10 s l hl
  obtain ⟨cs, hcs⟩ : ∃ cs, cut 10 s = cs := ⟨_, rfl⟩
  have hcl := cut_len 10 s
  rw [hcs] at HL HN0 HN1 HO HCz hcl
  clear hcs
  go_enter Tryd.func22, Tryd.ntmps22
  go_wp2_with (first | (go_at_call 49; refine HL.out.mono ?_; rintro e w1 ⟨n, g1, cap1, hn, rfl, hL1, hB1⟩; obtain ⟨b, hb⟩ : ∃ b, decide (cs.getD n (⟨#[]⟩ : ByteArray) = ⟨#[]⟩) = b := ⟨_, rfl⟩; rw [hb]; have HBb := hidE hb; clear hb; have HL1 := hidE hL1; have HB1 := hidE hB1; have HN := hidE hn; clear hL1 hB1) | fail)
  clear HL
  have HN0' := hidE (HN0.out n hn)
  have HN1' := hidE (HN1.out n hn)
  have hOs := HO.out n hn
  clear HN0 HN1 HO
  obtain ⟨L, hL⟩ : ∃ L, outM s = L := ⟨_, rfl⟩
  rw [hL] at HN0' HN1' hOs
  clear hL
  have hLl : L.length = min 33 n := by rw [hOs, List.length_map, List.length_take, List.length_take, hn]; omega
  have hLa : ∀ j (hj : j < L.length), L[j] = lineM (cs[j]'(by omega)) := fun j hj => by
    subst hOs
    simp only [List.getElem_map, List.getElem_take]
  have HLa := hidE hLa
  have HLz : Hid (∀ e ∈ L, e.p.size ≤ 16777216 ∧ e.x.size ≤ 16777216) := fun e he => by
    obtain ⟨j, hj, rfl⟩ := List.getElem_of_mem he
    rw [hLa j hj]
    have h1 := lineM_le (cs[j]'(by omega))
    have h2 := HCz.out (cs[j]'(by omega)) (List.getElem_mem _)
    omega
  clear hLa hOs
  have hnz : n ≤ 16777216 := by omega
  go_loopw [6, 7] (fun tv iv wl => ∃ j : Nat, j ≤ L.length ∧ iv = .int .i64 j ∧ OwnE wl w1.heap.size tv (L.take j) ∧ Hid (Below w1.heap.size w1 wl)) (fun _ iv _ => L.length - (RowKit.intOf iv).toNat)
  case atStart => exact ⟨0, Nat.zero_le _, rfl, OwnE.made w1 (Nat.le_refl _), (Below.refl _ w1).alloc (Nat.le_refl _) _⟩
  case round =>
    obtain ⟨j, hj, rfl, hown, HB⟩ := hrel
    have HBw := hidE (HB1.out.trans (HB.out.mono HB1.out.size))
    by_cases hlt : j < L.length
    · have hj1 : j < n := by omega
      have hj2 : j ≤ 32 := by omega
      have c0 := (HL1.out.below HB.out) j (by omega)
      have hT : L.take (j + 1) = L.take j ++ [L[j]] := List.take_succ_eq_append_getElem hlt
      have hz := HCz.out (cs[j]'(by omega)) (List.getElem_mem _)
      rw [HLa.out j hlt] at hT
      obtain ⟨l, hl⟩ : ∃ l, cs[j]'(by omega) = l := ⟨_, rfl⟩
      rw [hl] at c0 hT hz
      clear hl
      have HT := hidE hT
      clear hT
      have hls : l.size ≤ 16777216 := by omega
      have HC := hidE (fun W => l6Ent_any l hls W)
      have hlen : (L.take j).length ≤ 1000 := by rw [List.length_take]; omega
      obtain ⟨ts, hts⟩ : ∃ ts, L.take j = ts := ⟨_, rfl⟩
      rw [hts] at hown hlen HT
      clear hts
      have hLE : lineM l = ⟨(partL l).2.1, kindS (partL l).1, (partL l).2.2⟩ := rfl
      rw [hLE] at HT
      have hp1 := part_le l
      obtain ⟨kd, hkd⟩ : ∃ x, (partL l).1 = x := ⟨_, rfl⟩
      obtain ⟨pa, hpa⟩ : ∃ x, (partL l).2.1 = x := ⟨_, rfl⟩
      obtain ⟨mo, hmo⟩ : ∃ x, (partL l).2.2 = x := ⟨_, rfl⟩
      rw [hkd, hpa, hmo] at HC HT
      rw [hpa, hmo] at hp1
      clear hkd hpa hmo hLE
      have HKd := hidE (fun W => l6Kind_any kd W)
      obtain ⟨d, hd⟩ : ∃ d, kindS kd = d := ⟨_, rfl⟩
      rw [hd] at HT HKd
      clear hd
      have hs1 := HB1.out.size
      go_wp2_with (first
        | (go_at_call 50; refine (HC.out _).mono ?_; rintro e w2 ⟨rfl, hB2⟩; have HB2 := hidE (HB.out.trans (hB2.mono HB.out.size)); have hown2 : OwnE w2 w1.heap.size _ ts := OwnE.below hown hB2; have hs2 := HB2.out.size; clear c0)
        | (go_at_call 61; refine (HKd.out _).mono ?_; rintro e w3 ⟨rfl, hB3⟩; have HB3 := hidE (HB2.out.trans (hB3.mono HB2.out.size)); have hown3 : OwnE w3 w1.heap.size _ ts := OwnE.below hown2 hB3; have hs3 := HB3.out.size)
        | (at_builtin; refine wpList_append_own _ rfl _ _ 32 rfl w1.heap.size 77 i0 _ 3 40 Tryd.underlying32 hi hz0 hz1 hz2 rfl (by decide) _ _ (rowE ts) rfl (hown3.alloc _) ⟨w3.heap.size, 0, none⟩ 1 1 (cellsE ⟨pa, d, mo⟩) rfl rfl ?y1 rowE_one' ?y2 ?y3 ?y4 ?_)
        | fail)
      case y1 => exact cells_new w3 ⟨pa, d, mo⟩
      case y2 => unfold maxLen; omega
      case y3 => omega
      case y4 => simp; omega
      intro v4 w4 hown4 hgrow4 _
      have HB4 := hidE ((HB3.out.alloc HB3.out.size _).grown hgrow4 (by simp; omega) (fun k hk => (hown3.lt k hk).1))
      have hown5 := OwnE.push hown4
      clear hown4 hgrow4 HB2 hown2 HB3 hown3
      go_wp2
      go_roundw
      case rel => exact ⟨j + 1, by omega, by go_num, by show OwnE _ _ _ _; rw [HT.out]; exact hown5, HB4⟩
      case measure => simp [RowKit.intOf]; omega
    · have hjl : j = L.length := by omega
      subst hjl
      rw [List.take_length] at hown
      have hfin : (n ≤ 33 ∧ L.length = n) ∨ (33 < n ∧ L.length = 33) := by omega
      have hL16 : L.length ≤ 33 := by omega
      clear hlt
      obtain ⟨a2, g2, cap2, rfl, ha2, hE2, hcap2⟩ := hown.ents
      have HOw := hidE hown
      have HK := hidE (sLayerOk_any wr a2 g2 0 cap2 L (by omega) hcap2 HLz.out ha2 hE2)
      have HF := hidE (fun (W : World) (h : Below wr.heap.size wr W) => sText_any W a2 g2 0 cap2 L (by omega) hcap2 HLz.out ha2 (hE2.below h))
      clear hown hE2 hcap2 HLa HLz
      cases b with
      | false =>
        have HP := hidE (HN0'.out (fun h => by rw [decide_eq_true h.1] at HBb; exact absurd HBb.out (by decide)))
        clear HN0' HN1' HBb HK HF HOw
        rcases hfin with ⟨q1, q2⟩ | ⟨q1, q2⟩
        · rw [q2]
          go_wp2
          exact bodyPost_ret (v := .tuple #[.slice (some ⟨wr.heap.size, 0, none⟩) 0 0, .bool false]) (by simp [results, Tryd.results22, go_sem]) rfl ⟨_, by rw [HP.out]; rfl, by rw [HP.out]; exact OwnE.made wr HBw.out.size, HBw.out.alloc HBw.out.size _⟩
        · rw [q2]
          go_wp2
          exact bodyPost_ret (v := .tuple #[.slice (some ⟨wr.heap.size, 0, none⟩) 0 0, .bool false]) (by simp [results, Tryd.results22, go_sem]) rfl ⟨_, by rw [HP.out]; rfl, by rw [HP.out]; exact OwnE.made wr HBw.out.size, HBw.out.alloc HBw.out.size _⟩
      | true =>
        have hb1 : cs.getD n ⟨#[]⟩ = ⟨#[]⟩ := of_decide_eq_true HBb.out
        cases htr : layB L with
        | false =>
          have HP := hidE (HN0'.out (fun h => by rw [htr] at h; exact absurd h.2.1 (by decide)))
          rw [htr] at HK
          clear HN0' HN1' HBb HF HOw htr hb1
          rcases hfin with ⟨q1, q2⟩ | ⟨q1, q2⟩
          · rw [q2] at HK ⊢
            go_wp2_with (first | (go_at_call 19; refine HK.out.mono ?_; rintro e w2 ⟨rfl, hB2⟩; have hBf := HBw.out.trans (hB2.mono HBw.out.size)) | fail)
            exact bodyPost_ret (v := .tuple #[.slice (some ⟨w2.heap.size, 0, none⟩) 0 0, .bool false]) (by simp [results, Tryd.results22, go_sem]) rfl ⟨_, by rw [HP.out]; rfl, by rw [HP.out]; exact OwnE.made w2 hBf.size, hBf.alloc hBf.size _⟩
          · rw [q2] at HK ⊢
            go_wp2_with (first | (go_at_call 19; refine HK.out.mono ?_; rintro e w2 ⟨rfl, hB2⟩; have hBf := HBw.out.trans (hB2.mono HBw.out.size)) | fail)
            exact bodyPost_ret (v := .tuple #[.slice (some ⟨w2.heap.size, 0, none⟩) 0 0, .bool false]) (by simp [results, Tryd.results22, go_sem]) rfl ⟨_, by rw [HP.out]; rfl, by rw [HP.out]; exact OwnE.made w2 hBf.size, hBf.alloc hBf.size _⟩
        | true =>
          rw [htr] at HK
          have htx : layT L = linesT L := by unfold layT; rw [if_pos htr]
          rw [htx] at HF
          clear htx
          have hst := HN1'.out hb1 htr
          have hsn := HN0'.out
          obtain ⟨tx, htx⟩ : ∃ tx, linesT L = tx := ⟨_, rfl⟩
          rw [htx] at HF hst hsn
          clear htx
          by_cases he : tx = s
          · have HP := hidE (hst he)
            obtain ⟨k1, k2⟩ := str_yes he
            clear HN0' HN1' HBb htr hb1 hst hsn he
            rcases hfin with ⟨q1, q2⟩ | ⟨q1, q2⟩
            · rw [q2] at HK HF ⊢
              go_wp2_with (first | (go_at_call 19; refine HK.out.mono ?_; rintro e w2 ⟨rfl, hB2⟩; have HB2 := hidE hB2; clear hB2) | (go_at_call 18; refine (HF.out _ HB2.out).mono ?_; rintro e w3 ⟨rfl, hB3⟩) | fail)
              have hB23 := HB2.out.trans (hB3.mono HB2.out.size)
              have hBf := HBw.out.trans (hB23.mono HBw.out.size)
              exact bodyPost_ret (v := .tuple #[.slice a2 n cap2, .bool true]) (by simp [results, Tryd.results22, go_sem]) rfl ⟨_, by rw [HP.out]; rfl, by rw [HP.out, ← q2]; exact OwnE.lower (OwnE.below HOw.out hB23) HB1.out.size, hBf⟩
            · rw [q2] at HK HF ⊢
              go_wp2_with (first | (go_at_call 19; refine HK.out.mono ?_; rintro e w2 ⟨rfl, hB2⟩; have HB2 := hidE hB2; clear hB2) | (go_at_call 18; refine (HF.out _ HB2.out).mono ?_; rintro e w3 ⟨rfl, hB3⟩) | fail)
              have hB23 := HB2.out.trans (hB3.mono HB2.out.size)
              have hBf := HBw.out.trans (hB23.mono HBw.out.size)
              exact bodyPost_ret (v := .tuple #[.slice a2 33 cap2, .bool true]) (by simp [results, Tryd.results22, go_sem]) rfl ⟨_, by rw [HP.out]; rfl, by rw [HP.out, ← q2]; exact OwnE.lower (OwnE.below HOw.out hB23) HB1.out.size, hBf⟩
          · have HP := hidE (hsn (fun h => he h.2.2))
            obtain ⟨k1, k2⟩ := str_no he
            clear HN0' HN1' HBb htr hb1 hst hsn he HOw
            rcases hfin with ⟨q1, q2⟩ | ⟨q1, q2⟩
            · rw [q2] at HK HF ⊢
              go_wp2_with (first | (go_at_call 19; refine HK.out.mono ?_; rintro e w2 ⟨rfl, hB2⟩; have HB2 := hidE hB2; clear hB2) | (go_at_call 18; refine (HF.out _ HB2.out).mono ?_; rintro e w3 ⟨rfl, hB3⟩) | fail)
              have hB23 := HB2.out.trans (hB3.mono HB2.out.size)
              have hBf := HBw.out.trans (hB23.mono HBw.out.size)
              exact bodyPost_ret (v := .tuple #[.slice (some ⟨w3.heap.size, 0, none⟩) 0 0, .bool false]) (by simp [results, Tryd.results22, go_sem]) rfl ⟨_, by rw [HP.out]; rfl, by rw [HP.out]; exact OwnE.made w3 hBf.size, hBf.alloc hBf.size _⟩
            · rw [q2] at HK HF ⊢
              go_wp2_with (first | (go_at_call 19; refine HK.out.mono ?_; rintro e w2 ⟨rfl, hB2⟩; have HB2 := hidE hB2; clear hB2) | (go_at_call 18; refine (HF.out _ HB2.out).mono ?_; rintro e w3 ⟨rfl, hB3⟩) | fail)
              have hB23 := HB2.out.trans (hB3.mono HB2.out.size)
              have hBf := HBw.out.trans (hB23.mono HBw.out.size)
              exact bodyPost_ret (v := .tuple #[.slice (some ⟨w3.heap.size, 0, none⟩) 0 0, .bool false]) (by simp [results, Tryd.results22, go_sem]) rfl ⟨_, by rw [HP.out]; rfl, by rw [HP.out]; exact OwnE.made w3 hBf.size, hBf.alloc hBf.size _⟩
end Go.Proofs.YtgkfhcpegdlejaaDoor.Mk
