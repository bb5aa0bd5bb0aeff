/-
  The walks of the text of a tree: the program's own, and the model's.
-/
import Derived.Test.YtgkfhcpegdlejaaGreatDoorHPk14
import Derived.Test.YtgkfhcpegdlejaaGreatDoorHPk16
import Derived.Test.YtgkfhcpegdlejaaGreatDoorHPk17
import Derived.Test.YtgkfhcpegdlejaaGreatDoorHPk02
import Derived.Test.YtgkfhcpegdlejaaGreatDoorHPk15
import Derived.Test.YtgkfhcpegdlejaaGreatDoorHPk04
namespace Go.Proofs.YtgkfhcpegdlejaaGreatDoor
open Go.RowKit Go.Lib

/-- A line for each. -/
def linesT : List E → ByteArray
  | [] => ⟨#[]⟩
  | e :: r => entT e ++ ⟨#[10]⟩ ++ linesT r
def treeT (es : List E) : ByteArray := if treeE es = true then linesT es else ⟨#[]⟩
theorem lines_add : ∀ (es fs : List E), linesT (es ++ fs) = linesT es ++ linesT fs
  | [], fs => by rw [List.nil_append, show linesT [] = ⟨#[]⟩ from rfl, nil_app]
  | e :: r, fs => by rw [List.cons_append]; show entT e ++ ⟨#[10]⟩ ++ linesT (r ++ fs) = entT e ++ ⟨#[10]⟩ ++ linesT r ++ linesT fs; rw [lines_add r fs, app_assoc (entT e ++ ⟨#[10]⟩)]
theorem lines_take {es : List E} {j : Nat} (h : j < es.length) : linesT (es.take (j + 1)) = linesT (es.take j) ++ entT es[j] ++ ⟨#[10]⟩ := by
  rw [List.take_succ_eq_append_getElem h, lines_add]
  show _ ++ (entT es[j] ++ ⟨#[10]⟩ ++ ⟨#[]⟩) = _
  rw [app_nil, ← app_assoc]
theorem lines_le : ∀ (es : List E), (∀ e ∈ es, e.p.size ≤ 16777216 ∧ e.x.size ≤ 16777216) → (linesT es).size ≤ es.length * 33554436
  | [], _ => by show 0 ≤ _; omega
  | e :: r, h => by
    have h1 := lines_le r (fun x hx => h x (List.mem_cons_of_mem _ hx))
    have h2 := h e List.mem_cons_self
    have h3 := entT_le e
    show (entT e ++ ⟨#[10]⟩ ++ linesT r).size ≤ (r.length + 1) * 33554436
    rw [ByteArray.size_append, ByteArray.size_append, Nat.add_mul]
    show (entT e).size + 1 + _ ≤ _
    omega
theorem lines_room {es : List E} (hn : es.length ≤ 16) (hz : ∀ e ∈ es, e.p.size ≤ 16777216 ∧ e.x.size ≤ 16777216) (j : Nat) : (linesT (es.take j)).size ≤ 1073741952 := by
  have h1 := lines_le (es.take j) (fun x hx => hz x (List.mem_of_mem_take hx))
  have h2 : (es.take j).length ≤ 32 := by rw [List.length_take]; omega
  have h3 := Nat.mul_le_mul_right 33554436 h2
  omega

set_option maxHeartbeats 1600000 in
set_option maxRecDepth 100000 in
theorem lines_any (w : World) (a : Option Addr) (g o cap : Nat) (es : List E) (hw : Words w) (hn : es.length ≤ 16) (hz : ∀ e ∈ es, e.p.size ≤ 16777216 ∧ e.x.size ≤ 16777216) (ha : 0 < es.length → a = some ⟨g, o, none⟩) (hE : Ents w g o es) :
    Calls Tryz.prog 26 #[.slice a es.length cap, .func (.func 27) #[] #[]] w fun r w' => r = .returned (.string (linesT es)) ∧ Below w.heap.size w w' := by
  have HE := hidE hE
  have HZ := hidE hz
  have HW := hidE hw
  clear hE hz hw
  go_enter Tryz.func26, Tryz.ntmps26
  go_wp2
  go_loopw [5, 10] (fun tv iv wl => ∃ j : Nat, j ≤ es.length ∧ iv = .int .i64 j ∧ Hid (BufB w.heap.size 5 tv (linesT (es.take j)) w wl)) (fun _ iv _ => es.length - (RowKit.intOf iv).toNat)
  case atStart => exact ⟨0, Nat.zero_le _, rfl, BufB.nil 5 (Nat.le_refl _)⟩
  case round =>
    obtain ⟨j, hj, rfl, hbj⟩ := hrel
    by_cases hlt : j < es.length
    · obtain rfl := ha (by omega)
      have HBl := hidE hbj.out.below
      obtain ⟨c0, c1, c2⟩ := (HE.out.below HBl.out) j hlt
      have hz := HZ.out es[j] (List.getElem_mem hlt)
      have HT := hidE (lines_take hlt)
      have hro := lines_room hn HZ.out j
      have hro2 := lines_room hn HZ.out (j + 1)
      obtain ⟨p, hp⟩ : ∃ p, es[j].p = p := ⟨_, rfl⟩
      obtain ⟨d, hd⟩ : ∃ d, es[j].d = d := ⟨_, rfl⟩
      obtain ⟨x, hx⟩ : ∃ x, es[j].x = x := ⟨_, rfl⟩
      have HX : es[j] = ⟨p, d, x⟩ := by rw [← hp, ← hd, ← hx]
      rw [hp] at c0 hz
      rw [hd] at c1
      rw [hx] at c2 hz
      rw [HX] at HT
      clear hp hd hx HX
      obtain ⟨S, hS⟩ : ∃ S, linesT (es.take j) = S := ⟨_, rfl⟩
      rw [hS] at hbj hro HT
      rw [HT.out] at hro2
      have hro3 : (S ++ entT ⟨p, d, x⟩).size + 1 ≤ 1073741952 := by rw [ByteArray.size_append] at hro2; exact hro2
      clear hS hro2
      have HC := hidE (appendEnt_any w.heap.size _ S ⟨p, d, x⟩ w (wr.alloc (.cells #[.string p, .bool d, .string x] 50)) (hbj.out.alloc _) ((HW.out.below HBl.out).alloc _) (by omega) (by show p.size ≤ _; omega) (by show x.size ≤ _; omega))
      clear hbj
      go_wp2_with (first
        | (go_at_call 27; refine HC.out.mono ?_; rintro e w1 ⟨v1, rfl, hb1⟩)
        | (at_builtin; refine bufC rfl (.tmp 17) (.tmp 18) rfl w.heap.size v1 (S ++ entT ⟨p, d, x⟩) rfl w 10 10 rfl hb1 rfl (by omega) ?_; intro v2 w2 hb2)
        | fail)
      go_roundw
      case rel => exact ⟨j + 1, by omega, by go_num, by show BufB _ _ _ _ _ _; rw [HT.out]; exact hb2⟩
      case measure => simp [RowKit.intOf]; omega
    · have hb := hbj.out
      rw [List.take_of_length_le (by omega)] at hb
      have hcv := run_convert_buf (P := Tryz.prog) hb 22 9 Tryz.underlying22 Tryz.underlying5 Tryz.underlying9
      have HBl := hidE hb.below
      clear hbj hb
      go_wp2
      go_ret
      exact ⟨rfl, HBl.out⟩

set_option maxHeartbeats 800000 in
set_option maxRecDepth 100000 in
theorem iText_any (w : World) (a : Option Addr) (g o cap : Nat) (es : List E) (ae : Int → Addr) (hErr : Errs2 w ae) (hw : Words w) (hl : es.length ≤ 16777216) (hz : ∀ e ∈ es, e.p.size ≤ 16777216 ∧ e.x.size ≤ 16777216) (ha : 0 < es.length → a = some ⟨g, o, none⟩) (hE : Ents w g o es) :
    Calls Tryz.prog 7 #[.slice a es.length cap] w fun r w' => r = .returned (.string (treeT es)) ∧ Below w.heap.size w w' := by
  have HO := hidE (iTreeOk_any w a g o cap es ae hErr hl hz ha hE)
  have HL := hidE (fun (W : World) (hb : Below w.heap.size w W) (hn : es.length ≤ 16) => lines_any W a g o cap es (hw.below hb) hn hz ha (hE.below hb))
  clear hz hE hw ha
  cases ht : treeE es with
  | true =>
    have hn : es.length ≤ 16 := by unfold treeE at ht; simp only [Bool.and_eq_true, decide_eq_true_eq] at ht; first | exact ht.1 | exact ht.2
    have HE : Hid (treeT es = linesT es) := by show _ = _; unfold treeT; rw [if_pos ht]
    rw [ht] at HO
    clear ht
    go_enter Tryz.func7, Tryz.ntmps7
    go_wp2_with (first | (go_at_call 25; refine HO.out.mono ?_; rintro e w1 ⟨rfl, hB1⟩) | (go_at_call 26; refine (HL.out _ hB1 hn).mono ?_; rintro e w2 ⟨rfl, hB2⟩) | fail)
    go_ret
    exact ⟨retS HE.out.symm, hB1.trans (hB2.mono hB1.size)⟩
  | false =>
    have HE : Hid (treeT es = ⟨#[]⟩) := by show _ = _; unfold treeT; rw [if_neg (by simp [ht])]
    rw [ht] at HO
    clear ht
    go_enter Tryz.func7, Tryz.ntmps7
    go_wp2_with (first | (go_at_call 25; refine HO.out.mono ?_; rintro e w1 ⟨rfl, hB1⟩) | fail)
    go_ret
    exact ⟨retS HE.out.symm, hB1⟩

set_option maxHeartbeats 1600000 in
set_option maxRecDepth 100000 in
theorem sText_any (w : World) (a : Option Addr) (g o cap : Nat) (es : List E) (hl : es.length ≤ 16777216) (hcap : es.length ≤ cap) (hz : ∀ e ∈ es, e.p.size ≤ 16777216 ∧ e.x.size ≤ 16777216) (ha : 0 < es.length → a = some ⟨g, o, none⟩) (hE : Ents w g o es) :
    Calls Tryz.prog 9 #[.slice a es.length cap] w fun r w' => r = .returned (.string (treeT es)) ∧ Below w.heap.size w w' := by
  have HO := hidE (fun (W : World) (hb : Below w.heap.size w W) => sTreeOk_any W a g o cap es hl hcap hz ha (hE.below hb))
  have HE := hidE hE
  have HZ := hidE hz
  clear hz hE hcap
  cases ht : treeE es with
  | true =>
    have hn : es.length ≤ 16 := by unfold treeE at ht; simp only [Bool.and_eq_true, decide_eq_true_eq] at ht; first | exact ht.1 | exact ht.2
    have HQ : Hid (treeT es = linesT es) := by show _ = _; unfold treeT; rw [if_pos ht]
    rw [ht] at HO
    clear ht
    go_enter Tryz.func9, Tryz.ntmps9
    go_wp2
    go_loopw [3, 4] (fun tv iv wl => ∃ j : Nat, j ≤ es.length ∧ iv = .int .i64 j ∧ tv = .string (linesT (es.take j)) ∧ Hid (Below w.heap.size w wl)) (fun _ iv _ => es.length - (RowKit.intOf iv).toNat)
    case atStart => exact ⟨0, Nat.zero_le _, rfl, rfl, Below.refl _ _⟩
    case round =>
      obtain ⟨j, hj, rfl, rfl, HB⟩ := hrel
      by_cases hlt : j < es.length
      · obtain rfl := ha (by omega)
        have hz := HZ.out es[j] (List.getElem_mem hlt)
        have HT := hidE (lines_take hlt)
        have hro := lines_room hn HZ.out j
        have hro2 := lines_room hn HZ.out (j + 1)
        have HEj := hidE (fun (W : World) (hb : Below w.heap.size w W) => (HE.out.below hb) j hlt)
        obtain ⟨p, hp⟩ : ∃ p, es[j].p = p := ⟨_, rfl⟩
        obtain ⟨d, hd⟩ : ∃ d, es[j].d = d := ⟨_, rfl⟩
        obtain ⟨x, hx⟩ : ∃ x, es[j].x = x := ⟨_, rfl⟩
        have HX : es[j] = ⟨p, d, x⟩ := by rw [← hp, ← hd, ← hx]
        rw [hp, hd, hx] at HEj
        rw [hp, hx] at hz
        rw [HX] at HT
        clear hp hd hx HX
        obtain ⟨S, hS⟩ : ∃ S, linesT (es.take j) = S := ⟨_, rfl⟩
        rw [hS] at hro HT ⊢
        rw [HT.out] at hro2
        have hro3 : (S ++ entT ⟨p, d, x⟩).size + 1 ≤ 1073741952 := by rw [ByteArray.size_append] at hro2; exact hro2
        have hro4 : S.size + (entT ⟨p, d, x⟩).size + 1 ≤ 1073741952 := by rw [ByteArray.size_append] at hro3; exact hro3
        clear hS hro2
        have HC := hidE (fun W => sEntText_any ⟨p, d, x⟩ W (by show p.size ≤ _; omega) (by show x.size ≤ _; omega))
        go_wp2_with (first
          | (go_at_call 18; refine (HO.out _ HB.out).mono ?_; rintro e w1 ⟨rfl, hB1⟩; have HB1 := hidE (HB.out.trans (hB1.mono HB.out.size)); obtain ⟨c0, c1, c2⟩ := HEj.out _ HB1.out)
          | (go_at_call 31; refine (HC.out _).mono ?_; rintro e w2 ⟨rfl, hB2⟩; clear c0 c1 c2)
          | fail)
        go_roundw
        case rel => exact ⟨j + 1, by omega, by go_num, by rw [HT.out], HB1.out.trans (hB2.mono HB1.out.size)⟩
        case measure => simp [RowKit.intOf]; omega
      · go_wp2
        go_ret
        rw [List.take_of_length_le (by omega)]
        exact ⟨retS HQ.out.symm, HB.out⟩
  | false =>
    have HQ : Hid (treeT es = ⟨#[]⟩) := by show _ = _; unfold treeT; rw [if_neg (by simp [ht])]
    have hpos : 0 < es.length := by
      cases es with
      | nil => exfalso; revert ht; decide
      | cons _ _ => simp
    rw [ht] at HO
    clear ht HZ HE
    obtain rfl := ha hpos
    clear ha
    obtain ⟨n, hnl⟩ : ∃ n, es.length = n := ⟨_, rfl⟩
    rw [hnl] at HO hpos hl ⊢
    clear hnl
    go_enter Tryz.func9, Tryz.ntmps9
    go_wp2
    go_loopw [3, 4] (fun tv iv wl => iv = .int .i64 0 ∧ tv = .string ⟨#[]⟩ ∧ Hid (Below w.heap.size w wl)) (fun _ _ _ => 0)
    case atStart => exact ⟨rfl, rfl, Below.refl _ _⟩
    case round =>
      obtain ⟨rfl, rfl, HB⟩ := hrel
      have HO1 := hidE (HO.out _ HB.out)
      clear HO
      go_wp2_with (first | (go_at_call 18; refine HO1.out.mono ?_; rintro e w1 ⟨rfl, hB1⟩; have HB1 := hidE (HB.out.trans (hB1.mono HB.out.size))) | fail)
      go_ret
      exact ⟨retS HQ.out.symm, HB1.out⟩
end Go.Proofs.YtgkfhcpegdlejaaGreatDoor

/-
  The walks of the model's reader of trees.
-/
namespace Go.Proofs.YtgkfhcpegdlejaaGreatDoor
open Go.RowKit Go.Lib

theorem cut_pos (c : UInt8) (s : ByteArray) : 0 < (cut c s).length := by
  have h := cut_is c s
  have h2 := split_len c (LB s) []
  rw [← h] at h2
  cases hc : cut c s with
  | nil => rw [hc] at h2; exact absurd rfl h2
  | cons _ _ => simp
theorem cut_len (c : UInt8) (s : ByteArray) : (cut c s).length ≤ s.size + 1 := by
  unfold cut cutAt
  have h1 := cutL_length c s (s.data.toList.drop 0) 0 0
  have h2 : s.data.toList.length = s.size := lb_len s
  rw [List.length_drop] at h1
  omega
theorem linesE_T : ∀ es : List E, linesE es = linesT es
  | [] => rfl
  | e :: r => by show entT e ++ ⟨#[10]⟩ ++ linesE r = entT e ++ ⟨#[10]⟩ ++ linesT r; rw [linesE_T r]
theorem lineE_le (l : ByteArray) : (lineE l).p.size ≤ l.size ∧ (lineE l).x.size ≤ l.size := by unfold lineE; exact part_le l
/-- The model's lines: where they lie. -/
def LinesAt (w : World) (g : Nat) (cs : List ByteArray) : Prop := ∀ i (h : i < cs.length), w.cell? ⟨g, i, none⟩ = some (.string cs[i])
theorem LinesAt.below {w w' : World} {g : Nat} {cs : List ByteArray} (h : LinesAt w g cs) (hb : Below w.heap.size w w') : LinesAt w' g cs := fun i hi =>
  (hb.cell (World.block_lt_of_cell? w ⟨g, i, none⟩ (h i hi))).trans (h i hi)

theorem own_cap {w : World} {base n : Nat} {v : Value} {xs : List ByteArray} (h : w.ownsRow base 9 1 v n (xs.map Value.string)) : ∀ a m cap, v = .slice a m cap → n ≤ cap := by
  rcases h.2 with ⟨rfl, e⟩ | ⟨g, cap, cur, rfl, _, _, hcap, _⟩
  · intro a m cap q; omega
  · intro a m c q; injection q with _ _ q; omega

theorem spec_is (s : ByteArray) {n : Nat} (hn : (cut 10 s).length = n + 1) : outE s = (((cut 10 s).take n).take 17).map lineE := by
  unfold outE; rw [hn]; rfl
theorem spec_none {s : ByteArray} {n : Nat} (hn : (cut 10 s).length = n + 1) (h : ¬ ((cut 10 s).getD n ⟨#[]⟩ = ⟨#[]⟩ ∧ treeE (outE s) = true ∧ linesT (outE s) = s)) : specTree s = none := by
  unfold specTree; rw [hn, if_neg]
  rintro ⟨h1, h2, h3⟩
  exact h ⟨h1, h2, by rw [← linesE_T]; exact h3⟩
theorem spec_some {s : ByteArray} {n : Nat} (hn : (cut 10 s).length = n + 1) (h1 : (cut 10 s).getD n ⟨#[]⟩ = ⟨#[]⟩) (h2 : treeE (outE s) = true) (h3 : linesT (outE s) = s) : specTree s = some (outE s) := by
  unfold specTree; rw [hn, if_pos ⟨h1, h2, by rw [linesE_T]; exact h3⟩]

end Go.Proofs.YtgkfhcpegdlejaaGreatDoor
