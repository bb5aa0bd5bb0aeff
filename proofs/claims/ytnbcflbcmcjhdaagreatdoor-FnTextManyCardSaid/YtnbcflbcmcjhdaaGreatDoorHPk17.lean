/-
  The walks of the text of a tree: the program's own, and the model's.
-/
import Derived.Test.YtnbcflbcmcjhdaaGreatDoorHPk05
import Derived.Test.YtnbcflbcmcjhdaaGreatDoorHPk14
import Derived.Test.YtnbcflbcmcjhdaaGreatDoorHPk16
import Derived.Test.YtnbcflbcmcjhdaaGreatDoorHPk10
namespace Go.Proofs.YtnbcflbcmcjhdaaGreatDoor
open Go.RowKit Go.Lib

/-- A line for each. -/
def linesT : List E → ByteArray
  | [] => ⟨#[]⟩
  | e :: r => entT e ++ ⟨#[10]⟩ ++ linesT r
def treeT (es : List E) : ByteArray := if treeE es = true then linesT es else ⟨#[]⟩
theorem lines_add : ∀ (es fs : List E), linesT (es ++ fs) = linesT es ++ linesT fs
  | [], fs => by rw [List.nil_append, show linesT [] = ⟨#[]⟩ from rfl, nil_app]
  | e :: r, fs => by rw [List.cons_append]; show entT e ++ ⟨#[10]⟩ ++ linesT (r ++ fs) = entT e ++ ⟨#[10]⟩ ++ linesT r ++ linesT fs; rw [lines_add r fs, app_assoc (entT e ++ ⟨#[10]⟩)]
theorem lines_take {es : List E} {j : Nat} (h : j < es.length) : linesT (es.take (j + 1)) = linesT (es.take j) ++ entT es[j] ++ ⟨#[10]⟩ := by
  rw [List.take_succ_eq_append_getElem h, lines_add]
  show _ ++ (entT es[j] ++ ⟨#[10]⟩ ++ ⟨#[]⟩) = _
  rw [app_nil, ← app_assoc]
theorem lines_le : ∀ (es : List E), (∀ e ∈ es, e.p.size ≤ 16777216 ∧ e.x.size ≤ 16777216) → (linesT es).size ≤ es.length * 33554436
  | [], _ => by show 0 ≤ _; omega
  | e :: r, h => by
    have h1 := lines_le r (fun x hx => h x (List.mem_cons_of_mem _ hx))
    have h2 := h e List.mem_cons_self
    have h3 := entT_le e
    show (entT e ++ ⟨#[10]⟩ ++ linesT r).size ≤ (r.length + 1) * 33554436
    rw [ByteArray.size_append, ByteArray.size_append, Nat.add_mul]
    show (entT e).size + 1 + _ ≤ _
    omega
theorem lines_room {es : List E} (hn : es.length ≤ 16) (hz : ∀ e ∈ es, e.p.size ≤ 16777216 ∧ e.x.size ≤ 16777216) (j : Nat) : (linesT (es.take j)).size ≤ 1073741952 := by
  have h1 := lines_le (es.take j) (fun x hx => hz x (List.mem_of_mem_take hx))
  have h2 : (es.take j).length ≤ 32 := by rw [List.length_take]; omega
  have h3 := Nat.mul_le_mul_right 33554436 h2
  omega

set_option maxHeartbeats 1600000 in
set_option maxRecDepth 100000 in
theorem lines_any (w : World) (a : Option Addr) (g o cap : Nat) (es : List E) (hw : Words w) (hn : es.length ≤ 16) (hz : ∀ e ∈ es, e.p.size ≤ 16777216 ∧ e.x.size ≤ 16777216) (ha : 0 < es.length → a = some ⟨g, o, none⟩) (hE : Ents w g o es) :
    Calls Tryz.prog 15 #[.slice a es.length cap, .func (.func 16) #[] #[]] w fun r w' => r = .returned (.string (linesT es)) ∧ Below w.heap.size w w' := by
  have HE := hidE hE
  have HZ := hidE hz
  have HW := hidE hw
  clear hE hz hw
  go_enter Tryz.func15, Tryz.ntmps15
  go_wp2
  go_loopw [5, 10] (fun tv iv wl => ∃ j : Nat, j ≤ es.length ∧ iv = .int .i64 j ∧ Hid (BufB w.heap.size 5 tv (linesT (es.take j)) w wl)) (fun _ iv _ => es.length - (RowKit.intOf iv).toNat)
  case atStart => exact ⟨0, Nat.zero_le _, rfl, BufB.nil 5 (Nat.le_refl _)⟩
  case round =>
    obtain ⟨j, hj, rfl, hbj⟩ := hrel
    by_cases hlt : j < es.length
    · obtain rfl := ha (by omega)
      have HBl := hidE hbj.out.below
      obtain ⟨c0, c1, c2⟩ := (HE.out.below HBl.out) j hlt
      have hz := HZ.out es[j] (List.getElem_mem hlt)
      have HT := hidE (lines_take hlt)
      have hro := lines_room hn HZ.out j
      have hro2 := lines_room hn HZ.out (j + 1)
      obtain ⟨p, hp⟩ : ∃ p, es[j].p = p := ⟨_, rfl⟩
      obtain ⟨d, hd⟩ : ∃ d, es[j].d = d := ⟨_, rfl⟩
      obtain ⟨x, hx⟩ : ∃ x, es[j].x = x := ⟨_, rfl⟩
      have HX : es[j] = ⟨p, d, x⟩ := by rw [← hp, ← hd, ← hx]
      rw [hp] at c0 hz
      rw [hd] at c1
      rw [hx] at c2 hz
      rw [HX] at HT
      clear hp hd hx HX
      obtain ⟨S, hS⟩ : ∃ S, linesT (es.take j) = S := ⟨_, rfl⟩
      rw [hS] at hbj hro HT
      rw [HT.out] at hro2
      have hro3 : (S ++ entT ⟨p, d, x⟩).size + 1 ≤ 1073741952 := by rw [ByteArray.size_append] at hro2; exact hro2
      clear hS hro2
      have HC := hidE (appendEnt_any w.heap.size _ S ⟨p, d, x⟩ w (wr.alloc (.cells #[.string p, .bool d, .string x] 34)) (hbj.out.alloc _) ((HW.out.below HBl.out).alloc _) (by omega) (by show p.size ≤ _; omega) (by show x.size ≤ _; omega))
      clear hbj
      go_wp2_with (first
        | (go_at_call 16; refine HC.out.mono ?_; rintro e w1 ⟨v1, rfl, hb1⟩)
        | (at_builtin; refine bufC rfl (.tmp 17) (.tmp 18) rfl w.heap.size v1 (S ++ entT ⟨p, d, x⟩) rfl w 10 10 rfl hb1 rfl (by omega) ?_; intro v2 w2 hb2)
        | fail)
      go_roundw
      case rel => exact ⟨j + 1, by omega, by go_num, by show BufB _ _ _ _ _ _; rw [HT.out]; exact hb2⟩
      case measure => simp [RowKit.intOf]; omega
    · have hb := hbj.out
      rw [List.take_of_length_le (by omega)] at hb
      have hcv := run_convert_buf (P := Tryz.prog) hb 22 9 Tryz.underlying22 Tryz.underlying5 Tryz.underlying9
      have HBl := hidE hb.below
      clear hbj hb
      go_wp2
      go_ret
      exact ⟨rfl, HBl.out⟩

set_option maxHeartbeats 800000 in
set_option maxRecDepth 100000 in
theorem iText_any (w : World) (a : Option Addr) (g o cap : Nat) (es : List E) (ae : Int → Addr) (hErr : Errs2 w ae) (hw : Words w) (hl : es.length ≤ 16777216) (hz : ∀ e ∈ es, e.p.size ≤ 16777216 ∧ e.x.size ≤ 16777216) (ha : 0 < es.length → a = some ⟨g, o, none⟩) (hE : Ents w g o es) :
    Calls Tryz.prog 6 #[.slice a es.length cap] w fun r w' => r = .returned (.string (treeT es)) ∧ Below w.heap.size w w' := by
  have HO := hidE (iTreeOk_any w a g o cap es ae hErr hl hz ha hE)
  have HL := hidE (fun (W : World) (hb : Below w.heap.size w W) (hn : es.length ≤ 16) => lines_any W a g o cap es (hw.below hb) hn hz ha (hE.below hb))
  clear hz hE hw ha
  cases ht : treeE es with
  | true =>
    have hn : es.length ≤ 16 := by unfold treeE at ht; simp only [Bool.and_eq_true, decide_eq_true_eq] at ht; first | exact ht.1 | exact ht.2
    have HE : Hid (treeT es = linesT es) := by show _ = _; unfold treeT; rw [if_pos ht]
    rw [ht] at HO
    clear ht
    go_enter Tryz.func6, Tryz.ntmps6
    go_wp2_with (first | (go_at_call 14; refine HO.out.mono ?_; rintro e w1 ⟨rfl, hB1⟩) | (go_at_call 15; refine (HL.out _ hB1 hn).mono ?_; rintro e w2 ⟨rfl, hB2⟩) | fail)
    go_ret
    exact ⟨retS HE.out.symm, hB1.trans (hB2.mono hB1.size)⟩
  | false =>
    have HE : Hid (treeT es = ⟨#[]⟩) := by show _ = _; unfold treeT; rw [if_neg (by simp [ht])]
    rw [ht] at HO
    clear ht
    go_enter Tryz.func6, Tryz.ntmps6
    go_wp2_with (first | (go_at_call 14; refine HO.out.mono ?_; rintro e w1 ⟨rfl, hB1⟩) | fail)
    go_ret
    exact ⟨retS HE.out.symm, hB1⟩

set_option maxHeartbeats 1600000 in
set_option maxRecDepth 100000 in
theorem sText_any (w : World) (a : Option Addr) (g o cap : Nat) (es : List E) (hl : es.length ≤ 16777216) (hcap : es.length ≤ cap) (hz : ∀ e ∈ es, e.p.size ≤ 16777216 ∧ e.x.size ≤ 16777216) (ha : 0 < es.length → a = some ⟨g, o, none⟩) (hE : Ents w g o es) :
    Calls Tryz.prog 8 #[.slice a es.length cap] w fun r w' => r = .returned (.string (treeT es)) ∧ Below w.heap.size w w' := by
  have HO := hidE (fun (W : World) (hb : Below w.heap.size w W) => sTreeOk_any W a g o cap es hl hcap hz ha (hE.below hb))
  have HE := hidE hE
  have HZ := hidE hz
  clear hz hE hcap
  cases ht : treeE es with
  | true =>
    have hn : es.length ≤ 16 := by unfold treeE at ht; simp only [Bool.and_eq_true, decide_eq_true_eq] at ht; first | exact ht.1 | exact ht.2
    have HQ : Hid (treeT es = linesT es) := by show _ = _; unfold treeT; rw [if_pos ht]
    rw [ht] at HO
    clear ht
    go_enter Tryz.func8, Tryz.ntmps8
    go_wp2
    go_loopw [3, 4] (fun tv iv wl => ∃ j : Nat, j ≤ es.length ∧ iv = .int .i64 j ∧ tv = .string (linesT (es.take j)) ∧ Hid (Below w.heap.size w wl)) (fun _ iv _ => es.length - (RowKit.intOf iv).toNat)
    case atStart => exact ⟨0, Nat.zero_le _, rfl, rfl, Below.refl _ _⟩
    case round =>
      obtain ⟨j, hj, rfl, rfl, HB⟩ := hrel
      by_cases hlt : j < es.length
      · obtain rfl := ha (by omega)
        have hz := HZ.out es[j] (List.getElem_mem hlt)
        have HT := hidE (lines_take hlt)
        have hro := lines_room hn HZ.out j
        have hro2 := lines_room hn HZ.out (j + 1)
        have HEj := hidE (fun (W : World) (hb : Below w.heap.size w W) => (HE.out.below hb) j hlt)
        obtain ⟨p, hp⟩ : ∃ p, es[j].p = p := ⟨_, rfl⟩
        obtain ⟨d, hd⟩ : ∃ d, es[j].d = d := ⟨_, rfl⟩
        obtain ⟨x, hx⟩ : ∃ x, es[j].x = x := ⟨_, rfl⟩
        have HX : es[j] = ⟨p, d, x⟩ := by rw [← hp, ← hd, ← hx]
        rw [hp, hd, hx] at HEj
        rw [hp, hx] at hz
        rw [HX] at HT
        clear hp hd hx HX
        obtain ⟨S, hS⟩ : ∃ S, linesT (es.take j) = S := ⟨_, rfl⟩
        rw [hS] at hro HT ⊢
        rw [HT.out] at hro2
        have hro3 : (S ++ entT ⟨p, d, x⟩).size + 1 ≤ 1073741952 := by rw [ByteArray.size_append] at hro2; exact hro2
        have hro4 : S.size + (entT ⟨p, d, x⟩).size + 1 ≤ 1073741952 := by rw [ByteArray.size_append] at hro3; exact hro3
        clear hS hro2
        have HC := hidE (fun W => sEntText_any ⟨p, d, x⟩ W (by show p.size ≤ _; omega) (by show x.size ≤ _; omega))
        go_wp2_with (first
          | (go_at_call 10; refine (HO.out _ HB.out).mono ?_; rintro e w1 ⟨rfl, hB1⟩; have HB1 := hidE (HB.out.trans (hB1.mono HB.out.size)); obtain ⟨c0, c1, c2⟩ := HEj.out _ HB1.out)
          | (go_at_call 20; refine (HC.out _).mono ?_; rintro e w2 ⟨rfl, hB2⟩; clear c0 c1 c2)
          | fail)
        go_roundw
        case rel => exact ⟨j + 1, by omega, by go_num, by rw [HT.out], HB1.out.trans (hB2.mono HB1.out.size)⟩
        case measure => simp [RowKit.intOf]; omega
      · go_wp2
        go_ret
        rw [List.take_of_length_le (by omega)]
        exact ⟨retS HQ.out.symm, HB.out⟩
  | false =>
    have HQ : Hid (treeT es = ⟨#[]⟩) := by show _ = _; unfold treeT; rw [if_neg (by simp [ht])]
    have hpos : 0 < es.length := by
      cases es with
      | nil => exfalso; revert ht; decide
      | cons _ _ => simp
    rw [ht] at HO
    clear ht HZ HE
    obtain rfl := ha hpos
    clear ha
    obtain ⟨n, hnl⟩ : ∃ n, es.length = n := ⟨_, rfl⟩
    rw [hnl] at HO hpos hl ⊢
    clear hnl
    go_enter Tryz.func8, Tryz.ntmps8
    go_wp2
    go_loopw [3, 4] (fun tv iv wl => iv = .int .i64 0 ∧ tv = .string ⟨#[]⟩ ∧ Hid (Below w.heap.size w wl)) (fun _ _ _ => 0)
    case atStart => exact ⟨rfl, rfl, Below.refl _ _⟩
    case round =>
      obtain ⟨rfl, rfl, HB⟩ := hrel
      have HO1 := hidE (HO.out _ HB.out)
      clear HO
      go_wp2_with (first | (go_at_call 10; refine HO1.out.mono ?_; rintro e w1 ⟨rfl, hB1⟩; have HB1 := hidE (HB.out.trans (hB1.mono HB.out.size))) | fail)
      go_ret
      exact ⟨retS HQ.out.symm, HB1.out⟩
end Go.Proofs.YtnbcflbcmcjhdaaGreatDoor

/-
  The walks of the text of a layer: the program's own, and the model's.
-/
namespace Go.Proofs.YtnbcflbcmcjhdaaGreatDoor.Mk
open Go.RowKit Go.Lib

/-- A line for each. -/
def linesT : List E → ByteArray
  | [] => ⟨#[]⟩
  | e :: r => markT e ++ ⟨#[10]⟩ ++ linesT r
def layT (es : List E) : ByteArray := if layB es = true then linesT es else ⟨#[]⟩
theorem lines_add : ∀ (es fs : List E), linesT (es ++ fs) = linesT es ++ linesT fs
  | [], fs => by rw [List.nil_append, show linesT [] = ⟨#[]⟩ from rfl, nil_app]
  | e :: r, fs => by rw [List.cons_append]; show markT e ++ ⟨#[10]⟩ ++ linesT (r ++ fs) = markT e ++ ⟨#[10]⟩ ++ linesT r ++ linesT fs; rw [lines_add r fs, app_assoc (markT e ++ ⟨#[10]⟩)]
theorem lines_take {es : List E} {j : Nat} (h : j < es.length) : linesT (es.take (j + 1)) = linesT (es.take j) ++ markT es[j] ++ ⟨#[10]⟩ := by
  rw [List.take_succ_eq_append_getElem h, lines_add]
  show _ ++ (markT es[j] ++ ⟨#[10]⟩ ++ ⟨#[]⟩) = _
  rw [app_nil, ← app_assoc]
theorem lines_le : ∀ (es : List E), (∀ e ∈ es, e.p.size ≤ 16777216 ∧ e.x.size ≤ 16777216) → (linesT es).size ≤ es.length * 33554436
  | [], _ => by show 0 ≤ _; omega
  | e :: r, h => by
    have h1 := lines_le r (fun x hx => h x (List.mem_cons_of_mem _ hx))
    have h2 := h e List.mem_cons_self
    have h3 := markT_le e
    show (markT e ++ ⟨#[10]⟩ ++ linesT r).size ≤ (r.length + 1) * 33554436
    rw [ByteArray.size_append, ByteArray.size_append, Nat.add_mul]
    show (markT e).size + 1 + _ ≤ _
    omega
theorem lines_room {es : List E} (hn : es.length ≤ 32) (hz : ∀ e ∈ es, e.p.size ≤ 16777216 ∧ e.x.size ≤ 16777216) (j : Nat) : (linesT (es.take j)).size ≤ 1073741952 := by
  have h1 := lines_le (es.take j) (fun x hx => hz x (List.mem_of_mem_take hx))
  have h2 : (es.take j).length ≤ 32 := by rw [List.length_take]; omega
  have h3 := Nat.mul_le_mul_right 33554436 h2
  omega

set_option maxHeartbeats 1600000 in
set_option maxRecDepth 100000 in
theorem lines_any (w : World) (a : Option Addr) (g o cap : Nat) (es : List E) (hw : Words w) (hn : es.length ≤ 32) (hz : ∀ e ∈ es, e.p.size ≤ 16777216 ∧ e.x.size ≤ 16777216) (ha : 0 < es.length → a = some ⟨g, o, none⟩) (hE : Ents w g o es) :
    Calls Tryz.prog 18 #[.slice a es.length cap, .func (.func 19) #[] #[]] w fun r w' => r = .returned (.string (linesT es)) ∧ Below w.heap.size w w' := by
  have HE := hidE hE
  have HZ := hidE hz
  have HW := hidE hw
  clear hE hz hw
  go_enter Tryz.func18, Tryz.ntmps18
  go_wp2
  go_loopw [5, 10] (fun tv iv wl => ∃ j : Nat, j ≤ es.length ∧ iv = .int .i64 j ∧ Hid (BufB w.heap.size 5 tv (linesT (es.take j)) w wl)) (fun _ iv _ => es.length - (RowKit.intOf iv).toNat)
  case atStart => exact ⟨0, Nat.zero_le _, rfl, BufB.nil 5 (Nat.le_refl _)⟩
  case round =>
    obtain ⟨j, hj, rfl, hbj⟩ := hrel
    by_cases hlt : j < es.length
    · obtain rfl := ha (by omega)
      have HBl := hidE hbj.out.below
      obtain ⟨c0, c1, c2⟩ := (HE.out.below HBl.out) j hlt
      have hz := HZ.out es[j] (List.getElem_mem hlt)
      have HT := hidE (lines_take hlt)
      have hro := lines_room hn HZ.out j
      have hro2 := lines_room hn HZ.out (j + 1)
      obtain ⟨p, hp⟩ : ∃ p, es[j].p = p := ⟨_, rfl⟩
      obtain ⟨d, hd⟩ : ∃ d, es[j].d = d := ⟨_, rfl⟩
      obtain ⟨x, hx⟩ : ∃ x, es[j].x = x := ⟨_, rfl⟩
      have HX : es[j] = ⟨p, d, x⟩ := by rw [← hp, ← hd, ← hx]
      rw [hp] at c0 hz
      rw [hd] at c1
      rw [hx] at c2 hz
      rw [HX] at HT
      clear hp hd hx HX
      obtain ⟨S, hS⟩ : ∃ S, linesT (es.take j) = S := ⟨_, rfl⟩
      rw [hS] at hbj hro HT
      rw [HT.out] at hro2
      have hro3 : (S ++ markT ⟨p, d, x⟩).size + 1 ≤ 1073741952 := by rw [ByteArray.size_append] at hro2; exact hro2
      clear hS hro2
      have HC := hidE (appendMark_any w.heap.size _ S ⟨p, d, x⟩ w (wr.alloc (.cells #[.string p, .int .i64 d, .string x] 38)) (hbj.out.alloc _) ((HW.out.below HBl.out).alloc _) (by omega) (by show p.size ≤ _; omega) (by show x.size ≤ _; omega))
      clear hbj
      go_wp2_with (first
        | (go_at_call 19; refine HC.out.mono ?_; rintro e w1 ⟨v1, rfl, hb1⟩)
        | (at_builtin; refine bufC rfl (.tmp 17) (.tmp 18) rfl w.heap.size v1 (S ++ markT ⟨p, d, x⟩) rfl w 10 10 rfl hb1 rfl (by omega) ?_; intro v2 w2 hb2)
        | fail)
      go_roundw
      case rel => exact ⟨j + 1, by omega, by go_num, by show BufB _ _ _ _ _ _; rw [HT.out]; exact hb2⟩
      case measure => simp [RowKit.intOf]; omega
    · have hb := hbj.out
      rw [List.take_of_length_le (by omega)] at hb
      have hcv := run_convert_buf (P := Tryz.prog) hb 22 9 Tryz.underlying22 Tryz.underlying5 Tryz.underlying9
      have HBl := hidE hb.below
      clear hbj hb
      go_wp2
      go_ret
      exact ⟨rfl, HBl.out⟩

set_option maxHeartbeats 800000 in
set_option maxRecDepth 100000 in
theorem iText_any (w : World) (a : Option Addr) (g o cap : Nat) (es : List E) (hw : Words w) (hl : es.length ≤ 16777216) (hz : ∀ e ∈ es, e.p.size ≤ 16777216 ∧ e.x.size ≤ 16777216) (ha : 0 < es.length → a = some ⟨g, o, none⟩) (hE : Ents w g o es) :
    Calls Tryz.prog 7 #[.slice a es.length cap] w fun r w' => r = .returned (.string (layT es)) ∧ Below w.heap.size w w' := by
  have HO := hidE (iLayerOk_any w a g o cap es hl hz ha hE)
  have HL := hidE (fun (W : World) (hb : Below w.heap.size w W) (hn : es.length ≤ 32) => lines_any W a g o cap es (hw.below hb) hn hz ha (hE.below hb))
  clear hz hE hw ha
  cases ht : layB es with
  | true =>
    have hn : es.length ≤ 32 := by unfold layB at ht; simp only [Bool.and_eq_true, decide_eq_true_eq] at ht; first | exact ht.1 | exact ht.2
    have HE : Hid (layT es = linesT es) := by show _ = _; unfold layT; rw [if_pos ht]
    rw [ht] at HO
    clear ht
    go_enter Tryz.func7, Tryz.ntmps7
    go_wp2_with (first | (go_at_call 17; refine HO.out.mono ?_; rintro e w1 ⟨rfl, hB1⟩) | (go_at_call 18; refine (HL.out _ hB1 hn).mono ?_; rintro e w2 ⟨rfl, hB2⟩) | fail)
    go_ret
    exact ⟨retS HE.out.symm, hB1.trans (hB2.mono hB1.size)⟩
  | false =>
    have HE : Hid (layT es = ⟨#[]⟩) := by show _ = _; unfold layT; rw [if_neg (by simp [ht])]
    rw [ht] at HO
    clear ht
    go_enter Tryz.func7, Tryz.ntmps7
    go_wp2_with (first | (go_at_call 17; refine HO.out.mono ?_; rintro e w1 ⟨rfl, hB1⟩) | fail)
    go_ret
    exact ⟨retS HE.out.symm, hB1⟩

set_option maxHeartbeats 1600000 in
set_option maxRecDepth 100000 in
theorem sText_any (w : World) (a : Option Addr) (g o cap : Nat) (es : List E) (hl : es.length ≤ 16777216) (hcap : es.length ≤ cap) (hz : ∀ e ∈ es, e.p.size ≤ 16777216 ∧ e.x.size ≤ 16777216) (ha : 0 < es.length → a = some ⟨g, o, none⟩) (hE : Ents w g o es) :
    Calls Tryz.prog 9 #[.slice a es.length cap] w fun r w' => r = .returned (.string (layT es)) ∧ Below w.heap.size w w' := by
  have HO := hidE (fun (W : World) (hb : Below w.heap.size w W) => sLayerOk_any W a g o cap es hl hcap hz ha (hE.below hb))
  have HE := hidE hE
  have HZ := hidE hz
  clear hz hE hcap
  cases ht : layB es with
  | true =>
    have hn : es.length ≤ 32 := by unfold layB at ht; simp only [Bool.and_eq_true, decide_eq_true_eq] at ht; first | exact ht.1 | exact ht.2
    have HQ : Hid (layT es = linesT es) := by show _ = _; unfold layT; rw [if_pos ht]
    rw [ht] at HO
    clear ht
    go_enter Tryz.func9, Tryz.ntmps9
    go_wp2
    go_loopw [3, 4] (fun tv iv wl => ∃ j : Nat, j ≤ es.length ∧ iv = .int .i64 j ∧ tv = .string (linesT (es.take j)) ∧ Hid (Below w.heap.size w wl)) (fun _ iv _ => es.length - (RowKit.intOf iv).toNat)
    case atStart => exact ⟨0, Nat.zero_le _, rfl, rfl, Below.refl _ _⟩
    case round =>
      obtain ⟨j, hj, rfl, rfl, HB⟩ := hrel
      by_cases hlt : j < es.length
      · obtain rfl := ha (by omega)
        have hz := HZ.out es[j] (List.getElem_mem hlt)
        have HT := hidE (lines_take hlt)
        have hro := lines_room hn HZ.out j
        have hro2 := lines_room hn HZ.out (j + 1)
        have HEj := hidE (fun (W : World) (hb : Below w.heap.size w W) => (HE.out.below hb) j hlt)
        obtain ⟨p, hp⟩ : ∃ p, es[j].p = p := ⟨_, rfl⟩
        obtain ⟨d, hd⟩ : ∃ d, es[j].d = d := ⟨_, rfl⟩
        obtain ⟨x, hx⟩ : ∃ x, es[j].x = x := ⟨_, rfl⟩
        have HX : es[j] = ⟨p, d, x⟩ := by rw [← hp, ← hd, ← hx]
        rw [hp, hd, hx] at HEj
        rw [hp, hx] at hz
        rw [HX] at HT
        clear hp hd hx HX
        obtain ⟨S, hS⟩ : ∃ S, linesT (es.take j) = S := ⟨_, rfl⟩
        rw [hS] at hro HT ⊢
        rw [HT.out] at hro2
        have hro3 : (S ++ markT ⟨p, d, x⟩).size + 1 ≤ 1073741952 := by rw [ByteArray.size_append] at hro2; exact hro2
        have hro4 : S.size + (markT ⟨p, d, x⟩).size + 1 ≤ 1073741952 := by rw [ByteArray.size_append] at hro3; exact hro3
        clear hS hro2
        have HC := hidE (fun W => sMarkText_any ⟨p, d, x⟩ W (by show p.size ≤ _; omega) (by show x.size ≤ _; omega))
        go_wp2_with (first
          | (go_at_call 11; refine (HO.out _ HB.out).mono ?_; rintro e w1 ⟨rfl, hB1⟩; have HB1 := hidE (HB.out.trans (hB1.mono HB.out.size)); obtain ⟨c0, c1, c2⟩ := HEj.out _ HB1.out)
          | (go_at_call 21; refine (HC.out _).mono ?_; rintro e w2 ⟨rfl, hB2⟩; clear c0 c1 c2)
          | fail)
        go_roundw
        case rel => exact ⟨j + 1, by omega, by go_num, by rw [HT.out], HB1.out.trans (hB2.mono HB1.out.size)⟩
        case measure => simp [RowKit.intOf]; omega
      · go_wp2
        go_ret
        rw [List.take_of_length_le (by omega)]
        exact ⟨retS HQ.out.symm, HB.out⟩
  | false =>
    have HQ : Hid (layT es = ⟨#[]⟩) := by show _ = _; unfold layT; rw [if_neg (by simp [ht])]
    have hpos : 0 < es.length := by
      cases es with
      | nil => exfalso; revert ht; decide
      | cons _ _ => simp
    rw [ht] at HO
    clear ht HZ HE
    obtain rfl := ha hpos
    clear ha
    obtain ⟨n, hnl⟩ : ∃ n, es.length = n := ⟨_, rfl⟩
    rw [hnl] at HO hpos hl ⊢
    clear hnl
    go_enter Tryz.func9, Tryz.ntmps9
    go_wp2
    go_loopw [3, 4] (fun tv iv wl => iv = .int .i64 0 ∧ tv = .string ⟨#[]⟩ ∧ Hid (Below w.heap.size w wl)) (fun _ _ _ => 0)
    case atStart => exact ⟨rfl, rfl, Below.refl _ _⟩
    case round =>
      obtain ⟨rfl, rfl, HB⟩ := hrel
      have HO1 := hidE (HO.out _ HB.out)
      clear HO
      go_wp2_with (first | (go_at_call 11; refine HO1.out.mono ?_; rintro e w1 ⟨rfl, hB1⟩; have HB1 := hidE (HB.out.trans (hB1.mono HB.out.size))) | fail)
      go_ret
      exact ⟨retS HQ.out.symm, HB1.out⟩
end Go.Proofs.YtnbcflbcmcjhdaaGreatDoor.Mk

/-
  How many lines a text has.
-/
namespace Go.Proofs.YtnbcflbcmcjhdaaGreatDoor

def no10 (s : ByteArray) : Prop := (LB s).count 10 = 0
theorem word_no10 {s : ByteArray} (h : wordL (LB s)) : no10 s := List.count_eq_zero.2 (fun hm => (h.2 10 hm).2 rfl)
theorem no10_empty {s : ByteArray} (h : s.size = 0) : no10 s := by unfold no10; rw [lb_nil.2 h]; rfl
theorem count_add (a b : ByteArray) : (LB (a ++ b)).count 10 = (LB a).count 10 + (LB b).count 10 := by rw [lb_app, List.count_append]
theorem data_no10 {x : ByteArray} (h : dataB x = true) : no10 x := by
  by_cases h0 : x.size = 0
  · exact no10_empty h0
  · exact word_no10 (data_word h h0)
theorem line_no10 (c : UInt8) (hc : c ≠ 10) {p : ByteArray} (hp : no10 p) : (LB (lineT ⟨#[c]⟩ p [])).count 10 = 0 := by
  rw [lineT_nil, count_add, count_add, hp]
  have h1 : (LB (⟨#[c]⟩ : ByteArray)).count 10 = 0 := by show [c].count 10 = 0; rw [List.count_eq_zero]; simpa using fun e => hc e.symm
  rw [h1]; rfl
theorem ent_no10 {e : E} (hp : no10 e.p) (hx : no10 e.x) : (LB (entT e)).count 10 = 0 := by
  cases h : e.d with
  | true => rw [entT_dir h, count_add, hp]; rfl
  | false =>
    by_cases h0 : e.x.size = 0
    · rw [entT_bare h h0, count_add, hp]; rfl
    · rw [entT_file h h0, count_add, count_add, count_add, hp, hx]; rfl
theorem lines_count : ∀ (es : List E), (∀ e ∈ es, no10 e.p ∧ no10 e.x) → (LB (linesT es)).count 10 = es.length
  | [], _ => rfl
  | e :: r, h => by
    have h1 := lines_count r (fun x hx => h x (List.mem_cons_of_mem _ hx))
    have h2 := h e List.mem_cons_self
    show (LB (entT e ++ ⟨#[10]⟩ ++ linesT r)).count 10 = r.length + 1
    rw [count_add, count_add, ent_no10 h2.1 h2.2, h1]
    show 0 + 1 + r.length = _
    omega
theorem tree_count (es : List E) : ((LB (treeT es)).count 10 = es.length ∧ treeE es = true) ∨ ((LB (treeT es)).count 10 = 0 ∧ treeE es = false) := by
  cases h : treeE es with
  | true =>
    left
    refine ⟨?_, rfl⟩
    unfold treeT
    rw [if_pos h]
    refine lines_count es (fun e he => ?_)
    obtain ⟨i, hi, rfl⟩ := List.mem_iff_getElem.1 he
    unfold treeE at h
    rw [Bool.and_eq_true] at h
    have hk := List.all_eq_true.1 h.2 i (List.mem_range.2 hi)
    rw [okAt_is hi] at hk
    simp only [Bool.and_eq_true] at hk
    exact ⟨word_no10 (path_word hk.1), data_no10 hk.2.1⟩
  | false =>
    right
    refine ⟨?_, rfl⟩
    unfold treeT
    rw [if_neg (by simp [h])]; rfl
namespace Mk
theorem mark_no10 {e : E} (hp : no10 e.p) (hx : no10 e.x) : (LB (markT e)).count 10 = 0 := by
  unfold markT
  split
  · exact line_no10 100 (by decide) hp
  · split
    · exact line_no10 120 (by decide) hp
    · split
      · exact line_no10 98 (by decide) hp
      · exact ent_no10 hp hx
theorem lines_count : ∀ (es : List E), (∀ e ∈ es, no10 e.p ∧ no10 e.x) → (LB (linesT es)).count 10 = es.length
  | [], _ => rfl
  | e :: r, h => by
    have h1 := lines_count r (fun x hx => h x (List.mem_cons_of_mem _ hx))
    have h2 := h e List.mem_cons_self
    show (LB (markT e ++ ⟨#[10]⟩ ++ linesT r)).count 10 = r.length + 1
    rw [count_add, count_add, mark_no10 h2.1 h2.2, h1]
    show 0 + 1 + r.length = _
    omega
theorem lay_count (es : List E) : ((LB (layT es)).count 10 = es.length ∧ layB es = true) ∨ ((LB (layT es)).count 10 = 0 ∧ layB es = false) := by
  cases h : layB es with
  | true =>
    left
    refine ⟨?_, rfl⟩
    unfold layT
    rw [if_pos h]
    refine lines_count es (fun e he => ?_)
    obtain ⟨i, hi, rfl⟩ := List.mem_iff_getElem.1 he
    unfold layB at h
    rw [Bool.and_eq_true] at h
    have hk := List.all_eq_true.1 h.1 i (List.mem_range.2 hi)
    rw [okM_is hi] at hk
    simp only [Bool.and_eq_true] at hk
    exact ⟨word_no10 (path_word hk.2.1), data_no10 hk.2.2.1⟩
  | false =>
    right
    refine ⟨?_, rfl⟩
    unfold layT
    rw [if_neg (by simp [h])]; rfl
end Mk
/-- The count, a byte at a time. -/
theorem count_step (s : ByteArray) (i : Nat) (h : i < s.size) : ((LB s).take (i + 1)).count 10 = ((LB s).take i).count 10 + (if s[i] = 10 then 1 else 0) := by
  have hl : i < (LB s).length := by rw [lb_len]; exact h
  rw [List.take_succ_eq_append_getElem hl, List.count_append]
  congr 1
  rw [show (LB s)[i] = s[i] from rfl, List.count_singleton]
  by_cases e : s[i] = 10
  · rw [if_pos e]; simp [e]
  · rw [if_neg e]; simp [e]
theorem count_end (s : ByteArray) (i : Nat) (h : ¬ i < s.size) : ((LB s).take i).count 10 = (LB s).count 10 := by rw [List.take_of_length_le (by rw [lb_len]; omega)]
theorem count_small (s : ByteArray) (i : Nat) : ((LB s).take i).count 10 ≤ s.size := by
  have h1 := List.count_le_length (a := (10 : UInt8)) (l := (LB s).take i)
  have h2 : ((LB s).take i).length ≤ (LB s).length := List.length_take_le' _ _
  rw [lb_len] at h2
  omega
end Go.Proofs.YtnbcflbcmcjhdaaGreatDoor
