import Derived.Test.YtoaipphccjkphaaDoorHPk12
import Derived.Test.YtoaipphccjkphaaDoorHPk16
import Derived.Maps.AppendAt
import Derived.Test.YtoaipphccjkphaaDoorHPk11
namespace Go.Proofs.YtoaipphccjkphaaDoor
open Go.RowKit Go.Lib
attribute [local go_sem] eq_ent guard_ent
def Lies (w : World) (v : Value) (es : List E) : Prop := ∃ b g o c, v = .slice b es.length c ∧ (0 < es.length → b = some ⟨g, o, none⟩) ∧ Ents w g o es ∧ es.length ≤ c
theorem OwnE.lies {w : World} {base : Nat} {v : Value} {es : List E} (h : OwnE w base v es) : Lies w v es := by
 obtain ⟨a, g, cap, e, ha, hE, hc⟩ := h.ents; exact ⟨a, g, 0, cap, e, ha, hE, hc⟩
theorem rowlow {w : World} {base base' : Nat} {e : TypeId} {size : Nat} {v : Value} {n : Nat} {xs : List Value} (h : w.ownsRow base e size v n xs) (hb : base' ≤ base) : w.ownsRow base' e size v n xs := by
 obtain ⟨h1, h2 | ⟨g, cap, cur, e1, e2, e3⟩⟩ := h
 ·
  exact ⟨h1, .inl h2⟩
 ·
  exact ⟨h1, .inr ⟨g, cap, cur, e1, Nat.le_trans hb e2, e3⟩⟩
theorem rowkeep {w w' : World} {base : Nat} {e : TypeId} {size : Nat} {v : Value} {n : Nat} {xs : List Value} (h : w.ownsRow base e size v n xs) (hb : Below w.heap.size w w') : w'.ownsRow base e size v n xs :=
 h.kept (row := none) ⟨hb.os, hb.tape, hb.output, hb.size, fun b hb' _ => hb.block b hb'⟩ (by
  cases hob : v.ownBlock with
  | none => exact .inl rfl
  | some q => exact .inr (by simp))
end Go.Proofs.YtoaipphccjkphaaDoor
namespace Go.Proofs.YtoaipphccjkphaaDoor
open Go.RowKit Go.Lib
def StrB (w : World) (g : Nat) (xs : List ByteArray) : Prop := ∀ i (h : i < xs.length), w.cell? ⟨g, i, none⟩ = some (.string xs[i])
theorem StrB.below {w w' : World} {g : Nat} {xs : List ByteArray} (h : StrB w g xs) (hb : Below w.heap.size w w') : StrB w' g xs := fun i hi =>
 (hb.cell (p := ⟨g, i, none⟩) (World.block_lt_of_cell? w ⟨g, i, none⟩ (h i hi))).trans (h i hi)
set_option maxHeartbeats 800000 in
set_option maxRecDepth 100000 in
theorem l2Kids_any (w : World) (a : Option Addr) (g o cap : Nat) (es : List E) (s : ByteArray) (hl : es.length ≤ 1048576) (hz : ∀ e ∈ es, e.p.size ≤ 16777216 ∧ e.x.size ≤ 16777216) (ha : 0 < es.length → a = some ⟨g, o, none⟩) (hE : Ents w g o es) :
  Calls Tryd.prog 90 #[.slice a es.length cap, .string s] w fun r w' => ∃ v, r = .returned v ∧ w'.ownsRow w.heap.size 9 1 v (kidsE es s).length ((kidsE es s).map Value.string) ∧ Below w.heap.size w w' := by
 obtain ⟨i0, hi, hz0, hz1, hz2⟩ := info_parts Tryd.infoS; have HE := hidE hE; have HZ := hidE hz; clear hE hz; go_enter Tryd.func90, Tryd.ntmps90
 go_wp2
 go_loopw [5, 6] (fun v iv wl => ∃ k : Nat, k ≤ es.length ∧ iv = .int .i64 k ∧ wl.ownsRow w.heap.size 9 1 v (kidsE (es.take k) s).length ((kidsE (es.take k) s).map Value.string) ∧ Hid (Below w.heap.size w wl)) (fun _ iv _ => es.length - (RowKit.intOf iv).toNat)
 case atStart => exact ⟨0, Nat.zero_le _, rfl, World.ownsRow_made w #[] 0 (Nat.le_refl _) (Nat.zero_le _) rfl, (Below.refl _ w).alloc (Nat.le_refl _) _⟩
 case round =>
  obtain ⟨k, hk, rfl, hown, HB⟩ := hrel; by_cases hlt : k < es.length
  ·
   obtain rfl := ha (by omega); obtain ⟨c0, c1, c2⟩ := (HE.out.below HB.out) k hlt; obtain ⟨z0, z1⟩ := HZ.out es[k] (List.getElem_mem _); have HK := hidE (kids_succ es s k hlt); have hlen := kids_len es s k; obtain ⟨pre, hpre⟩ : ∃ pre, kidsE (es.take k) s = pre := ⟨_, rfl⟩
   rw [hpre] at hown HK hlen; clear hpre; go_wp2_with fail
   refine (sPathUp_any es[k].p z0 _).mono ?_; rintro e w2 ⟨rfl, hB2⟩; have HB2 := hidE (HB.out.trans (hB2.mono HB.out.size))
   have hown2 : w2.ownsRow w.heap.size 9 1 u5 pre.length (pre.map Value.string) := hown.kept (row := none) ⟨hB2.os, hB2.tape, hB2.output, hB2.size, fun b hb _ => hB2.block b hb⟩ (by
    cases hob : u5.ownBlock with
    | none => exact .inl rfl
    | some q => exact .inr (by simp))
   clear hB2 HB hown c0 c1 c2; cases hb : ((upS es[k].p).toList == s.toList) with
   | false =>
    have HK2 : Hid (kidsE (es.take (k + 1)) s = pre) := by
     show _ = _; rw [HK.out, show kidB s es[k] = false from hb]; simp
    clear HK; go_wp2
    go_roundw
    case rel => exact ⟨k + 1, by omega, by go_num, by rw [HK2.out]; exact hown2, HB2⟩
    case measure => simp [RowKit.intOf]; omega
   | true =>
    have HK2 : Hid (kidsE (es.take (k + 1)) s = pre ++ [nmS es[k].p]) := by
     show _ = _; rw [HK.out, show kidB s es[k] = true from hb]; simp
    clear HK; obtain ⟨c0, c1, c2⟩ := (HE.out.below HB2.out) k hlt; go_wp2_with fail
    refine (sPathName_any es[k].p z0 _).mono ?_; rintro e w3 ⟨rfl, hB3⟩; have HB3 := hidE (HB2.out.trans (hB3.mono HB2.out.size))
    have hown3 : w3.ownsRow w.heap.size 9 1 u5 pre.length (pre.map Value.string) := hown2.kept (row := none) ⟨hB3.os, hB3.tape, hB3.output, hB3.size, fun b hb _ => hB3.block b hb⟩ (by
     cases hob : u5.ownBlock with
     | none => exact .inl rfl
     | some q => exact .inr (by simp))
    have hz3 := HB3.out.size; clear hB3 HB2 hown2 c0 c1 c2; obtain ⟨nm, hnm⟩ : ∃ nm, nmS es[k].p = nm := ⟨_, rfl⟩
    rw [hnm] at HK2
    go_wp2_with (first
     | (at_builtin; refine wpList_append_own _ rfl _ _ 40 rfl w.heap.size 9 i0 (.string ByteArray.empty) 1 16 Tryd.underlying40 hi hz0 hz1 hz2 rfl (by decide) _ _ _ rfl (hown3.alloc _) ⟨w3.heap.size, 0, none⟩ 1 1 [.string nm] rfl rfl ?c1 ?c2 ?c3 ?c4 ?c5 ?_)
     | fail)
    case c1 => exact cell_one_new _ _ _
    case c2 => intro u hu; simp at hu; subst hu; rfl
    case c3 => unfold maxLen; omega
    case c4 => omega
    case c5 => simp; omega
    ·
     intro v' w4 hown' hgrow _; have HB4 := hidE ((HB3.out.alloc hz3 _).grown hgrow (by simp; omega) (fun q hq => (hown3.lt q hq).1)); have hown4 : w4.ownsRow w.heap.size 9 1 v' (pre ++ [nm]).length ((pre ++ [nm]).map Value.string) := by simpa using hown'
     clear hown' hgrow hown3 HB3; go_wp2
     go_roundw
     case rel => exact ⟨k + 1, by omega, by go_num, by rw [HK2.out]; exact hown4, HB4⟩
     case measure => simp [RowKit.intOf]; omega
  ·
   go_wp2
   go_ret
   rw [List.take_of_length_le (by omega)] at hown; exact ⟨_, rfl, hown, HB.out⟩
set_option maxHeartbeats 400000 in
theorem l2Up_any (w : World) (a : Option Addr) (g o cap : Nat) (es : List E) (s : ByteArray) (hl : es.length ≤ 16777216) (hs : s.size ≤ 16777216) (ha : 0 < es.length → a = some ⟨g, o, none⟩) (hE : Ents w g o es) :
  Calls Tryd.prog 87 #[.slice a es.length cap, .string s] w fun r w' => r = .returned (.int .i64 (upC es s)) ∧ Below w.heap.size w w' := by
 have HE := hidE hE; have HU : Hid (upC es s = if (getE es (upS s)).2 = false then 2 else if (getE es (upS s)).1.d = false then 3 else 0) := show _ = _ from rfl; clear hE; obtain ⟨⟨p, d, x⟩, b, hg⟩ : ∃ e b, getE es (upS s) = (e, b) := ⟨_, _, rfl⟩
 rw [hg] at HU; go_enter Tryd.func87, Tryd.ntmps87
 go_wp2_with fail
 refine (sPathUp_any s hs _).mono ?_; rintro e w1 ⟨rfl, hB1⟩; have HG := hidE (l2Get_any w1 a g o cap es (upS s) hl ha (HE.out.below hB1)); rw [hg] at HG; go_wp2_with fail
 refine HG.out.mono ?_; rintro e w2 ⟨rfl, hB2⟩; have HB := hidE (hB1.trans (hB2.mono hB1.size)); have hz2 := HB.out.size; clear hB1 hB2 HG; cases b with
 | false =>
  go_wp2
  go_ret
  exact ⟨ret_iE (by rw [HU.out]; rfl), HB.out.alloc hz2 _⟩
 | true =>
  cases d with
  | false =>
   go_wp2
   go_ret
   exact ⟨ret_iE (by rw [HU.out]; rfl), HB.out.alloc hz2 _⟩
  | true =>
   go_wp2
   go_ret
   exact ⟨ret_iE (by rw [HU.out]; rfl), HB.out.alloc hz2 _⟩
set_option maxHeartbeats 400000 in
theorem l2New_any (w : World) (a : Option Addr) (g o cap : Nat) (es : List E) (s : ByteArray) (hl : es.length ≤ 16777216) (hs : s.size ≤ 16777216) (ha : 0 < es.length → a = some ⟨g, o, none⟩) (hE : Ents w g o es) :
  Calls Tryd.prog 79 #[.slice a es.length cap, .string s] w fun r w' => r = .returned (.int .i64 (newC es s)) ∧ Below w.heap.size w w' := by
 have HE := hidE hE; have HU : Hid (newC es s = if upC es s ≠ 0 then upC es s else if (getE es s).2 = true then 4 else if 16 ≤ es.length then 8 else 0) := show _ = _ from rfl; have HS := hidE (fun (W : World) (hW : Ents W g o es) => l2Up_any W a g o cap es s hl hs ha hW); have HG := hidE (fun (W : World) (hW : Ents W g o es) => l2Get_any W a g o cap es s hl ha hW); clear hE; obtain ⟨⟨p, d, x⟩, b, hg⟩ : ∃ e b, getE es s = (e, b) := ⟨_, _, rfl⟩
 obtain ⟨c, hc⟩ : ∃ c, upC es s = c := ⟨_, rfl⟩
 rw [hg, hc] at HU; rw [hg] at HG; rw [hc] at HS; clear hc hg; go_enter Tryd.func79, Tryd.ntmps79
 go_wp2_with fail
 refine (HS.out _ HE.out).mono ?_; rintro e w1 ⟨rfl, hB1⟩; have HB1 := hidE hB1; clear hB1; go_wp2_with fail
 refine (HG.out _ (HE.out.below HB1.out)).mono ?_; rintro e w2 ⟨rfl, hB2⟩; have HB := hidE (HB1.out.trans (hB2.mono HB1.out.size)); have hz2 := HB.out.size; clear HB1 hB2 HG HS; by_cases h0 : c = 0
 ·
  subst h0; cases b with
  | true =>
   go_wp2
   go_ret
   exact ⟨ret_iE (by rw [HU.out]; rfl), by first | exact HB.out | exact HB.out.alloc hz2 _⟩
  | false =>
   by_cases h16 : 16 ≤ es.length
   ·
    go_wp2
    go_ret
    exact ⟨ret_iE (by rw [HU.out]; simp [h16]), by first | exact HB.out | exact HB.out.alloc hz2 _⟩
   ·
    go_wp2
    go_ret
    exact ⟨ret_iE (by rw [HU.out]; simp [h16]), by first | exact HB.out | exact HB.out.alloc hz2 _⟩
 ·
  have n0 : (c == 0) = false := by rw [beq_eq_false_iff_ne]; exact h0
  go_wp2
  go_ret
  exact ⟨ret_iE (by rw [HU.out, if_pos h0]), by first | exact HB.out | exact HB.out.alloc hz2 _⟩
set_option maxHeartbeats 400000 in
theorem l2PutCode_any (w : World) (a : Option Addr) (g o cap : Nat) (es : List E) (s : ByteArray) (hl : es.length ≤ 16777216) (hs : s.size ≤ 16777216) (ha : 0 < es.length → a = some ⟨g, o, none⟩) (hE : Ents w g o es) :
  Calls Tryd.prog 80 #[.slice a es.length cap, .string s] w fun r w' => r = .returned (.int .i64 (putC es s)) ∧ Below w.heap.size w w' := by
 have HE := hidE hE; have HU : Hid (putC es s = if newC es s = 4 then (if (getE es s).1.d = true then 5 else 0) else newC es s) := show _ = _ from rfl; have HS := hidE (fun (W : World) (hW : Ents W g o es) => l2New_any W a g o cap es s hl hs ha hW); have HG := hidE (fun (W : World) (hW : Ents W g o es) => l2Get_any W a g o cap es s hl ha hW); clear hE; obtain ⟨⟨p, d, x⟩, b, hg⟩ : ∃ e b, getE es s = (e, b) := ⟨_, _, rfl⟩
 obtain ⟨c, hc⟩ : ∃ c, newC es s = c := ⟨_, rfl⟩
 rw [hg, hc] at HU; rw [hg] at HG; rw [hc] at HS; clear hc hg; go_enter Tryd.func80, Tryd.ntmps80
 go_wp2_with fail
 refine (HS.out _ HE.out).mono ?_; rintro e w1 ⟨rfl, hB1⟩; have HB1 := hidE hB1; clear hB1; go_wp2_with fail
 refine (HG.out _ (HE.out.below HB1.out)).mono ?_; rintro e w2 ⟨rfl, hB2⟩; have HB := hidE (HB1.out.trans (hB2.mono HB1.out.size)); have hz2 := HB.out.size; clear HB1 hB2 HG HS; by_cases h4 : c = 4
 ·
  subst h4; cases d with
  | true =>
   go_wp2
   go_ret
   exact ⟨ret_iE (by rw [HU.out]; rfl), by first | exact HB.out | exact HB.out.alloc hz2 _⟩
  | false =>
   go_wp2
   go_ret
   exact ⟨ret_iE (by rw [HU.out]; rfl), by first | exact HB.out | exact HB.out.alloc hz2 _⟩
 ·
  have n0 : (c == 4) = false := by rw [beq_eq_false_iff_ne]; exact h4
  go_wp2
  go_ret
  exact ⟨ret_iE (by rw [HU.out, if_neg h4]), by first | exact HB.out | exact HB.out.alloc hz2 _⟩
theorem box4 {w w' : World} {a b c d : Value} {T : TypeId} (h : Below (w.alloc (.cells #[a, b, c, d] T)).heap.size (w.alloc (.cells #[a, b, c, d] T)) w') :
  w'.cell? ⟨w.heap.size, 0, none⟩ = some a ∧ w'.cell? ⟨w.heap.size, 1, none⟩ = some b ∧ w'.cell? ⟨w.heap.size, 2, none⟩ = some c ∧ w'.cell? ⟨w.heap.size, 3, none⟩ = some d := by
 have lt : w.heap.size < (w.alloc (.cells #[a, b, c, d] T)).heap.size := by simp
 exact ⟨(h.cell (p := ⟨w.heap.size, 0, none⟩) lt).trans (by simp), (h.cell (p := ⟨w.heap.size, 1, none⟩) lt).trans (by simp), (h.cell (p := ⟨w.heap.size, 2, none⟩) lt).trans (by simp), (h.cell (p := ⟨w.heap.size, 3, none⟩) lt).trans (by simp)⟩
set_option maxHeartbeats 2000000 in
theorem sOpOk_any (w : World) (k : Int) (p t x : ByteArray) (hp : p.size ≤ 16777216) (ht : t.size ≤ 16777216) (hx : x.size ≤ 16777216) :
  Calls Tryd.prog 63 #[.agg #[.int .i64 k, .string p, .string t, .string x]] w fun r w' => r = .returned (.bool (opB ⟨k, p, t, x⟩)) ∧ Below w.heap.size w w' := by
 have hb : Below w.heap.size w (w.alloc (.cells #[.int .i64 k, .string p, .string t, .string x] 83)) := (Below.refl _ w).alloc (Nat.le_refl _) _; have HB := hidE hb; clear hb; by_cases h1 : 1 ≤ k
 ·
  by_cases h5 : k ≤ 5
  ·
   have hr : (decide (1 ≤ k) && decide (k ≤ 5)) = true := by simp [h1, h5]
   cases fp : pathB p with
   | false =>
    go_enter Tryd.func63, Tryd.ntmps63
    go_wp2_with fail
    refine (sOk_any p (by omega) _).mono ?_; rintro e w1 ⟨rfl, hB1⟩; have hC1 := hB1; obtain ⟨c00, c01, c02, c03⟩ := box4 hC1; have HC1 := hidE hC1; go_wp2
    go_ret
    exact ⟨ret_bE (by unfold opB emptyB; simp [fp]), HB.out.trans (HC1.out.mono (by simp))⟩
   | true =>
    by_cases hk5 : k = 5
    ·
     subst hk5; cases ft : pathB t with
     | false =>
      go_enter Tryd.func63, Tryd.ntmps63
      go_wp2_with fail
      refine (sOk_any p (by omega) _).mono ?_; rintro e w1 ⟨rfl, hB1⟩; have hC1 := hB1; obtain ⟨c00, c01, c02, c03⟩ := box4 hC1; have HC1 := hidE hC1; go_wp2_with fail
      refine (sOk_any t (by omega) _).mono ?_; rintro e w2 ⟨rfl, hB2⟩; have hC2 := hC1.trans (hB2.mono hC1.size); obtain ⟨c10, c11, c12, c13⟩ := box4 hC2; have HC2 := hidE hC2; go_wp2
      go_ret
      exact ⟨ret_bE (by unfold opB emptyB; simp [fp, ft]), HB.out.trans (HC2.out.mono (by simp))⟩
     | true =>
      cases fx : x.toList.isEmpty with
      | false =>
       go_enter Tryd.func63, Tryd.ntmps63
       go_wp2_with fail
       refine (sOk_any p (by omega) _).mono ?_; rintro e w1 ⟨rfl, hB1⟩; have hC1 := hB1; obtain ⟨c00, c01, c02, c03⟩ := box4 hC1; have HC1 := hidE hC1; go_wp2_with fail
       refine (sOk_any t (by omega) _).mono ?_; rintro e w2 ⟨rfl, hB2⟩; have hC2 := hC1.trans (hB2.mono hC1.size); obtain ⟨c10, c11, c12, c13⟩ := box4 hC2; have HC2 := hidE hC2; go_wp2
       go_ret
       exact ⟨ret_bE (by unfold opB emptyB; simp [fp, ft, fx]), HB.out.trans (HC2.out.mono (by simp))⟩
      | true =>
       go_enter Tryd.func63, Tryd.ntmps63
       go_wp2_with fail
       refine (sOk_any p (by omega) _).mono ?_; rintro e w1 ⟨rfl, hB1⟩; have hC1 := hB1; obtain ⟨c00, c01, c02, c03⟩ := box4 hC1; have HC1 := hidE hC1; go_wp2_with fail
       refine (sOk_any t (by omega) _).mono ?_; rintro e w2 ⟨rfl, hB2⟩; have hC2 := hC1.trans (hB2.mono hC1.size); obtain ⟨c10, c11, c12, c13⟩ := box4 hC2; have HC2 := hidE hC2; go_wp2
       go_ret
       exact ⟨ret_bE (by unfold opB emptyB; simp [fp, ft, fx]), HB.out.trans (HC2.out.mono (by simp))⟩
    ·
     have n5 : (k == 5) = false := by rw [beq_eq_false_iff_ne]; exact hk5
     cases ft : t.toList.isEmpty with
     | false =>
      go_enter Tryd.func63, Tryd.ntmps63
      go_wp2_with fail
      refine (sOk_any p (by omega) _).mono ?_; rintro e w1 ⟨rfl, hB1⟩; have hC1 := hB1; obtain ⟨c00, c01, c02, c03⟩ := box4 hC1; have HC1 := hidE hC1; go_wp2
      go_ret
      exact ⟨ret_bE (by unfold opB emptyB; simp [fp, ft, hk5]), HB.out.trans (HC1.out.mono (by simp))⟩
     | true =>
      cases fx : dataB x with
      | false =>
       go_enter Tryd.func63, Tryd.ntmps63
       go_wp2_with fail
       refine (sOk_any p (by omega) _).mono ?_; rintro e w1 ⟨rfl, hB1⟩; have hC1 := hB1; obtain ⟨c00, c01, c02, c03⟩ := box4 hC1; have HC1 := hidE hC1; go_wp2_with fail
       refine (l2Data_any x (by omega) _).mono ?_; rintro e w2 ⟨rfl, rfl⟩; go_wp2
       go_ret
       exact ⟨ret_bE (by unfold opB emptyB; simp [fp, ft, fx, hk5]), HB.out.trans (HC1.out.mono (by simp))⟩
      | true =>
       by_cases hk2 : k = 2
       ·
        subst hk2; go_enter Tryd.func63, Tryd.ntmps63
        go_wp2_with fail
        refine (sOk_any p (by omega) _).mono ?_; rintro e w1 ⟨rfl, hB1⟩; have hC1 := hB1; obtain ⟨c00, c01, c02, c03⟩ := box4 hC1; have HC1 := hidE hC1; go_wp2_with fail
        refine (l2Data_any x (by omega) _).mono ?_; rintro e w2 ⟨rfl, rfl⟩; go_wp2
        go_ret
        exact ⟨ret_bE (by unfold opB emptyB; simp [fp, ft, fx]), HB.out.trans (HC1.out.mono (by simp))⟩
       ·
        have n2 : (k == 2) = false := by rw [beq_eq_false_iff_ne]; exact hk2
        cases fe : x.toList.isEmpty with
        | false =>
         go_enter Tryd.func63, Tryd.ntmps63
         go_wp2_with fail
         refine (sOk_any p (by omega) _).mono ?_; rintro e w1 ⟨rfl, hB1⟩; have hC1 := hB1; obtain ⟨c00, c01, c02, c03⟩ := box4 hC1; have HC1 := hidE hC1; go_wp2_with fail
         refine (l2Data_any x (by omega) _).mono ?_; rintro e w2 ⟨rfl, rfl⟩; go_wp2
         go_ret
         exact ⟨ret_bE (by unfold opB emptyB; simp [fp, ft, fx, fe, hk5, hk2]), HB.out.trans (HC1.out.mono (by simp))⟩
        | true =>
         go_enter Tryd.func63, Tryd.ntmps63
         go_wp2_with fail
         refine (sOk_any p (by omega) _).mono ?_; rintro e w1 ⟨rfl, hB1⟩; have hC1 := hB1; obtain ⟨c00, c01, c02, c03⟩ := box4 hC1; have HC1 := hidE hC1; go_wp2_with fail
         refine (l2Data_any x (by omega) _).mono ?_; rintro e w2 ⟨rfl, rfl⟩; go_wp2
         go_ret
         exact ⟨ret_bE (by unfold opB emptyB; simp [fp, ft, fx, fe, hk5, hk2, h1, h5]), HB.out.trans (HC1.out.mono (by simp))⟩
  ·
   go_enter Tryd.func63, Tryd.ntmps63
   go_wp2
   go_ret
   exact ⟨ret_bE (by unfold opB; rw [decide_eq_false (by show ¬ (1 ≤ k ∧ k ≤ 5); omega)]; rfl), HB.out⟩
 ·
  go_enter Tryd.func63, Tryd.ntmps63
  go_wp2
  go_ret
  exact ⟨ret_bE (by unfold opB; rw [decide_eq_false (by show ¬ (1 ≤ k ∧ k ≤ 5); omega)]; rfl), HB.out⟩
theorem row_slice {w : World} {base : Nat} {e : TypeId} {size : Nat} {v : Value} {n : Nat} {xs : List Value} (h : w.ownsRow base e size v n xs) : ∃ a cap, v = .slice a n cap := by
 obtain ⟨_, ⟨rfl, rfl⟩ | ⟨g, cap, cur, rfl, _⟩⟩ := h
 ·
  exact ⟨_, _, rfl⟩
 ·
  exact ⟨_, _, rfl⟩
set_option maxHeartbeats 2000000 in
theorem l2OffCode_any (w : World) (a : Option Addr) (g o cap : Nat) (es : List E) (k : Int) (p t x : ByteArray) (hl : es.length ≤ 1048576) (hz : ∀ e ∈ es, e.p.size ≤ 16777216 ∧ e.x.size ≤ 16777216) (ha : 0 < es.length → a = some ⟨g, o, none⟩) (hE : Ents w g o es) :
  Calls Tryd.prog 82 #[.slice a es.length cap, .agg #[.int .i64 k, .string p, .string t, .string x]] w fun r w' => r = .returned (.int .i64 (offC es k p)) ∧ Below w.heap.size w w' := by
 have hb : Below w.heap.size w (w.alloc (.cells #[.int .i64 k, .string p, .string t, .string x] 83)) := (Below.refl _ w).alloc (Nat.le_refl _) _; have HE := hidE (hE.below hb); have HB := hidE hb; have HU : Hid (offC es k p = if (getE es p).2 = false then 2 else if k = 3 ∧ (getE es p).1.d = true then 5 else if k = 4 ∧ (getE es p).1.d = false then 3 else if 0 < (kidsE es p).length then 6 else 0) := show _ = _ from rfl; have HG := hidE (fun (W : World) (hW : Ents W g o es) => l2Get_any W a g o cap es p (by omega) ha hW); have HK := hidE (fun (W : World) (hW : Ents W g o es) => l2Kids_any W a g o cap es p hl hz ha hW); clear hE hb hz; obtain ⟨⟨p', d, x'⟩, b, hg⟩ : ∃ e b, getE es p = (e, b) := ⟨_, _, rfl⟩
 obtain ⟨ks, hks⟩ : ∃ ks, kidsE es p = ks := ⟨_, rfl⟩
 have hkl : ks.length ≤ es.length := by
  have := kids_len es p es.length; rw [List.take_of_length_le (Nat.le_refl _), hks] at this; exact this
 rw [hg, hks] at HU; rw [hg] at HG; rw [hks] at HK; clear hg hks; go_enter Tryd.func82, Tryd.ntmps82
 go_wp2_with fail
 refine (HG.out _ HE.out).mono ?_; rintro e w1 ⟨rfl, hB1⟩; obtain ⟨c00, c01, c02, c03⟩ := box4 (hB1.alloc hB1.size (.cells #[.string p', .bool d, .string x'] 27)); have hz1 := hB1.size; simp only [World.size_alloc] at hz1; have HB1 := hidE (HB.out.trans (hB1.mono (by simp))); have HE1 := hidE ((HE.out.below hB1).below ((Below.refl _ w1).alloc (Nat.le_refl _) (.cells #[.string p', .bool d, .string x'] 27))); clear hB1 HB HE HG; have hlt1 : w.heap.size ≤ w1.heap.size := by omega
 have HB2 := hidE (HB1.out.alloc hlt1 (.cells #[.string p', .bool d, .string x'] 27)); clear HB1; cases b with
 | false =>
  go_wp2
  go_ret
  exact ⟨ret_iE (by rw [HU.out]; rfl), HB2.out⟩
 | true =>
  by_cases h3 : k = 3
  ·
   subst h3; cases d with
   | true =>
    go_wp2
    go_ret
    exact ⟨ret_iE (by rw [HU.out]; rfl), HB2.out⟩
   | false =>
    go_wp2_with fail
    refine (HK.out _ HE1.out).mono ?_; rintro e w3 ⟨v, rfl, hown, hB3⟩; obtain ⟨a3, cap3, rfl⟩ := row_slice hown; have HB3 := hidE (HB2.out.trans (hB3.mono (by simp; omega))); clear hB3 hown; cases h0 : decide (0 < ks.length) with
    | true =>
     have h0 := of_decide_eq_true h0; go_wp2
     go_ret
     exact ⟨ret_iE (by rw [HU.out]; simp [*]), HB3.out⟩
    | false =>
     have h0 := of_decide_eq_false h0; have h00 : ks.length = 0 := by omega
     go_wp2
     go_ret
     exact ⟨ret_iE (by rw [HU.out]; simp [*]), HB3.out⟩
  ·
   have n3 : (k == 3) = false := by rw [beq_eq_false_iff_ne]; exact h3
   by_cases h4 : k = 4
   ·
    subst h4; cases d with
    | false =>
     go_wp2
     go_ret
     exact ⟨ret_iE (by rw [HU.out]; rfl), HB2.out⟩
    | true =>
     go_wp2_with fail
     refine (HK.out _ HE1.out).mono ?_; rintro e w3 ⟨v, rfl, hown, hB3⟩; obtain ⟨a3, cap3, rfl⟩ := row_slice hown; have HB3 := hidE (HB2.out.trans (hB3.mono (by simp; omega))); clear hB3 hown; cases h0 : decide (0 < ks.length) with
     | true =>
      have h0 := of_decide_eq_true h0; go_wp2
      go_ret
      exact ⟨ret_iE (by rw [HU.out]; simp [*]), HB3.out⟩
     | false =>
      have h0 := of_decide_eq_false h0; have h00 : ks.length = 0 := by omega
      go_wp2
      go_ret
      exact ⟨ret_iE (by rw [HU.out]; simp [*]), HB3.out⟩
   ·
    have n4 : (k == 4) = false := by rw [beq_eq_false_iff_ne]; exact h4
    go_wp2_with fail
    refine (HK.out _ HE1.out).mono ?_; rintro e w3 ⟨v, rfl, hown, hB3⟩; obtain ⟨a3, cap3, rfl⟩ := row_slice hown; have HB3 := hidE (HB2.out.trans (hB3.mono (by simp; omega))); clear hB3 hown; cases h0 : decide (0 < ks.length) with
    | true =>
     have h0 := of_decide_eq_true h0; go_wp2
     go_ret
     exact ⟨ret_iE (by rw [HU.out]; simp [*]), HB3.out⟩
    | false =>
     have h0 := of_decide_eq_false h0; have h00 : ks.length = 0 := by omega
     go_wp2
     go_ret
     exact ⟨ret_iE (by rw [HU.out]; simp [*]), HB3.out⟩
open Go.Sort
theorem cMov (W0 : World) (s f t : ByteArray) (hs : s.size ≤ 16777216) (hf : f.size ≤ 16777216) (ht : t.size ≤ 16777216) (b : Bool) (h : movOk s f t = b) : ∀ d os, Calls Tryd.prog 89 #[.string s, .string f, .string t] (grow (redrawn W0 d) os) fun r w'' => r = .returned (.tuple #[.string (movS s f t), .bool b]) ∧ ∃ p : Regrown, w'' = grow (redrawn W0 p.d) p.os :=
 fun _ _ => Calls.regrown_of (by rw [← h]; exact sPathMove_any s f t hs hf ht _)
set_option maxHeartbeats 2000000 in
set_option maxRecDepth 100000 in
theorem l2MoveCode_any (w : World) (a : Option Addr) (g o cap : Nat) (es : List E) (k : Int) (p t x : ByteArray) (hl : es.length ≤ 1048576) (hp : p.size ≤ 16777216) (ht : t.size ≤ 16777216) (hz : ∀ e ∈ es, e.p.size ≤ 16777216 ∧ e.x.size ≤ 16777216) (ha : 0 < es.length → a = some ⟨g, o, none⟩) (hE : Ents w g o es) :
  Calls Tryd.prog 81 #[.slice a es.length cap, .agg #[.int .i64 k, .string p, .string t, .string x]] w fun r w' => r = .returned (.int .i64 (moveC es p t)) ∧ Below w.heap.size w w' := by
 have hb : Below w.heap.size w (w.alloc (.cells #[.int .i64 k, .string p, .string t, .string x] 83)) := (Below.refl _ w).alloc (Nat.le_refl _) _; have HE := hidE (hE.below hb); have HB := hidE hb; have HZ := hidE hz; have HU : Hid (moveC es p t = if (getE es p).2 = false then 2 else if upC es t ≠ 0 then upC es t else if (getE es t).2 = true then 4 else if underL t p = true then 7 else if fitE es p t = true then 0 else 8) := show _ = _ from rfl; have HG := hidE (fun (W : World) (hW : Ents W g o es) => l2Get_any W a g o cap es p (by omega) ha hW); have HT := hidE (fun (W : World) (hW : Ents W g o es) => l2Get_any W a g o cap es t (by omega) ha hW); have HC := hidE (fun (W : World) (hW : Ents W g o es) => l2Up_any W a g o cap es t (by omega) ht ha hW); have HL := hidE (fun (W : World) => l1Under_any t p ht hp W); clear hE hb hz; obtain ⟨⟨p', d, x'⟩, b, hg⟩ : ∃ e b, getE es p = (e, b) := ⟨_, _, rfl⟩
 obtain ⟨⟨p2, d2, x2⟩, b', hg2⟩ : ∃ e b, getE es t = (e, b) := ⟨_, _, rfl⟩
 obtain ⟨c, hc⟩ : ∃ c, upC es t = c := ⟨_, rfl⟩
 rw [hg, hg2, hc] at HU; rw [hg] at HG; rw [hg2] at HT; rw [hc] at HC; clear hg hg2 hc; go_enter Tryd.func81, Tryd.ntmps81
 go_wp2_with fail
 refine (HG.out _ HE.out).mono ?_; rintro e w1 ⟨rfl, hB1⟩; have HH1 := hidE (hB1.alloc hB1.size (.cells #[.string p', .bool d, .string x'] 27)); obtain ⟨c00, c01, c02, c03⟩ := box4 HH1.out; have hz1 := HH1.out.size; clear hB1 HG; go_wp2_with fail
 refine (HC.out _ (HE.out.below HH1.out)).mono ?_; rintro e w2 ⟨rfl, hB2⟩; have HH2 := hidE (HH1.out.trans (hB2.mono HH1.out.size)); clear c00 c01 c02 c03 hB2 HH1 HC hz1; obtain ⟨c00, c01, c02, c03⟩ := box4 HH2.out; have hz2 := HH2.out.size; go_wp2_with fail
 refine (HT.out _ (HE.out.below HH2.out)).mono ?_; rintro e w3 ⟨rfl, hB3⟩; have HH3 := hidE ((HH2.out.trans (hB3.mono HH2.out.size)).alloc (HH2.out.trans (hB3.mono HH2.out.size)).size (.cells #[.string p2, .bool d2, .string x2] 27)); clear c00 c01 c02 c03 hB3 HH2 HT hz2; obtain ⟨c00, c01, c02, c03⟩ := box4 HH3.out; have HF := hidE (HB.out.trans (HH3.out.mono (by simp))); cases b with
 | false =>
  go_wp2
  go_ret
  exact ⟨ret_iE (by rw [HU.out]; rfl), HF.out⟩
 | true =>
  by_cases h0 : c = 0
  ·
   subst h0; cases b' with
   | true =>
    go_wp2
    go_ret
    exact ⟨ret_iE (by rw [HU.out]; rfl), HF.out⟩
   | false =>
    cases hu : underL t p with
    | true =>
     rw [hu] at HL HU; go_wp2_with fail
     refine (HL.out _).mono ?_; rintro e w4 ⟨rfl, rfl⟩; go_wp2
     go_ret
     exact ⟨ret_iE (by rw [HU.out]; rfl), HF.out⟩
    | false =>
     rw [hu] at HL HU; go_wp2_with fail
     refine (HL.out _).mono ?_; rintro e w4 ⟨rfl, rfl⟩; go_wp2
     clear c00 c01 c02 c03 HF; obtain ⟨A3, hA3⟩ : ∃ A3, A3 = w3.alloc (Obj.cells #[Value.string p2, Value.bool d2, Value.string x2] 27) := ⟨_, rfl⟩
     rw [← hA3] at HH3 ⊢; clear hA3
     go_loopw [10] (fun iv wl => ∃ j : Nat, j ≤ es.length ∧ iv = .int .i64 j ∧ Hid (Below (w.alloc (.cells #[.int .i64 k, .string p, .string t, .string x] 83)).heap.size (w.alloc (.cells #[.int .i64 k, .string p, .string t, .string x] 83)) wl) ∧ Hid (fitE (es.take j) p t = true)) (fun iv _ => es.length - (RowKit.intOf iv).toNat)
     case atStart => exact ⟨0, Nat.zero_le _, rfl, HH3, rfl⟩
     case round =>
      clear HH3; obtain ⟨j, hj, rfl, HH, HA⟩ := hrel; by_cases hlt : j < es.length
      ·
       obtain rfl := ha (by omega); obtain ⟨c0, c1, c2⟩ := (HE.out.below HH.out) j hlt; obtain ⟨e0, e1, e2, e3⟩ := box4 HH.out; obtain ⟨z0, _⟩ := HZ.out es[j] (List.getElem_mem _); have k0 := cell_regrown c0; have k1 := cell_regrown c1; have k2 := cell_regrown c2; have q0 := cell_regrown e0; have q1 := cell_regrown e1; have q2 := cell_regrown e2; have q3 := cell_regrown e3; clear c0 c1 c2 e0 e1 e2 e3; cases hm : movOk es[j].p p t with
       | true =>
        have HA2 := hidE (fit_succ es p t j hlt HA.out hm); have a1 := cMov wr es[j].p p t z0 hp ht true hm; go_wp2
        refine wp_region_quiet_below (by kernel_rfl) (by kernel_rfl) ?_
        repeat (go_big_quiet_step (first | exact a1 _ _))
        refine wpQuiet_nil ?_; intro _ hw'; obtain ⟨⟨dq, osq⟩, hw''⟩ := hw'; subst hw''; have HBq := hidE (HH.out.trans ((below_regrown wr dq osq).mono HH.out.size)); clear HH k0 k1 k2 q0 q1 q2 q3 a1; go_wp2
        go_roundw
        case rel => exact ⟨j + 1, by omega, by go_num, HBq, HA2⟩
        case measure => simp [RowKit.intOf]; omega
       | false =>
        have HN := hidE (fit_no es p t j hlt hm); have a1 := cMov wr es[j].p p t z0 hp ht false hm; go_wp2
        refine wp_region_quiet_below (by kernel_rfl) (by kernel_rfl) ?_
        repeat (go_big_quiet_step (first | exact a1 _ _))
        refine wpQuiet_nil ?_; intro _ hw'; obtain ⟨⟨dq, osq⟩, hw''⟩ := hw'; subst hw''; have HBq := hidE (HH.out.trans ((below_regrown wr dq osq).mono HH.out.size)); clear HH k0 k1 k2 q0 q1 q2 q3 a1; go_wp2
        go_ret
        exact ⟨ret_iE (by rw [HU.out, HN.out]; rfl), HB.out.trans (HBq.out.mono (by simp))⟩
      ·
       have HN : Hid (fitE es p t = true) := by
        have := HA.out; rw [List.take_of_length_le (by omega)] at this; exact this
       go_wp2
       go_ret
       exact ⟨ret_iE (by rw [HU.out, HN.out]; rfl), HB.out.trans (HH.out.mono (by simp))⟩
  ·
   have n0 : (c == 0) = false := by rw [beq_eq_false_iff_ne]; exact h0
   go_wp2
   go_ret
   exact ⟨ret_iE (by rw [HU.out]; simp [h0]), HF.out⟩
theorem cell_ne' (w : World) (g i j : Nat) (v : Value) (h : i ≠ j) : (w.setCell ⟨g, i, none⟩ v).cell? ⟨g, j, none⟩ = w.cell? ⟨g, j, none⟩ := World.cell?_setCell_other _ _ _ _ (fun q => by have e := congrArg Addr.off q; dsimp only at e; omega)
theorem cell_eq' {w : World} {g i : Nat} {u : Value} (v : Value) (h : w.cell? ⟨g, i, none⟩ = some u) : (w.setCell ⟨g, i, none⟩ v).cell? ⟨g, i, none⟩ = some v := World.cell?_setCell_same' _ _ _ (by rw [h]; rfl)
set_option maxHeartbeats 1600000 in
set_option maxRecDepth 100000 in
theorem l2Move_any (w : World) (a : Option Addr) (g o cap : Nat) (es : List E) (f t : ByteArray) (hl : es.length ≤ 1048576) (hf : f.size ≤ 16777216) (ht : t.size ≤ 16777216) (hz : ∀ e ∈ es, e.p.size ≤ 16777216 ∧ e.x.size ≤ 16777216) (ha : 0 < es.length → a = some ⟨g, o, none⟩) (hE : Ents w g o es) :
  Calls Tryd.prog 83 #[.slice a es.length cap, .string f, .string t] w fun r w' => ∃ v, r = .returned v ∧ OwnE w' w.heap.size v (movE es f t) ∧ Below w.heap.size w w' := by
 have HE := hidE hE; have HZ := hidE hz; clear hE hz; go_enter Tryd.func83, Tryd.ntmps83
 go_wp2
 go_loopw [7, 8] (fun v iv wl => ∃ k : Nat, k ≤ es.length ∧ iv = .int .i64 k ∧ Hid (OwnE wl w.heap.size v (movE (es.take k) f t)) ∧ Hid (Below w.heap.size w wl)) (fun _ iv _ => es.length - (RowKit.intOf iv).toNat)
 case atStart => exact ⟨0, Nat.zero_le _, rfl, OwnE.made w (Nat.le_refl _), (Below.refl _ w).alloc (Nat.le_refl _) _⟩
 case round =>
  obtain ⟨k, hk, rfl, HO, HB⟩ := hrel; have hz3 := HB.out.size; by_cases hlt : k < es.length
  ·
   obtain rfl := ha (by omega); obtain ⟨c0, c1, c2⟩ := (HE.out.below HB.out) k hlt; obtain ⟨z0, _⟩ := HZ.out es[k] (List.getElem_mem _); have HK := hidE (mov_succ es f t k hlt); have hlen := mov_len es f t k hk; obtain ⟨pre, hpre⟩ : ∃ pre, movE (es.take k) f t = pre := ⟨_, rfl⟩
   rw [hpre] at HO HK hlen; clear hpre; obtain ⟨a', g', cap', rfl, ha', hE', hcap'⟩ := HO.out.ents; have HE' := hidE hE'; have HB1 := hidE ((Below.refl wr.heap.size wr).alloc (Nat.le_refl _) (.cells #[.string es[k].p, .bool es[k].d, .string es[k].x] 27)); clear hE' HO; go_wp2_with fail
   refine (sPathMove_any es[k].p f t z0 hf ht _).mono ?_; rintro e w2 ⟨rfl, hB2⟩; have HB2 := hidE (HB1.out.trans (hB2.mono (by simp))); obtain ⟨b0, b1, b2⟩ := box3 hB2; have f0 : w2.frozen? ⟨wr.heap.size, 0, none⟩ = false := (hB2.frozen (p := ⟨wr.heap.size, 0, none⟩) (by simp)).trans (by simp); have hz2 : wr.heap.size < w2.heap.size := Nat.lt_of_lt_of_le (by simp) hB2.size; have HB3 := hidE (HB2.out.setCell (p := ⟨wr.heap.size, 0, none⟩) (Nat.le_refl _) (.string (movS es[k].p f t))); clear hB2 HB1 c0 c1 c2; have d0 := cell_eq' (.string (movS es[k].p f t)) b0; have d1 := (cell_ne' w2 wr.heap.size 0 1 (.string (movS es[k].p f t)) (by decide)).trans b1; have d2 := (cell_ne' w2 wr.heap.size 0 2 (.string (movS es[k].p f t)) (by decide)).trans b2; go_wp2_with fail
   refine (l2Put_any _ a' g' 0 cap' pre (movS es[k].p f t) es[k].d es[k].x (by omega) hcap' ha' (HE'.out.below HB3.out)).mono ?_; rintro e w4 ⟨v, rfl, ho4, hB4⟩; have HB5 := hidE (HB.out.trans ((HB3.out.trans (hB4.mono HB3.out.size)).mono hz3)); have HO5 := hidE (ho4.lower (base' := w.heap.size) (Nat.le_trans hz3 HB3.out.size)); clear ho4 hB4 HB HB3 b0 b1 b2 d0 d1 d2 f0; go_wp2
   go_roundw
   case rel => exact ⟨k + 1, by omega, by go_num, by rw [HK.out]; exact HO5, HB5⟩
   case measure => simp [RowKit.intOf]; omega
  ·
   go_wp2
   go_ret
   rw [List.take_of_length_le (by omega)] at HO; exact ⟨_, rfl, HO.out, HB.out⟩
theorem off_len (es : List E) (s : ByteArray) (k : Nat) : (offE (es.take k) s).length ≤ k := by
 unfold offE; have := List.length_filter_le (fun e : E => !(e.p.toList == s.toList)) (es.take k); rw [List.length_take] at this; omega
set_option maxHeartbeats 800000 in
set_option maxRecDepth 100000 in
theorem l2Off_any (w : World) (a : Option Addr) (g o cap : Nat) (es : List E) (s : ByteArray) (hl : es.length ≤ 1048576) (ha : 0 < es.length → a = some ⟨g, o, none⟩) (hE : Ents w g o es) :
  Calls Tryd.prog 84 #[.slice a es.length cap, .string s] w fun r w' => ∃ v, r = .returned v ∧ OwnE w' w.heap.size v (offE es s) ∧ Below w.heap.size w w' := by
 obtain ⟨i0, hi, hz0, hz1, hz2⟩ := info_parts Tryd.infoE'; have HE := hidE hE; clear hE; go_enter Tryd.func84, Tryd.ntmps84
 go_wp2
 go_loopw [5, 6] (fun v iv wl => ∃ k : Nat, k ≤ es.length ∧ iv = .int .i64 k ∧ Hid (OwnE wl w.heap.size v (offE (es.take k) s)) ∧ Hid (Below w.heap.size w wl)) (fun _ iv _ => es.length - (RowKit.intOf iv).toNat)
 case atStart => exact ⟨0, Nat.zero_le _, rfl, OwnE.made w (Nat.le_refl _), (Below.refl _ w).alloc (Nat.le_refl _) _⟩
 case round =>
  obtain ⟨k, hk, rfl, HO, HB⟩ := hrel; by_cases hlt : k < es.length
  ·
   obtain rfl := ha (by omega); obtain ⟨c0, c1, c2⟩ := (HE.out.below HB.out) k hlt; have HK := hidE (off_succ es s k hlt); have hlen := off_len es s k; have hz3 := HB.out.size; obtain ⟨pre, hpre⟩ : ∃ pre, offE (es.take k) s = pre := ⟨_, rfl⟩
   rw [hpre] at HO HK hlen; clear hpre; cases hb : (es[k].p.toList == s.toList) with
   | true =>
    have HK2 : Hid (offE (es.take (k + 1)) s = pre) := by
     show _ = _; rw [HK.out, hb]; simp
    clear HK; go_wp2
    go_roundw
    case rel => exact ⟨k + 1, by omega, by go_num, by rw [HK2.out]; exact HO, HB⟩
    case measure => simp [RowKit.intOf]; omega
   | false =>
    have HK2 : Hid (offE (es.take (k + 1)) s = pre ++ [es[k]]) := by
     show _ = _; rw [HK.out, hb]; simp
    clear HK
    go_wp2_with (first
     | (at_builtin; refine wpList_append_own _ rfl _ _ 23 rfl w.heap.size 27 i0 (.agg #[.string ByteArray.empty, .bool false, .string ByteArray.empty]) 3 40 Tryd.underlying23 hi hz0 hz1 hz2 rfl (by decide) _ _ _ rfl (World.ownsRow.alloc HO.out _) ⟨wr.heap.size, 0, none⟩ 1 1 (cellsE es[k]) rfl rfl ?c1 ?c2 ?c3 ?c4 ?c5 ?_)
     | fail)
    case c1 => first | exact cells_new _ _ | exact fun _ _ h => h
    case c2 => exact rowE_one'
    case c3 => unfold maxLen; omega
    case c4 => omega
    case c5 => first | omega | (simp; omega)
    ·
     intro v' w4 hown' hgrow _; have HB4 := hidE ((HB.out.alloc hz3 _).grown hgrow (by simp; omega) (fun q hq => (World.ownsRow.lt HO.out q hq).1)); have HO4 := hidE (OwnE.push hown'); clear hown' hgrow HO HB; go_wp2
     go_roundw
     case rel => exact ⟨k + 1, by omega, by go_num, by rw [HK2.out]; exact HO4, HB4⟩
     case measure => simp [RowKit.intOf]; omega
  ·
   go_wp2
   go_ret
   rw [List.take_of_length_le (by omega)] at HO; exact ⟨_, rfl, HO.out, HB.out⟩
set_option maxHeartbeats 800000 in
theorem l2Code_any (w : World) (a : Option Addr) (g o cap : Nat) (es : List E) (k : Int) (p t x : ByteArray) (hl : es.length ≤ 1048576) (hp : p.size ≤ 16777216) (ht : t.size ≤ 16777216) (hz : ∀ e ∈ es, e.p.size ≤ 16777216 ∧ e.x.size ≤ 16777216) (ha : 0 < es.length → a = some ⟨g, o, none⟩) (hE : Ents w g o es) :
  Calls Tryd.prog 64 #[.slice a es.length cap, .agg #[.int .i64 k, .string p, .string t, .string x]] w fun r w' => r = .returned (.int .i64 (codeC es k p t)) ∧ Below w.heap.size w w' := by
 have hb : Below w.heap.size w (w.alloc (.cells #[.int .i64 k, .string p, .string t, .string x] 83)) := (Below.refl _ w).alloc (Nat.le_refl _) _; have HE := hidE (hE.below hb); have HB := hidE hb; have HZ := hidE hz; clear hE hb hz; by_cases h1 : k = 1
 ·
  subst h1; go_enter Tryd.func64, Tryd.ntmps64
  go_wp2_with fail
  refine (l2New_any _ a g o cap es p (by omega) hp ha HE.out).mono ?_; rintro e w1 ⟨rfl, hB1⟩; have HB1 := hidE (HB.out.trans (hB1.mono (by simp))); clear hB1; go_wp2
  go_ret
  exact ⟨ret_iE rfl, HB1.out⟩
 ·
  have n1 : (k == 1) = false := by rw [beq_eq_false_iff_ne]; exact h1
  by_cases h2 : k = 2
  ·
   subst h2; go_enter Tryd.func64, Tryd.ntmps64
   go_wp2_with fail
   refine (l2PutCode_any _ a g o cap es p (by omega) hp ha HE.out).mono ?_; rintro e w1 ⟨rfl, hB1⟩; have HB1 := hidE (HB.out.trans (hB1.mono (by simp))); clear hB1; go_wp2
   go_ret
   exact ⟨ret_iE rfl, HB1.out⟩
  ·
   have n2 : (k == 2) = false := by rw [beq_eq_false_iff_ne]; exact h2
   by_cases h5 : k = 5
   ·
    subst h5; go_enter Tryd.func64, Tryd.ntmps64
    go_wp2_with fail
    refine (l2MoveCode_any _ a g o cap es 5 p t x hl hp ht HZ.out ha HE.out).mono ?_; rintro e w1 ⟨rfl, hB1⟩; have HB1 := hidE (HB.out.trans (hB1.mono (by simp))); clear hB1; go_wp2
    go_ret
    exact ⟨ret_iE rfl, HB1.out⟩
   ·
    have n5 : (k == 5) = false := by rw [beq_eq_false_iff_ne]; exact h5
    have HC : Hid (offC es k p = codeC es k p t) := by show _ = _; unfold codeC; rw [if_neg h1, if_neg h2, if_neg h5]
    go_enter Tryd.func64, Tryd.ntmps64
    go_wp2_with fail
    refine (l2OffCode_any _ a g o cap es k p t x hl HZ.out ha HE.out).mono ?_; rintro e w1 ⟨rfl, hB1⟩; have HB1 := hidE (HB.out.trans (hB1.mono (by simp))); clear hB1; go_wp2
    go_ret
    exact ⟨ret_iE HC.out, HB1.out⟩
set_option maxHeartbeats 800000 in
theorem l2Do_any (w : World) (a : Option Addr) (g o cap : Nat) (es : List E) (k : Int) (p t x : ByteArray) (hl : es.length ≤ 1048576) (hcap : es.length ≤ cap) (hp : p.size ≤ 16777216) (ht : t.size ≤ 16777216) (hz : ∀ e ∈ es, e.p.size ≤ 16777216 ∧ e.x.size ≤ 16777216) (ha : 0 < es.length → a = some ⟨g, o, none⟩) (hE : Ents w g o es) :
  Calls Tryd.prog 65 #[.slice a es.length cap, .agg #[.int .i64 k, .string p, .string t, .string x]] w fun r w' => ∃ v, r = .returned v ∧ OwnE w' w.heap.size v (madeE es k p t x) ∧ Below w.heap.size w w' := by
 have hb : Below w.heap.size w (w.alloc (.cells #[.int .i64 k, .string p, .string t, .string x] 83)) := (Below.refl _ w).alloc (Nat.le_refl _) _; have HE := hidE (hE.below hb); have HB := hidE hb; have HZ := hidE hz; clear hE hb hz; by_cases h1 : k = 1
 ·
  subst h1; go_enter Tryd.func65, Tryd.ntmps65
  go_wp2_with fail
  refine (l2Put_any _ a g o cap es p true ⟨#[]⟩ hl hcap ha HE.out).mono ?_; rintro e w1 ⟨v, rfl, ho1, hB1⟩; have HB1 := hidE (HB.out.trans (hB1.mono (by simp))); have HO1 := hidE (ho1.lower (base' := w.heap.size) (by simp)); clear hB1 ho1; go_wp2
  go_ret
  exact ⟨_, rfl, HO1.out, HB1.out⟩
 ·
  have n1 : (k == 1) = false := by rw [beq_eq_false_iff_ne]; exact h1
  by_cases h2 : k = 2
  ·
   subst h2; go_enter Tryd.func65, Tryd.ntmps65
   go_wp2_with fail
   refine (l2Put_any _ a g o cap es p false x hl hcap ha HE.out).mono ?_; rintro e w1 ⟨v, rfl, ho1, hB1⟩; have HB1 := hidE (HB.out.trans (hB1.mono (by simp))); have HO1 := hidE (ho1.lower (base' := w.heap.size) (by simp)); clear hB1 ho1; go_wp2
   go_ret
   exact ⟨_, rfl, HO1.out, HB1.out⟩
  ·
   have n2 : (k == 2) = false := by rw [beq_eq_false_iff_ne]; exact h2
   by_cases h5 : k = 5
   ·
    subst h5; go_enter Tryd.func65, Tryd.ntmps65
    go_wp2_with fail
    refine (l2Move_any _ a g o cap es p t hl hp ht HZ.out ha HE.out).mono ?_; rintro e w1 ⟨v, rfl, ho1, hB1⟩; have HB1 := hidE (HB.out.trans (hB1.mono (by simp))); have HO1 := hidE (ho1.lower (base' := w.heap.size) (by simp)); clear hB1 ho1; go_wp2
    go_ret
    exact ⟨_, rfl, HO1.out, HB1.out⟩
   ·
    have n5 : (k == 5) = false := by rw [beq_eq_false_iff_ne]; exact h5
    have HC : Hid (madeE es k p t x = offE es p) := by show _ = _; unfold madeE; rw [if_neg h1, if_neg h2, if_neg h5]
    go_enter Tryd.func65, Tryd.ntmps65
    go_wp2_with fail
    refine (l2Off_any _ a g o cap es p hl ha HE.out).mono ?_; rintro e w1 ⟨v, rfl, ho1, hB1⟩; have HB1 := hidE (HB.out.trans (hB1.mono (by simp))); have HO1 := hidE (ho1.lower (base' := w.heap.size) (by simp)); clear hB1 ho1; go_wp2
    go_ret
    exact ⟨_, rfl, by rw [HC.out]; exact HO1.out, HB1.out⟩
set_option maxHeartbeats 2000000 in
theorem sTreeDo_any (w : World) (a : Option Addr) (g o cap : Nat) (es : List E) (k : Int) (p t x : ByteArray) (hl : es.length ≤ 1048576) (hcap : es.length ≤ cap) (hp : p.size ≤ 16777216) (ht : t.size ≤ 16777216) (hx : x.size ≤ 16777216) (hz : ∀ e ∈ es, e.p.size ≤ 16777216 ∧ e.x.size ≤ 16777216) (ha : 0 < es.length → a = some ⟨g, o, none⟩) (hE : Ents w g o es) :
  Calls Tryd.prog 45 #[.slice a es.length cap, .agg #[.int .i64 k, .string p, .string t, .string x]] w fun r w' => ∃ v, r = .returned (.tuple #[v, .int .i64 (doC es ⟨k, p, t, x⟩)]) ∧ OwnE w' w.heap.size v (doE es ⟨k, p, t, x⟩) ∧ Below w.heap.size w w' := by
 obtain ⟨W0, hW0⟩ : ∃ W0, W0 = w.alloc (.cells #[.int .i64 k, .string p, .string t, .string x] 83) := ⟨_, rfl⟩
 have HW := hidE hW0; have HS0 : Hid (W0.heap.size = w.heap.size + 1) := by show _ = _; rw [hW0]; simp
 have HB0 : Hid (Below w.heap.size w W0) := by rw [hW0]; exact (Below.refl _ w).alloc (Nat.le_refl _) _
 have HE := hidE (Ents.below hE HB0.out); have HZ := hidE hz
 have box : ∀ W : World, Below W0.heap.size W0 W → W.cell? ⟨w.heap.size, 0, none⟩ = some (.int .i64 k) ∧ W.cell? ⟨w.heap.size, 1, none⟩ = some (.string p) ∧ W.cell? ⟨w.heap.size, 2, none⟩ = some (.string t) ∧ W.cell? ⟨w.heap.size, 3, none⟩ = some (.string x) := fun W hW => by
  rw [hW0] at hW; exact box4 hW
 have HX := hidE box; have HO := hidE (sTreeOk_any W0 a g o cap es (by omega) hcap hz ha HE.out); clear hE hz hW0 box; cases hT : treeE es with
 | false =>
  have HC : Hid (doC es ⟨k, p, t, x⟩ = 1) := by show _ = _; unfold doC; rw [hT]; rfl
  have HD : Hid (doE es ⟨k, p, t, x⟩ = []) := by show _ = _; unfold doE; rw [hT]; rfl
  rw [hT] at HO; rw [HC.out, HD.out]; go_enter Tryd.func45, Tryd.ntmps45
  go_wp2_with fail
  rw [← HW.out]; refine HO.out.mono ?_; rintro e w1 ⟨rfl, hB1⟩; have HB1 := hidE (HB0.out.trans (hB1.mono (by rw [HS0.out]; omega))); clear hB1; go_wp2
  exact bodyPost_ret (v := .tuple #[.slice (some ⟨w1.heap.size, 0, none⟩) 0 0, .int .i64 1]) (by simp [results, Tryd.results45, go_sem]) rfl ⟨_, rfl, OwnE.made w1 HB1.out.size, HB1.out.alloc HB1.out.size _⟩
 | true =>
  rw [hT] at HO; have HP := hidE (fun (W : World) => sOpOk_any W k p t x hp ht hx); cases hQ : opB ⟨k, p, t, x⟩ with
  | false =>
   have HC : Hid (doC es ⟨k, p, t, x⟩ = 1) := by show _ = _; unfold doC; rw [hT, hQ]; rfl
   have HD : Hid (doE es ⟨k, p, t, x⟩ = es) := by show _ = _; unfold doE; rw [hT, HC.out]; rfl
   rw [hQ] at HP; rw [HC.out, HD.out]; go_enter Tryd.func45, Tryd.ntmps45
   go_wp2_with fail
   rw [← HW.out]; refine HO.out.mono ?_; rintro e w1 ⟨rfl, hB1⟩; obtain ⟨c0, c1, c2, c3⟩ := HX.out w1 hB1; have HB1 := hidE hB1; clear hB1; go_wp2_with fail
   refine (HP.out _).mono ?_; rintro e w2 ⟨rfl, hB2⟩; have HB2 := hidE (HB1.out.trans (hB2.mono HB1.out.size)); have HB3 := hidE (HB2.out.alloc HB2.out.size (.cells #[] 27)); have hz2 := HB2.out.size; clear hB2 HB1 c0 c1 c2 c3
   go_wp2_with (first
    | (at_builtin; refine wpE_append rfl _ _ rfl W0.heap.size (.slice (some ⟨w2.heap.size, 0, none⟩) 0 0) [] rfl (OwnE.made w2 hz2) _ _ g o es es.length rfl rfl ha (HE.out.below HB3.out) ?c1 ?c2 ?_)
    | fail)
   case c1 => show 0 + _ ≤ _; omega
   case c2 => exact HB3.out.size
   intro v5 w5 ho5 hg5; have HB6 := hidE (HB3.out.grown hg5 HB3.out.size (fun q hq => (World.ownsRow.lt (OwnE.made w2 (base := W0.heap.size) hz2) q hq).1)); have HO6 : Hid (OwnE w5 W0.heap.size v5 es) := ho5; clear ho5 hg5 HB3; go_wp2
   exact bodyPost_ret (v := .tuple #[v5, .int .i64 1]) (by simp [results, Tryd.results45, go_sem]) rfl ⟨_, rfl, HO6.out.lower (by rw [HS0.out]; omega), HB0.out.trans (HB6.out.mono (by rw [HS0.out]; omega))⟩
  | true =>
   rw [hQ] at HP; have HC : Hid (doC es ⟨k, p, t, x⟩ = codeC es k p t) := by show _ = _; unfold doC; rw [hT, hQ]; rfl
   have HK := hidE (fun (W : World) (hW : Ents W g o es) => l2Code_any W a g o cap es k p t x hl hp ht HZ.out ha hW); by_cases h0 : codeC es k p t = 0
   ·
    have HD : Hid (doE es ⟨k, p, t, x⟩ = madeE es k p t x) := by show _ = _; unfold doE; rw [hT, HC.out, h0]; rfl
    rw [HC.out, HD.out, h0]; rw [h0] at HK; clear h0; go_enter Tryd.func45, Tryd.ntmps45
    go_wp2_with fail
    rw [← HW.out]; refine HO.out.mono ?_; rintro e w1 ⟨rfl, hB1⟩; obtain ⟨c0, c1, c2, c3⟩ := HX.out w1 hB1; have HB1 := hidE hB1; clear hB1; go_wp2_with fail
    refine (HP.out _).mono ?_; rintro e w2 ⟨rfl, hB2⟩; have HB2 := hidE (HB1.out.trans (hB2.mono HB1.out.size)); clear hB2 HB1 c0 c1 c2 c3; obtain ⟨c0, c1, c2, c3⟩ := HX.out w2 HB2.out; have hz2' := HB2.out.size; go_wp2_with fail
    refine (HK.out _ (HE.out.below HB2.out)).mono ?_; rintro e w3 ⟨rfl, hB3⟩; have HB4 := hidE (HB2.out.trans (hB3.mono HB2.out.size)); clear hB3 HB2 c0 c1 c2 c3; obtain ⟨c0, c1, c2, c3⟩ := HX.out w3 HB4.out; go_wp2_with fail
    refine (l2Do_any _ a g o cap es k p t x hl hcap hp ht HZ.out ha (HE.out.below HB4.out)).mono ?_; rintro e w4 ⟨v, rfl, ho5, hB5⟩; have HB6 := hidE (HB4.out.trans (hB5.mono HB4.out.size)); have HO6 := hidE (ho5.lower (base' := w.heap.size) (Nat.le_trans (by rw [HS0.out]; omega) HB4.out.size)); clear ho5 hB5 c0 c1 c2 c3 HB4; go_wp2
    exact bodyPost_ret (v := .tuple #[v, .int .i64 0]) (by simp [results, Tryd.results45, go_sem]) rfl ⟨_, rfl, HO6.out, HB0.out.trans (HB6.out.mono (by rw [HS0.out]; omega))⟩
   ·
    have HD : Hid (doE es ⟨k, p, t, x⟩ = es) := by show _ = _; unfold doE; rw [hT, HC.out, if_pos rfl, if_neg h0]
    rw [HC.out, HD.out]; obtain ⟨c, hc⟩ : ∃ c, codeC es k p t = c := ⟨_, rfl⟩
    rw [hc] at h0 HK ⊢; have n0 : (c == 0) = false := by rw [beq_eq_false_iff_ne]; exact h0
    clear hc; go_enter Tryd.func45, Tryd.ntmps45
    go_wp2_with fail
    rw [← HW.out]; refine HO.out.mono ?_; rintro e w1 ⟨rfl, hB1⟩; obtain ⟨c0, c1, c2, c3⟩ := HX.out w1 hB1; have HB1 := hidE hB1; clear hB1; go_wp2_with fail
    refine (HP.out _).mono ?_; rintro e w2 ⟨rfl, hB2⟩; have HB2 := hidE (HB1.out.trans (hB2.mono HB1.out.size)); clear hB2 HB1 c0 c1 c2 c3; obtain ⟨c0, c1, c2, c3⟩ := HX.out w2 HB2.out; have hz2' := HB2.out.size; go_wp2_with fail
    refine (HK.out _ (HE.out.below HB2.out)).mono ?_; rintro e w3 ⟨rfl, hB3⟩; have HB4 := hidE (HB2.out.trans (hB3.mono HB2.out.size)); clear hB3 HB2 c0 c1 c2 c3; obtain ⟨c0, c1, c2, c3⟩ := HX.out w3 HB4.out; have HB3 := hidE (HB4.out.alloc HB4.out.size (.cells #[] 27)); have hz2 := HB4.out.size; clear c0 c1 c2 c3
    go_wp2_with (first
     | (at_builtin; refine wpE_append rfl _ _ rfl W0.heap.size (.slice (some ⟨w3.heap.size, 0, none⟩) 0 0) [] rfl (OwnE.made w3 hz2) _ _ g o es es.length rfl rfl ha (HE.out.below HB3.out) ?c1 ?c2 ?_)
     | fail)
    case c1 => show 0 + _ ≤ _; omega
    case c2 => exact HB3.out.size
    intro v5 w5 ho5 hg5; have HB6 := hidE (HB3.out.grown hg5 HB3.out.size (fun q hq => (World.ownsRow.lt (OwnE.made w3 (base := W0.heap.size) hz2) q hq).1)); have HO6 : Hid (OwnE w5 W0.heap.size v5 es) := ho5; clear ho5 hg5 HB3; go_wp2
    exact bodyPost_ret (v := .tuple #[v5, .int .i64 c]) (by simp [results, Tryd.results45, go_sem]) rfl ⟨_, rfl, HO6.out.lower (by rw [HS0.out]; omega), HB0.out.trans (HB6.out.mono (by rw [HS0.out]; omega))⟩
end Go.Proofs.YtoaipphccjkphaaDoor
