import Derived.Test.YtoaipphccjkphaaDoorHPk13
import Derived.Test.YtoaipphccjkphaaDoorHPk14
import Derived.Test.YtoaipphccjkphaaDoorHPk05
import Derived.Deep.RegionHeld3
import Derived.Test.YtoaipphccjkphaaDoorHPk12
import Derived.Laws.StructEq
import Derived.Laws.Small
import Derived.KernelRfl
namespace Go.Proofs.YtoaipphccjkphaaDoor.Mg
open Go.RowKit Go.Lib
theorem Row.iOk {w : World} {v : Value} {es : List E} (h : Row w v es) (ae : Int → Addr) (hErr : Errs2 w ae) : Calls Tryd.prog 18 #[v] w fun r w' => r = .returned (.bool (treeE es)) ∧ Below w.heap.size w w' := by
 obtain ⟨a, g, o, cap, rfl, h1, h2, h3, h4, h5⟩ := h; exact iTreeOk_any w a g o cap es ae hErr h1 h3 h4 h5
def encT (x : E × Bool) : Value := .agg #[.string x.1.p, .bool x.1.d, .string x.1.x, .bool x.2]
def Rows3 (w : World) (g : Nat) (es : List (List E)) : Prop := ∀ i (h : i < es.length), ∃ v, w.cell? ⟨g, i, none⟩ = some v ∧ Row w v es[i]
theorem Rows3.below {w w' : World} {g : Nat} {es : List (List E)} (h : Rows3 w g es) (hb : Below w.heap.size w w') : Rows3 w' g es := fun i hi => by
 obtain ⟨v, c, r⟩ := h i hi; exact ⟨v, (hb.cell (p := ⟨g, i, none⟩) (World.block_lt_of_cell? w ⟨g, i, none⟩ c)).trans c, r.below hb⟩
theorem all_take {α : Type} (P : α → Bool) (es : List α) (k : Nat) (h : k < es.length) (hp : (es.take k).all P = true) (hk : P es[k] = true) : (es.take (k + 1)).all P = true := by
 rw [List.take_succ_eq_append_getElem h, List.all_append, hp]; simp [hk]
theorem all_cut {α : Type} (P : α → Bool) (es : List α) (k : Nat) (h : k < es.length) (hk : P es[k] = false) : es.all P = false := by
 rw [List.all_eq_false]; exact ⟨es[k], List.getElem_mem _, by simp [hk]⟩
set_option maxHeartbeats 1000000 in
set_option maxRecDepth 100000 in
theorem allTrees_any (w : World) (g cap : Nat) (es : List (List E)) (ae : Int → Addr) (hErr : Errs2 w ae) (hn : es.length ≤ 1000) (h : Rows3 w g es) :
  Calls Tryd.prog 22 #[.slice (some ⟨g, 0, none⟩) es.length cap] w fun r w' => r = .returned (.bool (es.all treeE)) ∧ Below w.heap.size w w' := by
 have HE := hidE h; have HR := hidE hErr; clear h hErr; go_enter Tryd.func22, Tryd.ntmps22
 go_wp2
 go_loopw [7] (fun iv wl => ∃ k : Nat, k ≤ es.length ∧ iv = .int .i64 k ∧ Hid (Below w.heap.size w wl) ∧ Hid ((es.take k).all treeE = true)) (fun iv _ => es.length - (RowKit.intOf iv).toNat)
 case atStart => exact ⟨0, Nat.zero_le _, rfl, Below.refl _ _, by show _ = _; simp⟩
 case round =>
  obtain ⟨k, hk, rfl, HB, HA⟩ := hrel; by_cases hlt : k < es.length
  ·
   obtain ⟨v, c0, hr⟩ := (HE.out.below HB.out) k hlt; have HI := hidE (hr.iOk ae (HR.out.below HB.out)); clear hr; go_wp2_with fail
   refine HI.out.mono ?_; rintro e w2 ⟨rfl, hB2⟩; have HB2 := hidE (HB.out.trans (hB2.mono HB.out.size)); clear hB2 HB HI c0; cases hs : treeE es[k] with
   | true =>
    have HA2 := hidE (all_take treeE es k hlt HA.out hs); go_wp2
    go_roundw
    case rel => exact ⟨k + 1, by omega, by go_num, HB2, HA2⟩
    case measure => simp [RowKit.intOf]; omega
   | false =>
    have HN := hidE (all_cut treeE es k hlt hs); go_wp2
    go_ret
    exact ⟨ret_bE HN.out.symm, HB2.out⟩
  ·
   go_wp2
   go_ret
   have := HA.out; rw [List.take_of_length_le (by omega)] at this; exact ⟨ret_bE this.symm, HB.out⟩
theorem trees3_all (t a b : List E) : [t, a, b].all treeE = trees3 t a b := by simp [trees3]
def fstN (es : List (List E)) : ByteArray × Bool := es.foldl fstF (⟨#[]⟩, false)
theorem fstN_succ (es : List (List E)) (k : Nat) (h : k < es.length) : fstN (es.take (k + 1)) = fstF (fstN (es.take k)) es[k] := by
 unfold fstN; rw [List.take_succ_eq_append_getElem h, List.foldl_append]; rfl
set_option maxHeartbeats 2000000 in
set_option maxRecDepth 100000 in
theorem firstPath_any (w : World) (g cap : Nat) (es : List (List E)) (hn : es.length ≤ 1000) (h : Rows3 w g es) :
  Calls Tryd.prog 76 #[.slice (some ⟨g, 0, none⟩) es.length cap] w fun r w' => r = .returned (.tuple #[.string (fstN es).1, .bool (fstN es).2]) ∧ Below w.heap.size w w' := by
 have HE := hidE h; clear h; go_enter Tryd.func76, Tryd.ntmps76
 go_wp2
 go_loopw [4, 5, 10] (fun fv tv iv wl => ∃ k : Nat, k ≤ es.length ∧ iv = .int .i64 k ∧ (∃ m, fv = .string m.1 ∧ tv = .bool m.2 ∧ Hid (fstN (es.take k) = m)) ∧ Hid (Below w.heap.size w wl)) (fun _ _ iv _ => es.length - (RowKit.intOf iv).toNat)
 case atStart => exact ⟨0, Nat.zero_le _, rfl, ⟨(⟨#[]⟩, false), rfl, rfl, rfl⟩, Below.refl _ _⟩
 case round =>
  obtain ⟨k, hk, rfl, ⟨⟨m1, m2⟩, rfl, rfl, HM⟩, HB⟩ := hrel; by_cases hlt : k < es.length
  ·
   obtain ⟨v, c0, hr⟩ := (HE.out.below HB.out) k hlt; have HK := hidE (fstN_succ es k hlt); rw [HM.out] at HK; obtain ⟨r, hre⟩ : ∃ r, es[k] = r := ⟨_, rfl⟩
   rw [hre] at hr HK; clear hre; obtain ⟨ar, gr, orr, cr, rfl, q1, q2, q3, q4, q5⟩ := hr; cases r with
   | nil =>
    have HK2 : Hid (fstN (es.take (k + 1)) = (m1, m2)) := HK.out; clear q3 q4 q5; go_wp2
    go_roundw
    case rel => exact ⟨k + 1, by omega, by go_num, ⟨(m1, m2), rfl, rfl, HK2⟩, HB⟩
    case measure => simp [RowKit.intOf]; omega
   | cons e r =>
    obtain rfl := q4 (by simp); obtain ⟨d0, d1, d2⟩ := q5 0 (by simp); simp only [List.getElem_cons_zero, Nat.zero_mul, Nat.add_zero] at d0 d1 d2; have hl0 : 0 < (e :: r).length := by simp
    have hln : (0 : Int) < (((e :: r).length : Nat) : Int) := by omega
    obtain ⟨n, hln2⟩ : ∃ n, (e :: r).length = n := ⟨_, rfl⟩
    rw [hln2] at c0 q1 q2 hln hl0; clear q3 q4 q5 d1 d2 hln2; cases m2 with
    | false =>
     have HK2 : Hid (fstN (es.take (k + 1)) = (e.p, true)) := by show _ = _; rw [HK.out]; rfl
     go_wp2
     go_roundw
     case rel => exact ⟨k + 1, by omega, by go_num, ⟨(e.p, true), rfl, rfl, HK2⟩, HB⟩
     case measure => simp [RowKit.intOf]; omega
    | true =>
     cases hls : Op.bytesLess e.p.toList m1.toList with
     | true =>
      have HK2 : Hid (fstN (es.take (k + 1)) = (e.p, true)) := by show _ = _; rw [HK.out]; show (if true = false then (e.p, true) else if less e.p m1 then (e.p, true) else (m1, true)) = _; rw [if_neg (by decide), if_pos (show less e.p m1 from hls)]
      go_wp2
      go_roundw
      case rel => exact ⟨k + 1, by omega, by go_num, ⟨(e.p, true), rfl, rfl, HK2⟩, HB⟩
      case measure => simp [RowKit.intOf]; omega
     | false =>
      have HK2 : Hid (fstN (es.take (k + 1)) = (m1, true)) := by show _ = _; rw [HK.out]; show (if true = false then (e.p, true) else if less e.p m1 then (e.p, true) else (m1, true)) = _; rw [if_neg (by decide), if_neg (by unfold less; rw [hls]; decide)]
      go_wp2
      go_roundw
      case rel => exact ⟨k + 1, by omega, by go_num, ⟨(m1, true), rfl, rfl, HK2⟩, HB⟩
      case measure => simp [RowKit.intOf]; omega
  ·
   have hM := HM.out; rw [List.take_of_length_le (by omega)] at hM; have HM2 := hidE hM; clear hM; go_wp2
   go_ret2
   exact ⟨by rw [HM2.out]; rfl, HB.out⟩
def RowG (n : Nat) (w : World) (v : Value) (es : List E) : Prop := ∃ a g o cap, v = .slice a es.length cap ∧ es.length ≤ 16777216 ∧ es.length ≤ cap ∧ (∀ e ∈ es, e.p.size ≤ 16777216 ∧ e.x.size ≤ 16777216) ∧ (0 < es.length → a = some ⟨g, o, none⟩ ∧ g < n) ∧ Ents w g o es
theorem RowG.row {n : Nat} {w : World} {v : Value} {es : List E} (h : RowG n w v es) : Row w v es := by
 obtain ⟨a, g, o, cap, rfl, h1, h2, h3, h4, h5⟩ := h; exact ⟨a, g, o, cap, rfl, h1, h2, h3, fun h => (h4 h).1, h5⟩
theorem Row.rowG {w : World} {v : Value} {es : List E} (h : Row w v es) : RowG w.heap.size w v es := by
 obtain ⟨a, g, o, cap, rfl, h1, h2, h3, h4, h5⟩ := h; exact ⟨a, g, o, cap, rfl, h1, h2, h3, fun h => ⟨h4 h, World.block_lt_of_cell? w ⟨g, o + 0 * 3, none⟩ (h5 0 h).1⟩, h5⟩
theorem RowG.keep {n : Nat} {w w' : World} {v : Value} {es : List E} (h : RowG n w v es) (hk : ∀ g, g < n → w'.heap[g]? = w.heap[g]?) : RowG n w' v es := by
 obtain ⟨a, g, o, cap, rfl, h1, h2, h3, h4, h5⟩ := h; refine ⟨a, g, o, cap, rfl, h1, h2, h3, h4, fun i hi => ?_⟩; have hg := hk g (h4 (by omega)).2; have hc : ∀ c : Nat, w'.cell? ⟨g, c, none⟩ = w.cell? ⟨g, c, none⟩ := fun c => by unfold World.cell?; rw [hg]
 rw [hc, hc, hc]; exact h5 i hi
theorem RowG.below {n : Nat} {w w' : World} {v : Value} {es : List E} (h : RowG n w v es) (hb : Below n w w') : RowG n w' v es := h.keep fun g hg => hb.block g hg
theorem RowG.belowS {n : Nat} {w w' : World} {v : Value} {es : List E} (h : RowG n w v es) (hb : Below w.heap.size w w') (hn : n ≤ w.heap.size) : RowG n w' v es := h.keep fun g hg => hb.block g (by omega)
def pullE : List E → ByteArray → (E × Bool) × List E
 | [], _ => ((noneE, false), [])
 | e :: r, s => if e.p = s then ((e, true), r) else ((noneE, false), e :: r)
set_option maxHeartbeats 2000000 in
set_option maxRecDepth 100000 in
theorem pullAt_any (w : World) (v : Value) (r : List E) (s : ByteArray) (nn : Nat) (hnn : nn ≤ w.heap.size) (h : RowG nn w v r) :
  Calls Tryd.prog 77 #[v, .string s] w fun e w' => ∃ v', e = .returned (.tuple #[encT (pullE r s).1, v']) ∧ RowG nn w' v' (pullE r s).2 ∧ Below w.heap.size w w' := by
 have HB := hidE ((Below.refl _ w).alloc (Nat.le_refl _) (.cells #[.string ⟨#[]⟩, .bool false, .string ⟨#[]⟩, .bool false] 48)); obtain ⟨ar, gr, orr, cr, rfl, q1, q2, q3, q4, q5⟩ := id h; cases r with
 | nil =>
  have HR := hidE (show RowG nn w (.slice ar 0 cr) [] from h); clear q3 q4 q5 h; go_enter Tryd.func77, Tryd.ntmps77
  go_wp2
  exact bodyPost_ret (v := .tuple #[encT (noneE, false), .slice ar 0 cr]) (by simp [results, Tryd.f77, go_sem, encT, noneE]) rfl ⟨_, rfl, HR.out.belowS ((Below.refl _ w).alloc (Nat.le_refl _) _) hnn, (Below.refl _ w).alloc (Nat.le_refl _) _⟩
 | cons e r =>
  obtain ⟨rfl, hgn⟩ := q4 (by simp); obtain ⟨d0, d1, d2⟩ := q5 0 (by simp); simp only [List.getElem_cons_zero, Nat.zero_mul, Nat.add_zero] at d0 d1 d2; have HR := hidE h; have HD := hidE (ents_drop q5); have HS := hidE q3; have e0 := fun o => cellOn o d0; have e1 := fun o => cellOn o d1; have e2 := fun o => cellOn o d2; have hl0 : 0 < (e :: r).length := by simp
  have hln : (0 : Int) < (((e :: r).length : Nat) : Int) := by omega
  have hlr : (e :: r).length = r.length + 1 := rfl; have HL := hidE hlr; obtain ⟨n, hln2⟩ : ∃ n, (e :: r).length = n := ⟨_, rfl⟩
  rw [hln2] at q1 q2 hln hl0 hlr HL ⊢; have HN := hidE hln2; clear q3 q4 q5 h hln2 hlr; have hne : ¬ ((n : Nat) : Int) = 0 := by omega
  have hge : (1 : Int) ≤ n := by omega
  by_cases hp : e.p = s
  ·
   have hq : pullE (e :: r) s = ((e, true), r) := if_pos hp; rw [hq]; have hpl : e.p.toList = s.toList := by rw [hp]
   have hpb : (e.p.toList == s.toList) = true := by simp [hp]
   clear hq hp; obtain ⟨p, d, x⟩ := e; have hwrap : IntKind.i64.wrap 1 = 1 := by decide
   have HFin : Hid (∀ (b : Option Addr) (m c : Nat) (W : World), Below w.heap.size w W → m = n - 1 → m ≤ c → (0 < m → b = some ⟨gr, orr + 3, none⟩) → RowG nn W (.slice b m c) r) := fun b m c W hB hm hc hb => by
    have hl := HL.out; obtain rfl : m = r.length := by omega
    refine ⟨b, gr, orr + 3, c, rfl, by omega, hc, fun y hy => HS.out y (List.mem_cons_of_mem _ hy), fun h => ⟨hb h, hgn⟩, ?_⟩; exact (HD.out (orr + 3) 1 (.inl (by omega))).below hB
   by_cases hc : cr = 1
   ·
    subst hc; go_enter Tryd.func77, Tryd.ntmps77
    go_wp2
    go_region_with (fail)
    all_goals go_wp2
    all_goals exact bodyPost_ret (v := .tuple #[encT (⟨p, d, x⟩, true), .slice (some ⟨gr, orr, none⟩) 0 0]) (by simp [results, Tryd.f77, go_sem, encT]) rfl ⟨_, rfl, HFin.out _ _ _ _ (Below.drew ((Below.refl _ w).alloc (Nat.le_refl _) _)) (by omega) (by omega) (fun h => by omega), Below.drew ((Below.refl _ w).alloc (Nat.le_refl _) _)⟩
   ·
    go_enter Tryd.func77, Tryd.ntmps77
    go_wp2
    go_region_with (fail)
    all_goals go_wp2
    all_goals exact bodyPost_ret (v := .tuple #[encT (⟨p, d, x⟩, true), .slice (some ⟨gr, orr + 3, none⟩) (n - 1) (cr - 1)]) (by simp [results, Tryd.f77, go_sem, encT]) rfl ⟨_, rfl, HFin.out _ _ _ _ (Below.drew ((Below.refl _ w).alloc (Nat.le_refl _) _)) (by omega) (by omega) (fun h => rfl), Below.drew ((Below.refl _ w).alloc (Nat.le_refl _) _)⟩
  ·
   have hq : pullE (e :: r) s = ((noneE, false), e :: r) := if_neg hp; rw [hq]; have hpl : ¬ e.p.toList = s.toList := fun q => hp (toList_inj q); have hpb : (e.p.toList == s.toList) = false := by simpa using hpl
   clear hq hp; go_enter Tryd.func77, Tryd.ntmps77
   go_wp2
   exact bodyPost_ret (v := .tuple #[encT (noneE, false), .slice (some ⟨gr, orr, none⟩) n cr]) (by simp [results, Tryd.f77, go_sem, encT, noneE]) rfl ⟨_, rfl, (show RowG nn w (.slice (some ⟨gr, orr, none⟩) n cr) (e :: r) from HN.out ▸ HR.out).belowS ((Below.refl _ w).alloc (Nat.le_refl _) _) hnn, (Below.refl _ w).alloc (Nat.le_refl _) _⟩
theorem eq_entN (a b c a' b' c' : _) (w : World) : (Op.equalIn 9999 27 (.agg #[.string a, .bool b, .string c]) (.agg #[.string a', .bool b', .string c'])).run Tryd.prog w = .ok ((a.toList == a'.toList) && (b == b') && (c.toList == c'.toList)) w := by
 have u9 := Tryd.underlying9; have u4 := Tryd.underlying4; have a9 := Tryd.isAgg9; have a4 := Tryd.isAgg4; have z9 := Tryd.sizeOf9; have z4 := Tryd.sizeOf4; have hS : Tryd.prog.underlying 27 = some (.struct (Tryd.prog.fieldsOf 27)) := by kernel_rfl
 have hp : Tryd.prog.stoodInHeld 27 = false := by kernel_rfl
 rw [show (9999 : Nat) = 9998 + 1 from rfl, run_equalIn_agg w 9998 27 _ _ hS hp]; simp only [Program.fieldsOf, Tryd.underlying27]; go_simp; cases h1 : (a.toList == a'.toList) <;> cases h2 : (b == b') <;> cases h3 : (c.toList == c'.toList) <;> simp_all
theorem eq_told (p : ByteArray) (d : Bool) (x : ByteArray) (b : Bool) (p' : ByteArray) (d' : Bool) (x' : ByteArray) (b' : Bool) (w : World) : (Op.equalIn 10000 48 (.agg #[.string p, .bool d, .string x, .bool b]) (.agg #[.string p', .bool d', .string x', .bool b'])).run Tryd.prog w = .ok (eqT (⟨p, d, x⟩, b) (⟨p', d', x'⟩, b')) w := by
 have u4 := Tryd.underlying4; have a4 := Tryd.isAgg4; have z4 := Tryd.sizeOf4; have ue := Tryd.underlying27; have ae := Tryd.isAgg27; have ze := Tryd.sizeOf27; have hS : Tryd.prog.underlying 48 = some (.struct (Tryd.prog.fieldsOf 48)) := by kernel_rfl
 have hp : Tryd.prog.stoodInHeld 48 = false := by kernel_rfl
 have hq := eq_entN p d x p' d' x' w; rw [show (10000 : Nat) = 9999 + 1 from rfl, run_equalIn_agg w 9999 48 _ _ hS hp]; simp only [Program.fieldsOf, Tryd.underlying48]; go_simp; unfold eqT sameT1; dsimp only; cases h1 : (p.toList == p'.toList) <;> cases h2 : (d == d') <;> cases h3 : (x.toList == x'.toList) <;> cases h4 : (b == b') <;> simp_all
theorem guard_told (op : BinOp) (x y : Operand) (xs ys : Array Value) (w : World) : (eqGuard op 48 x y (.agg xs) (.agg ys)).run Tryd.prog w = .ok () w := run_eqGuard_agg w op 48 x y xs ys (by kernel_rfl)
attribute [local go_sem high] eq_told guard_told
def encA (s : ByteArray) (x y z : E × Bool) : Value := .agg #[.string s, .string x.1.p, .bool x.1.d, .string x.1.x, .bool x.2, .string y.1.p, .bool y.1.d, .string y.1.x, .bool y.2, .string z.1.p, .bool z.1.d, .string z.1.x, .bool z.2]
def errA (s : ByteArray) (ok : Bool) : Value := if ok = true then .nilIface else .iface 89 (.agg #[.string s])
set_option maxHeartbeats 4000000 in
set_option maxRecDepth 100000 in
theorem made_any (w : World) (s : ByteArray) (x y z : E × Bool) :
  Calls Tryd.prog 24 #[encA s x y z] w fun r w' => r = .returned (.tuple #[encT ((at3 x y z).1, (at3 x y z).2.1), errA s (at3 x y z).2.2]) ∧ Below w.heap.size w w' := by
 obtain ⟨⟨xp, xd, xx⟩, xb⟩ := x; obtain ⟨⟨yp, yd, yx⟩, yb⟩ := y; obtain ⟨⟨zp, zd, zx⟩, zb⟩ := z; unfold encA; dsimp only; cases h1 : eqT (⟨yp, yd, yx⟩, yb) (⟨xp, xd, xx⟩, xb) with
 | true =>
  have hq : at3 (⟨xp, xd, xx⟩, xb) (⟨yp, yd, yx⟩, yb) (⟨zp, zd, zx⟩, zb) = (⟨zp, zd, zx⟩, zb, true) := by unfold at3; rw [h1]; rfl
  rw [hq]; go_enter Tryd.func24, Tryd.ntmps24
  go_wp2
  exact bodyPost_ret (v := .tuple #[.agg #[.string zp, .bool zd, .string zx, .bool zb], .nilIface]) (by simp [results, Tryd.f24, go_sem]) rfl ⟨rfl, ((Below.refl _ w).alloc (Nat.le_refl _) _).alloc (by simp) _⟩
 | false =>
  cases h2 : eqT (⟨zp, zd, zx⟩, zb) (⟨xp, xd, xx⟩, xb) with
  | true =>
   have hq : at3 (⟨xp, xd, xx⟩, xb) (⟨yp, yd, yx⟩, yb) (⟨zp, zd, zx⟩, zb) = (⟨yp, yd, yx⟩, yb, true) := by unfold at3; rw [h1, h2]; rfl
   rw [hq]; go_enter Tryd.func24, Tryd.ntmps24
   go_wp2
   exact bodyPost_ret (v := .tuple #[.agg #[.string yp, .bool yd, .string yx, .bool yb], .nilIface]) (by simp [results, Tryd.f24, go_sem]) rfl ⟨rfl, ((Below.refl _ w).alloc (Nat.le_refl _) _).alloc (by simp) _⟩
  | false =>
   cases h3 : eqT (⟨yp, yd, yx⟩, yb) (⟨zp, zd, zx⟩, zb) with
   | true =>
    have hq : at3 (⟨xp, xd, xx⟩, xb) (⟨yp, yd, yx⟩, yb) (⟨zp, zd, zx⟩, zb) = (⟨yp, yd, yx⟩, yb, true) := by unfold at3; rw [h1, h2, h3]; rfl
    rw [hq]; go_enter Tryd.func24, Tryd.ntmps24
    go_wp2
    exact bodyPost_ret (v := .tuple #[.agg #[.string yp, .bool yd, .string yx, .bool yb], .nilIface]) (by simp [results, Tryd.f24, go_sem]) rfl ⟨rfl, ((Below.refl _ w).alloc (Nat.le_refl _) _).alloc (by simp) _⟩
   | false =>
    have hq : at3 (⟨xp, xd, xx⟩, xb) (⟨yp, yd, yx⟩, yb) (⟨zp, zd, zx⟩, zb) = (noneE, false, false) := by unfold at3; rw [h1, h2, h3]; rfl
    rw [hq]; go_enter Tryd.func24, Tryd.ntmps24
    go_wp2
    go_region_with (fail)
    all_goals go_wp2
    all_goals exact bodyPost_ret (v := .tuple #[.agg #[.string ⟨#[]⟩, .bool false, .string ⟨#[]⟩, .bool false], .iface 89 (.agg #[.string s])]) (by simp [results, Tryd.f24, go_sem]) rfl ⟨rfl, Below.drew (((Below.refl _ w).alloc (Nat.le_refl _) _).alloc (by simp) _)⟩
end Go.Proofs.YtoaipphccjkphaaDoor.Mg
namespace Go.Proofs.YtoaipphccjkphaaDoor.Mg
open Go.RowKit Go.Lib
def Bx (W : World) (b : Nat) (T : TypeId) (cs : Array Value) : Prop := W.heap[b]? = some (.cells cs T (0, 0))
theorem Bx.cell {W : World} {b : Nat} {T : TypeId} {cs : Array Value} (h : Bx W b T cs) (i : Nat) : W.cell? ⟨b, i, none⟩ = cs[i]? := by
 unfold World.cell?; rw [show W.heap[b]? = _ from h]; simp
theorem Bx.frozen {W : World} {b : Nat} {T : TypeId} {cs : Array Value} (h : Bx W b T cs) (i : Nat) : W.frozen? ⟨b, i, none⟩ = false := by
 unfold World.frozen?; rw [show W.heap[b]? = _ from h]; simp
theorem Bx.lt {W : World} {b : Nat} {T : TypeId} {cs : Array Value} (h : Bx W b T cs) : b < W.heap.size := (Array.getElem?_eq_some_iff.1 h).1
theorem Bx.below {W W' : World} {b : Nat} {T : TypeId} {cs : Array Value} (h : Bx W b T cs) (hb : Below W.heap.size W W') : Bx W' b T cs := (hb.block b h.lt).trans h
theorem Bx.new (W : World) (T : TypeId) (cs : Array Value) : Bx (W.alloc (.cells cs T)) W.heap.size T cs := World.alloc_heap_new W _
theorem Bx.set {W : World} {b : Nat} {T : TypeId} {cs : Array Value} (h : Bx W b T cs) (i : Nat) (v : Value) : Bx (W.setCell ⟨b, i, none⟩ v) b T (cs.setIfInBounds i v) := by
 rw [setCell_eq_setRow W b i _ T (0, 0) v h]; exact setRow_heap W b _ _ T (0, 0) h
theorem Bx.other {W : World} {b c i : Nat} {T : TypeId} {cs : Array Value} (h : Bx W b T cs) (hc : b ≠ c) (v : Value) : Bx (W.setCell ⟨c, i, none⟩ v) b T cs := (Below.heap_setCell W ⟨c, i, none⟩ v b hc).trans h
theorem cell0_one (v : Value) : (#[v] : Array Value)[0]? = some v := rfl
def cA (s : ByteArray) (x y z : E × Bool) : Array Value := #[.string s, .string x.1.p, .bool x.1.d, .string x.1.x, .bool x.2, .string y.1.p, .bool y.1.d, .string y.1.x, .bool y.2, .string z.1.p, .bool z.1.d, .string z.1.x, .bool z.2]
def zT : E × Bool := (noneE, false)
theorem setOff (w : World) (b i j : Nat) (v : Value) (h : i ≠ j) : (w.setCell ⟨b, i, none⟩ v).cell? ⟨b, j, none⟩ = w.cell? ⟨b, j, none⟩ := World.cell?_setCell_other _ _ _ _ (fun q => by have e := congrArg Addr.off q; dsimp only at e; omega)
theorem setBlk (w : World) (b c i j : Nat) (v : Value) (h : b ≠ c) : (w.setCell ⟨c, i, none⟩ v).cell? ⟨b, j, none⟩ = w.cell? ⟨b, j, none⟩ := World.cell?_setCell_other _ _ _ _ (fun q => by have e := congrArg Addr.block q; dsimp only at e; omega)
theorem rules5 {W : World} {t B : Nat} {T U : TypeId} {cs : Array Value} {v c0 c1 c2 c3 : Value} (hT : Bx W t T cs) (hB : Bx W B U #[v]) (hne : B ≠ t) (k0 k1 k2 k3 : Nat) (e1 : k1 = k0 + 1) (e2 : k2 = k0 + 2) (e3 : k3 = k0 + 3)
  (h0 : cs[k0]? = some c0) (h1 : cs[k1]? = some c1) (h2 : cs[k2]? = some c2) (h3 : cs[k3]? = some c3) :
  (W.cell? ⟨t, k0, none⟩ = some c0 ∧ W.frozen? ⟨t, k0, none⟩ = false) ∧
  (∀ u, (W.setCell ⟨t, k0, none⟩ u).cell? ⟨t, k1, none⟩ = some c1 ∧ (W.setCell ⟨t, k0, none⟩ u).frozen? ⟨t, k1, none⟩ = false) ∧
  (∀ u x, ((W.setCell ⟨t, k0, none⟩ u).setCell ⟨t, k1, none⟩ x).cell? ⟨t, k2, none⟩ = some c2 ∧ ((W.setCell ⟨t, k0, none⟩ u).setCell ⟨t, k1, none⟩ x).frozen? ⟨t, k2, none⟩ = false) ∧
  (∀ u x y, (((W.setCell ⟨t, k0, none⟩ u).setCell ⟨t, k1, none⟩ x).setCell ⟨t, k2, none⟩ y).cell? ⟨t, k3, none⟩ = some c3 ∧ (((W.setCell ⟨t, k0, none⟩ u).setCell ⟨t, k1, none⟩ x).setCell ⟨t, k2, none⟩ y).frozen? ⟨t, k3, none⟩ = false) ∧
  (∀ u x y z, ((((W.setCell ⟨t, k0, none⟩ u).setCell ⟨t, k1, none⟩ x).setCell ⟨t, k2, none⟩ y).setCell ⟨t, k3, none⟩ z).cell? ⟨B, 0, none⟩ = some v ∧ ((((W.setCell ⟨t, k0, none⟩ u).setCell ⟨t, k1, none⟩ x).setCell ⟨t, k2, none⟩ y).setCell ⟨t, k3, none⟩ z).frozen? ⟨B, 0, none⟩ = false) := by
 refine ⟨⟨?_, ?_⟩, fun u => ⟨?_, ?_⟩, fun u x => ⟨?_, ?_⟩, fun u x y => ⟨?_, ?_⟩, fun u x y z => ⟨?_, ?_⟩⟩
 ·
  rw [hT.cell]; exact h0
 ·
  exact hT.frozen _
 ·
  rw [setOff _ _ _ _ _ (by omega), hT.cell]; exact h1
 ·
  rw [World.frozen?_setCell]; exact hT.frozen _
 ·
  rw [setOff _ _ _ _ _ (by omega), setOff _ _ _ _ _ (by omega), hT.cell]; exact h2
 ·
  rw [World.frozen?_setCell, World.frozen?_setCell]; exact hT.frozen _
 ·
  rw [setOff _ _ _ _ _ (by omega), setOff _ _ _ _ _ (by omega), setOff _ _ _ _ _ (by omega), hT.cell]; exact h3
 ·
  rw [World.frozen?_setCell, World.frozen?_setCell, World.frozen?_setCell]; exact hT.frozen _
 ·
  rw [setBlk _ _ _ _ _ _ hne, setBlk _ _ _ _ _ _ hne, setBlk _ _ _ _ _ _ hne, setBlk _ _ _ _ _ _ hne, hB.cell]; rfl
 ·
  rw [World.frozen?_setCell, World.frozen?_setCell, World.frozen?_setCell, World.frozen?_setCell]; exact hB.frozen _
theorem is5 {W : World} {t B : Nat} {T U : TypeId} {cs : Array Value} {v : Value} (hT : Bx W t T cs) (hB : Bx W B U #[v]) (hne : B ≠ t) (k0 k1 k2 k3 : Nat) (u x y z q : Value) :
  Bx (((((W.setCell ⟨t, k0, none⟩ u).setCell ⟨t, k1, none⟩ x).setCell ⟨t, k2, none⟩ y).setCell ⟨t, k3, none⟩ z).setCell ⟨B, 0, none⟩ q) t T ((((cs.setIfInBounds k0 u).setIfInBounds k1 x).setIfInBounds k2 y).setIfInBounds k3 z) ∧
  Bx (((((W.setCell ⟨t, k0, none⟩ u).setCell ⟨t, k1, none⟩ x).setCell ⟨t, k2, none⟩ y).setCell ⟨t, k3, none⟩ z).setCell ⟨B, 0, none⟩ q) B U #[q] ∧
  (∀ g, g ≠ t → g ≠ B → (((((W.setCell ⟨t, k0, none⟩ u).setCell ⟨t, k1, none⟩ x).setCell ⟨t, k2, none⟩ y).setCell ⟨t, k3, none⟩ z).setCell ⟨B, 0, none⟩ q).heap[g]? = W.heap[g]?) ∧
  (∀ n, n ≤ t → n ≤ B → Below n W (((((W.setCell ⟨t, k0, none⟩ u).setCell ⟨t, k1, none⟩ x).setCell ⟨t, k2, none⟩ y).setCell ⟨t, k3, none⟩ z).setCell ⟨B, 0, none⟩ q)) := by
 refine ⟨((((hT.set k0 u).set k1 x).set k2 y).set k3 z).other (fun e => hne e.symm) q, ?_, fun g h1 h2 => ?_, fun n h1 h2 => ?_⟩
 ·
  exact ((((hB.other hne u).other hne x).other hne y).other hne z).set 0 q
 ·
  rw [Below.heap_setCell _ ⟨B, 0, none⟩ q g h2, Below.heap_setCell _ ⟨t, k3, none⟩ z g h1, Below.heap_setCell _ ⟨t, k2, none⟩ y g h1, Below.heap_setCell _ ⟨t, k1, none⟩ x g h1, Below.heap_setCell _ ⟨t, k0, none⟩ u g h1]
 ·
  exact (((((Below.refl n W).setCell (p := ⟨t, k0, none⟩) h1 u).setCell (p := ⟨t, k1, none⟩) h1 x).setCell (p := ⟨t, k2, none⟩) h1 y).setCell (p := ⟨t, k3, none⟩) h1 z).setCell (p := ⟨B, 0, none⟩) h2 q
theorem is13 {W : World} {b : Nat} {T : TypeId} {c0 c1 c2 c3 c4 c5 c6 c7 c8 c9 c10 c11 c12 : Value} (h : Bx W b T #[c0, c1, c2, c3, c4, c5, c6, c7, c8, c9, c10, c11, c12]) (q0 q1 q2 q3 q4 q5 q6 q7 q8 q9 q10 q11 q12 : Value) :
  Bx (((((((((((((W.setCell ⟨b, 0, none⟩ q0).setCell ⟨b, 1, none⟩ q1).setCell ⟨b, 2, none⟩ q2).setCell ⟨b, 3, none⟩ q3).setCell ⟨b, 4, none⟩ q4).setCell ⟨b, 5, none⟩ q5).setCell ⟨b, 6, none⟩ q6).setCell ⟨b, 7, none⟩ q7).setCell ⟨b, 8, none⟩ q8).setCell ⟨b, 9, none⟩ q9).setCell ⟨b, 10, none⟩ q10).setCell ⟨b, 11, none⟩ q11).setCell ⟨b, 12, none⟩ q12) b T #[q0, q1, q2, q3, q4, q5, q6, q7, q8, q9, q10, q11, q12] ∧
  (∀ g, g ≠ b → (((((((((((((W.setCell ⟨b, 0, none⟩ q0).setCell ⟨b, 1, none⟩ q1).setCell ⟨b, 2, none⟩ q2).setCell ⟨b, 3, none⟩ q3).setCell ⟨b, 4, none⟩ q4).setCell ⟨b, 5, none⟩ q5).setCell ⟨b, 6, none⟩ q6).setCell ⟨b, 7, none⟩ q7).setCell ⟨b, 8, none⟩ q8).setCell ⟨b, 9, none⟩ q9).setCell ⟨b, 10, none⟩ q10).setCell ⟨b, 11, none⟩ q11).setCell ⟨b, 12, none⟩ q12).heap[g]? = W.heap[g]?) ∧ (∀ n, n ≤ b → Below n W (((((((((((((W.setCell ⟨b, 0, none⟩ q0).setCell ⟨b, 1, none⟩ q1).setCell ⟨b, 2, none⟩ q2).setCell ⟨b, 3, none⟩ q3).setCell ⟨b, 4, none⟩ q4).setCell ⟨b, 5, none⟩ q5).setCell ⟨b, 6, none⟩ q6).setCell ⟨b, 7, none⟩ q7).setCell ⟨b, 8, none⟩ q8).setCell ⟨b, 9, none⟩ q9).setCell ⟨b, 10, none⟩ q10).setCell ⟨b, 11, none⟩ q11).setCell ⟨b, 12, none⟩ q12)) := by
 have h0 : Bx (W.setCell ⟨b, 0, none⟩ q0) b T #[q0, c1, c2, c3, c4, c5, c6, c7, c8, c9, c10, c11, c12] := h.set 0 q0; have h1 : Bx ((W.setCell ⟨b, 0, none⟩ q0).setCell ⟨b, 1, none⟩ q1) b T #[q0, q1, c2, c3, c4, c5, c6, c7, c8, c9, c10, c11, c12] := h0.set 1 q1; have h2 : Bx (((W.setCell ⟨b, 0, none⟩ q0).setCell ⟨b, 1, none⟩ q1).setCell ⟨b, 2, none⟩ q2) b T #[q0, q1, q2, c3, c4, c5, c6, c7, c8, c9, c10, c11, c12] := h1.set 2 q2; have h3 : Bx ((((W.setCell ⟨b, 0, none⟩ q0).setCell ⟨b, 1, none⟩ q1).setCell ⟨b, 2, none⟩ q2).setCell ⟨b, 3, none⟩ q3) b T #[q0, q1, q2, q3, c4, c5, c6, c7, c8, c9, c10, c11, c12] := h2.set 3 q3; have h4 : Bx (((((W.setCell ⟨b, 0, none⟩ q0).setCell ⟨b, 1, none⟩ q1).setCell ⟨b, 2, none⟩ q2).setCell ⟨b, 3, none⟩ q3).setCell ⟨b, 4, none⟩ q4) b T #[q0, q1, q2, q3, q4, c5, c6, c7, c8, c9, c10, c11, c12] := h3.set 4 q4; have h5 : Bx ((((((W.setCell ⟨b, 0, none⟩ q0).setCell ⟨b, 1, none⟩ q1).setCell ⟨b, 2, none⟩ q2).setCell ⟨b, 3, none⟩ q3).setCell ⟨b, 4, none⟩ q4).setCell ⟨b, 5, none⟩ q5) b T #[q0, q1, q2, q3, q4, q5, c6, c7, c8, c9, c10, c11, c12] := h4.set 5 q5; have h6 : Bx (((((((W.setCell ⟨b, 0, none⟩ q0).setCell ⟨b, 1, none⟩ q1).setCell ⟨b, 2, none⟩ q2).setCell ⟨b, 3, none⟩ q3).setCell ⟨b, 4, none⟩ q4).setCell ⟨b, 5, none⟩ q5).setCell ⟨b, 6, none⟩ q6) b T #[q0, q1, q2, q3, q4, q5, q6, c7, c8, c9, c10, c11, c12] := h5.set 6 q6; have h7 : Bx ((((((((W.setCell ⟨b, 0, none⟩ q0).setCell ⟨b, 1, none⟩ q1).setCell ⟨b, 2, none⟩ q2).setCell ⟨b, 3, none⟩ q3).setCell ⟨b, 4, none⟩ q4).setCell ⟨b, 5, none⟩ q5).setCell ⟨b, 6, none⟩ q6).setCell ⟨b, 7, none⟩ q7) b T #[q0, q1, q2, q3, q4, q5, q6, q7, c8, c9, c10, c11, c12] := h6.set 7 q7; have h8 : Bx (((((((((W.setCell ⟨b, 0, none⟩ q0).setCell ⟨b, 1, none⟩ q1).setCell ⟨b, 2, none⟩ q2).setCell ⟨b, 3, none⟩ q3).setCell ⟨b, 4, none⟩ q4).setCell ⟨b, 5, none⟩ q5).setCell ⟨b, 6, none⟩ q6).setCell ⟨b, 7, none⟩ q7).setCell ⟨b, 8, none⟩ q8) b T #[q0, q1, q2, q3, q4, q5, q6, q7, q8, c9, c10, c11, c12] := h7.set 8 q8; have h9 : Bx ((((((((((W.setCell ⟨b, 0, none⟩ q0).setCell ⟨b, 1, none⟩ q1).setCell ⟨b, 2, none⟩ q2).setCell ⟨b, 3, none⟩ q3).setCell ⟨b, 4, none⟩ q4).setCell ⟨b, 5, none⟩ q5).setCell ⟨b, 6, none⟩ q6).setCell ⟨b, 7, none⟩ q7).setCell ⟨b, 8, none⟩ q8).setCell ⟨b, 9, none⟩ q9) b T #[q0, q1, q2, q3, q4, q5, q6, q7, q8, q9, c10, c11, c12] := h8.set 9 q9; have h10 : Bx (((((((((((W.setCell ⟨b, 0, none⟩ q0).setCell ⟨b, 1, none⟩ q1).setCell ⟨b, 2, none⟩ q2).setCell ⟨b, 3, none⟩ q3).setCell ⟨b, 4, none⟩ q4).setCell ⟨b, 5, none⟩ q5).setCell ⟨b, 6, none⟩ q6).setCell ⟨b, 7, none⟩ q7).setCell ⟨b, 8, none⟩ q8).setCell ⟨b, 9, none⟩ q9).setCell ⟨b, 10, none⟩ q10) b T #[q0, q1, q2, q3, q4, q5, q6, q7, q8, q9, q10, c11, c12] := h9.set 10 q10; have h11 : Bx ((((((((((((W.setCell ⟨b, 0, none⟩ q0).setCell ⟨b, 1, none⟩ q1).setCell ⟨b, 2, none⟩ q2).setCell ⟨b, 3, none⟩ q3).setCell ⟨b, 4, none⟩ q4).setCell ⟨b, 5, none⟩ q5).setCell ⟨b, 6, none⟩ q6).setCell ⟨b, 7, none⟩ q7).setCell ⟨b, 8, none⟩ q8).setCell ⟨b, 9, none⟩ q9).setCell ⟨b, 10, none⟩ q10).setCell ⟨b, 11, none⟩ q11) b T #[q0, q1, q2, q3, q4, q5, q6, q7, q8, q9, q10, q11, c12] := h10.set 11 q11; have h12 : Bx (((((((((((((W.setCell ⟨b, 0, none⟩ q0).setCell ⟨b, 1, none⟩ q1).setCell ⟨b, 2, none⟩ q2).setCell ⟨b, 3, none⟩ q3).setCell ⟨b, 4, none⟩ q4).setCell ⟨b, 5, none⟩ q5).setCell ⟨b, 6, none⟩ q6).setCell ⟨b, 7, none⟩ q7).setCell ⟨b, 8, none⟩ q8).setCell ⟨b, 9, none⟩ q9).setCell ⟨b, 10, none⟩ q10).setCell ⟨b, 11, none⟩ q11).setCell ⟨b, 12, none⟩ q12) b T #[q0, q1, q2, q3, q4, q5, q6, q7, q8, q9, q10, q11, q12] := h11.set 12 q12; refine ⟨h12, fun g hg => ?_, fun n hn => ?_⟩
 ·
  rw [Below.heap_setCell _ ⟨b, 12, none⟩ q12 g hg, Below.heap_setCell _ ⟨b, 11, none⟩ q11 g hg, Below.heap_setCell _ ⟨b, 10, none⟩ q10 g hg, Below.heap_setCell _ ⟨b, 9, none⟩ q9 g hg, Below.heap_setCell _ ⟨b, 8, none⟩ q8 g hg, Below.heap_setCell _ ⟨b, 7, none⟩ q7 g hg, Below.heap_setCell _ ⟨b, 6, none⟩ q6 g hg, Below.heap_setCell _ ⟨b, 5, none⟩ q5 g hg, Below.heap_setCell _ ⟨b, 4, none⟩ q4 g hg, Below.heap_setCell _ ⟨b, 3, none⟩ q3 g hg, Below.heap_setCell _ ⟨b, 2, none⟩ q2 g hg, Below.heap_setCell _ ⟨b, 1, none⟩ q1 g hg, Below.heap_setCell _ ⟨b, 0, none⟩ q0 g hg]
 ·
  exact (((((((((((((Below.refl n W).setCell (p := ⟨b, 0, none⟩) hn q0).setCell (p := ⟨b, 1, none⟩) hn q1).setCell (p := ⟨b, 2, none⟩) hn q2).setCell (p := ⟨b, 3, none⟩) hn q3).setCell (p := ⟨b, 4, none⟩) hn q4).setCell (p := ⟨b, 5, none⟩) hn q5).setCell (p := ⟨b, 6, none⟩) hn q6).setCell (p := ⟨b, 7, none⟩) hn q7).setCell (p := ⟨b, 8, none⟩) hn q8).setCell (p := ⟨b, 9, none⟩) hn q9).setCell (p := ⟨b, 10, none⟩) hn q10).setCell (p := ⟨b, 11, none⟩) hn q11).setCell (p := ⟨b, 12, none⟩) hn q12
theorem reads13 {W : World} {b : Nat} {T : TypeId} {s : ByteArray} {x y z : E × Bool} (h : Bx W b T (cA s x y z)) : W.cell? ⟨b, 0, none⟩ = some (.string s) ∧ W.cell? ⟨b, 1, none⟩ = some (.string x.1.p) ∧ W.cell? ⟨b, 2, none⟩ = some (.bool x.1.d) ∧ W.cell? ⟨b, 3, none⟩ = some (.string x.1.x) ∧ W.cell? ⟨b, 4, none⟩ = some (.bool x.2) ∧ W.cell? ⟨b, 5, none⟩ = some (.string y.1.p) ∧ W.cell? ⟨b, 6, none⟩ = some (.bool y.1.d) ∧ W.cell? ⟨b, 7, none⟩ = some (.string y.1.x) ∧ W.cell? ⟨b, 8, none⟩ = some (.bool y.2) ∧ W.cell? ⟨b, 9, none⟩ = some (.string z.1.p) ∧ W.cell? ⟨b, 10, none⟩ = some (.bool z.1.d) ∧ W.cell? ⟨b, 11, none⟩ = some (.string z.1.x) ∧ W.cell? ⟨b, 12, none⟩ = some (.bool z.2) := ⟨h.cell 0, h.cell 1, h.cell 2, h.cell 3, h.cell 4, h.cell 5, h.cell 6, h.cell 7, h.cell 8, h.cell 9, h.cell 10, h.cell 11, h.cell 12⟩
set_option maxHeartbeats 4000000 in
set_option maxRecDepth 100000 in
theorem pull1_any (w : World) (b n : Nat) (v0 v1 v2 : Value) (r0 r1 r2 : List E) (hb : b + 3 ≤ w.heap.size) (hn : n ≤ b)
  (k0 : Bx w b 23 #[v0]) (k1 : Bx w (b + 1) 23 #[v1]) (k2 : Bx w (b + 2) 23 #[v2]) (h0 : RowG n w v0 r0) (h1 : RowG n w v1 r1) (h2 : RowG n w v2 r2) (s : ByteArray) (mo : Bool) (hs : fstN [r0, r1, r2] = (s, mo)) :
  Calls Tryd.prog 75 #[.pointer (some ⟨b, 0, none⟩), .pointer (some ⟨b + 1, 0, none⟩), .pointer (some ⟨b + 2, 0, none⟩)] w fun e w' =>
   ∃ u0 u1 u2, e = .returned (.tuple #[encA s (pullE r0 s).1 (pullE r1 s).1 (pullE r2 s).1, .bool mo]) ∧
    Bx w' b 23 #[u0] ∧ Bx w' (b + 1) 23 #[u1] ∧ Bx w' (b + 2) 23 #[u2] ∧ RowG n w' u0 (pullE r0 s).2 ∧ RowG n w' u1 (pullE r1 s).2 ∧ RowG n w' u2 (pullE r2 s).2 ∧
    Below b w w' ∧ (∀ k, k < w.heap.size → b + 3 ≤ k → w'.heap[k]? = w.heap[k]?) := by
 obtain ⟨a0, -, -, c0, rfl, -⟩ := id h0; obtain ⟨a1, -, -, c1, rfl, -⟩ := id h1; obtain ⟨a2, -, -, c2, rfl, -⟩ := id h2; obtain ⟨W0, hW0⟩ : ∃ W0, (w.alloc (.cells (cA ⟨#[]⟩ zT zT zT) 51)).alloc (.cells #[.slice a0 r0.length c0, .slice a1 r1.length c1, .slice a2 r2.length c2] 23) = W0 := ⟨_, rfl⟩
 have hb0 : Below w.heap.size w W0 := by rw [← hW0]; exact ((Below.refl _ w).alloc (Nat.le_refl _) _).alloc (by simp) _
 have hz0 : W0.heap.size = w.heap.size + 2 := by rw [← hW0]; simp
 have hX : Bx W0 w.heap.size 51 (cA ⟨#[]⟩ zT zT zT) := by
  rw [← hW0]; exact (Bx.new w _ _).below ((Below.refl _ _).alloc (Nat.le_refl _) _)
 have hR : Rows3 W0 (w.heap.size + 1) [r0, r1, r2] := fun i hi => by
  rcases i with _ | _ | _ | i
  ·
   exact ⟨_, by rw [← hW0]; simp, h0.row.below hb0⟩
  ·
   exact ⟨_, by rw [← hW0]; simp, h1.row.below hb0⟩
  ·
   exact ⟨_, by rw [← hW0]; simp, h2.row.below hb0⟩
  ·
   simp at hi; omega
 have HF := hidE (firstPath_any W0 (w.heap.size + 1) 3 [r0, r1, r2] (by simp) hR); rw [hs] at HF; have q0 := k0.cell 0; have q1 := k1.cell 0; have q2 := k2.cell 0; rw [cell0_one] at q0 q1 q2; have e0 := fun o => cellOn o q0; have e1 := fun o => cellOn o q1; have e2 := fun o => cellOn o q2; have HK0 := hidE (k0.below hb0); have HK1 := hidE (k1.below hb0); have HK2 := hidE (k2.below hb0); have HR0 := hidE (h0.belowS hb0 (by omega)); have HR1 := hidE (h1.belowS hb0 (by omega)); have HR2 := hidE (h2.belowS hb0 (by omega)); have HX := hidE hX; have HB := hidE hb0; have HW := hidE hW0; unfold cA zT at hW0; dsimp only at hW0; unfold noneE at hW0; clear k0 k1 k2 h0 h1 h2 hX hR hb0; go_enter Tryd.func75, Tryd.ntmps75
 go_wp2_with fail
 clear hW0 e0 e1 e2 q0 q1 q2; refine HF.out.mono ?_; rintro e w1 ⟨rfl, hB1⟩; have hz1 := hB1.size; have HB1 := hidE (B3G HB.out hB1); obtain ⟨W1, hW1⟩ : ∃ W1, w1.alloc (.cells (cA s zT zT zT) 51) = W1 := ⟨_, rfl⟩
 have hb1 : Below w1.heap.size w1 W1 := by rw [← hW1]; exact (Below.refl _ w1).alloc (Nat.le_refl _) _
 have hT : Bx W1 w1.heap.size 51 (cA s zT zT zT) := by rw [← hW1]; exact Bx.new _ _ _
 have hb01 := B3G hB1 hb1; have q0 := (HK0.out.below hB1).cell 0; rw [cell0_one] at q0; have q0 := fun o => cellOn o q0; have HK0 := hidE (HK0.out.below hb01); have HK1 := hidE (HK1.out.below hb01); have HK2 := hidE (HK2.out.below hb01); have HX := hidE (HX.out.below hb01); have HR0 := hidE (HR0.out.belowS hb01 (by omega)); have HR1 := hidE (HR1.out.belowS hb01 (by omega)); have HR2 := hidE (HR2.out.belowS hb01 (by omega)); have HP0 := hidE (pullAt_any W1 _ r0 s n (by have := hb1.size; omega) HR0.out); have HT := hidE hT; unfold cA zT at hW1; dsimp only at hW1; unfold noneE at hW1; have HW1 := hidE hW1; clear hT hb01 hB1 HB hW1; go_wp2_with fail
 rw [HW1.out]; clear q0; refine HP0.out.mono ?_; rintro e w2 ⟨u0, rfl, hr0, hB2⟩; have hq0 := hr0; obtain ⟨d0, -, -, f0, rfl, -⟩ := id hr0; obtain ⟨⟨⟨xp, xd, xx⟩, xb⟩, hx⟩ : ∃ m, (pullE r0 s).1 = m := ⟨_, rfl⟩
 rw [hx]; unfold encT; dsimp only; have hT2 := HT.out.below hB2; have hz2 := hB2.size; have hzW : W1.heap.size = w1.heap.size + 1 := by rw [← HW1.out]; simp
 have hbt : b ≠ w1.heap.size := by omega
 obtain ⟨⟨g0, g0'⟩, g1, g2, g3, g4⟩ := rules5 hT2 (HK0.out.below hB2) hbt 1 2 3 4 rfl rfl rfl rfl rfl rfl rfl; obtain ⟨W3, hW3⟩ : ∃ W3, (((((w2.setCell ⟨w1.heap.size, 1, none⟩ (.string xp)).setCell ⟨w1.heap.size, 2, none⟩ (.bool xd)).setCell ⟨w1.heap.size, 3, none⟩ (.string xx)).setCell ⟨w1.heap.size, 4, none⟩ (.bool xb)).setCell ⟨b, 0, none⟩ (.slice d0 (pullE r0 s).2.length f0)) = W3 := ⟨_, rfl⟩
 obtain ⟨m1, m2, m3, m4⟩ := is5 hT2 (HK0.out.below hB2) hbt 1 2 3 4 (.string xp) (.bool xd) (.string xx) (.bool xb) (.slice d0 (pullE r0 s).2.length f0); rw [hW3] at m1 m2 m3 m4; have HT3 : Hid (Bx W3 w1.heap.size 51 (cA s (⟨xp, xd, xx⟩, xb) zT zT)) := m1; have hz3 : W3.heap.size = w2.heap.size := by rw [← hW3]; simp
 have HK0 := hidE m2; have HK1 : Hid (Bx W3 (b + 1) _ _) := (m3 _ (by omega) (by omega)).trans (HK1.out.below hB2); have HK2 : Hid (Bx W3 (b + 2) _ _) := (m3 _ (by omega) (by omega)).trans (HK2.out.below hB2); have HX : Hid (Bx W3 w.heap.size _ _) := (m3 _ (by omega) (by omega)).trans (HX.out.below hB2); have HR0 := hidE (hr0.keep (fun g hg => m3 g (by omega) (by omega))); have HR1 := hidE ((HR1.out.belowS hB2 (by omega)).keep (fun g hg => m3 g (by omega) (by omega))); have HR2 := hidE ((HR2.out.belowS hB2 (by omega)).keep (fun g hg => m3 g (by omega) (by omega))); have HP1 := hidE (pullAt_any W3 _ r1 s n (by omega) HR1.out); have HM3 := hidE m3; have HBw3 : Hid (Below b w W3 ∧ ∀ k, k < w.heap.size → b + 3 ≤ k → W3.heap[k]? = w.heap[k]?) := ⟨((HB1.out.trans ((B3G hb1 hB2).mono HB1.out.size)).mono (by omega)).trans (m4 b (by omega) (Nat.le_refl _)), fun k h1 h2 => (m3 k (by omega) (by omega)).trans ((B3G HB1.out (B3G hb1 hB2)).block k h1)⟩
 have q1 := HK1.out.cell 0; rw [cell0_one] at q1; have HX0 := hidE hx; clear hr0 hq0 m1 m2 m3 m4 hT2 hbt HT hx hB2; go_wp2_with fail
 clear g0 g0' g1 g2 g3 g4 q1; refine HP1.out.mono ?_; rintro e w4 ⟨u1, rfl, hr1, hB4⟩; obtain ⟨d1, -, -, f1, rfl, -⟩ := id hr1; obtain ⟨⟨⟨yp, yd, yx⟩, yb⟩, hx⟩ : ∃ m, (pullE r1 s).1 = m := ⟨_, rfl⟩
 rw [hx]; unfold encT; dsimp only; have hT2 := HT3.out.below hB4; have hz4 := hB4.size; have hbt : b + 1 ≠ w1.heap.size := by omega
 obtain ⟨⟨g0, g0'⟩, g1, g2, g3, g4⟩ := rules5 hT2 (HK1.out.below hB4) hbt 5 6 7 8 rfl rfl rfl rfl rfl rfl rfl; obtain ⟨W5, hW5⟩ : ∃ W5, ((((w4.setCell ⟨w1.heap.size, 5, none⟩ (.string yp)).setCell ⟨w1.heap.size, 6, none⟩ (.bool yd)).setCell ⟨w1.heap.size, 7, none⟩ (.string yx)).setCell ⟨w1.heap.size, 8, none⟩ (.bool yb)).setCell ⟨b + 1, 0, none⟩ (.slice d1 (pullE r1 s).2.length f1) = W5 := ⟨_, rfl⟩
 obtain ⟨m1, m2, m3, m4⟩ := is5 hT2 (HK1.out.below hB4) hbt 5 6 7 8 (.string yp) (.bool yd) (.string yx) (.bool yb) (.slice d1 (pullE r1 s).2.length f1); rw [hW5] at m1 m2 m3 m4; have HT5 : Hid (Bx W5 w1.heap.size 51 (cA s (⟨xp, xd, xx⟩, xb) (⟨yp, yd, yx⟩, yb) zT)) := m1; have hz5 : W5.heap.size = w4.heap.size := by rw [← hW5]; simp
 have HK1 := hidE m2; have HK0 : Hid (Bx W5 b _ _) := (m3 _ (by omega) (by omega)).trans (HK0.out.below hB4); have HK2 : Hid (Bx W5 (b + 2) _ _) := (m3 _ (by omega) (by omega)).trans (HK2.out.below hB4); have HX : Hid (Bx W5 w.heap.size _ _) := (m3 _ (by omega) (by omega)).trans (HX.out.below hB4); have HR0 := hidE ((HR0.out.belowS hB4 (by omega)).keep (fun g hg => m3 g (by omega) (by omega))); have HR1 := hidE (hr1.keep (fun g hg => m3 g (by omega) (by omega))); have HR2 := hidE ((HR2.out.belowS hB4 (by omega)).keep (fun g hg => m3 g (by omega) (by omega))); have HBw5 : Hid (Below b w W5 ∧ ∀ k, k < w.heap.size → b + 3 ≤ k → W5.heap[k]? = w.heap[k]?) := ⟨(HBw3.out.1.trans (hB4.mono (by omega))).trans (m4 b (by omega) (by omega)), fun k h1 h2 => ((m3 k (by omega) (by omega)).trans (hB4.block k (by omega))).trans (HBw3.out.2 k h1 h2)⟩
 have HX1 := hidE hx; have HP2 := hidE (pullAt_any W5 _ r2 s n (by omega) HR2.out); have q1 := HK2.out.cell 0; rw [cell0_one] at q1; clear hr1 m1 m2 m3 m4 hT2 hbt hx hB4; go_wp2_with fail
 clear g0 g0' g1 g2 g3 g4 q1; refine HP2.out.mono ?_; rintro e w6 ⟨u2, rfl, hr2, hB6⟩; obtain ⟨d2, -, -, f2, rfl, -⟩ := id hr2; obtain ⟨⟨⟨zp, zd, zx⟩, zb⟩, hx⟩ : ∃ m, (pullE r2 s).1 = m := ⟨_, rfl⟩
 rw [hx]; unfold encT; dsimp only; have hT2 := HT5.out.below hB6; have hz6 := hB6.size; have hbt : b + 2 ≠ w1.heap.size := by omega
 obtain ⟨⟨g0, g0'⟩, g1, g2, g3, g4⟩ := rules5 hT2 (HK2.out.below hB6) hbt 9 10 11 12 rfl rfl rfl rfl rfl rfl rfl; obtain ⟨W7, hW7⟩ : ∃ W7, ((((w6.setCell ⟨w1.heap.size, 9, none⟩ (.string zp)).setCell ⟨w1.heap.size, 10, none⟩ (.bool zd)).setCell ⟨w1.heap.size, 11, none⟩ (.string zx)).setCell ⟨w1.heap.size, 12, none⟩ (.bool zb)).setCell ⟨b + 2, 0, none⟩ (.slice d2 (pullE r2 s).2.length f2) = W7 := ⟨_, rfl⟩
 obtain ⟨m1, m2, m3, m4⟩ := is5 hT2 (HK2.out.below hB6) hbt 9 10 11 12 (.string zp) (.bool zd) (.string zx) (.bool zb) (.slice d2 (pullE r2 s).2.length f2); rw [hW7] at m1 m2 m3 m4; have HT7 : Hid (Bx W7 w1.heap.size 51 (cA s (⟨xp, xd, xx⟩, xb) (⟨yp, yd, yx⟩, yb) (⟨zp, zd, zx⟩, zb))) := m1; have hz7 : W7.heap.size = w6.heap.size := by rw [← hW7]; simp
 have HK2 := hidE m2; have HK0 : Hid (Bx W7 b _ _) := (m3 _ (by omega) (by omega)).trans (HK0.out.below hB6); have HK1 : Hid (Bx W7 (b + 1) _ _) := (m3 _ (by omega) (by omega)).trans (HK1.out.below hB6); have HX : Hid (Bx W7 w.heap.size _ _) := (m3 _ (by omega) (by omega)).trans (HX.out.below hB6); have HR0 := hidE ((HR0.out.belowS hB6 (by omega)).keep (fun g hg => m3 g (by omega) (by omega))); have HR1 := hidE ((HR1.out.belowS hB6 (by omega)).keep (fun g hg => m3 g (by omega) (by omega))); have HR2 := hidE (hr2.keep (fun g hg => m3 g (by omega) (by omega))); have HBw7 : Hid (Below b w W7 ∧ ∀ k, k < w.heap.size → b + 3 ≤ k → W7.heap[k]? = w.heap[k]?) := ⟨(HBw5.out.1.trans (hB6.mono (by omega))).trans (m4 b (by omega) (by omega)), fun k h1 h2 => ((m3 k (by omega) (by omega)).trans (hB6.block k (by omega))).trans (HBw5.out.2 k h1 h2)⟩
 have HX2 := hidE hx; have l0 : W7.cell? ⟨w1.heap.size, 0, none⟩ = some (.string s) := HT7.out.cell 0; have l1 : W7.cell? ⟨w1.heap.size, 1, none⟩ = some (.string xp) := HT7.out.cell 1; have l2 : W7.cell? ⟨w1.heap.size, 2, none⟩ = some (.bool xd) := HT7.out.cell 2; have l3 : W7.cell? ⟨w1.heap.size, 3, none⟩ = some (.string xx) := HT7.out.cell 3; have l4 : W7.cell? ⟨w1.heap.size, 4, none⟩ = some (.bool xb) := HT7.out.cell 4; have l5 : W7.cell? ⟨w1.heap.size, 5, none⟩ = some (.string yp) := HT7.out.cell 5; have l6 : W7.cell? ⟨w1.heap.size, 6, none⟩ = some (.bool yd) := HT7.out.cell 6; have l7 : W7.cell? ⟨w1.heap.size, 7, none⟩ = some (.string yx) := HT7.out.cell 7; have l8 : W7.cell? ⟨w1.heap.size, 8, none⟩ = some (.bool yb) := HT7.out.cell 8; have l9 : W7.cell? ⟨w1.heap.size, 9, none⟩ = some (.string zp) := HT7.out.cell 9; have l10 : W7.cell? ⟨w1.heap.size, 10, none⟩ = some (.bool zd) := HT7.out.cell 10; have l11 : W7.cell? ⟨w1.heap.size, 11, none⟩ = some (.string zx) := HT7.out.cell 11; have l12 : W7.cell? ⟨w1.heap.size, 12, none⟩ = some (.bool zb) := HT7.out.cell 12; have o0 : W7.cell? ⟨w.heap.size, 0, none⟩ = some (.string ⟨#[]⟩) := HX.out.cell 0; have j0 := HX.out.frozen 0; have o1 : W7.cell? ⟨w.heap.size, 1, none⟩ = some (.string ⟨#[]⟩) := HX.out.cell 1; have j1 := HX.out.frozen 1; have o2 : W7.cell? ⟨w.heap.size, 2, none⟩ = some (.bool false) := HX.out.cell 2; have j2 := HX.out.frozen 2; have o3 : W7.cell? ⟨w.heap.size, 3, none⟩ = some (.string ⟨#[]⟩) := HX.out.cell 3; have j3 := HX.out.frozen 3; have o4 : W7.cell? ⟨w.heap.size, 4, none⟩ = some (.bool false) := HX.out.cell 4; have j4 := HX.out.frozen 4; have o5 : W7.cell? ⟨w.heap.size, 5, none⟩ = some (.string ⟨#[]⟩) := HX.out.cell 5; have j5 := HX.out.frozen 5; have o6 : W7.cell? ⟨w.heap.size, 6, none⟩ = some (.bool false) := HX.out.cell 6; have j6 := HX.out.frozen 6; have o7 : W7.cell? ⟨w.heap.size, 7, none⟩ = some (.string ⟨#[]⟩) := HX.out.cell 7; have j7 := HX.out.frozen 7; have o8 : W7.cell? ⟨w.heap.size, 8, none⟩ = some (.bool false) := HX.out.cell 8; have j8 := HX.out.frozen 8; have o9 : W7.cell? ⟨w.heap.size, 9, none⟩ = some (.string ⟨#[]⟩) := HX.out.cell 9; have j9 := HX.out.frozen 9; have o10 : W7.cell? ⟨w.heap.size, 10, none⟩ = some (.bool false) := HX.out.cell 10; have j10 := HX.out.frozen 10; have o11 : W7.cell? ⟨w.heap.size, 11, none⟩ = some (.string ⟨#[]⟩) := HX.out.cell 11; have j11 := HX.out.frozen 11; have o12 : W7.cell? ⟨w.heap.size, 12, none⟩ = some (.bool false) := HX.out.cell 12; have j12 := HX.out.frozen 12; clear hr2 m1 m2 m3 m4 hT2 hbt hx hB6; go_wp2
 have hX7 : Bx W7 w.heap.size 51 #[.string ⟨#[]⟩, .string ⟨#[]⟩, .bool false, .string ⟨#[]⟩, .bool false, .string ⟨#[]⟩, .bool false, .string ⟨#[]⟩, .bool false, .string ⟨#[]⟩, .bool false, .string ⟨#[]⟩, .bool false] := HX.out; obtain ⟨n1, n2, n3⟩ := is13 hX7 (.string s) (.string xp) (.bool xd) (.string xx) (.bool xb) (.string yp) (.bool yd) (.string yx) (.bool yb) (.string zp) (.bool zd) (.string zx) (.bool zb); obtain ⟨W8, hW8⟩ : ∃ W8, (((((((((((((W7.setCell ⟨w.heap.size, 0, none⟩ (.string s)).setCell ⟨w.heap.size, 1, none⟩ (.string xp)).setCell ⟨w.heap.size, 2, none⟩ (.bool xd)).setCell ⟨w.heap.size, 3, none⟩ (.string xx)).setCell ⟨w.heap.size, 4, none⟩ (.bool xb)).setCell ⟨w.heap.size, 5, none⟩ (.string yp)).setCell ⟨w.heap.size, 6, none⟩ (.bool yd)).setCell ⟨w.heap.size, 7, none⟩ (.string yx)).setCell ⟨w.heap.size, 8, none⟩ (.bool yb)).setCell ⟨w.heap.size, 9, none⟩ (.string zp)).setCell ⟨w.heap.size, 10, none⟩ (.bool zd)).setCell ⟨w.heap.size, 11, none⟩ (.string zx)).setCell ⟨w.heap.size, 12, none⟩ (.bool zb)) = W8 := ⟨_, rfl⟩
 rw [hW8] at n1 n2 n3 ⊢; have n4 : Bx W8 w.heap.size 51 (cA s (⟨xp, xd, xx⟩, xb) (⟨yp, yd, yx⟩, yb) (⟨zp, zd, zx⟩, zb)) := n1; obtain ⟨s0, s1, s2, s3, s4, s5, s6, s7, s8, s9, s10, s11, s12⟩ := reads13 n4; dsimp only at s1 s2 s3 s4 s5 s6 s7 s8 s9 s10 s11 s12
 refine bodyPost_ret (v := .tuple #[encA s (⟨xp, xd, xx⟩, xb) (⟨yp, yd, yx⟩, yb) (⟨zp, zd, zx⟩, zb), .bool mo]) (by simp [results, Tryd.results75, go_sem, encA, s0, s1, s2, s3, s4, s5, s6, s7, s8, s9, s10, s11, s12]) rfl
  ⟨_, _, _, by rw [HX0.out, HX1.out, HX2.out], (n2 _ (by omega)).trans HK0.out, (n2 _ (by omega)).trans HK1.out, (n2 _ (by omega)).trans HK2.out, HR0.out.keep (fun g hg => n2 g (by omega)), HR1.out.keep (fun g hg => n2 g (by omega)), HR2.out.keep (fun g hg => n2 g (by omega)), HBw7.out.1.trans (n3 b (by omega)), fun k h1 h2 => (n2 k (by omega)).trans (HBw7.out.2 k h1 h2)⟩
def hdQ (q : List ByteArray) : ByteArray × Bool := match q with
 | [] => (⟨#[]⟩, false)
 | s :: _ => (s, true)
def toldQ (t : List E) (q : List ByteArray) : E × Bool := match q with
 | [] => (noneE, false)
 | s :: _ => getE t s
theorem pull_step {t : List E} {s : ByteArray} {q : List ByteArray} (hr : Rise t) (hq : (s :: q).Pairwise less) (hp : pathB s = true) : pullE (rest (s :: q) t) s = (getE t s, rest q t) := by
 have hg := getE_look (es := t) (root_not_path hp); rcases rest_step hq t hr with ⟨e, h1, h2⟩ | ⟨h1, h2⟩
 ·
  rw [h2, hg, h1]; show (if e.p = s then ((e, true), rest q t) else ((noneE, false), e :: rest q t)) = _
  rw [if_pos (look_mem h1).2]; rfl
 ·
  rw [h2, hg, h1]; cases hc : rest q t with
  | nil => rfl
  | cons e r =>
   show (if e.p = s then ((e, true), r) else ((noneE, false), e :: r)) = _
   have hin : e ∈ rest q t := by rw [hc]; simp
   have hne : e.p ≠ s := fun h => by
    have := (List.pairwise_cons.1 hq).1 _ (rest_in hin).2; rw [h] at this; exact less_irrefl _ this
   rw [if_neg hne]; rfl
theorem pull_all {t : List E} {q : List ByteArray} (hr : Rise t) (hq : q.Pairwise less) (hp : ∀ s ∈ q, pathB s = true) : pullE (rest q t) (hdQ q).1 = (toldQ t q, rest q.tail t) := by
 cases q with
 | nil => rw [rest_nil]; show _ = (_, rest [] t); rw [rest_nil]; rfl
 | cons s q => exact pull_step hr hq (hp s (by simp))
theorem fst_all {t a b : List E} {q : List ByteArray} (hq : q.Pairwise less) (ht : Rise t) (ha : Rise a) (hb : Rise b) (hs : ∀ s ∈ q, (∃ e ∈ t, e.p = s) ∨ (∃ e ∈ a, e.p = s) ∨ (∃ e ∈ b, e.p = s)) :
  fstN [rest q t, rest q a, rest q b] = hdQ q := by
 cases q with
 | nil => rw [rest_nil, rest_nil, rest_nil]; rfl
 | cons s q => exact fst_some hq ht ha hb (hs s (by simp))
structure Left (t a b : List E) (q : List ByteArray) : Prop where
 sort : q.Pairwise less
 path : ∀ s ∈ q, pathB s = true
 from3 : ∀ s ∈ q, (∃ e ∈ t, e.p = s) ∨ (∃ e ∈ a, e.p = s) ∨ (∃ e ∈ b, e.p = s)
theorem left_all {t a b : List E} (h : trees3 t a b = true) : Left t a b (pathsE t a b) ∧ Rise t ∧ Rise a ∧ Rise b ∧ rest (pathsE t a b) t = t ∧ rest (pathsE t a b) a = a ∧ rest (pathsE t a b) b = b := by
 obtain ⟨g1, g2, g3⟩ := trees_parts h; obtain ⟨T1, -⟩ := treeE_tr g1; obtain ⟨T2, -⟩ := treeE_tr g2; obtain ⟨T3, -⟩ := treeE_tr g3; have hm := fun s => paths_mem (t := t) (a := a) (b := b) T1.sort s; refine ⟨⟨paths_rise T1.sort, fun s hs => ?_, fun s hs => (hm s).1 hs⟩, T1.sort, T2.sort, T3.sort, rest_all fun e he => (hm _).2 (.inl ⟨e, he, rfl⟩), rest_all fun e he => (hm _).2 (.inr (.inl ⟨e, he, rfl⟩)), rest_all fun e he => (hm _).2 (.inr (.inr ⟨e, he, rfl⟩))⟩; rcases (hm s).1 hs with ⟨e, he, rfl⟩ | ⟨e, he, rfl⟩ | ⟨e, he, rfl⟩
 ·
  exact T1.path e he
 ·
  exact T2.path e he
 ·
  exact T3.path e he
end Go.Proofs.YtoaipphccjkphaaDoor.Mg
