import Derived.Test.YteppodogghjfhaaGreatDoorHReadyB
import Derived.Test.YteppodogghjfhaaGreatDoorHPk16
import Derived.Test.YteppodogghjfhaaGreatDoorHPk10
import Derived.Test.YteppodogghjfhaaGreatDoorHPk12
import Derived.Test.YteppodogghjfhaaGreatDoorHCollI
import Derived.Stop.RegionWithIn
import Derived.Test.YteppodogghjfhaaGreatDoorHPk05
import Derived.Test.YteppodogghjfhaaGreatDoorHPk15
namespace Go.Proofs.YteppodogghjfhaaGreatDoor.Mk
open Go.RowKit Go.Shelf Go.Lib Go.Maps
attribute [local go_sem] Oper.semAt_some
theorem mark1_any (x p : ByteArray) (w : World) : Calls Tryz.prog 258 #[.agg #[.string x], .string p] w fun e w' => e = .returned (.agg #[.string p, .int .i64 1, .string x]) ∧ Below w.heap.size w w' := by
 go_enter Tryz.func258, Tryz.ntmps258
 go_wp2
 exact bodyPost_ret (v := .agg #[.string p, .int .i64 1, .string x]) (by simp [results, Tryz.results258, go_sem]) rfl ⟨rfl, belowA (belowA (Below.refl _ _) _) _⟩
theorem mark2_any (p : ByteArray) (w : World) : Calls Tryz.prog 255 #[.agg #[], .string p] w fun e w' => e = .returned (.agg #[.string p, .int .i64 2, .string ⟨#[]⟩]) ∧ Below w.heap.size w w' := by
 go_enter Tryz.func255, Tryz.ntmps255
 go_wp2
 exact bodyPost_ret (v := .agg #[.string p, .int .i64 2, .string ⟨#[]⟩]) (by simp [results, Tryz.results255, go_sem]) rfl ⟨rfl, belowA (belowA (Below.refl _ _) _) _⟩
theorem mark3_any (p : ByteArray) (w : World) : Calls Tryz.prog 249 #[.agg #[], .string p] w fun e w' => e = .returned (.agg #[.string p, .int .i64 3, .string ⟨#[]⟩]) ∧ Below w.heap.size w w' := by
 go_enter Tryz.func249, Tryz.ntmps249
 go_wp2
 exact bodyPost_ret (v := .agg #[.string p, .int .i64 3, .string ⟨#[]⟩]) (by simp [results, Tryz.results249, go_sem]) rfl ⟨rfl, belowA (belowA (Below.refl _ _) _) _⟩
theorem mark4_any (p : ByteArray) (w : World) : Calls Tryz.prog 272 #[.agg #[], .string p] w fun e w' => e = .returned (.agg #[.string p, .int .i64 4, .string ⟨#[]⟩]) ∧ Below w.heap.size w w' := by
 go_enter Tryz.func272, Tryz.ntmps272
 go_wp2
 exact bodyPost_ret (v := .agg #[.string p, .int .i64 4, .string ⟨#[]⟩]) (by simp [results, Tryz.results272, go_sem]) rfl ⟨rfl, belowA (belowA (Below.refl _ _) _) _⟩
theorem mark_of {d : Int} (hd : 1 ≤ d ∧ d ≤ 4) {x : ByteArray} (hx : d ≠ 1 → x = ⟨#[]⟩) : ∃ (t : TypeId) (u : Value) (f : FuncId), signV d x = .iface t u ∧ (∀ W, (method 436 t u "loop.example/pargeting/impl.mark").run Tryz.prog W = .ok (f, u) W) ∧ (∀ args W, (callFunc f args).run Tryz.prog W = .ok (.enter f args) W) ∧
  ∀ (p : ByteArray) (W : World), Calls Tryz.prog f #[u, .string p] W fun e w' => e = .returned (.agg #[.string p, .int .i64 d, .string x]) ∧ Below W.heap.size W w' := by
 rcases (by omega : d = 1 ∨ d = 2 ∨ d = 3 ∨ d = 4) with rfl | rfl | rfl | rfl
 ·
  exact ⟨_, _, 258, sign1 x, fun _ => by kernel_rfl, enters_of Tryz.func258 (by kernel_rfl) rfl, fun p W => mark1_any x p W⟩
 ·
  rw [hx (by decide)]; exact ⟨_, _, 255, sign2 _, fun _ => by kernel_rfl, enters_of Tryz.func255 (by kernel_rfl) rfl, fun p W => mark2_any p W⟩
 ·
  rw [hx (by decide)]; exact ⟨_, _, 249, sign3 _, fun _ => by kernel_rfl, enters_of Tryz.func249 (by kernel_rfl) rfl, fun p W => mark3_any p W⟩
 ·
  rw [hx (by decide)]; exact ⟨_, _, 272, sign4 _, fun _ => by kernel_rfl, enters_of Tryz.func272 (by kernel_rfl) rfl, fun p W => mark4_any p W⟩
theorem below_putM {n D : Nat} {W : World} (h : n ≤ D) (o : Obj) : Below n W (W.putObj D o) := ⟨rfl, rfl, rfl, by simp, fun k hk => World.putObj_heap_other (by omega)⟩
theorem row_lowM {w : World} {base base' : Nat} {e : TypeId} {size : Nat} {v : Value} {n : Nat} {xs : List Value} (h : w.ownsRow base e size v n xs) (hb : base' ≤ base) : w.ownsRow base' e size v n xs := by
 obtain ⟨h1, h2 | ⟨g, cap, cur, e1, e2, e3⟩⟩ := h
 ·
  exact ⟨h1, .inl h2⟩
 ·
  exact ⟨h1, .inr ⟨g, cap, cur, e1, Nat.le_trans hb e2, e3⟩⟩
theorem row_belowM {w w' : World} {base n : Nat} {e : TypeId} {size : Nat} {v : Value} {xs : List Value} (h : w.ownsRow base e size v n xs) (hb : Below w.heap.size w w') : w'.ownsRow base e size v n xs := by
 obtain ⟨h1, h2 | ⟨g, cap, cur, e1, e2, e3, e4⟩⟩ := h
 ·
  exact ⟨h1, .inl h2⟩
 ·
  exact ⟨h1, .inr ⟨g, cap, cur, e1, e2, (hb.block g (Array.getElem?_eq_some_iff.1 e3).1).trans e3, e4⟩⟩
theorem keepsBM {w w' : World} {B : Nat} (hb : Below w.heap.size w w') : KeepsFrom B w w' := ⟨hb.size, fun k _ _ h _ => (hb.block k (Array.getElem?_eq_some_iff.1 h).1).trans h⟩
def marksL {Lt : List (ByteArray × E)} (xs : List (ItemM Lt)) : List E := xs.map (fun y => y.1.2)
theorem marksL_snoc {Lt : List (ByteArray × E)} (xs : List (ItemM Lt)) (y : ItemM Lt) : marksL (xs ++ [y]) = marksL xs ++ [y.1.2] := by unfold marksL; rw [List.map_append]; rfl
theorem marksL_all {es : List E} (T : TrM es) {xs : List (ItemM (toldM es ⟨#[47]⟩ ⟨#[]⟩))} (h : xs.map Subtype.val = toldM es ⟨#[47]⟩ ⟨#[]⟩) : marksL xs = es := by
 have h1 : marksL xs = (xs.map Subtype.val).map Prod.snd := by unfold marksL; rw [List.map_map]; rfl
 rw [h1, h, toldM_all T, List.map_map]; exact List.map_id'' (fun _ => rfl) es
set_option maxHeartbeats 4000000 in
set_option maxRecDepth 100000 in
theorem marks_any (w : World) (base N : Nat) (es : List E) (A : ByteArray → Nat) (T : TrM es) (hpl : ∀ e ∈ es, e.d ≠ 1 → e.x = ⟨#[]⟩) (R : Rep w base N es A) (hN : N ≤ 1000) (hes : es.length ≤ 1000) :
  Calls Tryz.prog 114 #[layV A] w fun r w' => ∃ v, r = .returned v ∧ OwnE w' w.heap.size v es ∧ Below w.heap.size w w' := by
 obtain ⟨i0, hi, hi0, hi1, hi2⟩ := info_parts Tryz.infoE'; obtain ⟨W0, hW0⟩ : ∃ W0, W0 = w.alloc (.cells #[.iface 207 (.agg #[]), .map (some (A ⟨#[47]⟩))] 146) := ⟨_, rfl⟩
 have hB0 : Below w.heap.size w W0 := hW0 ▸ (Below.refl _ w).alloc (Nat.le_refl _) _; have hs0 : W0.heap.size = w.heap.size + 1 := by rw [hW0]; simp
 refine (callsIn_wide (n := 6)).1 ?_; refine callsIn_of_wp_marks Tryz.func114 rfl trivial ?_ rfl; simp only [Tryz.ntmps114, List.size_toArray, List.length_cons, List.length_nil, Nat.reduceAdd, Nat.reduceSub, Array.replicate_succ, Array.replicate_zero, List.push_toArray, List.append_toArray, List.nil_append, List.cons_append]
 gi_wp2_with fail
 rw [← hW0]; refine ⟨trivial, ?_⟩; refine (callsIn_wide.2 (all_any A _)).mono ?_; rintro e w3 ⟨rfl, hB3, hb1, d0, d1⟩; have hbx : Boxed w3 (w.heap.size + 1) 31 (.slice none 0 0) := by rw [← hs0]; exact (hB3.block _ (by simp)).trans (World.alloc_heap_new W0 _)
 have hs3 := hB3.size; have hB3' : Below W0.heap.size W0 w3 := ((Below.refl _ W0).alloc (Nat.le_refl _) _).trans (hB3.mono (by simp)); simp only [World.size_alloc, hs0] at hb1 d0 d1 hs3; have HB3 := hidE hB3'; have HR := hidE ((R.below hB0).below hB3'); have HPL := hidE hpl; clear hB3 hW0 R hB3' hpl
 gi_wp2
 have hvb : w.heap.size + 1 < w3.heap.size := by omega
 have htl : (toldM es ⟨#[47]⟩ ⟨#[]⟩).length = es.length := by rw [toldM_all T, List.length_map]
 have hrow0 : OwnE w3 (w.heap.size + 1) (.slice none 0 0) [] := World.ownsRow_nil _ _ _ _
 refine wpIn_rangeFunc_ownH rfl (by omega) (gf := 183) (lb := #[.pointer (some ⟨w.heap.size + 1 + 1, 0, none⟩)]) rfl trivial (enters_of Tryz.func183 (by kernel_rfl) rfl)
  (all_stops _ (by omega) es A base N (w.heap.size + 1) hN hes T (w.heap.size + 1 + 1) w3 (by omega) d0 d1 HR.out hvb (good_row hbx hrow0)) KpT.t (KpT.b hvb) (Below.refl _ _) (fun _ => rfl)
  (fun (pre : List (ItemM (toldM es ⟨#[47]⟩ ⟨#[]⟩))) W => (∃ v, Boxed W (w.heap.size + 1) 31 v ∧ OwnE W (w.heap.size + 1) v (marksL pre) ∧ True) ∧ Below (w.heap.size + 1) W0 W)
  (fun _ _ _ => False)
  (OwnFrom.and (Own.from (holdsRow_own (w.heap.size + 1) (w.heap.size + 1) 31 99 3 (fun (pre : List (ItemM (toldM es ⟨#[47]⟩ ⟨#[]⟩))) => (marksL pre).length) (fun (pre : List (ItemM (toldM es ⟨#[47]⟩ ⟨#[]⟩))) => rowE (marksL pre)) (fun _ _ => True)) _) (ownFrom_below (by omega) (by omega)))
  (fun _ _ _ _ _ hs _ _ => hs)
  ⟨⟨_, hbx, hrow0, trivial⟩, HB3.out.mono (by omega)⟩
  (fun x ac _ => ac = { tmps := #[layV A, .pointer (some ⟨w.heap.size, 0, none⟩), .slice none 0 0, .pointer (some ⟨w.heap.size + 1, 0, none⟩), .string x.1.1, signV x.1.2.d x.1.2.x, layV A, .func (.func 183) #[] #[.pointer (some ⟨w.heap.size + 1 + 1, 0, none⟩)], .string x.1.1, signV x.1.2.d x.1.2.x, undef, undef, undef, undef, undef, undef, undef], defers := [] })
  (fun _ _ _ _ _ _ hs _ _ => hs)
  ?assign ?body ?done ?stop
 case assign =>
  rintro l pre x W K ⟨⟨v, hv, hrow, -⟩, hB⟩ hK
  gi_wp2
  exact hK _ _ ((KeepsOthers.refl _).from _) (kpt_of (Below.refl _ W) hv.lt) ⟨⟨v, hv, hrow, trivial⟩, hB⟩ rfl
 case body =>
  rintro l pre x ac W hl ⟨r, hr⟩ ⟨⟨v, hv, hrow, -⟩, hB⟩ rfl hlt; obtain ⟨⟨s, e⟩, hxm⟩ := x
  have hse : s = e.p ∧ e ∈ es := by
   have h := hxm; rw [toldM_all T, List.mem_map] at h; obtain ⟨e', h1, h2⟩ := h
   injection h2 with h2 h3
   subst h3; exact ⟨h2.symm, h1⟩
  obtain ⟨hse, hme⟩ := hse; subst hse; have hpl : (marksL pre).length = pre.length := by unfold marksL; rw [List.length_map]
  have HV := hidE hv; have HRow := hidE hrow; have hcv := hv.cell; have hvl := hv.lt; obtain ⟨tm, um, fm, hsg, hm, hcf, hmk⟩ := mark_of (T.kind e hme) (HPL.out e hme); have HMK := hidE hmk; clear hrow hv hmk; dsimp only; rw [hsg]; have hff : ∀ f, Fence.wide.fn f := fun _ => trivial; have hbl : (marksL pre).length ≤ 2000 := by omega
  clear hpl; have hcvd : W.drew.cell? ⟨w.heap.size + 1, 0, none⟩ = some v := hcv
  gi_wp2
  refine wpIn_region_any (by kernel_rfl) ?_
  change wpAnyIn _ _ _ _ _ _ _ _ _ (World.drew _)
  refine wpAnyIn_ready (rs := [0, 1, 2]) (by kernel_rfl) (by simp) ?_; refine AllReadyIn.cons rfl (fun K hK => ?_) ?_
  ·
   go_simp; refine hK _ _ ?_; clear hK K; refine wpAnyIn_ready (rs := [1, 2]) (by kernel_rfl) (by simp) ?_; refine AllReadyIn.cons rfl (fun K hK => ?_) ?_
   ·
    go_simp; refine hK _ _ ?_; clear hK K; refine wpAnyIn_ready (rs := [2]) (by kernel_rfl) (by simp) ?_; refine AllReadyIn.cons rfl (fun K hK => ?_) ?_
    ·
     go_simp; refine hK _ _ ?_; clear hK K; refine wpAnyIn_ready (rs := [3]) (by kernel_rfl) (by simp) ?_; refine AllReadyIn.cons rfl (fun K hK => ?_) ?_
     ·
      go_simp
      gi_wp2_with ((refine (CallsIn.inRound l (callsIn_wide.2 (HMK.out _ _))).mono ?_; rintro e4 w4 ⟨rfl, hB4⟩; have hS : Hid (Below W.heap.size W w4) := hidE (((Below.refl _ W).drew).trans hB4); have hc4 := below_cell hS.out hcv; have hc4' := fun o => cellOn o hc4; have HV4 : Hid (Boxed w4 (w.heap.size + 1) 31 v) := hidE ((hS.out.block _ hvl).trans HV.out); have HR4 := hidE (row_belowM HRow.out hS.out); have hz4 := hS.out.size; clear hB4; obtain ⟨v', w5, hr5, hown', hgrow, hnil, hat⟩ := run_append_own_at (P := Tryz.prog) (w4.alloc (.cells #[.string e.p, .int .i64 e.d, .string e.x] 99)) (w.heap.size + 1) 31 31 99 i0 _ 3 40 Tryz.underlying31 hi hi0 hi1 hi2 rfl (by decide) v _ _ (HR4.out.alloc _) ⟨w4.heap.size, 0, none⟩ 1 1 (cellsE e) rfl (cells_new w4 e) rowE_one' (by unfold maxLen; omega) (by omega) (by simp; omega); obtain ⟨hv1, hv2, hr2, hk2, hb2⟩ := HV4.out.appended (by decide) HR4.out (by omega) (Nat.le_refl _) hown' hgrow; have hKp := KpT.appended HV4.out (by decide) HR4.out (by omega) (Nat.le_refl _) hown' hgrow hat; obtain ⟨g5, cap5, rfl⟩ := ownsRow_succ hown'; have hc1 := hv1.cell; have hf1 := hv1.frozen))
      refine wpAnyIn_ready (rs := [4]) (by kernel_rfl) (by simp) ?_; refine AllReadyIn.cons rfl (fun K hK => ?_) ?_
      ·
       go_simp; refine hK _ _ ?_; clear hK K; refine wpAnyIn_ready (rs := [5]) (by kernel_rfl) (by simp) ?_; refine ready_append _ _ _ _ rfl (by kernel_rfl) rfl hr5 ?_; refine wpAnyIn_ready (rs := [6]) (by kernel_rfl) (by simp) ?_; refine AllReadyIn.cons rfl (fun K hK => ?_) AllReadyIn.nil; go_simp; refine hK _ _ ?_; clear hK K; refine wpAnyIn_done (by kernel_rfl) ?_ _
       gi_wp2
       refine ⟨(keepsBM hS.out).trans (hk2.from _), (kpt_of hS.out hvl).t hKp, ⟨_, hv2, ?_, trivial⟩, (hB.trans (hS.out.mono (Nat.le_of_lt hvl))).trans hb2⟩; rw [marksL_snoc]; exact OwnE.push hr2
      exact AllReadyIn.nil
     exact AllReadyIn.nil
    exact AllReadyIn.nil
   refine AllReadyIn.cons rfl (fun K hK => ?_) ?_
   ·
    go_simp; refine hK _ _ ?_; clear hK K; refine wpAnyIn_ready (rs := [1]) (by kernel_rfl) (by simp) ?_; refine AllReadyIn.cons rfl (fun K hK => ?_) ?_
    ·
     go_simp; refine hK _ _ ?_; clear hK K; refine wpAnyIn_ready (rs := [3]) (by kernel_rfl) (by simp) ?_; refine AllReadyIn.cons rfl (fun K hK => ?_) ?_
     ·
      go_simp
      gi_wp2_with ((refine (CallsIn.inRound l (callsIn_wide.2 (HMK.out _ _))).mono ?_; rintro e4 w4 ⟨rfl, hB4⟩; have hS : Hid (Below W.heap.size W w4) := hidE (((Below.refl _ W).drew).trans hB4); have hc4 := below_cell hS.out hcv; have hc4' := fun o => cellOn o hc4; have HV4 : Hid (Boxed w4 (w.heap.size + 1) 31 v) := hidE ((hS.out.block _ hvl).trans HV.out); have HR4 := hidE (row_belowM HRow.out hS.out); have hz4 := hS.out.size; clear hB4; obtain ⟨v', w5, hr5, hown', hgrow, hnil, hat⟩ := run_append_own_at (P := Tryz.prog) (w4.alloc (.cells #[.string e.p, .int .i64 e.d, .string e.x] 99)) (w.heap.size + 1) 31 31 99 i0 _ 3 40 Tryz.underlying31 hi hi0 hi1 hi2 rfl (by decide) v _ _ (HR4.out.alloc _) ⟨w4.heap.size, 0, none⟩ 1 1 (cellsE e) rfl (cells_new w4 e) rowE_one' (by unfold maxLen; omega) (by omega) (by simp; omega); obtain ⟨hv1, hv2, hr2, hk2, hb2⟩ := HV4.out.appended (by decide) HR4.out (by omega) (Nat.le_refl _) hown' hgrow; have hKp := KpT.appended HV4.out (by decide) HR4.out (by omega) (Nat.le_refl _) hown' hgrow hat; obtain ⟨g5, cap5, rfl⟩ := ownsRow_succ hown'; have hc1 := hv1.cell; have hf1 := hv1.frozen))
      refine wpAnyIn_ready (rs := [4]) (by kernel_rfl) (by simp) ?_; refine AllReadyIn.cons rfl (fun K hK => ?_) ?_
      ·
       go_simp; refine hK _ _ ?_; clear hK K; refine wpAnyIn_ready (rs := [5]) (by kernel_rfl) (by simp) ?_; refine ready_append _ _ _ _ rfl (by kernel_rfl) rfl hr5 ?_; refine wpAnyIn_ready (rs := [6]) (by kernel_rfl) (by simp) ?_; refine AllReadyIn.cons rfl (fun K hK => ?_) AllReadyIn.nil; go_simp; refine hK _ _ ?_; clear hK K; refine wpAnyIn_done (by kernel_rfl) ?_ _
       gi_wp2
       refine ⟨(keepsBM hS.out).trans (hk2.from _), (kpt_of hS.out hvl).t hKp, ⟨_, hv2, ?_, trivial⟩, (hB.trans (hS.out.mono (Nat.le_of_lt hvl))).trans hb2⟩; rw [marksL_snoc]; exact OwnE.push hr2
      exact AllReadyIn.nil
     exact AllReadyIn.nil
    exact AllReadyIn.nil
   exact AllReadyIn.nil
  refine AllReadyIn.cons rfl (fun K hK => ?_) ?_
  ·
   go_simp; refine hK _ _ ?_; clear hK K; refine wpAnyIn_ready (rs := [0, 2]) (by kernel_rfl) (by simp) ?_; refine AllReadyIn.cons rfl (fun K hK => ?_) ?_
   ·
    go_simp; refine hK _ _ ?_; clear hK K; refine wpAnyIn_ready (rs := [2]) (by kernel_rfl) (by simp) ?_; refine AllReadyIn.cons rfl (fun K hK => ?_) ?_
    ·
     go_simp; refine hK _ _ ?_; clear hK K; refine wpAnyIn_ready (rs := [3]) (by kernel_rfl) (by simp) ?_; refine AllReadyIn.cons rfl (fun K hK => ?_) ?_
     ·
      go_simp
      gi_wp2_with ((refine (CallsIn.inRound l (callsIn_wide.2 (HMK.out _ _))).mono ?_; rintro e4 w4 ⟨rfl, hB4⟩; have hS : Hid (Below W.heap.size W w4) := hidE (((Below.refl _ W).drew).trans hB4); have hc4 := below_cell hS.out hcv; have hc4' := fun o => cellOn o hc4; have HV4 : Hid (Boxed w4 (w.heap.size + 1) 31 v) := hidE ((hS.out.block _ hvl).trans HV.out); have HR4 := hidE (row_belowM HRow.out hS.out); have hz4 := hS.out.size; clear hB4; obtain ⟨v', w5, hr5, hown', hgrow, hnil, hat⟩ := run_append_own_at (P := Tryz.prog) (w4.alloc (.cells #[.string e.p, .int .i64 e.d, .string e.x] 99)) (w.heap.size + 1) 31 31 99 i0 _ 3 40 Tryz.underlying31 hi hi0 hi1 hi2 rfl (by decide) v _ _ (HR4.out.alloc _) ⟨w4.heap.size, 0, none⟩ 1 1 (cellsE e) rfl (cells_new w4 e) rowE_one' (by unfold maxLen; omega) (by omega) (by simp; omega); obtain ⟨hv1, hv2, hr2, hk2, hb2⟩ := HV4.out.appended (by decide) HR4.out (by omega) (Nat.le_refl _) hown' hgrow; have hKp := KpT.appended HV4.out (by decide) HR4.out (by omega) (Nat.le_refl _) hown' hgrow hat; obtain ⟨g5, cap5, rfl⟩ := ownsRow_succ hown'; have hc1 := hv1.cell; have hf1 := hv1.frozen))
      refine wpAnyIn_ready (rs := [4]) (by kernel_rfl) (by simp) ?_; refine AllReadyIn.cons rfl (fun K hK => ?_) ?_
      ·
       go_simp; refine hK _ _ ?_; clear hK K; refine wpAnyIn_ready (rs := [5]) (by kernel_rfl) (by simp) ?_; refine ready_append _ _ _ _ rfl (by kernel_rfl) rfl hr5 ?_; refine wpAnyIn_ready (rs := [6]) (by kernel_rfl) (by simp) ?_; refine AllReadyIn.cons rfl (fun K hK => ?_) AllReadyIn.nil; go_simp; refine hK _ _ ?_; clear hK K; refine wpAnyIn_done (by kernel_rfl) ?_ _
       gi_wp2
       refine ⟨(keepsBM hS.out).trans (hk2.from _), (kpt_of hS.out hvl).t hKp, ⟨_, hv2, ?_, trivial⟩, (hB.trans (hS.out.mono (Nat.le_of_lt hvl))).trans hb2⟩; rw [marksL_snoc]; exact OwnE.push hr2
      exact AllReadyIn.nil
     exact AllReadyIn.nil
    exact AllReadyIn.nil
   refine AllReadyIn.cons rfl (fun K hK => ?_) ?_
   ·
    go_simp; refine hK _ _ ?_; clear hK K; refine wpAnyIn_ready (rs := [0, 3]) (by kernel_rfl) (by simp) ?_; refine AllReadyIn.cons rfl (fun K hK => ?_) ?_
    ·
     go_simp; refine hK _ _ ?_; clear hK K; refine wpAnyIn_ready (rs := [3]) (by kernel_rfl) (by simp) ?_; refine AllReadyIn.cons rfl (fun K hK => ?_) ?_
     ·
      go_simp
      gi_wp2_with ((refine (CallsIn.inRound l (callsIn_wide.2 (HMK.out _ _))).mono ?_; rintro e4 w4 ⟨rfl, hB4⟩; have hS : Hid (Below W.heap.size W w4) := hidE (((Below.refl _ W).drew).trans hB4); have hc4 := below_cell hS.out hcv; have hc4' := fun o => cellOn o hc4; have HV4 : Hid (Boxed w4 (w.heap.size + 1) 31 v) := hidE ((hS.out.block _ hvl).trans HV.out); have HR4 := hidE (row_belowM HRow.out hS.out); have hz4 := hS.out.size; clear hB4; obtain ⟨v', w5, hr5, hown', hgrow, hnil, hat⟩ := run_append_own_at (P := Tryz.prog) (w4.alloc (.cells #[.string e.p, .int .i64 e.d, .string e.x] 99)) (w.heap.size + 1) 31 31 99 i0 _ 3 40 Tryz.underlying31 hi hi0 hi1 hi2 rfl (by decide) v _ _ (HR4.out.alloc _) ⟨w4.heap.size, 0, none⟩ 1 1 (cellsE e) rfl (cells_new w4 e) rowE_one' (by unfold maxLen; omega) (by omega) (by simp; omega); obtain ⟨hv1, hv2, hr2, hk2, hb2⟩ := HV4.out.appended (by decide) HR4.out (by omega) (Nat.le_refl _) hown' hgrow; have hKp := KpT.appended HV4.out (by decide) HR4.out (by omega) (Nat.le_refl _) hown' hgrow hat; obtain ⟨g5, cap5, rfl⟩ := ownsRow_succ hown'; have hc1 := hv1.cell; have hf1 := hv1.frozen))
      refine wpAnyIn_ready (rs := [4]) (by kernel_rfl) (by simp) ?_; refine AllReadyIn.cons rfl (fun K hK => ?_) ?_
      ·
       go_simp; refine hK _ _ ?_; clear hK K; refine wpAnyIn_ready (rs := [5]) (by kernel_rfl) (by simp) ?_; refine ready_append _ _ _ _ rfl (by kernel_rfl) rfl hr5 ?_; refine wpAnyIn_ready (rs := [6]) (by kernel_rfl) (by simp) ?_; refine AllReadyIn.cons rfl (fun K hK => ?_) AllReadyIn.nil; go_simp; refine hK _ _ ?_; clear hK K; refine wpAnyIn_done (by kernel_rfl) ?_ _
       gi_wp2
       refine ⟨(keepsBM hS.out).trans (hk2.from _), (kpt_of hS.out hvl).t hKp, ⟨_, hv2, ?_, trivial⟩, (hB.trans (hS.out.mono (Nat.le_of_lt hvl))).trans hb2⟩; rw [marksL_snoc]; exact OwnE.push hr2
      exact AllReadyIn.nil
     exact AllReadyIn.nil
    refine AllReadyIn.cons rfl (fun K hK => ?_) ?_
    ·
     go_simp
     gi_wp2_with ((refine (CallsIn.inRound l (callsIn_wide.2 (HMK.out _ _))).mono ?_; rintro e4 w4 ⟨rfl, hB4⟩; have hS : Hid (Below W.heap.size W w4) := hidE (((Below.refl _ W).drew).trans hB4); have hc4 := below_cell hS.out hcv; have hc4' := fun o => cellOn o hc4; have HV4 : Hid (Boxed w4 (w.heap.size + 1) 31 v) := hidE ((hS.out.block _ hvl).trans HV.out); have HR4 := hidE (row_belowM HRow.out hS.out); have hz4 := hS.out.size; clear hB4; obtain ⟨v', w5, hr5, hown', hgrow, hnil, hat⟩ := run_append_own_at (P := Tryz.prog) (w4.alloc (.cells #[.string e.p, .int .i64 e.d, .string e.x] 99)) (w.heap.size + 1) 31 31 99 i0 _ 3 40 Tryz.underlying31 hi hi0 hi1 hi2 rfl (by decide) v _ _ (HR4.out.alloc _) ⟨w4.heap.size, 0, none⟩ 1 1 (cellsE e) rfl (cells_new w4 e) rowE_one' (by unfold maxLen; omega) (by omega) (by simp; omega); obtain ⟨hv1, hv2, hr2, hk2, hb2⟩ := HV4.out.appended (by decide) HR4.out (by omega) (Nat.le_refl _) hown' hgrow; have hKp := KpT.appended HV4.out (by decide) HR4.out (by omega) (Nat.le_refl _) hown' hgrow hat; obtain ⟨g5, cap5, rfl⟩ := ownsRow_succ hown'; have hc1 := hv1.cell; have hf1 := hv1.frozen))
     refine wpAnyIn_ready (rs := [0, 4]) (by kernel_rfl) (by simp) ?_; refine AllReadyIn.cons rfl (fun K hK => ?_) ?_
     ·
      go_simp; refine hK _ _ ?_; clear hK K; refine wpAnyIn_ready (rs := [4]) (by kernel_rfl) (by simp) ?_; refine AllReadyIn.cons rfl (fun K hK => ?_) ?_
      ·
       go_simp; refine hK _ _ ?_; clear hK K; refine wpAnyIn_ready (rs := [5]) (by kernel_rfl) (by simp) ?_; refine ready_append _ _ _ _ rfl (by kernel_rfl) rfl hr5 ?_; refine wpAnyIn_ready (rs := [6]) (by kernel_rfl) (by simp) ?_; refine AllReadyIn.cons rfl (fun K hK => ?_) AllReadyIn.nil; go_simp; refine hK _ _ ?_; clear hK K; refine wpAnyIn_done (by kernel_rfl) ?_ _
       gi_wp2
       refine ⟨(keepsBM hS.out).trans (hk2.from _), (kpt_of hS.out hvl).t hKp, ⟨_, hv2, ?_, trivial⟩, (hB.trans (hS.out.mono (Nat.le_of_lt hvl))).trans hb2⟩; rw [marksL_snoc]; exact OwnE.push hr2
      exact AllReadyIn.nil
     refine AllReadyIn.cons rfl (fun K hK => ?_) ?_
     ·
      go_simp; refine hK _ _ ?_; clear hK K; refine wpAnyIn_ready (rs := [0]) (by kernel_rfl) (by simp) ?_; refine AllReadyIn.cons rfl (fun K hK => ?_) ?_
      ·
       go_simp; refine hK _ _ ?_; clear hK K; refine wpAnyIn_ready (rs := [5]) (by kernel_rfl) (by simp) ?_; refine ready_append _ _ _ _ rfl (by kernel_rfl) rfl hr5 ?_; refine wpAnyIn_ready (rs := [6]) (by kernel_rfl) (by simp) ?_; refine AllReadyIn.cons rfl (fun K hK => ?_) AllReadyIn.nil; go_simp; refine hK _ _ ?_; clear hK K; refine wpAnyIn_done (by kernel_rfl) ?_ _
       gi_wp2
       refine ⟨(keepsBM hS.out).trans (hk2.from _), (kpt_of hS.out hvl).t hKp, ⟨_, hv2, ?_, trivial⟩, (hB.trans (hS.out.mono (Nat.le_of_lt hvl))).trans hb2⟩; rw [marksL_snoc]; exact OwnE.push hr2
      exact AllReadyIn.nil
     exact AllReadyIn.nil
    exact AllReadyIn.nil
   exact AllReadyIn.nil
  refine AllReadyIn.cons rfl (fun K hK => ?_) ?_
  ·
   go_simp; refine hK _ _ ?_; clear hK K; refine wpAnyIn_ready (rs := [0, 1]) (by kernel_rfl) (by simp) ?_; refine AllReadyIn.cons rfl (fun K hK => ?_) ?_
   ·
    go_simp; refine hK _ _ ?_; clear hK K; refine wpAnyIn_ready (rs := [1]) (by kernel_rfl) (by simp) ?_; refine AllReadyIn.cons rfl (fun K hK => ?_) ?_
    ·
     go_simp; refine hK _ _ ?_; clear hK K; refine wpAnyIn_ready (rs := [3]) (by kernel_rfl) (by simp) ?_; refine AllReadyIn.cons rfl (fun K hK => ?_) ?_
     ·
      go_simp
      gi_wp2_with ((refine (CallsIn.inRound l (callsIn_wide.2 (HMK.out _ _))).mono ?_; rintro e4 w4 ⟨rfl, hB4⟩; have hS : Hid (Below W.heap.size W w4) := hidE (((Below.refl _ W).drew).trans hB4); have hc4 := below_cell hS.out hcv; have hc4' := fun o => cellOn o hc4; have HV4 : Hid (Boxed w4 (w.heap.size + 1) 31 v) := hidE ((hS.out.block _ hvl).trans HV.out); have HR4 := hidE (row_belowM HRow.out hS.out); have hz4 := hS.out.size; clear hB4; obtain ⟨v', w5, hr5, hown', hgrow, hnil, hat⟩ := run_append_own_at (P := Tryz.prog) (w4.alloc (.cells #[.string e.p, .int .i64 e.d, .string e.x] 99)) (w.heap.size + 1) 31 31 99 i0 _ 3 40 Tryz.underlying31 hi hi0 hi1 hi2 rfl (by decide) v _ _ (HR4.out.alloc _) ⟨w4.heap.size, 0, none⟩ 1 1 (cellsE e) rfl (cells_new w4 e) rowE_one' (by unfold maxLen; omega) (by omega) (by simp; omega); obtain ⟨hv1, hv2, hr2, hk2, hb2⟩ := HV4.out.appended (by decide) HR4.out (by omega) (Nat.le_refl _) hown' hgrow; have hKp := KpT.appended HV4.out (by decide) HR4.out (by omega) (Nat.le_refl _) hown' hgrow hat; obtain ⟨g5, cap5, rfl⟩ := ownsRow_succ hown'; have hc1 := hv1.cell; have hf1 := hv1.frozen))
      refine wpAnyIn_ready (rs := [4]) (by kernel_rfl) (by simp) ?_; refine AllReadyIn.cons rfl (fun K hK => ?_) ?_
      ·
       go_simp; refine hK _ _ ?_; clear hK K; refine wpAnyIn_ready (rs := [5]) (by kernel_rfl) (by simp) ?_; refine ready_append _ _ _ _ rfl (by kernel_rfl) rfl hr5 ?_; refine wpAnyIn_ready (rs := [6]) (by kernel_rfl) (by simp) ?_; refine AllReadyIn.cons rfl (fun K hK => ?_) AllReadyIn.nil; go_simp; refine hK _ _ ?_; clear hK K; refine wpAnyIn_done (by kernel_rfl) ?_ _
       gi_wp2
       refine ⟨(keepsBM hS.out).trans (hk2.from _), (kpt_of hS.out hvl).t hKp, ⟨_, hv2, ?_, trivial⟩, (hB.trans (hS.out.mono (Nat.le_of_lt hvl))).trans hb2⟩; rw [marksL_snoc]; exact OwnE.push hr2
      exact AllReadyIn.nil
     exact AllReadyIn.nil
    exact AllReadyIn.nil
   refine AllReadyIn.cons rfl (fun K hK => ?_) ?_
   ·
    go_simp; refine hK _ _ ?_; clear hK K; refine wpAnyIn_ready (rs := [0, 3]) (by kernel_rfl) (by simp) ?_; refine AllReadyIn.cons rfl (fun K hK => ?_) ?_
    ·
     go_simp; refine hK _ _ ?_; clear hK K; refine wpAnyIn_ready (rs := [3]) (by kernel_rfl) (by simp) ?_; refine AllReadyIn.cons rfl (fun K hK => ?_) ?_
     ·
      go_simp
      gi_wp2_with ((refine (CallsIn.inRound l (callsIn_wide.2 (HMK.out _ _))).mono ?_; rintro e4 w4 ⟨rfl, hB4⟩; have hS : Hid (Below W.heap.size W w4) := hidE (((Below.refl _ W).drew).trans hB4); have hc4 := below_cell hS.out hcv; have hc4' := fun o => cellOn o hc4; have HV4 : Hid (Boxed w4 (w.heap.size + 1) 31 v) := hidE ((hS.out.block _ hvl).trans HV.out); have HR4 := hidE (row_belowM HRow.out hS.out); have hz4 := hS.out.size; clear hB4; obtain ⟨v', w5, hr5, hown', hgrow, hnil, hat⟩ := run_append_own_at (P := Tryz.prog) (w4.alloc (.cells #[.string e.p, .int .i64 e.d, .string e.x] 99)) (w.heap.size + 1) 31 31 99 i0 _ 3 40 Tryz.underlying31 hi hi0 hi1 hi2 rfl (by decide) v _ _ (HR4.out.alloc _) ⟨w4.heap.size, 0, none⟩ 1 1 (cellsE e) rfl (cells_new w4 e) rowE_one' (by unfold maxLen; omega) (by omega) (by simp; omega); obtain ⟨hv1, hv2, hr2, hk2, hb2⟩ := HV4.out.appended (by decide) HR4.out (by omega) (Nat.le_refl _) hown' hgrow; have hKp := KpT.appended HV4.out (by decide) HR4.out (by omega) (Nat.le_refl _) hown' hgrow hat; obtain ⟨g5, cap5, rfl⟩ := ownsRow_succ hown'; have hc1 := hv1.cell; have hf1 := hv1.frozen))
      refine wpAnyIn_ready (rs := [4]) (by kernel_rfl) (by simp) ?_; refine AllReadyIn.cons rfl (fun K hK => ?_) ?_
      ·
       go_simp; refine hK _ _ ?_; clear hK K; refine wpAnyIn_ready (rs := [5]) (by kernel_rfl) (by simp) ?_; refine ready_append _ _ _ _ rfl (by kernel_rfl) rfl hr5 ?_; refine wpAnyIn_ready (rs := [6]) (by kernel_rfl) (by simp) ?_; refine AllReadyIn.cons rfl (fun K hK => ?_) AllReadyIn.nil; go_simp; refine hK _ _ ?_; clear hK K; refine wpAnyIn_done (by kernel_rfl) ?_ _
       gi_wp2
       refine ⟨(keepsBM hS.out).trans (hk2.from _), (kpt_of hS.out hvl).t hKp, ⟨_, hv2, ?_, trivial⟩, (hB.trans (hS.out.mono (Nat.le_of_lt hvl))).trans hb2⟩; rw [marksL_snoc]; exact OwnE.push hr2
      exact AllReadyIn.nil
     exact AllReadyIn.nil
    refine AllReadyIn.cons rfl (fun K hK => ?_) ?_
    ·
     go_simp
     gi_wp2_with ((refine (CallsIn.inRound l (callsIn_wide.2 (HMK.out _ _))).mono ?_; rintro e4 w4 ⟨rfl, hB4⟩; have hS : Hid (Below W.heap.size W w4) := hidE (((Below.refl _ W).drew).trans hB4); have hc4 := below_cell hS.out hcv; have hc4' := fun o => cellOn o hc4; have HV4 : Hid (Boxed w4 (w.heap.size + 1) 31 v) := hidE ((hS.out.block _ hvl).trans HV.out); have HR4 := hidE (row_belowM HRow.out hS.out); have hz4 := hS.out.size; clear hB4; obtain ⟨v', w5, hr5, hown', hgrow, hnil, hat⟩ := run_append_own_at (P := Tryz.prog) (w4.alloc (.cells #[.string e.p, .int .i64 e.d, .string e.x] 99)) (w.heap.size + 1) 31 31 99 i0 _ 3 40 Tryz.underlying31 hi hi0 hi1 hi2 rfl (by decide) v _ _ (HR4.out.alloc _) ⟨w4.heap.size, 0, none⟩ 1 1 (cellsE e) rfl (cells_new w4 e) rowE_one' (by unfold maxLen; omega) (by omega) (by simp; omega); obtain ⟨hv1, hv2, hr2, hk2, hb2⟩ := HV4.out.appended (by decide) HR4.out (by omega) (Nat.le_refl _) hown' hgrow; have hKp := KpT.appended HV4.out (by decide) HR4.out (by omega) (Nat.le_refl _) hown' hgrow hat; obtain ⟨g5, cap5, rfl⟩ := ownsRow_succ hown'; have hc1 := hv1.cell; have hf1 := hv1.frozen))
     refine wpAnyIn_ready (rs := [0, 4]) (by kernel_rfl) (by simp) ?_; refine AllReadyIn.cons rfl (fun K hK => ?_) ?_
     ·
      go_simp; refine hK _ _ ?_; clear hK K; refine wpAnyIn_ready (rs := [4]) (by kernel_rfl) (by simp) ?_; refine AllReadyIn.cons rfl (fun K hK => ?_) ?_
      ·
       go_simp; refine hK _ _ ?_; clear hK K; refine wpAnyIn_ready (rs := [5]) (by kernel_rfl) (by simp) ?_; refine ready_append _ _ _ _ rfl (by kernel_rfl) rfl hr5 ?_; refine wpAnyIn_ready (rs := [6]) (by kernel_rfl) (by simp) ?_; refine AllReadyIn.cons rfl (fun K hK => ?_) AllReadyIn.nil; go_simp; refine hK _ _ ?_; clear hK K; refine wpAnyIn_done (by kernel_rfl) ?_ _
       gi_wp2
       refine ⟨(keepsBM hS.out).trans (hk2.from _), (kpt_of hS.out hvl).t hKp, ⟨_, hv2, ?_, trivial⟩, (hB.trans (hS.out.mono (Nat.le_of_lt hvl))).trans hb2⟩; rw [marksL_snoc]; exact OwnE.push hr2
      exact AllReadyIn.nil
     refine AllReadyIn.cons rfl (fun K hK => ?_) ?_
     ·
      go_simp; refine hK _ _ ?_; clear hK K; refine wpAnyIn_ready (rs := [0]) (by kernel_rfl) (by simp) ?_; refine AllReadyIn.cons rfl (fun K hK => ?_) ?_
      ·
       go_simp; refine hK _ _ ?_; clear hK K; refine wpAnyIn_ready (rs := [5]) (by kernel_rfl) (by simp) ?_; refine ready_append _ _ _ _ rfl (by kernel_rfl) rfl hr5 ?_; refine wpAnyIn_ready (rs := [6]) (by kernel_rfl) (by simp) ?_; refine AllReadyIn.cons rfl (fun K hK => ?_) AllReadyIn.nil; go_simp; refine hK _ _ ?_; clear hK K; refine wpAnyIn_done (by kernel_rfl) ?_ _
       gi_wp2
       refine ⟨(keepsBM hS.out).trans (hk2.from _), (kpt_of hS.out hvl).t hKp, ⟨_, hv2, ?_, trivial⟩, (hB.trans (hS.out.mono (Nat.le_of_lt hvl))).trans hb2⟩; rw [marksL_snoc]; exact OwnE.push hr2
      exact AllReadyIn.nil
     exact AllReadyIn.nil
    exact AllReadyIn.nil
   exact AllReadyIn.nil
  exact AllReadyIn.nil
 case done =>
  rintro D xs W hD hxs ⟨⟨v, hv, hrow, -⟩, hB⟩ hK; rw [marksL_all T hxs] at hrow; have hc := hv.cell; have hrow6 := ownsRow_putObj hrow (.deferred none) hK rfl; have hBf : Below w.heap.size w (W.putObj D (.deferred none)) := (hB0.trans (hB.mono (by omega))).trans (below_putM (by omega) _); have HR6 := hidE hrow6; clear hrow hrow6
  gi_wp2
  refine ⟨by simp, .inl ⟨_, _, rfl, run_takeDeferred hK, ?_⟩⟩; exact ⟨_, results_tmp rfl _ _ _, v, rfl, row_lowM HR6.out (by omega), hBf⟩
 case stop =>
  rintro D c pre W _ _ h _; exact h.elim
end Go.Proofs.YteppodogghjfhaaGreatDoor.Mk
namespace Go.Proofs.YteppodogghjfhaaGreatDoor
open Go.RowKit Go.Shelf Go.Lib Go.Maps
attribute [local go_sem] Oper.semAt_some
theorem infoStr : (Tryz.prog.info? 9).map (fun i => (i.zero, i.size, i.bytes)) = some (some (.string ByteArray.empty), 1, 16) := by kernel_rfl
def same1 (fs : List E) (y : ByteArray × E) : Bool := match lookE fs y.1 with
 | some f => sameT1 f y.2
 | none => false
def turn1 (fs : List E) (xs : List (ByteArray × E)) : List ByteArray := (xs.filter (fun y => !same1 fs y)).map (·.1)
theorem turn1_hit (fs : List E) {Lt : List (ByteArray × E)} (pre : List (ItemT Lt)) {y : ByteArray × E} (h : y ∈ Lt) (hs : same1 fs y = false) : turn1 fs ((pre ++ [⟨y, h⟩] : List (ItemT Lt)).map Subtype.val) = turn1 fs (pre.map Subtype.val) ++ [y.1] := by
 unfold turn1; rw [List.map_append, List.filter_append, List.map_append]; simp [hs]
theorem turn1_miss (fs : List E) {Lt : List (ByteArray × E)} (pre : List (ItemT Lt)) {y : ByteArray × E} (h : y ∈ Lt) (hs : same1 fs y = true) : turn1 fs ((pre ++ [⟨y, h⟩] : List (ItemT Lt)).map Subtype.val) = turn1 fs (pre.map Subtype.val) := by
 unfold turn1; rw [List.map_append, List.filter_append, List.map_append]; simp [hs]
theorem turn1_len (fs : List E) {Lt : List (ByteArray × E)} (pre : List (ItemT Lt)) : (turn1 fs (pre.map Subtype.val)).length ≤ pre.length := by
 unfold turn1; rw [List.length_map]; have := List.length_filter_le (fun y => !same1 fs y) (pre.map Subtype.val); rw [List.length_map] at this; exact this
def turn2 (es : List E) (xs : List (ByteArray × E)) : List ByteArray := (xs.filter (fun y => (lookE es y.1).isNone)).map (·.1)
theorem turn2_hit (es : List E) {Lt : List (ByteArray × E)} (pre : List (ItemT Lt)) {y : ByteArray × E} (h : y ∈ Lt) (hs : lookE es y.1 = none) : turn2 es ((pre ++ [⟨y, h⟩] : List (ItemT Lt)).map Subtype.val) = turn2 es (pre.map Subtype.val) ++ [y.1] := by
 unfold turn2; rw [List.map_append, List.filter_append, List.map_append]; simp [hs]
theorem turn2_miss (es : List E) {Lt : List (ByteArray × E)} (pre : List (ItemT Lt)) {y : ByteArray × E} (h : y ∈ Lt) (hs : (lookE es y.1).isSome = true) : turn2 es ((pre ++ [⟨y, h⟩] : List (ItemT Lt)).map Subtype.val) = turn2 es (pre.map Subtype.val) := by
 have hn : (lookE es y.1).isNone = false := by cases hl : lookE es y.1 with
  | none => rw [hl] at hs; cases hs
  | some _ => rfl
 unfold turn2; rw [List.map_append, List.filter_append, List.map_append]; simp [hn]
theorem turn2_len (es : List E) {Lt : List (ByteArray × E)} (pre : List (ItemT Lt)) : (turn2 es (pre.map Subtype.val)).length ≤ pre.length := by
 unfold turn2; rw [List.length_map]; have := List.length_filter_le (fun y : ByteArray × E => (lookE es y.1).isNone) (pre.map Subtype.val); rw [List.length_map] at this; exact this
theorem turn1_len' (fs : List E) (xs : List (ByteArray × E)) : (turn1 fs xs).length ≤ xs.length := by
 unfold turn1; rw [List.length_map]; exact List.length_filter_le _ _
theorem turn2_len' (es : List E) (xs : List (ByteArray × E)) : (turn2 es xs).length ≤ xs.length := by
 unfold turn2; rw [List.length_map]; exact List.length_filter_le _ _
theorem turn1_mem {es fs : List E} (T : TrE es) (s : ByteArray) : s ∈ turn1 fs (told es ⟨#[47]⟩ ⟨#[]⟩) ↔ ∃ e, lookE es s = some e ∧ lookE fs s ≠ some e := by
 unfold turn1; rw [told_all T, List.mem_map]
 have hs1 : ∀ e : E, same1 fs (e.p, e) = true ↔ lookE fs e.p = some e := fun e => by
  unfold same1; cases hl : lookE fs e.p with
  | none => simp
  | some f => show sameT1 f e = true ↔ _; rw [sameT1_iff]; simp
 constructor
 ·
  rintro ⟨y, hy, rfl⟩; obtain ⟨h1, h2⟩ := List.mem_filter.1 hy; obtain ⟨e, he, rfl⟩ := List.mem_map.1 h1; refine ⟨e, look_self T.sort he, fun q => ?_⟩; rw [(hs1 e).2 q] at h2; cases h2
 ·
  rintro ⟨e, h1, h2⟩; obtain ⟨h3, rfl⟩ := look_mem h1; refine ⟨(e.p, e), List.mem_filter.2 ⟨List.mem_map.2 ⟨e, h3, rfl⟩, ?_⟩, rfl⟩; cases hs : same1 fs (e.p, e) with
  | false => rfl
  | true => exact absurd ((hs1 e).1 hs) h2
theorem turn2_mem {es fs : List E} (U : TrE fs) (s : ByteArray) : s ∈ turn2 es (told fs ⟨#[47]⟩ ⟨#[]⟩) ↔ lookE es s = none ∧ ∃ f, lookE fs s = some f := by
 unfold turn2; rw [told_all U, List.mem_map]
 constructor
 ·
  rintro ⟨y, hy, rfl⟩; obtain ⟨h1, h2⟩ := List.mem_filter.1 hy; obtain ⟨e, he, rfl⟩ := List.mem_map.1 h1; exact ⟨Option.isNone_iff_eq_none.1 h2, e, look_self U.sort he⟩
 ·
  rintro ⟨h1, f, h2⟩; obtain ⟨h3, rfl⟩ := look_mem h2; exact ⟨(f.p, f), List.mem_filter.2 ⟨List.mem_map.2 ⟨f, h3, rfl⟩, by show (lookE es f.p).isNone = true; rw [h1]; rfl⟩, rfl⟩
theorem turn1_rise {es : List E} (T : TrE es) (fs : List E) : (turn1 fs (told es ⟨#[47]⟩ ⟨#[]⟩)).Pairwise less := by
 unfold turn1; rw [told_all T, List.pairwise_map]; refine List.Pairwise.filter _ ?_; rw [List.pairwise_map]; exact T.sort
theorem turn2_rise {fs : List E} (U : TrE fs) (es : List E) : (turn2 es (told fs ⟨#[47]⟩ ⟨#[]⟩)).Pairwise less := by
 unfold turn2; rw [told_all U, List.pairwise_map]; refine List.Pairwise.filter _ ?_; rw [List.pairwise_map]; exact U.sort
theorem nodup_less {l : List ByteArray} (h : l.Pairwise less) : l.Nodup := h.imp fun {a b} k e => by rw [e] at k; exact less_irrefl _ k
theorem turn_perm {es fs : List E} (T : TrE es) (U : TrE fs) : (turn1 fs (told es ⟨#[47]⟩ ⟨#[]⟩) ++ turn2 es (told fs ⟨#[47]⟩ ⟨#[]⟩)).Perm (turnE es fs) := by
 refine (List.perm_ext_iff_of_nodup ?_ (nodup_less (turnE_rise T))).2 fun s => ?_
 ·
  rw [List.nodup_append]; refine ⟨nodup_less (turn1_rise T fs), nodup_less (turn2_rise U es), fun a ha b hb e => ?_⟩; subst e; obtain ⟨e, h1, _⟩ := (turn1_mem T a).1 ha; have h2 := ((turn2_mem U a).1 hb).1; rw [h1] at h2; cases h2
 ·
  rw [List.mem_append, turn1_mem T, turn2_mem U, turnE_mem T U]; unfold differ
  constructor
  ·
   rintro (⟨e, h1, h2⟩ | ⟨h1, f, h2⟩)
   ·
    rw [h1]; exact fun q => h2 q.symm
   ·
    rw [h1, h2]; simp
  ·
   intro h; cases h1 : lookE es s with
   | some e => exact .inl ⟨e, rfl, fun q => h (by rw [h1, q])⟩
   | none =>
    cases h2 : lookE fs s with
    | some f => exact .inr ⟨rfl, f, rfl⟩
    | none => rw [h1, h2] at h; exact absurd rfl h
theorem def_kept {W w5 : World} {base n D : Nat} {e : TypeId} {size : Nat} {v : Value} {xs : List Value} {ds : Option (List Deferred)} (hr : W.ownsRow base e size v n xs) (hg : W.grownBy w5 v.ownBlock) (hD : W.heap[D]? = some (.deferred ds)) : w5.heap[D]? = some (.deferred ds) := by
 refine (hg.block D (Array.getElem?_eq_some_iff.1 hD).1 fun q => ?_).trans hD; rcases hr.2 with ⟨rfl, _⟩ | ⟨g, cap, cur, rfl, _, hh, _⟩
 ·
  simp [Value.ownBlock] at q
 ·
  obtain rfl : D = g := by simpa [Value.ownBlock] using q
  rw [hh] at hD; cases hD
theorem row_base {W : World} {base n : Nat} {e : TypeId} {size : Nat} {v : Value} {xs : List Value} (hr : W.ownsRow base e size v n xs) : ∀ j, v.ownBlock = some j → base ≤ j := by
 intro j hj; rcases hr.2 with ⟨rfl, _⟩ | ⟨g, cap, cur, rfl, hb, _⟩
 ·
  simp [Value.ownBlock] at hj
 ·
  obtain rfl : g = j := by simpa [Value.ownBlock] using hj
  exact hb
theorem below_put {n D : Nat} {W : World} (h : n ≤ D) (o : Obj) : Below n W (W.putObj D o) := ⟨rfl, rfl, rfl, by simp, fun k hk => World.putObj_heap_other (by omega)⟩
theorem row_lowT {w : World} {base base' : Nat} {e : TypeId} {size : Nat} {v : Value} {n : Nat} {xs : List Value} (h : w.ownsRow base e size v n xs) (hb : base' ≤ base) : w.ownsRow base' e size v n xs := by
 obtain ⟨h1, h2 | ⟨g, cap, cur, e1, e2, e3⟩⟩ := h
 ·
  exact ⟨h1, .inl h2⟩
 ·
  exact ⟨h1, .inr ⟨g, cap, cur, e1, Nat.le_trans hb e2, e3⟩⟩
theorem row_below {w w' : World} {base n : Nat} {e : TypeId} {size : Nat} {v : Value} {xs : List Value} (h : w.ownsRow base e size v n xs) (hb : Below w.heap.size w w') : w'.ownsRow base e size v n xs := by
 obtain ⟨h1, h2 | ⟨g, cap, cur, e1, e2, e3, e4⟩⟩ := h
 ·
  exact ⟨h1, .inl h2⟩
 ·
  exact ⟨h1, .inr ⟨g, cap, cur, e1, e2, (hb.block g (Array.getElem?_eq_some_iff.1 e3).1).trans e3, e4⟩⟩
theorem keepsB {w w' : World} {B : Nat} (hb : Below w.heap.size w w') : KeepsFrom B w w' := ⟨hb.size, fun k _ _ h _ => (hb.block k (Array.getElem?_eq_some_iff.1 h).1).trans h⟩
theorem tree_len {es : List E} (h : treeE es = true) : es.length ≤ 1000 := by
 unfold treeE at h; rw [Bool.and_eq_true] at h; have := of_decide_eq_true h.1; omega
theorem lev_root : 0 ≤ levS ⟨#[47]⟩ := by decide
set_option maxHeartbeats 4000000 in
set_option maxRecDepth 100000 in
theorem iTurned_ok (w : World) (a : Option Addr) (g o cap : Nat) (es : List E) (a' : Option Addr) (g' o' cap' : Nat) (fs : List E) (ae : Int → Addr) (hErr : Errs2 w ae) (hl : es.length ≤ 16777216) (hl' : fs.length ≤ 16777216)
  (hz : ∀ e ∈ es, e.p.size ≤ 16777216 ∧ e.x.size ≤ 16777216) (hz' : ∀ e ∈ fs, e.p.size ≤ 16777216 ∧ e.x.size ≤ 16777216) (ha : 0 < es.length → a = some ⟨g, o, none⟩) (ha' : 0 < fs.length → a' = some ⟨g', o', none⟩) (hE : Ents w g o es) (hF : Ents w g' o' fs) (ht : treeE es = true) (hu : treeE fs = true) :
  Calls Tryz.prog 109 #[.slice a es.length cap, .slice a' fs.length cap'] w fun r w' => ∃ v, r = .returned v ∧ w'.ownsRow w.heap.size 9 1 v (turnE es fs).length ((turnE es fs).map Value.string) ∧ Below w.heap.size w w' := by
 obtain ⟨i0, hi, hi0, hi1, hi2⟩ := info_parts infoStr; have T := (treeE_tr ht).1; have U := (treeE_tr hu).1; have HT := hidE (treeOf_any w a g o cap es ae hErr hl hz ha hE); have HU := hidE (fun (W : World) (hW : Below w.heap.size w W) => treeOf_any W a' g' o' cap' fs ae (hErr.below hW) hl' hz' ha' (hF.below hW)); rw [ht] at HT; rw [hu] at HU; have HZ := hidE hz; have HZ' := hidE hz'; clear hErr hz hz' ha ha' hE hF; refine (callsIn_wide (n := 6)).1 ?_; refine callsIn_of_wp_marks Tryz.func109 rfl trivial ?_ rfl; simp only [Tryz.ntmps109, List.size_toArray, List.length_cons, List.length_nil, Nat.reduceAdd, Nat.reduceSub, Array.replicate_succ, Array.replicate_zero, List.push_toArray, List.append_toArray, List.nil_append, List.cons_append]
 gi_wp2_with fail
 refine ⟨trivial, ?_⟩; refine (callsIn_wide.2 HT.out).mono ?_; rintro e w1 ⟨A, rfl, hB1, hR1⟩; have hBt1 : Below w1.heap.size w1 (w1.alloc (.cells #[.bool true, .string ⟨#[]⟩, .map (some (A ⟨#[47]⟩))] 118)) := (Below.refl _ w1).alloc (Nat.le_refl _) _; have HB1 := hidE (hB1.trans (hBt1.mono hB1.size)); have HR1 := hidE ((hR1 trivial).below hBt1); clear hB1 hR1 hBt1
 gi_wp2_with fail
 refine ⟨trivial, ?_⟩; refine (callsIn_wide.2 (HU.out _ HB1.out)).mono ?_; rintro e w2 ⟨B, rfl, hB2, hR2⟩; obtain ⟨-, a0, a1, a2, -, -, -, -⟩ := boxKept hB2 (b := w1.heap.size) (p := .bool true) (q := .string ⟨#[]⟩) (r := .map (some (A ⟨#[47]⟩))) ⟨by simp, by simp, by simp⟩ ⟨by simp, by simp, by simp⟩; have hBt2 : Below w2.heap.size w2 (w2.alloc (.cells #[.bool true, .string ⟨#[]⟩, .map (some (B ⟨#[47]⟩))] 118)) := (Below.refl _ w2).alloc (Nat.le_refl _) _; have HB2 := hidE ((HB1.out.trans (hB2.mono HB1.out.size)).trans (hBt2.mono (HB1.out.trans (hB2.mono HB1.out.size)).size)); have HR2 := hidE ((HR1.out.below hB2).below hBt2); have HS2 := hidE ((hR2 trivial).below hBt2); have hs12 := hB2.size; simp only [World.size_alloc] at hs12; obtain ⟨Wv, hWv⟩ : ∃ Wv, Wv = w2.alloc (.cells #[.bool true, .string ⟨#[]⟩, .map (some (B ⟨#[47]⟩))] 118) := ⟨_, rfl⟩
 have hszv : Wv.heap.size = w2.heap.size + 1 := by rw [hWv]; simp
 have p0 : Wv.cell? ⟨w1.heap.size, 0, none⟩ = some (.bool true) := by rw [hWv]; exact a0 _
 have p1 : Wv.cell? ⟨w1.heap.size, 1, none⟩ = some (.string ⟨#[]⟩) := by rw [hWv]; exact a1 _
 have p2 : Wv.cell? ⟨w1.heap.size, 2, none⟩ = some (.map (some (A ⟨#[47]⟩))) := by rw [hWv]; exact a2 _
 have q0 : Wv.cell? ⟨w2.heap.size, 0, none⟩ = some (.bool true) := by rw [hWv]; simp
 have q1 : Wv.cell? ⟨w2.heap.size, 1, none⟩ = some (.string ⟨#[]⟩) := by rw [hWv]; simp
 have q2 : Wv.cell? ⟨w2.heap.size, 2, none⟩ = some (.map (some (B ⟨#[47]⟩))) := by rw [hWv]; simp
 rw [← hWv] at HB2 HR2 HS2 hBt2; have c0 := cellOn (.cells #[.slice none 0 0] 100) p0; have c1 := cellOn (.cells #[.slice none 0 0] 100) p1; have c2 := cellOn (.cells #[.slice none 0 0] 100) p2; have c0' := c0; have c1' := c1; have c2' := c2; rw [hWv] at c0 c1 c2; clear hB2 hR2 hBt2 a0 a1 a2
 gi_wp2_with fail
 rw [← hWv]; rw [← hszv]; refine ⟨trivial, ?_⟩; refine (callsIn_wide.2 (all_any A _)).mono ?_; rintro e w3 ⟨b, hb1, hb2, rfl, hB3, d0, d1, d2, d3⟩; have hB3' : Below Wv.heap.size Wv w3 := ((Below.refl _ Wv).alloc (Nat.le_refl _) _).trans (hB3.mono (by simp)); have hbx : Boxed w3 Wv.heap.size 100 (.slice none 0 0) := (hB3.block _ (by simp)).trans (World.alloc_heap_new Wv _); have hs3 := hB3.size; simp only [World.size_alloc] at hb1 hs3; clear c0 c1 c2 c0' c1' c2' hWv hB3
 gi_wp2
 have hvb : w2.heap.size + 1 < w3.heap.size := by omega
 have HB3 := hidE hB3'; have HQ := hidE (And.intro q0 (And.intro q1 q2)); have HP := hidE (And.intro p0 (And.intro p1 p2)); rw [hszv] at hbx; have hnv : w2.heap.size + 1 ≤ Wv.heap.size := by omega
 have hes := (treeE_len ht)
 have hrow0 : w3.ownsRow (w2.heap.size + 1) 9 1 (.slice none 0 0) 0 [] := World.ownsRow_nil _ _ _ _; clear q0 q1 q2 p0 p1 p2 hB3'
 refine wpIn_rangeFunc_ownH rfl (by omega) (gf := 199) (lb := #[.pointer (some ⟨b, 0, none⟩), .pointer (some ⟨b + 1, 0, none⟩)]) rfl trivial (enters_of Tryz.func199 (by kernel_rfl) rfl)
  (below_stops _ (by omega) es A w.heap.size 16 (w2.heap.size + 1) (by omega) (tree_len ht) T ⟨#[47]⟩ ⟨#[]⟩ (by decide) true ⟨#[]⟩ (some (A ⟨#[47]⟩)) (.inl ⟨look_dir (.inl rfl), rfl⟩) b (b + 1) w3 (by omega) (by omega) d0 d1 d2 d3 (HR2.out.below HB3.out) hvb (good_row hbx hrow0) (lev_root)) KpT.t (KpT.b hvb) (Below.refl _ _) (fun _ => rfl)
  (fun (pre : List (ItemT (told es ⟨#[47]⟩ ⟨#[]⟩))) W => (∃ v, Boxed W (w2.heap.size + 1) 100 v ∧ W.ownsRow (w2.heap.size + 1) 9 1 v (turn1 fs (pre.map Subtype.val)).length ((turn1 fs (pre.map Subtype.val)).map Value.string) ∧ True) ∧ Below (w2.heap.size + 1) Wv W)
  (fun _ _ _ => False)
  (OwnFrom.and (Own.from (holdsRow_own (w2.heap.size + 1) (w2.heap.size + 1) 100 9 1 (fun (pre : List (ItemT (told es ⟨#[47]⟩ ⟨#[]⟩))) => (turn1 fs (pre.map Subtype.val)).length) (fun (pre : List (ItemT (told es ⟨#[47]⟩ ⟨#[]⟩))) => (turn1 fs (pre.map Subtype.val)).map Value.string) (fun _ _ => True)) _) (ownFrom_below hnv (by omega)))
  (fun _ _ _ _ _ hs _ _ => hs)
  ⟨⟨_, hbx, hrow0, trivial⟩, HB3.out.mono hnv⟩
  (fun x ac W => ∃ Bx, w2.heap.size + 1 < Bx ∧ (W.cell? ⟨Bx, 0, none⟩ = some (.bool x.1.2.d) ∧ W.cell? ⟨Bx, 1, none⟩ = some (.string x.1.2.x) ∧ W.cell? ⟨Bx, 2, none⟩ = some (.map (optV x.1.2.d (A x.1.2.p)))) ∧ ac = { tmps := #[Value.slice a es.length cap, Value.slice a' fs.length cap', undef, undef, Value.slice none 0 0, Value.pointer (some { block := w1.heap.size, off := 0 }), Value.bool true, Value.pointer (some { block := w2.heap.size, off := 0 }), Value.bool true, Value.pointer (some { block := w2.heap.size + 1, off := 0 }), Value.string x.1.1, Value.pointer (some ⟨Bx, 0, none⟩), undef, undef, undef, undef, undef, Value.tuple #[treeV A, Value.bool true], Value.slice a es.length cap, Value.tuple #[treeV A, Value.bool true], treeV A, Value.bool true, Value.tuple #[treeV B, Value.bool true], Value.slice a' fs.length cap', Value.tuple #[treeV B, Value.bool true], treeV B, Value.bool true, Value.bool true, Value.bool false, Value.bool false, Value.bool true, Value.bool false, Value.bool false, Value.agg #[Value.bool true, Value.string { data := #[] }, Value.map (some (A { data := #[47] }))], Value.func (Fn.func 199) #[] #[Value.pointer (some { block := b, off := 0 }), Value.pointer (some { block := b + 1, off := 0 })], Value.string x.1.1, Value.agg #[Value.bool x.1.2.d, Value.string x.1.2.x, Value.map (optV x.1.2.d (A x.1.2.p))], undef, undef, undef, undef, undef, undef, undef, undef, undef, undef, undef, undef, undef, undef, undef, undef, undef, undef, undef, undef, undef, undef, undef, undef, undef, undef, undef, undef, undef, undef, undef, undef, undef, undef, undef, undef, undef, undef, undef, undef], defers := [] })
  (fun x ac _ X Y row hs hg hr => by obtain ⟨Bx, h1, ⟨h2, h3, h4⟩, h5⟩ := hs; exact ⟨Bx, h1, ⟨cell_kept h2 hg (fun r e => (hr r e).2), cell_kept h3 hg (fun r e => (hr r e).2), cell_kept h4 hg (fun r e => (hr r e).2)⟩, h5⟩)
  ?assign ?body ?done ?stop
 case assign =>
  rintro l pre x W K ⟨⟨v, hv, hrow, -⟩, hB⟩ hK
  gi_wp2
  exact hK _ _ ((KeepsOthers.alloc _ _).from _) (kpt_of ((Below.refl _ W).alloc (Nat.le_refl _) _) hv.lt) ⟨⟨v, hv.alloc _, hrow.alloc _, trivial⟩, hB.alloc (Nat.le_of_lt hv.lt) _⟩ ⟨W.heap.size, hv.lt, ⟨by simp, by simp, by simp⟩, rfl⟩
 case body =>
  rintro l pre x ac W hl ⟨r, hr⟩ ⟨⟨v, hv, hrow, -⟩, hB⟩ ⟨Bx, hBx, ⟨x0, x1, x2⟩, rfl⟩ hlt; obtain ⟨⟨s, e⟩, hxm⟩ := x
  have hse : s = e.p ∧ e ∈ es := by
   have h := hxm; rw [told_all T, List.mem_map] at h; obtain ⟨e', h1, h2⟩ := h
   injection h2 with h2 h3
   subst h3; exact ⟨h2.symm, h1⟩
  obtain ⟨rfl, he⟩ := hse; have hpl := turn1_len fs pre; have htl : (told es ⟨#[47]⟩ ⟨#[]⟩).length = es.length := by rw [told_all T, List.length_map]
  have hes1 := tree_len ht; have hroot := root_not_path (T.path e he); have hez := (HZ.out e he).1; have hBW : Below Wv.heap.size Wv W := by rw [hszv]; exact hB
  have RW := HS2.out.below hBW; have hAt := at_any W _ 16 fs B U RW e.p (by omega); obtain ⟨q0, q1, q2⟩ := HQ.out; have r0 := (hB.cell (p := ⟨w2.heap.size, 0, none⟩) (by simp)).trans q0; have r1 := (hB.cell (p := ⟨w2.heap.size, 1, none⟩) (by simp)).trans q1; have r2 := (hB.cell (p := ⟨w2.heap.size, 2, none⟩) (by simp)).trans q2; have HAt := hidE hAt; have HV := hidE hv; have HRow := hidE hrow; clear q0 q1 q2 hAt hrow hv; dsimp only at x0 x1 x2 ⊢; cases hlk : lookE fs e.p with
  | none =>
   have hat : atE fs B e.p = (zeroN, false) := by unfold atE; rw [hroot, hlk]; rfl
   rw [hat] at HAt
   gi_wp2_with fail
   refine ⟨trivial, ?_⟩; refine (CallsIn.inRound l (callsIn_wide.2 HAt.out)).mono ?_; rintro e2 W2 ⟨rfl, hB2⟩
   gi_wp2
   have hfe : Fence.wide.fn 85 := trivial; have hsame : same1 fs (e.p, e) = false := by unfold same1; rw [hlk]
   have hcol : turn1 fs ((pre ++ [⟨(e.p, e), hxm⟩] : List (ItemT (told es ⟨#[47]⟩ ⟨#[]⟩))).map Subtype.val) = turn1 fs (pre.map Subtype.val) ++ [e.p] := turn1_hit fs pre hxm hsame
   rename_i Kx hKx
   have HK : ∀ Wz, Below W.heap.size W Wz → Kx { tmps := #[Value.slice a es.length cap, Value.slice a' fs.length cap', undef, undef, Value.slice none 0 0, Value.pointer (some { block := w1.heap.size, off := 0 }), Value.bool true, Value.pointer (some { block := w2.heap.size, off := 0 }), Value.bool true, Value.pointer (some { block := w2.heap.size + 1, off := 0 }), Value.string e.p, Value.pointer (some { block := Bx, off := 0 }), Value.pointer (some { block := W2.heap.size, off := 0 }), Value.bool false, undef, undef, undef, Value.tuple #[treeV A, Value.bool true], Value.slice a es.length cap, Value.tuple #[treeV A, Value.bool true], treeV A, Value.bool true, Value.tuple #[treeV B, Value.bool true], Value.slice a' fs.length cap', Value.tuple #[treeV B, Value.bool true], treeV B, Value.bool true, Value.bool true, Value.bool false, Value.bool false, Value.bool true, Value.bool false, Value.bool false, Value.agg #[Value.bool true, Value.string { data := #[] }, Value.map (some (A { data := #[47] }))], Value.func (Fn.func 199) #[] #[Value.pointer (some { block := b, off := 0 }), Value.pointer (some { block := b + 1, off := 0 })], Value.string e.p, Value.agg #[Value.bool e.d, Value.string e.x, Value.map (optV e.d (A e.p))], Value.tuple #[zeroN, Value.bool false], Value.agg #[Value.bool true, Value.string { data := #[] }, Value.map (some (B { data := #[47] }))], Value.string e.p, Value.tuple #[zeroN, Value.bool false], zeroN, Value.bool false, Value.bool false, Value.bool true, Value.bool true, undef, undef, undef, undef, undef, undef, undef, Value.bool true, undef, undef, undef, undef, undef, undef, undef, undef, undef, undef, undef, undef, undef, undef, undef, undef, undef, undef, undef, undef, undef, undef, undef], defers := [] } Wz := fun Wz hBz => hKx _ _ (by
    have hvz : Boxed Wz (w2.heap.size + 1) 100 v := (hBz.block _ HV.out.lt).trans HV.out; have hrowz := row_below HRow.out hBz; have hcz := hvz.cell; have hszz := hBz.size; have hvl := HV.out.lt; have HRz := hidE hrowz; have HVz := hidE hvz; clear hrowz
    gi_wp2_with (gi_at_builtin; refine wpListIn_append_own_at _ rfl _ _ 100 rfl (w2.heap.size + 1) 9 i0 (.string ByteArray.empty) 1 16 Tryz.underlying100 hi hi0 hi1 hi2 rfl (by decide) _ _ _ rfl (HRz.out.alloc _) ⟨Wz.heap.size, 0, none⟩ 1 1 [.string e.p] rfl rfl (cell_one_new _ _ _) (by simp [Value.oneCell']) (by unfold maxLen; omega) (by omega) (by simp; omega) ?_; intro v' w5 hown' hgrow hnil hat; obtain ⟨hv1, hv2, hr2, hk2, hb2⟩ := HVz.out.appended (by decide) HRz.out (by omega) (Nat.le_refl _) hown' hgrow; have hKp := KpT.appended HVz.out (by decide) HRz.out (by omega) (Nat.le_refl _) hown' hgrow hat; obtain ⟨g5, cap5, rfl⟩ := ownsRow_succ hown'; have hc1 := hv1.cell; have hf1 := hv1.frozen)
    refine ⟨(keepsB hBz).trans (hk2.from _), (kpt_of hBz hvl).t hKp, ⟨_, hv2, ?_, trivial⟩, (hB.trans (hBz.mono (Nat.le_of_lt hvl))).trans hb2⟩; rw [hcol, List.length_append, List.map_append]
    exact hr2)
   have hBy := hB2.trans (((Below.refl _ W2).alloc (Nat.le_refl _) (.cells #[.bool false, .string ⟨#[]⟩, .map none] 116)).mono hB2.size)
   gi_region_with (fail)
   all_goals exact HK _ hBy.drew
  | some f =>
   have hfp : f.p = e.p := (look_mem hlk).2; have hat : atE fs B e.p = (.agg #[.bool f.d, .string f.x, .map (optV f.d (B e.p))], true) := by unfold atE; rw [hroot, hlk]; rfl
   rw [hat] at HAt
   gi_wp2_with fail
   refine ⟨trivial, ?_⟩; refine (CallsIn.inRound l (callsIn_wide.2 HAt.out)).mono ?_; rintro e2 W2 ⟨rfl, hB2⟩; obtain ⟨X, hX⟩ : ∃ X, X = W2.alloc (.cells #[.bool f.d, .string f.x, .map (optV f.d (B e.p))] 116) := ⟨_, rfl⟩
   have hBy : Below W.heap.size W X := by rw [hX]; exact hB2.trans (((Below.refl _ W2).alloc (Nat.le_refl _) _).mono hB2.size)
   have AS : Hid (∀ W', Below X.heap.size X W' → (W'.cell? ⟨W2.heap.size, 0, none⟩ = some (.bool f.d) ∧ W'.cell? ⟨W2.heap.size, 1, none⟩ = some (.string f.x) ∧ W'.cell? ⟨W2.heap.size, 2, none⟩ = some (.map (optV f.d (B e.p)))) ∧ W'.cell? ⟨Bx, 0, none⟩ = some (.bool e.d) ∧ W'.cell? ⟨Bx, 1, none⟩ = some (.string e.x) ∧ W'.cell? ⟨Bx, 2, none⟩ = some (.map (optV e.d (A e.p)))) := fun W' h =>
    ⟨⟨below_cell h (by rw [hX]; simp), below_cell h (by rw [hX]; simp), below_cell h (by rw [hX]; simp)⟩, below_cell h (below_cell hBy x0), below_cell h (below_cell hBy x1), below_cell h (below_cell hBy x2)⟩
   obtain ⟨⟨y0, y1, y2⟩, y3, y4, y5⟩ := AS.out X.drew (Below.refl _ _).drew; have hfe : Fence.wide.fn 85 := trivial; obtain ⟨bb, hbb⟩ : ∃ bb, ((e.p.toList == e.p.toList) && (f.d == e.d) && (f.x.toList == e.x.toList)) = bb := ⟨_, rfl⟩
   have hcmp : ∀ W', (Op.equalIn 10000 43 (.agg #[.string e.p, .bool f.d, .string f.x]) (.agg #[.string e.p, .bool e.d, .string e.x])).run Tryz.prog W' = .ok bb W' := fun W' => by rw [← hbb]; exact eq_entP ..
   have hgrd := fun op x y xs ys W' => guard_entP op x y xs ys W'; have HBB := hidE hbb; clear hbb
   gi_wp2
   rw [← hX]; clear hX; have hS := hidE ((Below.refl X.heap.size X).drew)
   have hsm : same1 fs (e.p, e) = bb := by
    unfold same1; rw [hlk]; show sameT1 f e = bb
    unfold sameT1; rw [hfp]; exact HBB.out
   rename_i Kx hKx
   have HK : ∀ Wz, Below W.heap.size W Wz → Kx { tmps := #[Value.slice a es.length cap, Value.slice a' fs.length cap', undef, undef, Value.slice none 0 0, Value.pointer (some { block := w1.heap.size, off := 0 }), Value.bool true, Value.pointer (some { block := w2.heap.size, off := 0 }), Value.bool true, Value.pointer (some { block := w2.heap.size + 1, off := 0 }), Value.string e.p, Value.pointer (some { block := Bx, off := 0 }), Value.pointer (some { block := W2.heap.size, off := 0 }), Value.bool true, undef, undef, undef, Value.tuple #[treeV A, Value.bool true], Value.slice a es.length cap, Value.tuple #[treeV A, Value.bool true], treeV A, Value.bool true, Value.tuple #[treeV B, Value.bool true], Value.slice a' fs.length cap', Value.tuple #[treeV B, Value.bool true], treeV B, Value.bool true, Value.bool true, Value.bool false, Value.bool false, Value.bool true, Value.bool false, Value.bool false, Value.agg #[Value.bool true, Value.string { data := #[] }, Value.map (some (A { data := #[47] }))], Value.func (Fn.func 199) #[] #[Value.pointer (some { block := b, off := 0 }), Value.pointer (some { block := b + 1, off := 0 })], Value.string e.p, Value.agg #[Value.bool e.d, Value.string e.x, Value.map (optV e.d (A e.p))], Value.tuple #[Value.agg #[Value.bool f.d, Value.string f.x, Value.map (optV f.d (B e.p))], Value.bool true], Value.agg #[Value.bool true, Value.string { data := #[] }, Value.map (some (B { data := #[47] }))], Value.string e.p, Value.tuple #[Value.agg #[Value.bool f.d, Value.string f.x, Value.map (optV f.d (B e.p))], Value.bool true], Value.agg #[Value.bool f.d, Value.string f.x, Value.map (optV f.d (B e.p))], Value.bool true, Value.bool true, Value.bool false, Value.bool false, Value.agg #[Value.bool f.d, Value.string f.x, Value.map (optV f.d (B e.p))], Value.string e.p, Value.agg #[Value.string e.p, Value.bool f.d, Value.string f.x], Value.agg #[Value.bool e.d, Value.string e.x, Value.map (optV e.d (A e.p))], Value.string e.p, Value.agg #[Value.string e.p, Value.bool e.d, Value.string e.x], Value.bool (!bb), Value.bool (!bb), undef, undef, undef, undef, undef, undef, undef, undef, undef, undef, undef, undef, undef, undef, undef, undef, undef, undef, undef, undef, undef, undef, undef], defers := [] } Wz := fun Wz hBz => hKx _ _ (by
    have hvz : Boxed Wz (w2.heap.size + 1) 100 v := (hBz.block _ HV.out.lt).trans HV.out; have hrowz := row_below HRow.out hBz; have hcz := hvz.cell; have hszz := hBz.size; have hvl := HV.out.lt; have HRz := hidE hrowz; have HVz := hidE hvz; clear hrowz hcmp HBB; cases bb with
    | true =>
     have hcol : turn1 fs ((pre ++ [⟨(e.p, e), hxm⟩] : List (ItemT (told es ⟨#[47]⟩ ⟨#[]⟩))).map Subtype.val) = turn1 fs (pre.map Subtype.val) := turn1_miss fs pre hxm hsm
     gi_wp2
     refine ⟨keepsB hBz, kpt_of hBz hvl, ⟨v, HVz.out, ?_, trivial⟩, hB.trans (hBz.mono (Nat.le_of_lt hvl))⟩; rw [hcol]; exact HRz.out
    | false =>
     have hcol : turn1 fs ((pre ++ [⟨(e.p, e), hxm⟩] : List (ItemT (told es ⟨#[47]⟩ ⟨#[]⟩))).map Subtype.val) = turn1 fs (pre.map Subtype.val) ++ [e.p] := turn1_hit fs pre hxm hsm
     gi_wp2_with (gi_at_builtin; refine wpListIn_append_own_at _ rfl _ _ 100 rfl (w2.heap.size + 1) 9 i0 (.string ByteArray.empty) 1 16 Tryz.underlying100 hi hi0 hi1 hi2 rfl (by decide) _ _ _ rfl (HRz.out.alloc _) ⟨Wz.heap.size, 0, none⟩ 1 1 [.string e.p] rfl rfl (cell_one_new _ _ _) (by simp [Value.oneCell']) (by unfold maxLen; omega) (by omega) (by simp; omega) ?_; intro v' w5 hown' hgrow hnil hat; obtain ⟨hv1, hv2, hr2, hk2, hb2⟩ := HVz.out.appended (by decide) HRz.out (by omega) (Nat.le_refl _) hown' hgrow; have hKp := KpT.appended HVz.out (by decide) HRz.out (by omega) (Nat.le_refl _) hown' hgrow hat; obtain ⟨g5, cap5, rfl⟩ := ownsRow_succ hown'; have hc1 := hv1.cell; have hf1 := hv1.frozen)
     refine ⟨(keepsB hBz).trans (hk2.from _), (kpt_of hBz hvl).t hKp, ⟨_, hv2, ?_, trivial⟩, (hB.trans (hBz.mono (Nat.le_of_lt hvl))).trans hb2⟩; rw [hcol, List.length_append, List.map_append]
     exact hr2)
   have HKX := hidE HK; clear HK
   gi_region_with (gi_at_call 85; refine (CallsIn.inRound l (callsIn_wide.2 (ent_any _ _ _ _ _))).mono ?_; rintro e4 w4 ⟨rfl, hB4⟩; have hS := hidE (belowT hS.out hB4); obtain ⟨⟨z0, z1, z2⟩, z3, z4, z5⟩ := AS.out _ hS.out)
   all_goals exact HKX.out _ (belowT hBy hS.out)
 case done =>
  rintro D xs W hD hxs ⟨⟨v, hv, hrow, -⟩, hB⟩ hK; rw [hxs] at hrow; have hBW : Below Wv.heap.size Wv W := by rw [hszv]; exact hB
  obtain ⟨q0, q1, q2⟩ := HQ.out; have r0 := below_cell hBW q0; have r1 := below_cell hBW q1; have r2 := below_cell hBW q2; have HV := hidE hv; have HRow := hidE hrow; clear hv hrow q0 q1 q2
  gi_wp2_with fail
  refine ⟨trivial, ?_⟩; refine (callsIn_wide.2 (all_any B _)).mono ?_; rintro e w4 ⟨c, hc1, hc2, rfl, hB4, e0, e1, e2, e3⟩; have hbx4 : Boxed w4 (w2.heap.size + 1) 100 v := (hB4.block _ HV.out.lt).trans HV.out; have hrow4 := row_below HRow.out hB4; have hD4 : w4.heap[D]? = some (.deferred (some [])) := (hB4.block _ (Array.getElem?_eq_some_iff.1 hK).1).trans hK; have hDl := (Array.getElem?_eq_some_iff.1 hK).1; have hs4 := hB4.size; have hvl4 := HV.out.lt; have hBv4 : Below (w2.heap.size + 1) Wv w4 := hB.trans (hB4.mono (by omega)); have HB4 := hidE hBv4; have hBvv : Below Wv.heap.size Wv w4 := by rw [hszv]; exact hBv4
  gi_wp2
  refine wpIn_rangeFunc_ownH rfl (by omega) (gf := 199) (lb := #[.pointer (some ⟨c, 0, none⟩), .pointer (some ⟨c + 1, 0, none⟩)]) rfl trivial (enters_of Tryz.func199 (by kernel_rfl) rfl)
   (below_stops _ (by omega) fs B _ 16 (w2.heap.size + 1) (by omega) (tree_len hu) U ⟨#[47]⟩ ⟨#[]⟩ (by decide) true ⟨#[]⟩ (some (B ⟨#[47]⟩)) (.inl ⟨look_dir (.inl rfl), rfl⟩) c (c + 1) w4 (by omega) (by omega) e0 e1 e2 e3 (HS2.out.below hBvv) (by omega) (good_row hbx4 hrow4) (lev_root)) KpT.t (KpT.b (by omega)) (Below.refl _ _) (fun _ => rfl)
   (fun (pre : List (ItemT (told fs ⟨#[47]⟩ ⟨#[]⟩))) W => ((∃ v, Boxed W (w2.heap.size + 1) 100 v ∧ W.ownsRow (w2.heap.size + 1) 9 1 v (turn1 fs (told es ⟨#[47]⟩ ⟨#[]⟩) ++ turn2 es (pre.map Subtype.val)).length ((turn1 fs (told es ⟨#[47]⟩ ⟨#[]⟩) ++ turn2 es (pre.map Subtype.val)).map Value.string) ∧ True) ∧ Below (w2.heap.size + 1) Wv W) ∧ W.heap[D]? = some (.deferred (some [])))
   (fun _ _ _ => False)
   (OwnFrom.and (OwnFrom.and (Own.from (holdsRow_own (w2.heap.size + 1) (w2.heap.size + 1) 100 9 1 (fun (pre : List (ItemT (told fs ⟨#[47]⟩ ⟨#[]⟩))) => (turn1 fs (told es ⟨#[47]⟩ ⟨#[]⟩) ++ turn2 es (pre.map Subtype.val)).length) (fun (pre : List (ItemT (told fs ⟨#[47]⟩ ⟨#[]⟩))) => (turn1 fs (told es ⟨#[47]⟩ ⟨#[]⟩) ++ turn2 es (pre.map Subtype.val)).map Value.string) (fun _ _ => True)) _) (ownFrom_below hnv (by omega))) (fun _ X Y row hs hg hr => (hg.block D (Array.getElem?_eq_some_iff.1 hs).1 (fun q => by have := (hr D q.symm).1; omega)).trans hs))
   (fun _ _ _ _ _ hs _ _ => hs)
   ⟨⟨⟨_, hbx4, by simpa [turn2] using hrow4, trivial⟩, hBv4⟩, hD4⟩
   (fun x ac _ => ac = { tmps := #[Value.slice a es.length cap, Value.slice a' fs.length cap', undef, undef, Value.slice none 0 0, Value.pointer (some { block := w1.heap.size, off := 0 }), Value.bool true, Value.pointer (some { block := w2.heap.size, off := 0 }), Value.bool true, Value.pointer (some { block := w2.heap.size + 1, off := 0 }), undef, undef, undef, undef, Value.string x.1.1, undef, undef, Value.tuple #[treeV A, Value.bool true], Value.slice a es.length cap, Value.tuple #[treeV A, Value.bool true], treeV A, Value.bool true, Value.tuple #[treeV B, Value.bool true], Value.slice a' fs.length cap', Value.tuple #[treeV B, Value.bool true], treeV B, Value.bool true, Value.bool true, Value.bool false, Value.bool false, Value.bool true, Value.bool false, Value.bool false, Value.agg #[Value.bool true, Value.string { data := #[] }, Value.map (some (A { data := #[47] }))], Value.func (Fn.func 199) #[] #[Value.pointer (some { block := b, off := 0 }), Value.pointer (some { block := b + 1, off := 0 })], undef, undef, undef, undef, undef, undef, undef, undef, undef, undef, undef, undef, undef, undef, undef, undef, undef, undef, undef, undef, undef, undef, undef, Value.agg #[Value.bool true, Value.string { data := #[] }, Value.map (some (B { data := #[47] }))], Value.func (Fn.func 199) #[] #[Value.pointer (some { block := c, off := 0 }), Value.pointer (some { block := c + 1, off := 0 })], Value.string x.1.1, Value.agg #[Value.bool x.1.2.d, Value.string x.1.2.x, Value.map (optV x.1.2.d (B x.1.2.p))], undef, undef, undef, undef, undef, undef, undef, undef, undef, undef, undef, undef, undef, undef, undef], defers := [] })
   (fun _ _ _ _ _ _ hs _ _ => hs)
   ?assign2 ?body2 ?done2 ?stop2
  case assign2 =>
   rintro l pre x W K hI hKK
   gi_wp2
   exact hKK _ _ (KeepsFrom.refl _ _) (kpt_of (Below.refl _ _) hI.1.1.choose_spec.1.lt) hI rfl
  case body2 =>
   rintro l pre x ac W hl ⟨r, hr⟩ ⟨⟨⟨v, hv, hrow, -⟩, hB⟩, hDW⟩ rfl hlt; obtain ⟨⟨s, e⟩, hxm⟩ := x
   have hse : s = e.p ∧ e ∈ fs := by
    have h := hxm; rw [told_all U, List.mem_map] at h; obtain ⟨e', h1, h2⟩ := h
    injection h2 with h2 h3
    subst h3; exact ⟨h2.symm, h1⟩
   obtain ⟨rfl, he⟩ := hse; have hpl := turn2_len es pre; have hpl1 := turn1_len' fs (told es ⟨#[47]⟩ ⟨#[]⟩); have htl : (told es ⟨#[47]⟩ ⟨#[]⟩).length = es.length := by rw [told_all T, List.length_map]
   have htl' : (told fs ⟨#[47]⟩ ⟨#[]⟩).length = fs.length := by rw [told_all U, List.length_map]
   have hes1 := tree_len ht; have hfs1 := tree_len hu; have hroot := root_not_path (U.path e he); have hez := (HZ'.out e he).1; have hBW : Below Wv.heap.size Wv W := by rw [hszv]; exact hB
   have hAt := at_any W _ 16 es A T (HR2.out.below hBW) e.p (by omega); obtain ⟨p0, p1, p2⟩ := HP.out; have r0 := below_cell hBW p0; have r1 := below_cell hBW p1; have r2 := below_cell hBW p2; have HAt := hidE hAt; have HV := hidE hv; have HRow := hidE hrow; have hbl : (turn1 fs (told es ⟨#[47]⟩ ⟨#[]⟩) ++ turn2 es (pre.map Subtype.val)).length ≤ 2000 := by rw [List.length_append]; omega
   obtain ⟨ts, hts⟩ : ∃ ts, turn1 fs (told es ⟨#[47]⟩ ⟨#[]⟩) ++ turn2 es (pre.map Subtype.val) = ts := ⟨_, rfl⟩
   rw [hts] at HRow hbl; have HTS := hidE hts; clear p0 p1 p2 hAt hrow hv hts hpl hpl1; dsimp only; cases hlk : lookE es e.p with
   | none =>
    have hat : atE es A e.p = (zeroN, false) := by unfold atE; rw [hroot, hlk]; rfl
    rw [hat] at HAt; have hcol : turn1 fs (told es ⟨#[47]⟩ ⟨#[]⟩) ++ turn2 es ((pre ++ [⟨(e.p, e), hxm⟩] : List (ItemT (told fs ⟨#[47]⟩ ⟨#[]⟩))).map Subtype.val) = ts ++ [e.p] := by rw [turn2_hit es pre hxm hlk, ← List.append_assoc, HTS.out]
    gi_wp2_with fail
    refine ⟨trivial, ?_⟩; refine (CallsIn.inRound l (callsIn_wide.2 HAt.out)).mono ?_; rintro e2 W2 ⟨rfl, hB2⟩; obtain ⟨Wz, hWz⟩ : ∃ Wz, Wz = W2.alloc (.cells #[.bool false, .string ⟨#[]⟩, .map none] 116) := ⟨_, rfl⟩
    have hBz : Below W.heap.size W Wz := by rw [hWz]; exact hB2.trans (((Below.refl _ W2).alloc (Nat.le_refl _) _).mono hB2.size)
    have hvz : Boxed Wz (w2.heap.size + 1) 100 v := (hBz.block _ HV.out.lt).trans HV.out; have hrowz := row_below HRow.out hBz; have hcz := hvz.cell; have hszz := hBz.size; have hvl := HV.out.lt; have HRz := hidE hrowz; have HVz := hidE hvz; have hcz' : (W2.alloc (.cells #[.bool false, .string ⟨#[]⟩, .map none] 116)).cell? ⟨w2.heap.size + 1, 0, none⟩ = some v := by rw [← hWz]; exact hcz
    clear hrowz hvz; rw [hWz] at HRz HVz; have hszW : Wz.heap.size = W2.heap.size + 1 := by rw [hWz]; simp
    gi_wp2_with (gi_at_builtin; refine wpListIn_append_own_at _ rfl _ _ 100 rfl (w2.heap.size + 1) 9 i0 (.string ByteArray.empty) 1 16 Tryz.underlying100 hi hi0 hi1 hi2 rfl (by decide) _ _ _ rfl (HRz.out.alloc _) ⟨W2.heap.size + 1, 0, none⟩ 1 1 [.string e.p] rfl rfl (by have := cell_one_new (W2.alloc (.cells #[.bool false, .string ⟨#[]⟩, .map none] 116)) (.string e.p) 9; simpa using this) (by simp [Value.oneCell']) (by unfold maxLen; omega) (by omega) (by simp; omega) ?_; intro v' w5 hown' hgrow hnil hat; obtain ⟨hv1, hv2, hr2, hk2, hb2⟩ := HVz.out.appended (by decide) HRz.out (by simp; omega) (Nat.le_refl _) hown' hgrow; have hKp := KpT.appended HVz.out (by decide) HRz.out (by simp; omega) (Nat.le_refl _) hown' hgrow hat; obtain ⟨g5, cap5, rfl⟩ := ownsRow_succ hown'; have hc1 := hv1.cell; have hf1 := hv1.frozen)
    rw [← hWz] at hk2 hb2 hKp; refine ⟨(keepsB hBz).trans (hk2.from _), (kpt_of hBz hvl).t hKp, ⟨⟨_, hv2, ?_, trivial⟩, (hB.trans (hBz.mono (Nat.le_of_lt hvl))).trans hb2⟩, hk2.same D _ ((hBz.block D (Array.getElem?_eq_some_iff.1 hDW).1).trans hDW) rfl⟩; rw [hcol, List.length_append, List.map_append]; exact hr2
   | some f =>
    have hat : atE es A e.p = (.agg #[.bool f.d, .string f.x, .map (optV f.d (A e.p))], true) := by unfold atE; rw [hroot, hlk]; rfl
    rw [hat] at HAt; have hcol : turn1 fs (told es ⟨#[47]⟩ ⟨#[]⟩) ++ turn2 es ((pre ++ [⟨(e.p, e), hxm⟩] : List (ItemT (told fs ⟨#[47]⟩ ⟨#[]⟩))).map Subtype.val) = ts := by rw [turn2_miss es pre hxm (by rw [hlk]; rfl), HTS.out]
    gi_wp2_with fail
    refine ⟨trivial, ?_⟩; refine (CallsIn.inRound l (callsIn_wide.2 HAt.out)).mono ?_; rintro e2 W2 ⟨rfl, hB2⟩; have hBz : Below W.heap.size W (W2.alloc (.cells #[.bool f.d, .string f.x, .map (optV f.d (A e.p))] 116)) := hB2.trans (((Below.refl _ W2).alloc (Nat.le_refl _) _).mono hB2.size); have hvl := HV.out.lt
    gi_wp2
    refine ⟨keepsB hBz, kpt_of hBz hvl, ⟨⟨v, (hBz.block _ hvl).trans HV.out, ?_, trivial⟩, hB.trans (hBz.mono (Nat.le_of_lt hvl))⟩, (hBz.block D (Array.getElem?_eq_some_iff.1 hDW).1).trans hDW⟩; rw [hcol]; exact row_below HRow.out hBz
  case done2 =>
   rintro D2 xs2 W hD2 hxs2 ⟨⟨⟨v, hv, hrow, -⟩, hB⟩, hDW⟩ hK2; rw [hxs2] at hrow
   have hlenT : (turn1 fs (told es ⟨#[47]⟩ ⟨#[]⟩) ++ turn2 es (told fs ⟨#[47]⟩ ⟨#[]⟩)).length ≤ 2000 := by
    have h1 := turn1_len' fs (told es ⟨#[47]⟩ ⟨#[]⟩); have h2 := turn2_len' es (told fs ⟨#[47]⟩ ⟨#[]⟩); have h3 : (told es ⟨#[47]⟩ ⟨#[]⟩).length = es.length := by rw [told_all T, List.length_map]
    have h4 : (told fs ⟨#[47]⟩ ⟨#[]⟩).length = fs.length := by rw [told_all U, List.length_map]
    have h5 := tree_len ht; have h6 := tree_len hu; rw [List.length_append]; omega
   have HSo := hidE (sort_any W (w2.heap.size + 1) v _ (turnE es fs) hrow (turnE_rise T) (turn_perm T U) (by omega)); have hcv := hv.cell; have HV := hidE hv; have HRow := hidE hrow; clear hrow hv
   gi_wp2_with fail
   refine ⟨trivial, ?_⟩; refine (callsIn_wide.2 HSo.out).mono ?_; rintro e w5 ⟨rfl, hrow5, hg5⟩; have hv5 : Boxed w5 (w2.heap.size + 1) 100 v := HV.out.kept hg5 (HV.out.not_row (by decide) HRow.out); have hcv5 := hv5.cell; have hDD : D ≠ D2 := by omega
   have hK5 := def_kept HRow.out hg5 hK2; have hD5 := def_kept HRow.out hg5 hDW; have hD6 : (w5.putObj D2 (.deferred none)).heap[D]? = some (.deferred (some [])) := (World.putObj_heap_other hDD).trans hD5; have hrow6 := ownsRow_putObj (ownsRow_putObj hrow5 (.deferred none) hK5 rfl) (.deferred none) hD6 rfl; have hszw := HB2.out.size
   have hBf : Below w.heap.size w ((w5.putObj D2 (.deferred none)).putObj D (.deferred none)) := by
    have h1 : Below (w2.heap.size + 1) W w5 := (Below.refl _ W).grown hg5 (by have := HV.out.lt; omega) (row_base HRow.out); have h2 := (hB.trans h1).mono (show w.heap.size ≤ w2.heap.size + 1 by omega); exact ((HB2.out.trans h2).trans (below_put (by omega) _)).trans (below_put (by omega) _)
   clear HSo HRow HV
   gi_wp2
   refine ⟨by simp, .inl ⟨_, _, rfl, run_takeDeferred hK5, ?_⟩⟩; refine ⟨by simp, .inl ⟨_, _, rfl, run_takeDeferred hD6, ?_⟩⟩; exact ⟨_, results_tmp rfl _ _ _, v, rfl, row_lowT hrow6 (by omega), hBf⟩
  case stop2 =>
   rintro D c pre W _ _ h _; exact h.elim
 case stop =>
  rintro D c pre W _ _ h _; exact h.elim
end Go.Proofs.YteppodogghjfhaaGreatDoor
namespace Go.Proofs.YteppodogghjfhaaGreatDoor
open Go.RowKit Go.Shelf Go.Lib Go.Maps
attribute [local go_sem] Oper.semAt_some
set_option maxHeartbeats 1000000 in
set_option maxRecDepth 100000 in
theorem iTurned_any (w : World) (a : Option Addr) (g o cap : Nat) (es : List E) (a' : Option Addr) (g' o' cap' : Nat) (fs : List E) (ae : Int → Addr) (hErr : Errs2 w ae) (hl : es.length ≤ 16777216) (hl' : fs.length ≤ 16777216)
  (hz : ∀ e ∈ es, e.p.size ≤ 16777216 ∧ e.x.size ≤ 16777216) (hz' : ∀ e ∈ fs, e.p.size ≤ 16777216 ∧ e.x.size ≤ 16777216) (ha : 0 < es.length → a = some ⟨g, o, none⟩) (ha' : 0 < fs.length → a' = some ⟨g', o', none⟩) (hE : Ents w g o es) (hF : Ents w g' o' fs) :
  Calls Tryz.prog 109 #[.slice a es.length cap, .slice a' fs.length cap'] w fun r w' => ∃ v, r = .returned v ∧ w'.ownsRow w.heap.size 9 1 v (turnedE es fs).length ((turnedE es fs).map Value.string) ∧ Below w.heap.size w w' := by
 cases hb : treeE es && treeE fs with
 | true =>
  have h1 : turnedE es fs = turnE es fs := by unfold turnedE; rw [hb]; rfl
  rw [h1]; rw [Bool.and_eq_true] at hb; exact iTurned_ok w a g o cap es a' g' o' cap' fs ae hErr hl hl' hz hz' ha ha' hE hF hb.1 hb.2
 | false =>
  have h1 : turnedE es fs = [] := by unfold turnedE; rw [hb]; rfl
  rw [h1]; have HT := hidE (treeOf_any w a g o cap es ae hErr hl hz ha hE); have HU := hidE (fun (W : World) (hW : Below w.heap.size w W) => treeOf_any W a' g' o' cap' fs ae (hErr.below hW) hl' hz' ha' (hF.below hW)); obtain ⟨b1, hb1⟩ : ∃ b, treeE es = b := ⟨_, rfl⟩
  obtain ⟨b2, hb2⟩ : ∃ b, treeE fs = b := ⟨_, rfl⟩
  rw [hb1] at HT hb; rw [hb2] at HU hb; clear hErr hz hz' ha ha' hE hF hb1 hb2; cases b1 with
  | false =>
   go_enter Tryz.func109, Tryz.ntmps109
   go_wp2_with fail
   refine HT.out.mono ?_; rintro e w1 ⟨A, rfl, hB1, -⟩; have HB1 := hidE (hB1.alloc hB1.size (.cells #[.bool true, .string ⟨#[]⟩, .map (some (A ⟨#[47]⟩))] 118)); clear hB1; go_wp2_with fail
   refine (HU.out _ HB1.out).mono ?_; rintro e w2 ⟨B, rfl, hB2, -⟩; have hB3 := HB1.out.trans (hB2.mono HB1.out.size); have HB3 := hidE (hB3.alloc hB3.size (.cells #[.bool true, .string ⟨#[]⟩, .map (some (B ⟨#[47]⟩))] 118)); clear hB2 hB3; go_wp2
   go_ret
   exact ⟨_, rfl, World.ownsRow_nil _ _ _ _, HB3.out⟩
  | true =>
   cases b2 with
   | true => cases hb
   | false =>
    go_enter Tryz.func109, Tryz.ntmps109
    go_wp2_with fail
    refine HT.out.mono ?_; rintro e w1 ⟨A, rfl, hB1, -⟩; have HB1 := hidE (hB1.alloc hB1.size (.cells #[.bool true, .string ⟨#[]⟩, .map (some (A ⟨#[47]⟩))] 118)); clear hB1; go_wp2_with fail
    refine (HU.out _ HB1.out).mono ?_; rintro e w2 ⟨B, rfl, hB2, -⟩; have hB3 := HB1.out.trans (hB2.mono HB1.out.size); have HB3 := hidE (hB3.alloc hB3.size (.cells #[.bool true, .string ⟨#[]⟩, .map (some (B ⟨#[47]⟩))] 118)); clear hB2 hB3; go_wp2
    go_ret
    exact ⟨_, rfl, World.ownsRow_nil _ _ _ _, HB3.out⟩
end Go.Proofs.YteppodogghjfhaaGreatDoor
