import Derived.Test.YtafeddiijemnbaaGreatDoorHReadyB
import Derived.Test.YtafeddiijemnbaaGreatDoorHPk19
import Derived.Test.YtafeddiijemnbaaGreatDoorHPk17
import Derived.Test.YtafeddiijemnbaaGreatDoorHPk23
namespace Go.Proofs.YtafeddiijemnbaaGreatDoor
open Go.RowKit Go.Shelf Go.Lib Go.Maps
attribute [local go_sem] Oper.semAt_some
theorem row_lowF {w : World} {base base' : Nat} {e : TypeId} {size : Nat} {v : Value} {n : Nat} {xs : List Value} (h : w.ownsRow base e size v n xs) (hb : base' ≤ base) : w.ownsRow base' e size v n xs := by
 obtain ⟨h1, h2 | ⟨g, cap, cur, e1, e2, e3⟩⟩ := h
 ·
  exact ⟨h1, .inl h2⟩
 ·
  exact ⟨h1, .inr ⟨g, cap, cur, e1, Nat.le_trans hb e2, e3⟩⟩
theorem row_belowF {w w' : World} {base n : Nat} {e : TypeId} {size : Nat} {v : Value} {xs : List Value} (h : w.ownsRow base e size v n xs) (hb : Below w.heap.size w w') : w'.ownsRow base e size v n xs := by
 obtain ⟨h1, h2 | ⟨g, cap, cur, e1, e2, e3, e4⟩⟩ := h
 ·
  exact ⟨h1, .inl h2⟩
 ·
  exact ⟨h1, .inr ⟨g, cap, cur, e1, e2, (hb.block g (Array.getElem?_eq_some_iff.1 e3).1).trans e3, e4⟩⟩
theorem keepsBF {w w' : World} {B : Nat} (hb : Below w.heap.size w w') : KeepsFrom B w w' := ⟨hb.size, fun k _ _ h _ => (hb.block k (Array.getElem?_eq_some_iff.1 h).1).trans h⟩
def entsL {Lt : List (ByteArray × E)} (xs : List (ItemT Lt)) : List E := xs.map (fun y => y.1.2)
theorem entsL_snoc {Lt : List (ByteArray × E)} (xs : List (ItemT Lt)) (y : ItemT Lt) : entsL (xs ++ [y]) = entsL xs ++ [y.1.2] := by unfold entsL; rw [List.map_append]; rfl
theorem entsL_all {es : List E} (T : TrE es) {xs : List (ItemT (told es ⟨#[47]⟩ ⟨#[]⟩))} (h : xs.map Subtype.val = told es ⟨#[47]⟩ ⟨#[]⟩) : entsL xs = es := by
 have h1 : entsL xs = (xs.map Subtype.val).map Prod.snd := by unfold entsL; rw [List.map_map]; rfl
 rw [h1, h, told_all T, List.map_map]; exact List.map_id'' (fun _ => rfl) es
set_option maxHeartbeats 4000000 in
set_option maxRecDepth 100000 in
theorem ents_any (w : World) (base N : Nat) (es : List E) (A : ByteArray → Nat) (T : TrE es) (R : Rep w base N es A) (hN : N ≤ 1000) (hes : es.length ≤ 1000) :
  Calls Tryz.prog 16 #[treeV A] w fun r w' => ∃ v, r = .returned v ∧ OwnE w' w.heap.size v es ∧ Below w.heap.size w w' := by
 obtain ⟨i0, hi, hi0, hi1, hi2⟩ := info_parts Tryz.infoE'; obtain ⟨W0, hW0⟩ : ∃ W0, W0 = w.alloc (.cells #[.bool true, .string ⟨#[]⟩, .map (some (A ⟨#[47]⟩))] 38) := ⟨_, rfl⟩
 have hB0 : Below w.heap.size w W0 := hW0 ▸ (Below.refl _ w).alloc (Nat.le_refl _) _; have hs0 : W0.heap.size = w.heap.size + 1 := by rw [hW0]; simp
 refine (callsIn_wide (n := 6)).1 ?_; refine callsIn_of_wp_marks Tryz.func16 rfl trivial ?_ rfl; simp only [Tryz.ntmps16, List.size_toArray, List.length_cons, List.length_nil, Nat.reduceAdd, Nat.reduceSub, Array.replicate_succ, Array.replicate_zero, List.push_toArray, List.append_toArray, List.nil_append, List.cons_append]
 gi_wp2_with fail
 rw [← hW0]; refine ⟨trivial, ?_⟩; refine (callsIn_wide.2 (all_any A _)).mono ?_; rintro e w3 ⟨b, hb1, hb2, rfl, hB3, d0, d1, d2, d3⟩; have hbx : Boxed w3 (w.heap.size + 1) 23 (.slice none 0 0) := by rw [← hs0]; exact (hB3.block _ (by simp)).trans (World.alloc_heap_new W0 _)
 have hs3 := hB3.size; simp only [World.size_alloc] at hb1 hs3; have hB3' : Below W0.heap.size W0 w3 := ((Below.refl _ W0).alloc (Nat.le_refl _) _).trans (hB3.mono (by simp)); have HB3 := hidF hB3'; have HR := hidF ((R.below hB0).below hB3'); clear hB3 hW0 R hB3'
 gi_wp2
 have hvb : w.heap.size + 1 < w3.heap.size := by omega
 have htl : (told es ⟨#[47]⟩ ⟨#[]⟩).length = es.length := by rw [told_all T, List.length_map]
 have hrow0 : OwnE w3 (w.heap.size + 1) (.slice none 0 0) [] := World.ownsRow_nil _ _ _ _
 refine wpIn_rangeFunc_ownH rfl (by omega) (gf := 81) (lb := #[.pointer (some ⟨b, 0, none⟩), .pointer (some ⟨b + 1, 0, none⟩)]) rfl trivial (enters_of Tryz.func81 (by kernel_rfl) rfl)
  (below_stops _ (by omega) es A base N (w.heap.size + 1) hN hes T ⟨#[47]⟩ ⟨#[]⟩ (by decide) true ⟨#[]⟩ (some (A ⟨#[47]⟩)) (.inl ⟨look_dir (.inl rfl), rfl⟩) b (b + 1) w3 (by omega) (by omega) d0 d1 d2 d3 HR.out hvb (good_row hbx hrow0) lev_rootF) KpT.t (KpT.b hvb) (Below.refl _ _) (fun _ => rfl)
  (fun (pre : List (ItemT (told es ⟨#[47]⟩ ⟨#[]⟩))) W => (∃ v, Boxed W (w.heap.size + 1) 23 v ∧ OwnE W (w.heap.size + 1) v (entsL pre) ∧ True) ∧ Below (w.heap.size + 1) W0 W)
  (fun _ _ _ => False)
  (OwnFrom.and (Own.from (holdsRow_own (w.heap.size + 1) (w.heap.size + 1) 23 53 3 (fun (pre : List (ItemT (told es ⟨#[47]⟩ ⟨#[]⟩))) => (entsL pre).length) (fun (pre : List (ItemT (told es ⟨#[47]⟩ ⟨#[]⟩))) => rowE (entsL pre)) (fun _ _ => True)) _) (ownFrom_below (by omega) (by omega)))
  (fun _ _ _ _ _ hs _ _ => hs)
  ⟨⟨_, hbx, hrow0, trivial⟩, HB3.out.mono (by omega)⟩
  (fun x ac W => ∃ Bx, w.heap.size + 1 < Bx ∧ (W.cell? ⟨Bx, 0, none⟩ = some (.bool x.1.2.d) ∧ W.cell? ⟨Bx, 1, none⟩ = some (.string x.1.2.x) ∧ W.cell? ⟨Bx, 2, none⟩ = some (.map (optV x.1.2.d (A x.1.2.p)))) ∧ ac = { tmps := #[treeV A, .pointer (some ⟨w.heap.size, 0, none⟩), .slice none 0 0, .pointer (some ⟨w.heap.size + 1, 0, none⟩), .string x.1.1, .pointer (some ⟨Bx, 0, none⟩), .agg #[.bool true, .string ⟨#[]⟩, .map (some (A ⟨#[47]⟩))], .func (.func 81) #[] #[.pointer (some ⟨b, 0, none⟩), .pointer (some ⟨b + 1, 0, none⟩)], .string x.1.1, .agg #[.bool x.1.2.d, .string x.1.2.x, .map (optV x.1.2.d (A x.1.2.p))], undef, undef, undef, undef, undef, undef, undef], defers := [] })
  (fun x ac _ X Y row hs hg hr => by obtain ⟨Bx, h1, ⟨h2, h3, h4⟩, h5⟩ := hs; exact ⟨Bx, h1, ⟨cell_kept h2 hg (fun r e => (hr r e).2), cell_kept h3 hg (fun r e => (hr r e).2), cell_kept h4 hg (fun r e => (hr r e).2)⟩, h5⟩)
  ?assign ?body ?done ?stop
 case assign =>
  rintro l pre x W K ⟨⟨v, hv, hrow, -⟩, hB⟩ hK
  gi_wp2
  exact hK _ _ ((KeepsOthers.alloc _ _).from _) (kpt_of ((Below.refl _ W).alloc (Nat.le_refl _) _) hv.lt) ⟨⟨v, hv.alloc _, hrow.alloc _, trivial⟩, hB.alloc (Nat.le_of_lt hv.lt) _⟩ ⟨W.heap.size, hv.lt, ⟨by simp, by simp, by simp⟩, by simp⟩
 case body =>
  rintro l pre x ac W hl ⟨r, hr⟩ ⟨⟨v, hv, hrow, -⟩, hB⟩ ⟨Bx, hBx, ⟨x0, x1, x2⟩, rfl⟩ hlt; obtain ⟨⟨s, e⟩, hxm⟩ := x
  have hse : s = e.p := by
   have h := hxm; rw [told_all T, List.mem_map] at h; obtain ⟨e', h1, h2⟩ := h
   injection h2 with h2 h3
   subst h3; exact h2.symm
  subst hse; have hpl : (entsL pre).length = pre.length := by unfold entsL; rw [List.length_map]
  have HV := hidF hv; have HRow := hidF hrow; have hcv := hv.cell; have hvl := hv.lt; clear hrow hv; dsimp only at x0 x1 x2 ⊢; have hfe : Fence.wide.fn 35 := trivial; have hbl : (entsL pre).length ≤ 2000 := by omega
  clear hpl; have hcvd : W.drew.cell? ⟨w.heap.size + 1, 0, none⟩ = some v := hcv
  gi_wp2
  refine wpIn_region_any (by kernel_rfl) ?_
  change wpAnyIn _ _ _ _ _ _ _ _ _ (World.drew _)
  refine wpAnyIn_ready (rs := [0, 1, 2]) (by kernel_rfl) (by simp) ?_; refine AllReadyIn.cons rfl (fun K hK => ?_) ?_
  ·
   go_simp; refine hK _ _ ?_; clear hK K; refine wpAnyIn_ready (rs := [1, 2]) (by kernel_rfl) (by simp) ?_; refine AllReadyIn.cons rfl (fun K hK => ?_) ?_
   ·
    go_simp; refine hK _ _ ?_; clear hK K; refine wpAnyIn_ready (rs := [2]) (by kernel_rfl) (by simp) ?_; refine AllReadyIn.cons rfl (fun K hK => ?_) ?_
    ·
     go_simp; refine hK _ _ ?_; clear hK K; refine wpAnyIn_ready (rs := [3]) (by kernel_rfl) (by simp) ?_; refine AllReadyIn.cons rfl (fun K hK => ?_) ?_
     ·
      go_simp
      gi_wp2_with (gi_at_call 35; refine (CallsIn.inRound l (callsIn_wide.2 (ent_any _ _ _ _ _))).mono ?_; rintro e4 w4 ⟨rfl, hB4⟩; have hS : Hid (Below W.heap.size W w4) := hidF (((Below.refl _ W).drew).trans hB4); have hc4 := below_cell hS.out hcv; have hc4' := fun o => cellOn o hc4; have HV4 : Hid (Boxed w4 (w.heap.size + 1) 23 v) := hidF ((hS.out.block _ hvl).trans HV.out); have HR4 := hidF (row_belowF HRow.out hS.out); have hz4 := hS.out.size; clear hB4; obtain ⟨v', w5, hr5, hown', hgrow, hnil, hat⟩ := run_append_own_at (P := Tryz.prog) (w4.alloc (.cells #[.string e.p, .bool e.d, .string e.x] 53)) (w.heap.size + 1) 23 23 53 i0 _ 3 40 Tryz.underlying23 hi hi0 hi1 hi2 rfl (by decide) v _ _ (HR4.out.alloc _) ⟨w4.heap.size, 0, none⟩ 1 1 (cellsE e) rfl (cells_new w4 e) rowE_one' (by unfold maxLen; omega) (by omega) (by simp; omega); obtain ⟨hv1, hv2, hr2, hk2, hb2⟩ := HV4.out.appended (by decide) HR4.out (by omega) (Nat.le_refl _) hown' hgrow; have hKp := KpT.appended HV4.out (by decide) HR4.out (by omega) (Nat.le_refl _) hown' hgrow hat; obtain ⟨g5, cap5, rfl⟩ := ownsRow_succ hown'; have hc1 := hv1.cell; have hf1 := hv1.frozen)
      refine wpAnyIn_ready (rs := [4]) (by kernel_rfl) (by simp) ?_; refine AllReadyIn.cons rfl (fun K hK => ?_) ?_
      ·
       go_simp; refine hK _ _ ?_; clear hK K; refine wpAnyIn_ready (rs := [5]) (by kernel_rfl) (by simp) ?_; refine ready_append _ _ _ _ rfl (by kernel_rfl) rfl hr5 ?_; refine wpAnyIn_ready (rs := [6]) (by kernel_rfl) (by simp) ?_; refine AllReadyIn.cons rfl (fun K hK => ?_) AllReadyIn.nil; go_simp; refine hK _ _ ?_; clear hK K; refine wpAnyIn_done (by kernel_rfl) ?_ _
       gi_wp2
       refine ⟨(keepsBF hS.out).trans (hk2.from _), (kpt_of hS.out hvl).t hKp, ⟨_, hv2, ?_, trivial⟩, (hB.trans (hS.out.mono (Nat.le_of_lt hvl))).trans hb2⟩; rw [entsL_snoc]; exact OwnE.push hr2
      exact AllReadyIn.nil
     exact AllReadyIn.nil
    exact AllReadyIn.nil
   refine AllReadyIn.cons rfl (fun K hK => ?_) ?_
   ·
    go_simp; refine hK _ _ ?_; clear hK K; refine wpAnyIn_ready (rs := [1]) (by kernel_rfl) (by simp) ?_; refine AllReadyIn.cons rfl (fun K hK => ?_) ?_
    ·
     go_simp; refine hK _ _ ?_; clear hK K; refine wpAnyIn_ready (rs := [3]) (by kernel_rfl) (by simp) ?_; refine AllReadyIn.cons rfl (fun K hK => ?_) ?_
     ·
      go_simp
      gi_wp2_with (gi_at_call 35; refine (CallsIn.inRound l (callsIn_wide.2 (ent_any _ _ _ _ _))).mono ?_; rintro e4 w4 ⟨rfl, hB4⟩; have hS : Hid (Below W.heap.size W w4) := hidF (((Below.refl _ W).drew).trans hB4); have hc4 := below_cell hS.out hcv; have hc4' := fun o => cellOn o hc4; have HV4 : Hid (Boxed w4 (w.heap.size + 1) 23 v) := hidF ((hS.out.block _ hvl).trans HV.out); have HR4 := hidF (row_belowF HRow.out hS.out); have hz4 := hS.out.size; clear hB4; obtain ⟨v', w5, hr5, hown', hgrow, hnil, hat⟩ := run_append_own_at (P := Tryz.prog) (w4.alloc (.cells #[.string e.p, .bool e.d, .string e.x] 53)) (w.heap.size + 1) 23 23 53 i0 _ 3 40 Tryz.underlying23 hi hi0 hi1 hi2 rfl (by decide) v _ _ (HR4.out.alloc _) ⟨w4.heap.size, 0, none⟩ 1 1 (cellsE e) rfl (cells_new w4 e) rowE_one' (by unfold maxLen; omega) (by omega) (by simp; omega); obtain ⟨hv1, hv2, hr2, hk2, hb2⟩ := HV4.out.appended (by decide) HR4.out (by omega) (Nat.le_refl _) hown' hgrow; have hKp := KpT.appended HV4.out (by decide) HR4.out (by omega) (Nat.le_refl _) hown' hgrow hat; obtain ⟨g5, cap5, rfl⟩ := ownsRow_succ hown'; have hc1 := hv1.cell; have hf1 := hv1.frozen)
      refine wpAnyIn_ready (rs := [4]) (by kernel_rfl) (by simp) ?_; refine AllReadyIn.cons rfl (fun K hK => ?_) ?_
      ·
       go_simp; refine hK _ _ ?_; clear hK K; refine wpAnyIn_ready (rs := [5]) (by kernel_rfl) (by simp) ?_; refine ready_append _ _ _ _ rfl (by kernel_rfl) rfl hr5 ?_; refine wpAnyIn_ready (rs := [6]) (by kernel_rfl) (by simp) ?_; refine AllReadyIn.cons rfl (fun K hK => ?_) AllReadyIn.nil; go_simp; refine hK _ _ ?_; clear hK K; refine wpAnyIn_done (by kernel_rfl) ?_ _
       gi_wp2
       refine ⟨(keepsBF hS.out).trans (hk2.from _), (kpt_of hS.out hvl).t hKp, ⟨_, hv2, ?_, trivial⟩, (hB.trans (hS.out.mono (Nat.le_of_lt hvl))).trans hb2⟩; rw [entsL_snoc]; exact OwnE.push hr2
      exact AllReadyIn.nil
     exact AllReadyIn.nil
    exact AllReadyIn.nil
   exact AllReadyIn.nil
  refine AllReadyIn.cons rfl (fun K hK => ?_) ?_
  ·
   go_simp; refine hK _ _ ?_; clear hK K; refine wpAnyIn_ready (rs := [0, 2]) (by kernel_rfl) (by simp) ?_; refine AllReadyIn.cons rfl (fun K hK => ?_) ?_
   ·
    go_simp; refine hK _ _ ?_; clear hK K; refine wpAnyIn_ready (rs := [2]) (by kernel_rfl) (by simp) ?_; refine AllReadyIn.cons rfl (fun K hK => ?_) ?_
    ·
     go_simp; refine hK _ _ ?_; clear hK K; refine wpAnyIn_ready (rs := [3]) (by kernel_rfl) (by simp) ?_; refine AllReadyIn.cons rfl (fun K hK => ?_) ?_
     ·
      go_simp
      gi_wp2_with (gi_at_call 35; refine (CallsIn.inRound l (callsIn_wide.2 (ent_any _ _ _ _ _))).mono ?_; rintro e4 w4 ⟨rfl, hB4⟩; have hS : Hid (Below W.heap.size W w4) := hidF (((Below.refl _ W).drew).trans hB4); have hc4 := below_cell hS.out hcv; have hc4' := fun o => cellOn o hc4; have HV4 : Hid (Boxed w4 (w.heap.size + 1) 23 v) := hidF ((hS.out.block _ hvl).trans HV.out); have HR4 := hidF (row_belowF HRow.out hS.out); have hz4 := hS.out.size; clear hB4; obtain ⟨v', w5, hr5, hown', hgrow, hnil, hat⟩ := run_append_own_at (P := Tryz.prog) (w4.alloc (.cells #[.string e.p, .bool e.d, .string e.x] 53)) (w.heap.size + 1) 23 23 53 i0 _ 3 40 Tryz.underlying23 hi hi0 hi1 hi2 rfl (by decide) v _ _ (HR4.out.alloc _) ⟨w4.heap.size, 0, none⟩ 1 1 (cellsE e) rfl (cells_new w4 e) rowE_one' (by unfold maxLen; omega) (by omega) (by simp; omega); obtain ⟨hv1, hv2, hr2, hk2, hb2⟩ := HV4.out.appended (by decide) HR4.out (by omega) (Nat.le_refl _) hown' hgrow; have hKp := KpT.appended HV4.out (by decide) HR4.out (by omega) (Nat.le_refl _) hown' hgrow hat; obtain ⟨g5, cap5, rfl⟩ := ownsRow_succ hown'; have hc1 := hv1.cell; have hf1 := hv1.frozen)
      refine wpAnyIn_ready (rs := [4]) (by kernel_rfl) (by simp) ?_; refine AllReadyIn.cons rfl (fun K hK => ?_) ?_
      ·
       go_simp; refine hK _ _ ?_; clear hK K; refine wpAnyIn_ready (rs := [5]) (by kernel_rfl) (by simp) ?_; refine ready_append _ _ _ _ rfl (by kernel_rfl) rfl hr5 ?_; refine wpAnyIn_ready (rs := [6]) (by kernel_rfl) (by simp) ?_; refine AllReadyIn.cons rfl (fun K hK => ?_) AllReadyIn.nil; go_simp; refine hK _ _ ?_; clear hK K; refine wpAnyIn_done (by kernel_rfl) ?_ _
       gi_wp2
       refine ⟨(keepsBF hS.out).trans (hk2.from _), (kpt_of hS.out hvl).t hKp, ⟨_, hv2, ?_, trivial⟩, (hB.trans (hS.out.mono (Nat.le_of_lt hvl))).trans hb2⟩; rw [entsL_snoc]; exact OwnE.push hr2
      exact AllReadyIn.nil
     exact AllReadyIn.nil
    exact AllReadyIn.nil
   refine AllReadyIn.cons rfl (fun K hK => ?_) ?_
   ·
    go_simp; refine hK _ _ ?_; clear hK K; refine wpAnyIn_ready (rs := [0, 3]) (by kernel_rfl) (by simp) ?_; refine AllReadyIn.cons rfl (fun K hK => ?_) ?_
    ·
     go_simp; refine hK _ _ ?_; clear hK K; refine wpAnyIn_ready (rs := [3]) (by kernel_rfl) (by simp) ?_; refine AllReadyIn.cons rfl (fun K hK => ?_) ?_
     ·
      go_simp
      gi_wp2_with (gi_at_call 35; refine (CallsIn.inRound l (callsIn_wide.2 (ent_any _ _ _ _ _))).mono ?_; rintro e4 w4 ⟨rfl, hB4⟩; have hS : Hid (Below W.heap.size W w4) := hidF (((Below.refl _ W).drew).trans hB4); have hc4 := below_cell hS.out hcv; have hc4' := fun o => cellOn o hc4; have HV4 : Hid (Boxed w4 (w.heap.size + 1) 23 v) := hidF ((hS.out.block _ hvl).trans HV.out); have HR4 := hidF (row_belowF HRow.out hS.out); have hz4 := hS.out.size; clear hB4; obtain ⟨v', w5, hr5, hown', hgrow, hnil, hat⟩ := run_append_own_at (P := Tryz.prog) (w4.alloc (.cells #[.string e.p, .bool e.d, .string e.x] 53)) (w.heap.size + 1) 23 23 53 i0 _ 3 40 Tryz.underlying23 hi hi0 hi1 hi2 rfl (by decide) v _ _ (HR4.out.alloc _) ⟨w4.heap.size, 0, none⟩ 1 1 (cellsE e) rfl (cells_new w4 e) rowE_one' (by unfold maxLen; omega) (by omega) (by simp; omega); obtain ⟨hv1, hv2, hr2, hk2, hb2⟩ := HV4.out.appended (by decide) HR4.out (by omega) (Nat.le_refl _) hown' hgrow; have hKp := KpT.appended HV4.out (by decide) HR4.out (by omega) (Nat.le_refl _) hown' hgrow hat; obtain ⟨g5, cap5, rfl⟩ := ownsRow_succ hown'; have hc1 := hv1.cell; have hf1 := hv1.frozen)
      refine wpAnyIn_ready (rs := [4]) (by kernel_rfl) (by simp) ?_; refine AllReadyIn.cons rfl (fun K hK => ?_) ?_
      ·
       go_simp; refine hK _ _ ?_; clear hK K; refine wpAnyIn_ready (rs := [5]) (by kernel_rfl) (by simp) ?_; refine ready_append _ _ _ _ rfl (by kernel_rfl) rfl hr5 ?_; refine wpAnyIn_ready (rs := [6]) (by kernel_rfl) (by simp) ?_; refine AllReadyIn.cons rfl (fun K hK => ?_) AllReadyIn.nil; go_simp; refine hK _ _ ?_; clear hK K; refine wpAnyIn_done (by kernel_rfl) ?_ _
       gi_wp2
       refine ⟨(keepsBF hS.out).trans (hk2.from _), (kpt_of hS.out hvl).t hKp, ⟨_, hv2, ?_, trivial⟩, (hB.trans (hS.out.mono (Nat.le_of_lt hvl))).trans hb2⟩; rw [entsL_snoc]; exact OwnE.push hr2
      exact AllReadyIn.nil
     exact AllReadyIn.nil
    refine AllReadyIn.cons rfl (fun K hK => ?_) ?_
    ·
     go_simp
     gi_wp2_with (gi_at_call 35; refine (CallsIn.inRound l (callsIn_wide.2 (ent_any _ _ _ _ _))).mono ?_; rintro e4 w4 ⟨rfl, hB4⟩; have hS : Hid (Below W.heap.size W w4) := hidF (((Below.refl _ W).drew).trans hB4); have hc4 := below_cell hS.out hcv; have hc4' := fun o => cellOn o hc4; have HV4 : Hid (Boxed w4 (w.heap.size + 1) 23 v) := hidF ((hS.out.block _ hvl).trans HV.out); have HR4 := hidF (row_belowF HRow.out hS.out); have hz4 := hS.out.size; clear hB4; obtain ⟨v', w5, hr5, hown', hgrow, hnil, hat⟩ := run_append_own_at (P := Tryz.prog) (w4.alloc (.cells #[.string e.p, .bool e.d, .string e.x] 53)) (w.heap.size + 1) 23 23 53 i0 _ 3 40 Tryz.underlying23 hi hi0 hi1 hi2 rfl (by decide) v _ _ (HR4.out.alloc _) ⟨w4.heap.size, 0, none⟩ 1 1 (cellsE e) rfl (cells_new w4 e) rowE_one' (by unfold maxLen; omega) (by omega) (by simp; omega); obtain ⟨hv1, hv2, hr2, hk2, hb2⟩ := HV4.out.appended (by decide) HR4.out (by omega) (Nat.le_refl _) hown' hgrow; have hKp := KpT.appended HV4.out (by decide) HR4.out (by omega) (Nat.le_refl _) hown' hgrow hat; obtain ⟨g5, cap5, rfl⟩ := ownsRow_succ hown'; have hc1 := hv1.cell; have hf1 := hv1.frozen)
     refine wpAnyIn_ready (rs := [0, 4]) (by kernel_rfl) (by simp) ?_; refine AllReadyIn.cons rfl (fun K hK => ?_) ?_
     ·
      go_simp; refine hK _ _ ?_; clear hK K; refine wpAnyIn_ready (rs := [4]) (by kernel_rfl) (by simp) ?_; refine AllReadyIn.cons rfl (fun K hK => ?_) ?_
      ·
       go_simp; refine hK _ _ ?_; clear hK K; refine wpAnyIn_ready (rs := [5]) (by kernel_rfl) (by simp) ?_; refine ready_append _ _ _ _ rfl (by kernel_rfl) rfl hr5 ?_; refine wpAnyIn_ready (rs := [6]) (by kernel_rfl) (by simp) ?_; refine AllReadyIn.cons rfl (fun K hK => ?_) AllReadyIn.nil; go_simp; refine hK _ _ ?_; clear hK K; refine wpAnyIn_done (by kernel_rfl) ?_ _
       gi_wp2
       refine ⟨(keepsBF hS.out).trans (hk2.from _), (kpt_of hS.out hvl).t hKp, ⟨_, hv2, ?_, trivial⟩, (hB.trans (hS.out.mono (Nat.le_of_lt hvl))).trans hb2⟩; rw [entsL_snoc]; exact OwnE.push hr2
      exact AllReadyIn.nil
     refine AllReadyIn.cons rfl (fun K hK => ?_) ?_
     ·
      go_simp; refine hK _ _ ?_; clear hK K; refine wpAnyIn_ready (rs := [0]) (by kernel_rfl) (by simp) ?_; refine AllReadyIn.cons rfl (fun K hK => ?_) ?_
      ·
       go_simp; refine hK _ _ ?_; clear hK K; refine wpAnyIn_ready (rs := [5]) (by kernel_rfl) (by simp) ?_; refine ready_append _ _ _ _ rfl (by kernel_rfl) rfl hr5 ?_; refine wpAnyIn_ready (rs := [6]) (by kernel_rfl) (by simp) ?_; refine AllReadyIn.cons rfl (fun K hK => ?_) AllReadyIn.nil; go_simp; refine hK _ _ ?_; clear hK K; refine wpAnyIn_done (by kernel_rfl) ?_ _
       gi_wp2
       refine ⟨(keepsBF hS.out).trans (hk2.from _), (kpt_of hS.out hvl).t hKp, ⟨_, hv2, ?_, trivial⟩, (hB.trans (hS.out.mono (Nat.le_of_lt hvl))).trans hb2⟩; rw [entsL_snoc]; exact OwnE.push hr2
      exact AllReadyIn.nil
     exact AllReadyIn.nil
    exact AllReadyIn.nil
   exact AllReadyIn.nil
  refine AllReadyIn.cons rfl (fun K hK => ?_) ?_
  ·
   go_simp; refine hK _ _ ?_; clear hK K; refine wpAnyIn_ready (rs := [0, 1]) (by kernel_rfl) (by simp) ?_; refine AllReadyIn.cons rfl (fun K hK => ?_) ?_
   ·
    go_simp; refine hK _ _ ?_; clear hK K; refine wpAnyIn_ready (rs := [1]) (by kernel_rfl) (by simp) ?_; refine AllReadyIn.cons rfl (fun K hK => ?_) ?_
    ·
     go_simp; refine hK _ _ ?_; clear hK K; refine wpAnyIn_ready (rs := [3]) (by kernel_rfl) (by simp) ?_; refine AllReadyIn.cons rfl (fun K hK => ?_) ?_
     ·
      go_simp
      gi_wp2_with (gi_at_call 35; refine (CallsIn.inRound l (callsIn_wide.2 (ent_any _ _ _ _ _))).mono ?_; rintro e4 w4 ⟨rfl, hB4⟩; have hS : Hid (Below W.heap.size W w4) := hidF (((Below.refl _ W).drew).trans hB4); have hc4 := below_cell hS.out hcv; have hc4' := fun o => cellOn o hc4; have HV4 : Hid (Boxed w4 (w.heap.size + 1) 23 v) := hidF ((hS.out.block _ hvl).trans HV.out); have HR4 := hidF (row_belowF HRow.out hS.out); have hz4 := hS.out.size; clear hB4; obtain ⟨v', w5, hr5, hown', hgrow, hnil, hat⟩ := run_append_own_at (P := Tryz.prog) (w4.alloc (.cells #[.string e.p, .bool e.d, .string e.x] 53)) (w.heap.size + 1) 23 23 53 i0 _ 3 40 Tryz.underlying23 hi hi0 hi1 hi2 rfl (by decide) v _ _ (HR4.out.alloc _) ⟨w4.heap.size, 0, none⟩ 1 1 (cellsE e) rfl (cells_new w4 e) rowE_one' (by unfold maxLen; omega) (by omega) (by simp; omega); obtain ⟨hv1, hv2, hr2, hk2, hb2⟩ := HV4.out.appended (by decide) HR4.out (by omega) (Nat.le_refl _) hown' hgrow; have hKp := KpT.appended HV4.out (by decide) HR4.out (by omega) (Nat.le_refl _) hown' hgrow hat; obtain ⟨g5, cap5, rfl⟩ := ownsRow_succ hown'; have hc1 := hv1.cell; have hf1 := hv1.frozen)
      refine wpAnyIn_ready (rs := [4]) (by kernel_rfl) (by simp) ?_; refine AllReadyIn.cons rfl (fun K hK => ?_) ?_
      ·
       go_simp; refine hK _ _ ?_; clear hK K; refine wpAnyIn_ready (rs := [5]) (by kernel_rfl) (by simp) ?_; refine ready_append _ _ _ _ rfl (by kernel_rfl) rfl hr5 ?_; refine wpAnyIn_ready (rs := [6]) (by kernel_rfl) (by simp) ?_; refine AllReadyIn.cons rfl (fun K hK => ?_) AllReadyIn.nil; go_simp; refine hK _ _ ?_; clear hK K; refine wpAnyIn_done (by kernel_rfl) ?_ _
       gi_wp2
       refine ⟨(keepsBF hS.out).trans (hk2.from _), (kpt_of hS.out hvl).t hKp, ⟨_, hv2, ?_, trivial⟩, (hB.trans (hS.out.mono (Nat.le_of_lt hvl))).trans hb2⟩; rw [entsL_snoc]; exact OwnE.push hr2
      exact AllReadyIn.nil
     exact AllReadyIn.nil
    exact AllReadyIn.nil
   refine AllReadyIn.cons rfl (fun K hK => ?_) ?_
   ·
    go_simp; refine hK _ _ ?_; clear hK K; refine wpAnyIn_ready (rs := [0, 3]) (by kernel_rfl) (by simp) ?_; refine AllReadyIn.cons rfl (fun K hK => ?_) ?_
    ·
     go_simp; refine hK _ _ ?_; clear hK K; refine wpAnyIn_ready (rs := [3]) (by kernel_rfl) (by simp) ?_; refine AllReadyIn.cons rfl (fun K hK => ?_) ?_
     ·
      go_simp
      gi_wp2_with (gi_at_call 35; refine (CallsIn.inRound l (callsIn_wide.2 (ent_any _ _ _ _ _))).mono ?_; rintro e4 w4 ⟨rfl, hB4⟩; have hS : Hid (Below W.heap.size W w4) := hidF (((Below.refl _ W).drew).trans hB4); have hc4 := below_cell hS.out hcv; have hc4' := fun o => cellOn o hc4; have HV4 : Hid (Boxed w4 (w.heap.size + 1) 23 v) := hidF ((hS.out.block _ hvl).trans HV.out); have HR4 := hidF (row_belowF HRow.out hS.out); have hz4 := hS.out.size; clear hB4; obtain ⟨v', w5, hr5, hown', hgrow, hnil, hat⟩ := run_append_own_at (P := Tryz.prog) (w4.alloc (.cells #[.string e.p, .bool e.d, .string e.x] 53)) (w.heap.size + 1) 23 23 53 i0 _ 3 40 Tryz.underlying23 hi hi0 hi1 hi2 rfl (by decide) v _ _ (HR4.out.alloc _) ⟨w4.heap.size, 0, none⟩ 1 1 (cellsE e) rfl (cells_new w4 e) rowE_one' (by unfold maxLen; omega) (by omega) (by simp; omega); obtain ⟨hv1, hv2, hr2, hk2, hb2⟩ := HV4.out.appended (by decide) HR4.out (by omega) (Nat.le_refl _) hown' hgrow; have hKp := KpT.appended HV4.out (by decide) HR4.out (by omega) (Nat.le_refl _) hown' hgrow hat; obtain ⟨g5, cap5, rfl⟩ := ownsRow_succ hown'; have hc1 := hv1.cell; have hf1 := hv1.frozen)
      refine wpAnyIn_ready (rs := [4]) (by kernel_rfl) (by simp) ?_; refine AllReadyIn.cons rfl (fun K hK => ?_) ?_
      ·
       go_simp; refine hK _ _ ?_; clear hK K; refine wpAnyIn_ready (rs := [5]) (by kernel_rfl) (by simp) ?_; refine ready_append _ _ _ _ rfl (by kernel_rfl) rfl hr5 ?_; refine wpAnyIn_ready (rs := [6]) (by kernel_rfl) (by simp) ?_; refine AllReadyIn.cons rfl (fun K hK => ?_) AllReadyIn.nil; go_simp; refine hK _ _ ?_; clear hK K; refine wpAnyIn_done (by kernel_rfl) ?_ _
       gi_wp2
       refine ⟨(keepsBF hS.out).trans (hk2.from _), (kpt_of hS.out hvl).t hKp, ⟨_, hv2, ?_, trivial⟩, (hB.trans (hS.out.mono (Nat.le_of_lt hvl))).trans hb2⟩; rw [entsL_snoc]; exact OwnE.push hr2
      exact AllReadyIn.nil
     exact AllReadyIn.nil
    refine AllReadyIn.cons rfl (fun K hK => ?_) ?_
    ·
     go_simp
     gi_wp2_with (gi_at_call 35; refine (CallsIn.inRound l (callsIn_wide.2 (ent_any _ _ _ _ _))).mono ?_; rintro e4 w4 ⟨rfl, hB4⟩; have hS : Hid (Below W.heap.size W w4) := hidF (((Below.refl _ W).drew).trans hB4); have hc4 := below_cell hS.out hcv; have hc4' := fun o => cellOn o hc4; have HV4 : Hid (Boxed w4 (w.heap.size + 1) 23 v) := hidF ((hS.out.block _ hvl).trans HV.out); have HR4 := hidF (row_belowF HRow.out hS.out); have hz4 := hS.out.size; clear hB4; obtain ⟨v', w5, hr5, hown', hgrow, hnil, hat⟩ := run_append_own_at (P := Tryz.prog) (w4.alloc (.cells #[.string e.p, .bool e.d, .string e.x] 53)) (w.heap.size + 1) 23 23 53 i0 _ 3 40 Tryz.underlying23 hi hi0 hi1 hi2 rfl (by decide) v _ _ (HR4.out.alloc _) ⟨w4.heap.size, 0, none⟩ 1 1 (cellsE e) rfl (cells_new w4 e) rowE_one' (by unfold maxLen; omega) (by omega) (by simp; omega); obtain ⟨hv1, hv2, hr2, hk2, hb2⟩ := HV4.out.appended (by decide) HR4.out (by omega) (Nat.le_refl _) hown' hgrow; have hKp := KpT.appended HV4.out (by decide) HR4.out (by omega) (Nat.le_refl _) hown' hgrow hat; obtain ⟨g5, cap5, rfl⟩ := ownsRow_succ hown'; have hc1 := hv1.cell; have hf1 := hv1.frozen)
     refine wpAnyIn_ready (rs := [0, 4]) (by kernel_rfl) (by simp) ?_; refine AllReadyIn.cons rfl (fun K hK => ?_) ?_
     ·
      go_simp; refine hK _ _ ?_; clear hK K; refine wpAnyIn_ready (rs := [4]) (by kernel_rfl) (by simp) ?_; refine AllReadyIn.cons rfl (fun K hK => ?_) ?_
      ·
       go_simp; refine hK _ _ ?_; clear hK K; refine wpAnyIn_ready (rs := [5]) (by kernel_rfl) (by simp) ?_; refine ready_append _ _ _ _ rfl (by kernel_rfl) rfl hr5 ?_; refine wpAnyIn_ready (rs := [6]) (by kernel_rfl) (by simp) ?_; refine AllReadyIn.cons rfl (fun K hK => ?_) AllReadyIn.nil; go_simp; refine hK _ _ ?_; clear hK K; refine wpAnyIn_done (by kernel_rfl) ?_ _
       gi_wp2
       refine ⟨(keepsBF hS.out).trans (hk2.from _), (kpt_of hS.out hvl).t hKp, ⟨_, hv2, ?_, trivial⟩, (hB.trans (hS.out.mono (Nat.le_of_lt hvl))).trans hb2⟩; rw [entsL_snoc]; exact OwnE.push hr2
      exact AllReadyIn.nil
     refine AllReadyIn.cons rfl (fun K hK => ?_) ?_
     ·
      go_simp; refine hK _ _ ?_; clear hK K; refine wpAnyIn_ready (rs := [0]) (by kernel_rfl) (by simp) ?_; refine AllReadyIn.cons rfl (fun K hK => ?_) ?_
      ·
       go_simp; refine hK _ _ ?_; clear hK K; refine wpAnyIn_ready (rs := [5]) (by kernel_rfl) (by simp) ?_; refine ready_append _ _ _ _ rfl (by kernel_rfl) rfl hr5 ?_; refine wpAnyIn_ready (rs := [6]) (by kernel_rfl) (by simp) ?_; refine AllReadyIn.cons rfl (fun K hK => ?_) AllReadyIn.nil; go_simp; refine hK _ _ ?_; clear hK K; refine wpAnyIn_done (by kernel_rfl) ?_ _
       gi_wp2
       refine ⟨(keepsBF hS.out).trans (hk2.from _), (kpt_of hS.out hvl).t hKp, ⟨_, hv2, ?_, trivial⟩, (hB.trans (hS.out.mono (Nat.le_of_lt hvl))).trans hb2⟩; rw [entsL_snoc]; exact OwnE.push hr2
      exact AllReadyIn.nil
     exact AllReadyIn.nil
    exact AllReadyIn.nil
   exact AllReadyIn.nil
  exact AllReadyIn.nil
 case done =>
  rintro D xs W hD hxs ⟨⟨v, hv, hrow, -⟩, hB⟩ hK; rw [entsL_all T hxs] at hrow; have hc := hv.cell; have hrow6 := ownsRow_putObj hrow (.deferred none) hK rfl; have hBf : Below w.heap.size w (W.putObj D (.deferred none)) := (hB0.trans (hB.mono (by omega))).trans (below_putF (by omega) _); have HR6 := hidF hrow6; clear hrow hrow6
  gi_wp2
  refine ⟨by simp, .inl ⟨_, _, rfl, run_takeDeferred hK, ?_⟩⟩; exact ⟨_, results_tmp rfl _ _ _, v, rfl, row_lowF HR6.out (by omega), hBf⟩
 case stop =>
  rintro D c pre W _ _ h _; exact h.elim
end Go.Proofs.YtafeddiijemnbaaGreatDoor
