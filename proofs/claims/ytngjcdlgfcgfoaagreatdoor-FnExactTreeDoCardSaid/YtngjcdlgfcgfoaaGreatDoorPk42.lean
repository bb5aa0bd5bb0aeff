/-
  The walk of the program's own: a tree as a list of entries.
-/
import Derived.Test.YtngjcdlgfcgfoaaGreatDoorPk35
import Derived.Test.YtngjcdlgfcgfoaaGreatDoorPk41
import Derived.Test.YtngjcdlgfcgfoaaGreatDoorPk17
import Derived.Test.YtngjcdlgfcgfoaaGreatDoorPk31
import Derived.Test.YtngjcdlgfcgfoaaGreatDoorPk40
namespace Go.Proofs.YtngjcdlgfcgfoaaGreatDoor
open Go.RowKit Go.Shelf Go.Lib Go.Maps

attribute [local go_sem] Oper.semAt_some

theorem row_lowF {w : World} {base base' : Nat} {e : TypeId} {size : Nat} {v : Value} {n : Nat} {xs : List Value} (h : w.ownsRow base e size v n xs) (hb : base' ≤ base) : w.ownsRow base' e size v n xs := by
  obtain ⟨h1, h2 | ⟨g, cap, cur, e1, e2, e3⟩⟩ := h
  · exact ⟨h1, .inl h2⟩
  · exact ⟨h1, .inr ⟨g, cap, cur, e1, Nat.le_trans hb e2, e3⟩⟩
theorem row_belowF {w w' : World} {base n : Nat} {e : TypeId} {size : Nat} {v : Value} {xs : List Value} (h : w.ownsRow base e size v n xs) (hb : Below w.heap.size w w') : w'.ownsRow base e size v n xs := by
  obtain ⟨h1, h2 | ⟨g, cap, cur, e1, e2, e3, e4⟩⟩ := h
  · exact ⟨h1, .inl h2⟩
  · exact ⟨h1, .inr ⟨g, cap, cur, e1, e2, (hb.block g (Array.getElem?_eq_some_iff.1 e3).1).trans e3, e4⟩⟩
theorem keepsBF {w w' : World} {B : Nat} (hb : Below w.heap.size w w') : KeepsFrom B w w' := ⟨hb.size, fun k _ _ h _ => (hb.block k (Array.getElem?_eq_some_iff.1 h).1).trans h⟩
def entsL {Lt : List (ByteArray × E)} (xs : List (ItemT Lt)) : List E := xs.map (fun y => y.1.2)
theorem entsL_snoc {Lt : List (ByteArray × E)} (xs : List (ItemT Lt)) (y : ItemT Lt) : entsL (xs ++ [y]) = entsL xs ++ [y.1.2] := by unfold entsL; rw [List.map_append]; rfl
theorem entsL_all {es : List E} (T : TrE es) {xs : List (ItemT (told es ⟨#[47]⟩ ⟨#[]⟩))} (h : xs.map Subtype.val = told es ⟨#[47]⟩ ⟨#[]⟩) : entsL xs = es := by
  have h1 : entsL xs = (xs.map Subtype.val).map Prod.snd := by unfold entsL; rw [List.map_map]; rfl
  rw [h1, h, told_all T, List.map_map]
  exact List.map_id'' (fun _ => rfl) es

set_option maxHeartbeats 4000000 in
set_option maxRecDepth 100000 in
theorem ents_any (w : World) (base N : Nat) (es : List E) (A : ByteArray → Nat) (T : TrE es) (R : Rep w base N es A) (hN : N ≤ 1000) (hes : es.length ≤ 1000) :
    Calls Tryz.prog 21 #[treeV A] w fun r w' => ∃ v, r = .returned v ∧ OwnE w' w.heap.size v es ∧ Below w.heap.size w w' := by
  obtain ⟨i0, hi, hi0, hi1, hi2⟩ := info_parts Tryz.infoE'
  obtain ⟨W0, hW0⟩ : ∃ W0, W0 = w.alloc (.cells #[.bool true, .string ⟨#[]⟩, .map (some (A ⟨#[47]⟩))] 49) := ⟨_, rfl⟩
  have hB0 : Below w.heap.size w W0 := hW0 ▸ (Below.refl _ w).alloc (Nat.le_refl _) _
  have hs0 : W0.heap.size = w.heap.size + 1 := by rw [hW0]; simp
  refine (callsIn_wide (n := 6)).1 ?_
  refine callsIn_of_wp_marks Tryz.func21 rfl trivial ?_ rfl
  simp only [Tryz.ntmps21, List.size_toArray, List.length_cons, List.length_nil, Nat.reduceAdd, Nat.reduceSub, Array.replicate_succ, Array.replicate_zero, List.push_toArray, List.append_toArray, List.nil_append, List.cons_append]
  gi_wp2_with fail
  rw [← hW0]
  refine ⟨trivial, ?_⟩
  refine (callsIn_wide.2 (all_any A _)).mono ?_
  rintro e w3 ⟨b, hb1, hb2, rfl, hB3, d0, d1, d2, d3⟩
  have hbx : Boxed w3 (w.heap.size + 1) 27 (.slice none 0 0) := by rw [← hs0]; exact (hB3.block _ (by simp)).trans (World.alloc_heap_new W0 _)
  have hs3 := hB3.size
  simp only [World.size_alloc] at hb1 hs3
  have hB3' : Below W0.heap.size W0 w3 := ((Below.refl _ W0).alloc (Nat.le_refl _) _).trans (hB3.mono (by simp))
  have HB3 := hidF hB3'
  have HR := hidF ((R.below hB0).below hB3')
  clear hB3 hW0 R hB3'
  gi_wp2
  have hvb : w.heap.size + 1 < w3.heap.size := by omega
  have htl : (told es ⟨#[47]⟩ ⟨#[]⟩).length = es.length := by rw [told_all T, List.length_map]
  have hrow0 : OwnE w3 (w.heap.size + 1) (.slice none 0 0) [] := World.ownsRow_nil _ _ _ _
  refine wpIn_rangeFunc_ownH rfl (by omega) (gf := 68) (lb := #[.pointer (some ⟨b, 0, none⟩), .pointer (some ⟨b + 1, 0, none⟩)]) rfl trivial (enters_of Tryz.func68 (by kernel_rfl) rfl)
    (below_stops _ (by omega) es A base N (w.heap.size + 1) hN hes T ⟨#[47]⟩ ⟨#[]⟩ (by decide) true ⟨#[]⟩ (some (A ⟨#[47]⟩)) (.inl ⟨look_dir (.inl rfl), rfl⟩) b (b + 1) w3 (by omega) (by omega) d0 d1 d2 d3 HR.out hvb (good_row hbx hrow0) lev_rootF) KpT.t (KpT.b hvb) (Below.refl _ _) (fun _ => rfl)
    (fun (pre : List (ItemT (told es ⟨#[47]⟩ ⟨#[]⟩))) W => (∃ v, Boxed W (w.heap.size + 1) 27 v ∧ OwnE W (w.heap.size + 1) v (entsL pre) ∧ True) ∧ Below (w.heap.size + 1) W0 W)
    (fun _ _ _ => False)
    (OwnFrom.and (Own.from (holdsRow_own (w.heap.size + 1) (w.heap.size + 1) 27 43 3 (fun (pre : List (ItemT (told es ⟨#[47]⟩ ⟨#[]⟩))) => (entsL pre).length) (fun (pre : List (ItemT (told es ⟨#[47]⟩ ⟨#[]⟩))) => rowE (entsL pre)) (fun _ _ => True)) _) (ownFrom_below (by omega) (by omega)))
    (fun _ _ _ _ _ hs _ _ => hs)
    ⟨⟨_, hbx, hrow0, trivial⟩, HB3.out.mono (by omega)⟩
    (fun x ac W => ∃ Bx, w.heap.size + 1 < Bx ∧ (W.cell? ⟨Bx, 0, none⟩ = some (.bool x.1.2.d) ∧ W.cell? ⟨Bx, 1, none⟩ = some (.string x.1.2.x) ∧ W.cell? ⟨Bx, 2, none⟩ = some (.map (optV x.1.2.d (A x.1.2.p)))) ∧ ac = { tmps := #[treeV A, .pointer (some ⟨w.heap.size, 0, none⟩), .slice none 0 0, .pointer (some ⟨w.heap.size + 1, 0, none⟩), .string x.1.1, .pointer (some ⟨Bx, 0, none⟩), .agg #[.bool true, .string ⟨#[]⟩, .map (some (A ⟨#[47]⟩))], .func (.func 68) #[] #[.pointer (some ⟨b, 0, none⟩), .pointer (some ⟨b + 1, 0, none⟩)], .string x.1.1, .agg #[.bool x.1.2.d, .string x.1.2.x, .map (optV x.1.2.d (A x.1.2.p))], undef, undef, undef, undef, undef, undef, undef], defers := [] })
    (fun x ac _ X Y row hs hg hr => by obtain ⟨Bx, h1, ⟨h2, h3, h4⟩, h5⟩ := hs; exact ⟨Bx, h1, ⟨cell_kept h2 hg (fun r e => (hr r e).2), cell_kept h3 hg (fun r e => (hr r e).2), cell_kept h4 hg (fun r e => (hr r e).2)⟩, h5⟩)
    ?assign ?body ?done ?stop
  case assign =>
    rintro l pre x W K ⟨⟨v, hv, hrow, -⟩, hB⟩ hK
    gi_wp2
    exact hK _ _ ((KeepsOthers.alloc _ _).from _) (kpt_of ((Below.refl _ W).alloc (Nat.le_refl _) _) hv.lt) ⟨⟨v, hv.alloc _, hrow.alloc _, trivial⟩, hB.alloc (Nat.le_of_lt hv.lt) _⟩ ⟨W.heap.size, hv.lt, ⟨by simp, by simp, by simp⟩, by simp⟩
  case body =>
    rintro l pre x ac W hl ⟨r, hr⟩ ⟨⟨v, hv, hrow, -⟩, hB⟩ ⟨Bx, hBx, ⟨x0, x1, x2⟩, rfl⟩ hlt
    obtain ⟨⟨s, e⟩, hxm⟩ := x
    have hse : s = e.p := by
      have h := hxm
      rw [told_all T, List.mem_map] at h
      obtain ⟨e', h1, h2⟩ := h
      injection h2 with h2 h3
      subst h3
      exact h2.symm
    subst hse
    have hpl : (entsL pre).length = pre.length := by unfold entsL; rw [List.length_map]
    have HV := hidF hv
    have HRow := hidF hrow
    have hcv := hv.cell
    have hvl := hv.lt
    clear hrow hv
    dsimp only at x0 x1 x2 ⊢
    have hfe : Fence.wide.fn 41 := trivial
    have hbl : (entsL pre).length ≤ 2000 := by omega
    clear hpl
    have hcvd : W.drew.cell? ⟨w.heap.size + 1, 0, none⟩ = some v := hcv
    gi_wp2
    refine wpIn_region_any (by kernel_rfl) ?_
    change wpAnyIn _ _ _ _ _ _ _ _ _ (World.drew _)
    refine wpAnyIn_ready (rs := [0, 1, 2]) (by kernel_rfl) (by simp) ?_
    refine AllReadyIn.cons rfl (fun K hK => ?_) ?_
    · go_simp
      refine hK _ _ ?_
      clear hK K
      refine wpAnyIn_ready (rs := [1, 2]) (by kernel_rfl) (by simp) ?_
      refine AllReadyIn.cons rfl (fun K hK => ?_) ?_
      · go_simp
        refine hK _ _ ?_
        clear hK K
        refine wpAnyIn_ready (rs := [2]) (by kernel_rfl) (by simp) ?_
        refine AllReadyIn.cons rfl (fun K hK => ?_) ?_
        · go_simp
          refine hK _ _ ?_
          clear hK K
          refine wpAnyIn_ready (rs := [3]) (by kernel_rfl) (by simp) ?_
          refine AllReadyIn.cons rfl (fun K hK => ?_) ?_
          · go_simp
            gi_wp2_with (gi_at_call 41; refine (CallsIn.inRound l (callsIn_wide.2 (ent_any _ _ _ _ _))).mono ?_; rintro e4 w4 ⟨rfl, hB4⟩; have hS : Hid (Below W.heap.size W w4) := hidF (((Below.refl _ W).drew).trans hB4); have hc4 := below_cell hS.out hcv; have hc4' := fun o => cellOn o hc4; have HV4 : Hid (Boxed w4 (w.heap.size + 1) 27 v) := hidF ((hS.out.block _ hvl).trans HV.out); have HR4 := hidF (row_belowF HRow.out hS.out); have hz4 := hS.out.size; clear hB4; obtain ⟨v', w5, hr5, hown', hgrow, hnil, hat⟩ := run_append_own_at (P := Tryz.prog) (w4.alloc (.cells #[.string e.p, .bool e.d, .string e.x] 43)) (w.heap.size + 1) 27 27 43 i0 _ 3 40 Tryz.underlying27 hi hi0 hi1 hi2 rfl (by decide) v _ _ (HR4.out.alloc _) ⟨w4.heap.size, 0, none⟩ 1 1 (cellsE e) rfl (cells_new w4 e) rowE_one' (by unfold maxLen; omega) (by omega) (by simp; omega); obtain ⟨hv1, hv2, hr2, hk2, hb2⟩ := HV4.out.appended (by decide) HR4.out (by omega) (Nat.le_refl _) hown' hgrow; have hKp := KpT.appended HV4.out (by decide) HR4.out (by omega) (Nat.le_refl _) hown' hgrow hat; obtain ⟨g5, cap5, rfl⟩ := ownsRow_succ hown'; have hc1 := hv1.cell; have hf1 := hv1.frozen)
            refine wpAnyIn_ready (rs := [4]) (by kernel_rfl) (by simp) ?_
            refine AllReadyIn.cons rfl (fun K hK => ?_) ?_
            · go_simp
              refine hK _ _ ?_
              clear hK K
              refine wpAnyIn_ready (rs := [5]) (by kernel_rfl) (by simp) ?_
              refine ready_append _ _ _ _ rfl (by kernel_rfl) rfl hr5 ?_
              refine wpAnyIn_ready (rs := [6]) (by kernel_rfl) (by simp) ?_
              refine AllReadyIn.cons rfl (fun K hK => ?_) AllReadyIn.nil
              go_simp
              refine hK _ _ ?_
              clear hK K
              refine wpAnyIn_done (by kernel_rfl) ?_ _
              gi_wp2
              refine ⟨(keepsBF hS.out).trans (hk2.from _), (kpt_of hS.out hvl).t hKp, ⟨_, hv2, ?_, trivial⟩, (hB.trans (hS.out.mono (Nat.le_of_lt hvl))).trans hb2⟩
              rw [entsL_snoc]
              exact OwnE.push hr2
            exact AllReadyIn.nil
          exact AllReadyIn.nil
        exact AllReadyIn.nil
      refine AllReadyIn.cons rfl (fun K hK => ?_) ?_
      · go_simp
        refine hK _ _ ?_
        clear hK K
        refine wpAnyIn_ready (rs := [1]) (by kernel_rfl) (by simp) ?_
        refine AllReadyIn.cons rfl (fun K hK => ?_) ?_
        · go_simp
          refine hK _ _ ?_
          clear hK K
          refine wpAnyIn_ready (rs := [3]) (by kernel_rfl) (by simp) ?_
          refine AllReadyIn.cons rfl (fun K hK => ?_) ?_
          · go_simp
            gi_wp2_with (gi_at_call 41; refine (CallsIn.inRound l (callsIn_wide.2 (ent_any _ _ _ _ _))).mono ?_; rintro e4 w4 ⟨rfl, hB4⟩; have hS : Hid (Below W.heap.size W w4) := hidF (((Below.refl _ W).drew).trans hB4); have hc4 := below_cell hS.out hcv; have hc4' := fun o => cellOn o hc4; have HV4 : Hid (Boxed w4 (w.heap.size + 1) 27 v) := hidF ((hS.out.block _ hvl).trans HV.out); have HR4 := hidF (row_belowF HRow.out hS.out); have hz4 := hS.out.size; clear hB4; obtain ⟨v', w5, hr5, hown', hgrow, hnil, hat⟩ := run_append_own_at (P := Tryz.prog) (w4.alloc (.cells #[.string e.p, .bool e.d, .string e.x] 43)) (w.heap.size + 1) 27 27 43 i0 _ 3 40 Tryz.underlying27 hi hi0 hi1 hi2 rfl (by decide) v _ _ (HR4.out.alloc _) ⟨w4.heap.size, 0, none⟩ 1 1 (cellsE e) rfl (cells_new w4 e) rowE_one' (by unfold maxLen; omega) (by omega) (by simp; omega); obtain ⟨hv1, hv2, hr2, hk2, hb2⟩ := HV4.out.appended (by decide) HR4.out (by omega) (Nat.le_refl _) hown' hgrow; have hKp := KpT.appended HV4.out (by decide) HR4.out (by omega) (Nat.le_refl _) hown' hgrow hat; obtain ⟨g5, cap5, rfl⟩ := ownsRow_succ hown'; have hc1 := hv1.cell; have hf1 := hv1.frozen)
            refine wpAnyIn_ready (rs := [4]) (by kernel_rfl) (by simp) ?_
            refine AllReadyIn.cons rfl (fun K hK => ?_) ?_
            · go_simp
              refine hK _ _ ?_
              clear hK K
              refine wpAnyIn_ready (rs := [5]) (by kernel_rfl) (by simp) ?_
              refine ready_append _ _ _ _ rfl (by kernel_rfl) rfl hr5 ?_
              refine wpAnyIn_ready (rs := [6]) (by kernel_rfl) (by simp) ?_
              refine AllReadyIn.cons rfl (fun K hK => ?_) AllReadyIn.nil
              go_simp
              refine hK _ _ ?_
              clear hK K
              refine wpAnyIn_done (by kernel_rfl) ?_ _
              gi_wp2
              refine ⟨(keepsBF hS.out).trans (hk2.from _), (kpt_of hS.out hvl).t hKp, ⟨_, hv2, ?_, trivial⟩, (hB.trans (hS.out.mono (Nat.le_of_lt hvl))).trans hb2⟩
              rw [entsL_snoc]
              exact OwnE.push hr2
            exact AllReadyIn.nil
          exact AllReadyIn.nil
        exact AllReadyIn.nil
      exact AllReadyIn.nil
    refine AllReadyIn.cons rfl (fun K hK => ?_) ?_
    · go_simp
      refine hK _ _ ?_
      clear hK K
      refine wpAnyIn_ready (rs := [0, 2]) (by kernel_rfl) (by simp) ?_
      refine AllReadyIn.cons rfl (fun K hK => ?_) ?_
      · go_simp
        refine hK _ _ ?_
        clear hK K
        refine wpAnyIn_ready (rs := [2]) (by kernel_rfl) (by simp) ?_
        refine AllReadyIn.cons rfl (fun K hK => ?_) ?_
        · go_simp
          refine hK _ _ ?_
          clear hK K
          refine wpAnyIn_ready (rs := [3]) (by kernel_rfl) (by simp) ?_
          refine AllReadyIn.cons rfl (fun K hK => ?_) ?_
          · go_simp
            gi_wp2_with (gi_at_call 41; refine (CallsIn.inRound l (callsIn_wide.2 (ent_any _ _ _ _ _))).mono ?_; rintro e4 w4 ⟨rfl, hB4⟩; have hS : Hid (Below W.heap.size W w4) := hidF (((Below.refl _ W).drew).trans hB4); have hc4 := below_cell hS.out hcv; have hc4' := fun o => cellOn o hc4; have HV4 : Hid (Boxed w4 (w.heap.size + 1) 27 v) := hidF ((hS.out.block _ hvl).trans HV.out); have HR4 := hidF (row_belowF HRow.out hS.out); have hz4 := hS.out.size; clear hB4; obtain ⟨v', w5, hr5, hown', hgrow, hnil, hat⟩ := run_append_own_at (P := Tryz.prog) (w4.alloc (.cells #[.string e.p, .bool e.d, .string e.x] 43)) (w.heap.size + 1) 27 27 43 i0 _ 3 40 Tryz.underlying27 hi hi0 hi1 hi2 rfl (by decide) v _ _ (HR4.out.alloc _) ⟨w4.heap.size, 0, none⟩ 1 1 (cellsE e) rfl (cells_new w4 e) rowE_one' (by unfold maxLen; omega) (by omega) (by simp; omega); obtain ⟨hv1, hv2, hr2, hk2, hb2⟩ := HV4.out.appended (by decide) HR4.out (by omega) (Nat.le_refl _) hown' hgrow; have hKp := KpT.appended HV4.out (by decide) HR4.out (by omega) (Nat.le_refl _) hown' hgrow hat; obtain ⟨g5, cap5, rfl⟩ := ownsRow_succ hown'; have hc1 := hv1.cell; have hf1 := hv1.frozen)
            refine wpAnyIn_ready (rs := [4]) (by kernel_rfl) (by simp) ?_
            refine AllReadyIn.cons rfl (fun K hK => ?_) ?_
            · go_simp
              refine hK _ _ ?_
              clear hK K
              refine wpAnyIn_ready (rs := [5]) (by kernel_rfl) (by simp) ?_
              refine ready_append _ _ _ _ rfl (by kernel_rfl) rfl hr5 ?_
              refine wpAnyIn_ready (rs := [6]) (by kernel_rfl) (by simp) ?_
              refine AllReadyIn.cons rfl (fun K hK => ?_) AllReadyIn.nil
              go_simp
              refine hK _ _ ?_
              clear hK K
              refine wpAnyIn_done (by kernel_rfl) ?_ _
              gi_wp2
              refine ⟨(keepsBF hS.out).trans (hk2.from _), (kpt_of hS.out hvl).t hKp, ⟨_, hv2, ?_, trivial⟩, (hB.trans (hS.out.mono (Nat.le_of_lt hvl))).trans hb2⟩
              rw [entsL_snoc]
              exact OwnE.push hr2
            exact AllReadyIn.nil
          exact AllReadyIn.nil
        exact AllReadyIn.nil
      refine AllReadyIn.cons rfl (fun K hK => ?_) ?_
      · go_simp
        refine hK _ _ ?_
        clear hK K
        refine wpAnyIn_ready (rs := [0, 3]) (by kernel_rfl) (by simp) ?_
        refine AllReadyIn.cons rfl (fun K hK => ?_) ?_
        · go_simp
          refine hK _ _ ?_
          clear hK K
          refine wpAnyIn_ready (rs := [3]) (by kernel_rfl) (by simp) ?_
          refine AllReadyIn.cons rfl (fun K hK => ?_) ?_
          · go_simp
            gi_wp2_with (gi_at_call 41; refine (CallsIn.inRound l (callsIn_wide.2 (ent_any _ _ _ _ _))).mono ?_; rintro e4 w4 ⟨rfl, hB4⟩; have hS : Hid (Below W.heap.size W w4) := hidF (((Below.refl _ W).drew).trans hB4); have hc4 := below_cell hS.out hcv; have hc4' := fun o => cellOn o hc4; have HV4 : Hid (Boxed w4 (w.heap.size + 1) 27 v) := hidF ((hS.out.block _ hvl).trans HV.out); have HR4 := hidF (row_belowF HRow.out hS.out); have hz4 := hS.out.size; clear hB4; obtain ⟨v', w5, hr5, hown', hgrow, hnil, hat⟩ := run_append_own_at (P := Tryz.prog) (w4.alloc (.cells #[.string e.p, .bool e.d, .string e.x] 43)) (w.heap.size + 1) 27 27 43 i0 _ 3 40 Tryz.underlying27 hi hi0 hi1 hi2 rfl (by decide) v _ _ (HR4.out.alloc _) ⟨w4.heap.size, 0, none⟩ 1 1 (cellsE e) rfl (cells_new w4 e) rowE_one' (by unfold maxLen; omega) (by omega) (by simp; omega); obtain ⟨hv1, hv2, hr2, hk2, hb2⟩ := HV4.out.appended (by decide) HR4.out (by omega) (Nat.le_refl _) hown' hgrow; have hKp := KpT.appended HV4.out (by decide) HR4.out (by omega) (Nat.le_refl _) hown' hgrow hat; obtain ⟨g5, cap5, rfl⟩ := ownsRow_succ hown'; have hc1 := hv1.cell; have hf1 := hv1.frozen)
            refine wpAnyIn_ready (rs := [4]) (by kernel_rfl) (by simp) ?_
            refine AllReadyIn.cons rfl (fun K hK => ?_) ?_
            · go_simp
              refine hK _ _ ?_
              clear hK K
              refine wpAnyIn_ready (rs := [5]) (by kernel_rfl) (by simp) ?_
              refine ready_append _ _ _ _ rfl (by kernel_rfl) rfl hr5 ?_
              refine wpAnyIn_ready (rs := [6]) (by kernel_rfl) (by simp) ?_
              refine AllReadyIn.cons rfl (fun K hK => ?_) AllReadyIn.nil
              go_simp
              refine hK _ _ ?_
              clear hK K
              refine wpAnyIn_done (by kernel_rfl) ?_ _
              gi_wp2
              refine ⟨(keepsBF hS.out).trans (hk2.from _), (kpt_of hS.out hvl).t hKp, ⟨_, hv2, ?_, trivial⟩, (hB.trans (hS.out.mono (Nat.le_of_lt hvl))).trans hb2⟩
              rw [entsL_snoc]
              exact OwnE.push hr2
            exact AllReadyIn.nil
          exact AllReadyIn.nil
        refine AllReadyIn.cons rfl (fun K hK => ?_) ?_
        · go_simp
          gi_wp2_with (gi_at_call 41; refine (CallsIn.inRound l (callsIn_wide.2 (ent_any _ _ _ _ _))).mono ?_; rintro e4 w4 ⟨rfl, hB4⟩; have hS : Hid (Below W.heap.size W w4) := hidF (((Below.refl _ W).drew).trans hB4); have hc4 := below_cell hS.out hcv; have hc4' := fun o => cellOn o hc4; have HV4 : Hid (Boxed w4 (w.heap.size + 1) 27 v) := hidF ((hS.out.block _ hvl).trans HV.out); have HR4 := hidF (row_belowF HRow.out hS.out); have hz4 := hS.out.size; clear hB4; obtain ⟨v', w5, hr5, hown', hgrow, hnil, hat⟩ := run_append_own_at (P := Tryz.prog) (w4.alloc (.cells #[.string e.p, .bool e.d, .string e.x] 43)) (w.heap.size + 1) 27 27 43 i0 _ 3 40 Tryz.underlying27 hi hi0 hi1 hi2 rfl (by decide) v _ _ (HR4.out.alloc _) ⟨w4.heap.size, 0, none⟩ 1 1 (cellsE e) rfl (cells_new w4 e) rowE_one' (by unfold maxLen; omega) (by omega) (by simp; omega); obtain ⟨hv1, hv2, hr2, hk2, hb2⟩ := HV4.out.appended (by decide) HR4.out (by omega) (Nat.le_refl _) hown' hgrow; have hKp := KpT.appended HV4.out (by decide) HR4.out (by omega) (Nat.le_refl _) hown' hgrow hat; obtain ⟨g5, cap5, rfl⟩ := ownsRow_succ hown'; have hc1 := hv1.cell; have hf1 := hv1.frozen)
          refine wpAnyIn_ready (rs := [0, 4]) (by kernel_rfl) (by simp) ?_
          refine AllReadyIn.cons rfl (fun K hK => ?_) ?_
          · go_simp
            refine hK _ _ ?_
            clear hK K
            refine wpAnyIn_ready (rs := [4]) (by kernel_rfl) (by simp) ?_
            refine AllReadyIn.cons rfl (fun K hK => ?_) ?_
            · go_simp
              refine hK _ _ ?_
              clear hK K
              refine wpAnyIn_ready (rs := [5]) (by kernel_rfl) (by simp) ?_
              refine ready_append _ _ _ _ rfl (by kernel_rfl) rfl hr5 ?_
              refine wpAnyIn_ready (rs := [6]) (by kernel_rfl) (by simp) ?_
              refine AllReadyIn.cons rfl (fun K hK => ?_) AllReadyIn.nil
              go_simp
              refine hK _ _ ?_
              clear hK K
              refine wpAnyIn_done (by kernel_rfl) ?_ _
              gi_wp2
              refine ⟨(keepsBF hS.out).trans (hk2.from _), (kpt_of hS.out hvl).t hKp, ⟨_, hv2, ?_, trivial⟩, (hB.trans (hS.out.mono (Nat.le_of_lt hvl))).trans hb2⟩
              rw [entsL_snoc]
              exact OwnE.push hr2
            exact AllReadyIn.nil
          refine AllReadyIn.cons rfl (fun K hK => ?_) ?_
          · go_simp
            refine hK _ _ ?_
            clear hK K
            refine wpAnyIn_ready (rs := [0]) (by kernel_rfl) (by simp) ?_
            refine AllReadyIn.cons rfl (fun K hK => ?_) ?_
            · go_simp
              refine hK _ _ ?_
              clear hK K
              refine wpAnyIn_ready (rs := [5]) (by kernel_rfl) (by simp) ?_
              refine ready_append _ _ _ _ rfl (by kernel_rfl) rfl hr5 ?_
              refine wpAnyIn_ready (rs := [6]) (by kernel_rfl) (by simp) ?_
              refine AllReadyIn.cons rfl (fun K hK => ?_) AllReadyIn.nil
              go_simp
              refine hK _ _ ?_
              clear hK K
              refine wpAnyIn_done (by kernel_rfl) ?_ _
              gi_wp2
              refine ⟨(keepsBF hS.out).trans (hk2.from _), (kpt_of hS.out hvl).t hKp, ⟨_, hv2, ?_, trivial⟩, (hB.trans (hS.out.mono (Nat.le_of_lt hvl))).trans hb2⟩
              rw [entsL_snoc]
              exact OwnE.push hr2
            exact AllReadyIn.nil
          exact AllReadyIn.nil
        exact AllReadyIn.nil
      exact AllReadyIn.nil
    refine AllReadyIn.cons rfl (fun K hK => ?_) ?_
    · go_simp
      refine hK _ _ ?_
      clear hK K
      refine wpAnyIn_ready (rs := [0, 1]) (by kernel_rfl) (by simp) ?_
      refine AllReadyIn.cons rfl (fun K hK => ?_) ?_
      · go_simp
        refine hK _ _ ?_
        clear hK K
        refine wpAnyIn_ready (rs := [1]) (by kernel_rfl) (by simp) ?_
        refine AllReadyIn.cons rfl (fun K hK => ?_) ?_
        · go_simp
          refine hK _ _ ?_
          clear hK K
          refine wpAnyIn_ready (rs := [3]) (by kernel_rfl) (by simp) ?_
          refine AllReadyIn.cons rfl (fun K hK => ?_) ?_
          · go_simp
            gi_wp2_with (gi_at_call 41; refine (CallsIn.inRound l (callsIn_wide.2 (ent_any _ _ _ _ _))).mono ?_; rintro e4 w4 ⟨rfl, hB4⟩; have hS : Hid (Below W.heap.size W w4) := hidF (((Below.refl _ W).drew).trans hB4); have hc4 := below_cell hS.out hcv; have hc4' := fun o => cellOn o hc4; have HV4 : Hid (Boxed w4 (w.heap.size + 1) 27 v) := hidF ((hS.out.block _ hvl).trans HV.out); have HR4 := hidF (row_belowF HRow.out hS.out); have hz4 := hS.out.size; clear hB4; obtain ⟨v', w5, hr5, hown', hgrow, hnil, hat⟩ := run_append_own_at (P := Tryz.prog) (w4.alloc (.cells #[.string e.p, .bool e.d, .string e.x] 43)) (w.heap.size + 1) 27 27 43 i0 _ 3 40 Tryz.underlying27 hi hi0 hi1 hi2 rfl (by decide) v _ _ (HR4.out.alloc _) ⟨w4.heap.size, 0, none⟩ 1 1 (cellsE e) rfl (cells_new w4 e) rowE_one' (by unfold maxLen; omega) (by omega) (by simp; omega); obtain ⟨hv1, hv2, hr2, hk2, hb2⟩ := HV4.out.appended (by decide) HR4.out (by omega) (Nat.le_refl _) hown' hgrow; have hKp := KpT.appended HV4.out (by decide) HR4.out (by omega) (Nat.le_refl _) hown' hgrow hat; obtain ⟨g5, cap5, rfl⟩ := ownsRow_succ hown'; have hc1 := hv1.cell; have hf1 := hv1.frozen)
            refine wpAnyIn_ready (rs := [4]) (by kernel_rfl) (by simp) ?_
            refine AllReadyIn.cons rfl (fun K hK => ?_) ?_
            · go_simp
              refine hK _ _ ?_
              clear hK K
              refine wpAnyIn_ready (rs := [5]) (by kernel_rfl) (by simp) ?_
              refine ready_append _ _ _ _ rfl (by kernel_rfl) rfl hr5 ?_
              refine wpAnyIn_ready (rs := [6]) (by kernel_rfl) (by simp) ?_
              refine AllReadyIn.cons rfl (fun K hK => ?_) AllReadyIn.nil
              go_simp
              refine hK _ _ ?_
              clear hK K
              refine wpAnyIn_done (by kernel_rfl) ?_ _
              gi_wp2
              refine ⟨(keepsBF hS.out).trans (hk2.from _), (kpt_of hS.out hvl).t hKp, ⟨_, hv2, ?_, trivial⟩, (hB.trans (hS.out.mono (Nat.le_of_lt hvl))).trans hb2⟩
              rw [entsL_snoc]
              exact OwnE.push hr2
            exact AllReadyIn.nil
          exact AllReadyIn.nil
        exact AllReadyIn.nil
      refine AllReadyIn.cons rfl (fun K hK => ?_) ?_
      · go_simp
        refine hK _ _ ?_
        clear hK K
        refine wpAnyIn_ready (rs := [0, 3]) (by kernel_rfl) (by simp) ?_
        refine AllReadyIn.cons rfl (fun K hK => ?_) ?_
        · go_simp
          refine hK _ _ ?_
          clear hK K
          refine wpAnyIn_ready (rs := [3]) (by kernel_rfl) (by simp) ?_
          refine AllReadyIn.cons rfl (fun K hK => ?_) ?_
          · go_simp
            gi_wp2_with (gi_at_call 41; refine (CallsIn.inRound l (callsIn_wide.2 (ent_any _ _ _ _ _))).mono ?_; rintro e4 w4 ⟨rfl, hB4⟩; have hS : Hid (Below W.heap.size W w4) := hidF (((Below.refl _ W).drew).trans hB4); have hc4 := below_cell hS.out hcv; have hc4' := fun o => cellOn o hc4; have HV4 : Hid (Boxed w4 (w.heap.size + 1) 27 v) := hidF ((hS.out.block _ hvl).trans HV.out); have HR4 := hidF (row_belowF HRow.out hS.out); have hz4 := hS.out.size; clear hB4; obtain ⟨v', w5, hr5, hown', hgrow, hnil, hat⟩ := run_append_own_at (P := Tryz.prog) (w4.alloc (.cells #[.string e.p, .bool e.d, .string e.x] 43)) (w.heap.size + 1) 27 27 43 i0 _ 3 40 Tryz.underlying27 hi hi0 hi1 hi2 rfl (by decide) v _ _ (HR4.out.alloc _) ⟨w4.heap.size, 0, none⟩ 1 1 (cellsE e) rfl (cells_new w4 e) rowE_one' (by unfold maxLen; omega) (by omega) (by simp; omega); obtain ⟨hv1, hv2, hr2, hk2, hb2⟩ := HV4.out.appended (by decide) HR4.out (by omega) (Nat.le_refl _) hown' hgrow; have hKp := KpT.appended HV4.out (by decide) HR4.out (by omega) (Nat.le_refl _) hown' hgrow hat; obtain ⟨g5, cap5, rfl⟩ := ownsRow_succ hown'; have hc1 := hv1.cell; have hf1 := hv1.frozen)
            refine wpAnyIn_ready (rs := [4]) (by kernel_rfl) (by simp) ?_
            refine AllReadyIn.cons rfl (fun K hK => ?_) ?_
            · go_simp
              refine hK _ _ ?_
              clear hK K
              refine wpAnyIn_ready (rs := [5]) (by kernel_rfl) (by simp) ?_
              refine ready_append _ _ _ _ rfl (by kernel_rfl) rfl hr5 ?_
              refine wpAnyIn_ready (rs := [6]) (by kernel_rfl) (by simp) ?_
              refine AllReadyIn.cons rfl (fun K hK => ?_) AllReadyIn.nil
              go_simp
              refine hK _ _ ?_
              clear hK K
              refine wpAnyIn_done (by kernel_rfl) ?_ _
              gi_wp2
              refine ⟨(keepsBF hS.out).trans (hk2.from _), (kpt_of hS.out hvl).t hKp, ⟨_, hv2, ?_, trivial⟩, (hB.trans (hS.out.mono (Nat.le_of_lt hvl))).trans hb2⟩
              rw [entsL_snoc]
              exact OwnE.push hr2
            exact AllReadyIn.nil
          exact AllReadyIn.nil
        refine AllReadyIn.cons rfl (fun K hK => ?_) ?_
        · go_simp
          gi_wp2_with (gi_at_call 41; refine (CallsIn.inRound l (callsIn_wide.2 (ent_any _ _ _ _ _))).mono ?_; rintro e4 w4 ⟨rfl, hB4⟩; have hS : Hid (Below W.heap.size W w4) := hidF (((Below.refl _ W).drew).trans hB4); have hc4 := below_cell hS.out hcv; have hc4' := fun o => cellOn o hc4; have HV4 : Hid (Boxed w4 (w.heap.size + 1) 27 v) := hidF ((hS.out.block _ hvl).trans HV.out); have HR4 := hidF (row_belowF HRow.out hS.out); have hz4 := hS.out.size; clear hB4; obtain ⟨v', w5, hr5, hown', hgrow, hnil, hat⟩ := run_append_own_at (P := Tryz.prog) (w4.alloc (.cells #[.string e.p, .bool e.d, .string e.x] 43)) (w.heap.size + 1) 27 27 43 i0 _ 3 40 Tryz.underlying27 hi hi0 hi1 hi2 rfl (by decide) v _ _ (HR4.out.alloc _) ⟨w4.heap.size, 0, none⟩ 1 1 (cellsE e) rfl (cells_new w4 e) rowE_one' (by unfold maxLen; omega) (by omega) (by simp; omega); obtain ⟨hv1, hv2, hr2, hk2, hb2⟩ := HV4.out.appended (by decide) HR4.out (by omega) (Nat.le_refl _) hown' hgrow; have hKp := KpT.appended HV4.out (by decide) HR4.out (by omega) (Nat.le_refl _) hown' hgrow hat; obtain ⟨g5, cap5, rfl⟩ := ownsRow_succ hown'; have hc1 := hv1.cell; have hf1 := hv1.frozen)
          refine wpAnyIn_ready (rs := [0, 4]) (by kernel_rfl) (by simp) ?_
          refine AllReadyIn.cons rfl (fun K hK => ?_) ?_
          · go_simp
            refine hK _ _ ?_
            clear hK K
            refine wpAnyIn_ready (rs := [4]) (by kernel_rfl) (by simp) ?_
            refine AllReadyIn.cons rfl (fun K hK => ?_) ?_
            · go_simp
              refine hK _ _ ?_
              clear hK K
              refine wpAnyIn_ready (rs := [5]) (by kernel_rfl) (by simp) ?_
              refine ready_append _ _ _ _ rfl (by kernel_rfl) rfl hr5 ?_
              refine wpAnyIn_ready (rs := [6]) (by kernel_rfl) (by simp) ?_
              refine AllReadyIn.cons rfl (fun K hK => ?_) AllReadyIn.nil
              go_simp
              refine hK _ _ ?_
              clear hK K
              refine wpAnyIn_done (by kernel_rfl) ?_ _
              gi_wp2
              refine ⟨(keepsBF hS.out).trans (hk2.from _), (kpt_of hS.out hvl).t hKp, ⟨_, hv2, ?_, trivial⟩, (hB.trans (hS.out.mono (Nat.le_of_lt hvl))).trans hb2⟩
              rw [entsL_snoc]
              exact OwnE.push hr2
            exact AllReadyIn.nil
          refine AllReadyIn.cons rfl (fun K hK => ?_) ?_
          · go_simp
            refine hK _ _ ?_
            clear hK K
            refine wpAnyIn_ready (rs := [0]) (by kernel_rfl) (by simp) ?_
            refine AllReadyIn.cons rfl (fun K hK => ?_) ?_
            · go_simp
              refine hK _ _ ?_
              clear hK K
              refine wpAnyIn_ready (rs := [5]) (by kernel_rfl) (by simp) ?_
              refine ready_append _ _ _ _ rfl (by kernel_rfl) rfl hr5 ?_
              refine wpAnyIn_ready (rs := [6]) (by kernel_rfl) (by simp) ?_
              refine AllReadyIn.cons rfl (fun K hK => ?_) AllReadyIn.nil
              go_simp
              refine hK _ _ ?_
              clear hK K
              refine wpAnyIn_done (by kernel_rfl) ?_ _
              gi_wp2
              refine ⟨(keepsBF hS.out).trans (hk2.from _), (kpt_of hS.out hvl).t hKp, ⟨_, hv2, ?_, trivial⟩, (hB.trans (hS.out.mono (Nat.le_of_lt hvl))).trans hb2⟩
              rw [entsL_snoc]
              exact OwnE.push hr2
            exact AllReadyIn.nil
          exact AllReadyIn.nil
        exact AllReadyIn.nil
      exact AllReadyIn.nil
    exact AllReadyIn.nil
  case done =>
    rintro D xs W hD hxs ⟨⟨v, hv, hrow, -⟩, hB⟩ hK
    rw [entsL_all T hxs] at hrow
    have hc := hv.cell
    have hrow6 := ownsRow_putObj hrow (.deferred none) hK rfl
    have hBf : Below w.heap.size w (W.putObj D (.deferred none)) := (hB0.trans (hB.mono (by omega))).trans (below_putF (by omega) _)
    have HR6 := hidF hrow6
    clear hrow hrow6
    gi_wp2
    refine ⟨by simp, .inl ⟨_, _, rfl, run_takeDeferred hK, ?_⟩⟩
    exact ⟨_, results_tmp rfl _ _ _, v, rfl, row_lowF HR6.out (by omega), hBf⟩
  case stop =>
    rintro D c pre W _ _ h _
    exact h.elim
end Go.Proofs.YtngjcdlgfcgfoaaGreatDoor

/-
  The walk of the program's own TreeDo.
-/
namespace Go.Proofs.YtngjcdlgfcgfoaaGreatDoor
open Go.RowKit Go.Shelf Go.Lib

attribute [local go_sem] Oper.semAt_some

theorem Errs8.turn {base : Nat} {w w' : World} {ae : Int → Addr} (h : Errs8 w ae) (t : Turn base w w') : Errs8 w' ae :=
  ⟨⟨t.cell h.two.noneC, t.cell h.two.fileC⟩, t.cell h.bad, t.cell h.there, t.cell h.isDir, t.cell h.kept, t.cell h.under, t.cell h.room, h.ne, fun c h1 h2 => by
    obtain ⟨cs, ty, k⟩ := h.row c h1 h2
    exact ⟨cs, ty, t.cells _ _ k (fun _ _ q => by cases q)⟩⟩

/-- What is made of a right tree is one. -/
theorem made_tr {es : List E} {k : Int} {p t x : ByteArray} (T : TrE es) (hes : es.length ≤ 16) (hop : (pathB p && fitB k t x) = true) (hc : codeC es k p t = 0) : TrE (madeE es k p t x) ∧ (madeE es k p t x).length ≤ 17 := by
  obtain ⟨hpb, hfb⟩ : pathB p = true ∧ fitB k t x = true := by rwa [Bool.and_eq_true] at hop
  have hput := fun e => put_len es e
  rcases fit_kind hfb with rfl | rfl | rfl | rfl | rfl
  · have hc' : newC es p = 0 := hc
    have hdir : dirE es (upS p) = true := by
      cases h : dirE es (upS p) with
      | true => rfl
      | false =>
        have hc0 : dirC es (upS p) ≠ 0 := fun q => by rw [dirC_zero q] at h; cases h
        rw [newC_up hc0] at hc'; exact absurd hc' hc0
    have hl : lookE es p = none := by
      cases h : lookE es p with
      | none => rfl
      | some f => rw [newC_there hdir hpb h] at hc'; cases hc'
    exact ⟨tr_put (e := ⟨p, true, ⟨#[]⟩⟩) T hpb rfl (fun _ => rfl) (dir_isRoot hpb hl) hdir, by show (putE es _).length ≤ 17; have := hput ⟨p, true, ⟨#[]⟩⟩; omega⟩
  · have hc' : putC es p = 0 := hc
    have hdir : dirE es (upS p) = true := by
      cases h : dirE es (upS p) with
      | true => rfl
      | false =>
        have hc0 : dirC es (upS p) ≠ 0 := fun q => by rw [dirC_zero q] at h; cases h
        rw [putC_up hc0] at hc'; exact absurd hc' hc0
    have hold : dirE es p = false := by
      cases h : lookE es p with
      | none => exact dir_isRoot hpb h
      | some f =>
        rw [putC_there hdir hpb h] at hc'
        rw [dirE_look, h, root_not_path hpb]
        cases hd : f.d with
        | false => simp [hd]
        | true => rw [hd] at hc'; cases hc'
    have hxd : dataB x = true := by
      have : (emB t && dataB x) = true := hfb
      rw [Bool.and_eq_true] at this; exact this.2
    exact ⟨tr_put (e := ⟨p, false, x⟩) T hpb hxd (fun h => by cases h) hold hdir, by show (putE es _).length ≤ 17; have := hput ⟨p, false, x⟩; omega⟩
  · have hc' : offC es 3 p = 0 := hc
    refine ⟨tr_off T (kids_nil ?_), Nat.le_trans (List.length_filter_le _ _) (by omega)⟩
    cases h : lookE es p with
    | none => rw [offC_none hpb h] at hc'; cases hc'
    | some f =>
      rw [offC_some hpb h] at hc'
      split at hc'
      · cases hc'
      · split at hc'
        · cases hc'
        · split at hc'
          · cases hc'
          · rename_i h3; exact List.length_eq_zero_iff.1 (by omega)
  · have hc' : offC es 4 p = 0 := hc
    refine ⟨tr_off T (kids_nil ?_), Nat.le_trans (List.length_filter_le _ _) (by omega)⟩
    cases h : lookE es p with
    | none => rw [offC_none hpb h] at hc'; cases hc'
    | some f =>
      rw [offC_some hpb h] at hc'
      split at hc'
      · cases hc'
      · split at hc'
        · cases hc'
        · split at hc'
          · cases hc'
          · rename_i h3; exact List.length_eq_zero_iff.1 (by omega)
  · have hc' : moveC es p t = 0 := hc
    have htb : pathB t = true := by
      have : (pathB t && emB x) = true := hfb
      rw [Bool.and_eq_true] at this; exact this.1
    have hm : (movE es p t).length ≤ es.length := by
      have := mov_len es p t es.length (Nat.le_refl _)
      rwa [List.take_length] at this
    refine ⟨?_, by show (movE es p t).length ≤ 17; omega⟩
    cases hl : lookE es p with
    | none => rw [moveC_none hpb hl] at hc'; cases hc'
    | some e =>
      have hdir : dirE es (upS t) = true := by
        cases h : dirE es (upS t) with
        | true => rfl
        | false =>
          have hc0 : dirC es (upS t) ≠ 0 := fun q => by rw [dirC_zero q] at h; cases h
          rw [moveC_up hpb hl hc0] at hc'; exact absurd hc' hc0
      rw [moveC_on hpb htb hl hdir] at hc'
      cases hlt : lookE es t with
      | some f => rw [hlt] at hc'; cases hc'
      | none =>
        rw [hlt] at hc'
        cases hun : underI t p with
        | true => rw [hun] at hc'; cases hc'
        | false =>
          rw [hun] at hc'
          cases hfi : fitE es p t with
          | false => rw [hfi] at hc'; cases hc'
          | true => exact Mv.tr ⟨T, hpb, htb, ⟨e, hl⟩, hdir, hlt, hun, hfi⟩
theorem dirC_range (es : List E) (s : ByteArray) : 0 ≤ dirC es s ∧ dirC es s ≤ 8 := by unfold dirC; split <;> (try split) <;> decide
theorem upC_range (es : List E) (s : ByteArray) : 0 ≤ upC es s ∧ upC es s ≤ 8 := dirC_range es (upS s)
theorem newC_range (es : List E) (s : ByteArray) : 0 ≤ newC es s ∧ newC es s ≤ 8 := by
  have := upC_range es s
  unfold newC; split
  · exact this
  · split
    · decide
    · split <;> decide
theorem code_range (es : List E) (k : Int) (p t : ByteArray) : 0 ≤ codeC es k p t ∧ codeC es k p t ≤ 8 := by
  unfold codeC
  split
  · exact newC_range es p
  · split
    · unfold putC; split
      · split <;> decide
      · exact newC_range es p
    · split
      · have := upC_range es t
        unfold moveC; split
        · decide
        · split
          · exact this
          · split
            · decide
            · split
              · decide
              · split <;> decide
      · unfold offC; split
        · decide
        · split
          · decide
          · split
            · decide
            · split <;> decide
theorem end_range (es : List E) (k : Int) (p t x : ByteArray) : 0 ≤ endC es k p t x ∧ endC es k p t x ≤ 8 := by
  unfold endC; split
  · exact code_range es k p t
  · decide

set_option maxHeartbeats 2000000 in
set_option maxRecDepth 100000 in
theorem iTreeDo_any (w : World) (a : Option Addr) (g o cap : Nat) (es : List E) (k : Int) (p t x : ByteArray) (ae : Int → Addr) (hErr : Errs8 w ae) (hl : es.length ≤ 16777216) (hp : p.size ≤ 16777216) (ht : t.size ≤ 16777216) (hx : x.size ≤ 16777216) (hz : ∀ e ∈ es, e.p.size ≤ 16777216 ∧ e.x.size ≤ 16777216) (ha : 0 < es.length → a = some ⟨g, o, none⟩) (hE : Ents w g o es) :
    Calls Tryz.prog 9 #[.slice a es.length cap, opV k p t x] w fun r w' => ∃ v, r = .returned (.tuple #[v, .int .i64 (doC es ⟨k, p, t, x⟩)]) ∧ OwnE w' w.heap.size v (doE es ⟨k, p, t, x⟩) ∧ Below w.heap.size w w' := by
  obtain ⟨W0, hW0⟩ : ∃ W0, W0 = w.alloc (.cells #[.int .i64 k, .string p, .string t, .string x] 31) := ⟨_, rfl⟩
  have hBw : Below w.heap.size w W0 := hW0 ▸ (Below.refl _ w).alloc (Nat.le_refl _) _
  have HX := hid (fun (W' : World) (h : Below W0.heap.size W0 W') => box4i (w := w) (a := .int .i64 k) (b := .string p) (c := .string t) (d := .string x) (T := 31) (w' := W') (by rw [← hW0]; exact h))
  have HT := hid (treeOf_any W0 a g o cap es ae (hErr.below hBw).two hl hz ha (hE.below hBw))
  have HEr := hid (hErr.below hBw)
  clear hErr hz ha hE
  have hdo : doC es ⟨k, p, t, x⟩ = if treeE es = true then endC es k p t x else 1 := by
    unfold doC endC
    rw [fit_op]
    cases treeE es <;> rfl
  cases htr : treeE es with
  | false =>
    have hd : doE es ⟨k, p, t, x⟩ = [] := by unfold doE; rw [htr]; rfl
    rw [hd, hdo, htr, if_neg (by decide)]
    rw [htr] at HT
    go_enter Tryz.func9, Tryz.ntmps9
    go_wp2_with (go_at_call 19; rw [← hW0]; refine HT.out.mono ?_; rintro e w1 ⟨A, rfl, hB1, -⟩)
    exact bodyPost_ret (v := .tuple #[.slice none 0 0, .int .i64 1]) (by simp [results, Tryz.results9, go_sem]) rfl ⟨_, rfl, World.ownsRow_nil _ _ _ _, belowA (hBw.trans (hB1.mono hBw.size)) _⟩
  | true =>
    obtain ⟨T, hes⟩ := treeE_tr htr
    have hde : doE es ⟨k, p, t, x⟩ = if endC es k p t x = 0 then madeE es k p t x else es := by
      unfold doE; rw [hdo, htr]; rfl
    rw [hde, hdo, htr, if_pos rfl]
    rw [htr] at HT
    have hT2 : TrE (if endC es k p t x = 0 then madeE es k p t x else es) ∧ (if endC es k p t x = 0 then madeE es k p t x else es).length ≤ 17 := by
      by_cases h0 : endC es k p t x = 0
      · rw [if_pos h0]
        cases hop : (pathB p && fitB k t x) with
        | false => unfold endC at h0; rw [hop] at h0; cases h0
        | true => exact made_tr T hes hop (by unfold endC at h0; rw [hop] at h0; exact h0)
      · rw [if_neg h0]; exact ⟨T, by omega⟩
    obtain ⟨r0, r8⟩ := end_range es k p t x
    have HDo := hid (fun (W : World) (A : ByteArray → Nat) (R : Rep W W0.heap.size 16 es A) (hE : Errs8 W ae) (hb : W0.heap.size ≤ W.heap.size) => do_any W W0.heap.size 16 es A ae T R hE k p t x hp ht hx hb (by omega) hes)
    obtain ⟨c, hc⟩ : ∃ c, endC es k p t x = c := ⟨_, rfl⟩
    obtain ⟨es2, hes2⟩ : ∃ es2, (if endC es k p t x = 0 then madeE es k p t x else es) = es2 := ⟨_, rfl⟩
    rw [hes2] at hT2 HDo ⊢
    rw [hc] at HDo r0 r8 ⊢
    obtain ⟨ev, hev⟩ : ∃ ev, errV ae c = ev := ⟨_, rfl⟩
    have HCo := hid (fun (W : World) (hE : Errs8 W ae) => doCode_any W ae hE c r0 r8)
    rw [hev] at HDo HCo
    clear hev hc hes2 hde hdo
    have HEn := hid (fun (W : World) (A' : ByteArray → Nat) (R : Rep W W0.heap.size 17 es2 A') => ents_any W W0.heap.size 17 es2 A' hT2.1 R (by omega) (by omega))
    go_enter Tryz.func9, Tryz.ntmps9
    go_wp2_with fail
    rw [← hW0]
    clear hW0
    refine HT.out.mono ?_
    rintro e w1 ⟨A, rfl, hB1, hR⟩
    obtain ⟨W1, hW1⟩ : ∃ W1, W1 = w1.alloc (.cells #[.bool true, .string ⟨#[]⟩, .map (some (A ⟨#[47]⟩))] 49) := ⟨_, rfl⟩
    have hB2 : Below W0.heap.size W0 W1 := by rw [hW1]; exact belowA hB1 _
    have HR1 : Hid (Rep W1 W0.heap.size 16 es A) := by rw [hW1]; exact (hR trivial).below ((Below.refl _ w1).alloc (Nat.le_refl _) _)
    have tb : Hid (W1.cell? ⟨w1.heap.size, 0, none⟩ = some (.bool true) ∧ W1.cell? ⟨w1.heap.size, 1, none⟩ = some (.string ⟨#[]⟩) ∧ W1.cell? ⟨w1.heap.size, 2, none⟩ = some (.map (some (A ⟨#[47]⟩)))) := by rw [hW1]; exact ⟨by simp, by simp, by simp⟩
    obtain ⟨x0, x1, x2, x3⟩ := HX.out _ hB1
    have k0 := fun o => cellOn o x0
    have k1 := fun o => cellOn o x1
    have k2 := fun o => cellOn o x2
    have k3 := fun o => cellOn o x3
    clear hR
    go_wp2_with fail
    rw [← hW1]
    refine (HDo.out W1 A HR1.out (HEr.out.below hB2) hB2.size).mono ?_
    rintro e w2 ⟨rfl, ht2, A', hA', hR2⟩
    have y0 := ht2.cell tb.out.1
    have y1 := ht2.cell tb.out.2.1
    have y2 := ht2.cell tb.out.2.2
    have hEn := HEn.out w2 A' hR2
    unfold treeV at hEn
    rw [hA'] at hEn
    have HEn2 := hid hEn
    clear hEn HEn k0 k1 k2 k3 x0 x1 x2 x3 hW1
    go_wp2_with fail
    refine HEn2.out.mono ?_
    rintro e w3 ⟨v, rfl, hown, hB3⟩
    have HOw := hid hown
    clear hown y0 y1 y2
    go_wp2_with fail
    refine (HCo.out _ (((HEr.out.below hB2).turn ht2).below hB3)).mono ?_
    rintro e w4 ⟨rfl, rfl⟩
    have hBf : Below w.heap.size w w4 := (hBw.trans ((hB2.trans (ht2.below.trans (hB3.mono (Nat.le_trans hB2.size ht2.below.size)))).mono hBw.size))
    go_wp2
    exact bodyPost_ret (v := .tuple #[v, .int .i64 c]) (by simp [results, Tryz.results9, go_sem]) rfl ⟨_, rfl, HOw.out.lower (Nat.le_trans hBw.size (Nat.le_trans hB2.size ht2.below.size)), hBf⟩
end Go.Proofs.YtngjcdlgfcgfoaaGreatDoor
