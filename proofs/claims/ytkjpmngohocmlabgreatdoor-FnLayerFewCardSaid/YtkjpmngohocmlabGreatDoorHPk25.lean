/-
  The walk of the program's own: a layer as a list of marks.
-/
import Derived.Test.YtkjpmngohocmlabGreatDoorHReadyB
import Derived.Test.YtkjpmngohocmlabGreatDoorHPk20
import Derived.Test.YtkjpmngohocmlabGreatDoorHPk12
import Derived.Test.YtkjpmngohocmlabGreatDoorHPk21
import Derived.Test.YtkjpmngohocmlabGreatDoorHPk24
import Derived.Test.YtkjpmngohocmlabGreatDoorHMjJoinP
import Derived.Test.YtkjpmngohocmlabGreatDoorHPk14
import Derived.Test.YtkjpmngohocmlabGreatDoorHPk05
import Derived.Test.YtkjpmngohocmlabGreatDoorHLyJnS
import Derived.Stop.RegionWithIn
import Derived.Test.YtkjpmngohocmlabGreatDoorHPk19
namespace Go.Proofs.YtkjpmngohocmlabGreatDoor.Mk
open Go.RowKit Go.Shelf Go.Lib Go.Maps

attribute [local go_sem] Oper.semAt_some

theorem mark1_any (x p : ByteArray) (w : World) : Calls Tryz.prog 194 #[.agg #[.string x], .string p] w fun e w' => e = .returned (.agg #[.string p, .int .i64 1, .string x]) ∧ Below w.heap.size w w' := by
  go_enter Tryz.func194, Tryz.ntmps194
  go_wp2
  exact bodyPost_ret (v := .agg #[.string p, .int .i64 1, .string x]) (by simp [results, Tryz.results194, go_sem]) rfl ⟨rfl, belowA (belowA (Below.refl _ _) _) _⟩
theorem mark2_any (p : ByteArray) (w : World) : Calls Tryz.prog 191 #[.agg #[], .string p] w fun e w' => e = .returned (.agg #[.string p, .int .i64 2, .string ⟨#[]⟩]) ∧ Below w.heap.size w w' := by
  go_enter Tryz.func191, Tryz.ntmps191
  go_wp2
  exact bodyPost_ret (v := .agg #[.string p, .int .i64 2, .string ⟨#[]⟩]) (by simp [results, Tryz.results191, go_sem]) rfl ⟨rfl, belowA (belowA (Below.refl _ _) _) _⟩
theorem mark3_any (p : ByteArray) (w : World) : Calls Tryz.prog 187 #[.agg #[], .string p] w fun e w' => e = .returned (.agg #[.string p, .int .i64 3, .string ⟨#[]⟩]) ∧ Below w.heap.size w w' := by
  go_enter Tryz.func187, Tryz.ntmps187
  go_wp2
  exact bodyPost_ret (v := .agg #[.string p, .int .i64 3, .string ⟨#[]⟩]) (by simp [results, Tryz.results187, go_sem]) rfl ⟨rfl, belowA (belowA (Below.refl _ _) _) _⟩
theorem mark4_any (p : ByteArray) (w : World) : Calls Tryz.prog 197 #[.agg #[], .string p] w fun e w' => e = .returned (.agg #[.string p, .int .i64 4, .string ⟨#[]⟩]) ∧ Below w.heap.size w w' := by
  go_enter Tryz.func197, Tryz.ntmps197
  go_wp2
  exact bodyPost_ret (v := .agg #[.string p, .int .i64 4, .string ⟨#[]⟩]) (by simp [results, Tryz.results197, go_sem]) rfl ⟨rfl, belowA (belowA (Below.refl _ _) _) _⟩
/-- What a sign's own mark is, whatever its kind. -/
theorem mark_of {d : Int} (hd : 1 ≤ d ∧ d ≤ 4) {x : ByteArray} (hx : d ≠ 1 → x = ⟨#[]⟩) : ∃ (t : TypeId) (u : Value) (f : FuncId), signV d x = .iface t u ∧ (∀ W, (method 328 t u "loop.example/pargeting/impl.mark").run Tryz.prog W = .ok (f, u) W) ∧ (∀ args W, (callFunc f args).run Tryz.prog W = .ok (.enter f args) W) ∧
    ∀ (p : ByteArray) (W : World), Calls Tryz.prog f #[u, .string p] W fun e w' => e = .returned (.agg #[.string p, .int .i64 d, .string x]) ∧ Below W.heap.size W w' := by
  rcases (by omega : d = 1 ∨ d = 2 ∨ d = 3 ∨ d = 4) with rfl | rfl | rfl | rfl
  · exact ⟨_, _, 194, sign1 x, fun _ => by kernel_rfl, enters_of Tryz.func194 (by kernel_rfl) rfl, fun p W => mark1_any x p W⟩
  · rw [hx (by decide)]; exact ⟨_, _, 191, sign2 _, fun _ => by kernel_rfl, enters_of Tryz.func191 (by kernel_rfl) rfl, fun p W => mark2_any p W⟩
  · rw [hx (by decide)]; exact ⟨_, _, 187, sign3 _, fun _ => by kernel_rfl, enters_of Tryz.func187 (by kernel_rfl) rfl, fun p W => mark3_any p W⟩
  · rw [hx (by decide)]; exact ⟨_, _, 197, sign4 _, fun _ => by kernel_rfl, enters_of Tryz.func197 (by kernel_rfl) rfl, fun p W => mark4_any p W⟩

theorem below_putM {n D : Nat} {W : World} (h : n ≤ D) (o : Obj) : Below n W (W.putObj D o) := ⟨rfl, rfl, rfl, by simp, fun k hk => World.putObj_heap_other (by omega)⟩

theorem row_lowM {w : World} {base base' : Nat} {e : TypeId} {size : Nat} {v : Value} {n : Nat} {xs : List Value} (h : w.ownsRow base e size v n xs) (hb : base' ≤ base) : w.ownsRow base' e size v n xs := by
  obtain ⟨h1, h2 | ⟨g, cap, cur, e1, e2, e3⟩⟩ := h
  · exact ⟨h1, .inl h2⟩
  · exact ⟨h1, .inr ⟨g, cap, cur, e1, Nat.le_trans hb e2, e3⟩⟩
theorem row_belowM {w w' : World} {base n : Nat} {e : TypeId} {size : Nat} {v : Value} {xs : List Value} (h : w.ownsRow base e size v n xs) (hb : Below w.heap.size w w') : w'.ownsRow base e size v n xs := by
  obtain ⟨h1, h2 | ⟨g, cap, cur, e1, e2, e3, e4⟩⟩ := h
  · exact ⟨h1, .inl h2⟩
  · exact ⟨h1, .inr ⟨g, cap, cur, e1, e2, (hb.block g (Array.getElem?_eq_some_iff.1 e3).1).trans e3, e4⟩⟩
theorem keepsBM {w w' : World} {B : Nat} (hb : Below w.heap.size w w') : KeepsFrom B w w' := ⟨hb.size, fun k _ _ h _ => (hb.block k (Array.getElem?_eq_some_iff.1 h).1).trans h⟩
def marksL {Lt : List (ByteArray × E)} (xs : List (ItemM Lt)) : List E := xs.map (fun y => y.1.2)
theorem marksL_snoc {Lt : List (ByteArray × E)} (xs : List (ItemM Lt)) (y : ItemM Lt) : marksL (xs ++ [y]) = marksL xs ++ [y.1.2] := by unfold marksL; rw [List.map_append]; rfl
theorem marksL_all {es : List E} (T : TrM es) {xs : List (ItemM (toldM es ⟨#[47]⟩ ⟨#[]⟩))} (h : xs.map Subtype.val = toldM es ⟨#[47]⟩ ⟨#[]⟩) : marksL xs = es := by
  have h1 : marksL xs = (xs.map Subtype.val).map Prod.snd := by unfold marksL; rw [List.map_map]; rfl
  rw [h1, h, toldM_all T, List.map_map]
  exact List.map_id'' (fun _ => rfl) es

set_option maxHeartbeats 4000000 in
set_option maxRecDepth 100000 in
theorem marks_any (w : World) (base N : Nat) (es : List E) (A : ByteArray → Nat) (T : TrM es) (hpl : ∀ e ∈ es, e.d ≠ 1 → e.x = ⟨#[]⟩) (R : Rep w base N es A) (hN : N ≤ 1000) (hes : es.length ≤ 1000) :
    Calls Tryz.prog 30 #[layV A] w fun r w' => ∃ v, r = .returned v ∧ OwnE w' w.heap.size v es ∧ Below w.heap.size w w' := by
  obtain ⟨i0, hi, hi0, hi1, hi2⟩ := info_parts Tryz.infoE'
  obtain ⟨W0, hW0⟩ : ∃ W0, W0 = w.alloc (.cells #[.iface 119 (.agg #[]), .map (some (A ⟨#[47]⟩))] 65) := ⟨_, rfl⟩
  have hB0 : Below w.heap.size w W0 := hW0 ▸ (Below.refl _ w).alloc (Nat.le_refl _) _
  have hs0 : W0.heap.size = w.heap.size + 1 := by rw [hW0]; simp
  refine (callsIn_wide (n := 6)).1 ?_
  refine callsIn_of_wp_marks Tryz.func30 rfl trivial ?_ rfl
  simp only [Tryz.ntmps30, List.size_toArray, List.length_cons, List.length_nil, Nat.reduceAdd, Nat.reduceSub, Array.replicate_succ, Array.replicate_zero, List.push_toArray, List.append_toArray, List.nil_append, List.cons_append]
  gi_wp2_with fail
  rw [← hW0]
  refine ⟨trivial, ?_⟩
  refine (callsIn_wide.2 (all_any A _)).mono ?_
  rintro e w3 ⟨rfl, hB3, hb1, d0, d1⟩
  have hbx : Boxed w3 (w.heap.size + 1) 26 (.slice none 0 0) := by rw [← hs0]; exact (hB3.block _ (by simp)).trans (World.alloc_heap_new W0 _)
  have hs3 := hB3.size
  have hB3' : Below W0.heap.size W0 w3 := ((Below.refl _ W0).alloc (Nat.le_refl _) _).trans (hB3.mono (by simp))
  simp only [World.size_alloc, hs0] at hb1 d0 d1 hs3
  have HB3 := hidE hB3'
  have HR := hidE ((R.below hB0).below hB3')
  have HPL := hidE hpl
  clear hB3 hW0 R hB3' hpl
  gi_wp2
  have hvb : w.heap.size + 1 < w3.heap.size := by omega
  have htl : (toldM es ⟨#[47]⟩ ⟨#[]⟩).length = es.length := by rw [toldM_all T, List.length_map]
  have hrow0 : OwnE w3 (w.heap.size + 1) (.slice none 0 0) [] := World.ownsRow_nil _ _ _ _
  refine wpIn_rangeFunc_ownH rfl (by omega) (gf := 110) (lb := #[.pointer (some ⟨w.heap.size + 1 + 1, 0, none⟩)]) rfl trivial (enters_of Tryz.func110 (by kernel_rfl) rfl)
    (all_stops _ (by omega) es A base N (w.heap.size + 1) hN hes T (w.heap.size + 1 + 1) w3 (by omega) d0 d1 HR.out hvb (good_row hbx hrow0)) KpT.t (KpT.b hvb) (Below.refl _ _) (fun _ => rfl)
    (fun (pre : List (ItemM (toldM es ⟨#[47]⟩ ⟨#[]⟩))) W => (∃ v, Boxed W (w.heap.size + 1) 26 v ∧ OwnE W (w.heap.size + 1) v (marksL pre) ∧ True) ∧ Below (w.heap.size + 1) W0 W)
    (fun _ _ _ => False)
    (OwnFrom.and (Own.from (holdsRow_own (w.heap.size + 1) (w.heap.size + 1) 26 43 3 (fun (pre : List (ItemM (toldM es ⟨#[47]⟩ ⟨#[]⟩))) => (marksL pre).length) (fun (pre : List (ItemM (toldM es ⟨#[47]⟩ ⟨#[]⟩))) => rowE (marksL pre)) (fun _ _ => True)) _) (ownFrom_below (by omega) (by omega)))
    (fun _ _ _ _ _ hs _ _ => hs)
    ⟨⟨_, hbx, hrow0, trivial⟩, HB3.out.mono (by omega)⟩
    (fun x ac _ => ac = { tmps := #[layV A, .pointer (some ⟨w.heap.size, 0, none⟩), .slice none 0 0, .pointer (some ⟨w.heap.size + 1, 0, none⟩), .string x.1.1, signV x.1.2.d x.1.2.x, layV A, .func (.func 110) #[] #[.pointer (some ⟨w.heap.size + 1 + 1, 0, none⟩)], .string x.1.1, signV x.1.2.d x.1.2.x, undef, undef, undef, undef, undef, undef, undef], defers := [] })
    (fun _ _ _ _ _ _ hs _ _ => hs)
    ?assign ?body ?done ?stop
  case assign =>
    rintro l pre x W K ⟨⟨v, hv, hrow, -⟩, hB⟩ hK
    gi_wp2
    exact hK _ _ ((KeepsOthers.refl _).from _) (kpt_of (Below.refl _ W) hv.lt) ⟨⟨v, hv, hrow, trivial⟩, hB⟩ rfl
  case body =>
    rintro l pre x ac W hl ⟨r, hr⟩ ⟨⟨v, hv, hrow, -⟩, hB⟩ rfl hlt
    obtain ⟨⟨s, e⟩, hxm⟩ := x
    have hse : s = e.p ∧ e ∈ es := by
      have h := hxm
      rw [toldM_all T, List.mem_map] at h
      obtain ⟨e', h1, h2⟩ := h
      injection h2 with h2 h3
      subst h3
      exact ⟨h2.symm, h1⟩
    obtain ⟨hse, hme⟩ := hse
    subst hse
    have hpl : (marksL pre).length = pre.length := by unfold marksL; rw [List.length_map]
    have HV := hidE hv
    have HRow := hidE hrow
    have hcv := hv.cell
    have hvl := hv.lt
    obtain ⟨tm, um, fm, hsg, hm, hcf, hmk⟩ := mark_of (T.kind e hme) (HPL.out e hme)
    have HMK := hidE hmk
    clear hrow hv hmk
    dsimp only
    rw [hsg]
    have hff : ∀ f, Fence.wide.fn f := fun _ => trivial
    have hbl : (marksL pre).length ≤ 2000 := by omega
    clear hpl
    have hcvd : W.drew.cell? ⟨w.heap.size + 1, 0, none⟩ = some v := hcv
    gi_wp2
    refine wpIn_region_any (by kernel_rfl) ?_
    change wpAnyIn _ _ _ _ _ _ _ _ _ (World.drew _)
    refine wpAnyIn_ready (rs := [0, 1, 2]) (by kernel_rfl) (by simp) ?_
    refine AllReadyIn.cons rfl (fun K hK => ?_) ?_
    · go_simp
      refine hK _ _ ?_
      clear hK K
      refine wpAnyIn_ready (rs := [1, 2]) (by kernel_rfl) (by simp) ?_
      refine AllReadyIn.cons rfl (fun K hK => ?_) ?_
      · go_simp
        refine hK _ _ ?_
        clear hK K
        refine wpAnyIn_ready (rs := [2]) (by kernel_rfl) (by simp) ?_
        refine AllReadyIn.cons rfl (fun K hK => ?_) ?_
        · go_simp
          refine hK _ _ ?_
          clear hK K
          refine wpAnyIn_ready (rs := [3]) (by kernel_rfl) (by simp) ?_
          refine AllReadyIn.cons rfl (fun K hK => ?_) ?_
          · go_simp
            gi_wp2_with ((refine (CallsIn.inRound l (callsIn_wide.2 (HMK.out _ _))).mono ?_; rintro e4 w4 ⟨rfl, hB4⟩; have hS : Hid (Below W.heap.size W w4) := hidE (((Below.refl _ W).drew).trans hB4); have hc4 := below_cell hS.out hcv; have hc4' := fun o => cellOn o hc4; have HV4 : Hid (Boxed w4 (w.heap.size + 1) 26 v) := hidE ((hS.out.block _ hvl).trans HV.out); have HR4 := hidE (row_belowM HRow.out hS.out); have hz4 := hS.out.size; clear hB4; obtain ⟨v', w5, hr5, hown', hgrow, hnil, hat⟩ := run_append_own_at (P := Tryz.prog) (w4.alloc (.cells #[.string e.p, .int .i64 e.d, .string e.x] 43)) (w.heap.size + 1) 26 26 43 i0 _ 3 40 Tryz.underlying26 hi hi0 hi1 hi2 rfl (by decide) v _ _ (HR4.out.alloc _) ⟨w4.heap.size, 0, none⟩ 1 1 (cellsE e) rfl (cells_new w4 e) rowE_one' (by unfold maxLen; omega) (by omega) (by simp; omega); obtain ⟨hv1, hv2, hr2, hk2, hb2⟩ := HV4.out.appended (by decide) HR4.out (by omega) (Nat.le_refl _) hown' hgrow; have hKp := KpT.appended HV4.out (by decide) HR4.out (by omega) (Nat.le_refl _) hown' hgrow hat; obtain ⟨g5, cap5, rfl⟩ := ownsRow_succ hown'; have hc1 := hv1.cell; have hf1 := hv1.frozen))
            refine wpAnyIn_ready (rs := [4]) (by kernel_rfl) (by simp) ?_
            refine AllReadyIn.cons rfl (fun K hK => ?_) ?_
            · go_simp
              refine hK _ _ ?_
              clear hK K
              refine wpAnyIn_ready (rs := [5]) (by kernel_rfl) (by simp) ?_
              refine ready_append _ _ _ _ rfl (by kernel_rfl) rfl hr5 ?_
              refine wpAnyIn_ready (rs := [6]) (by kernel_rfl) (by simp) ?_
              refine AllReadyIn.cons rfl (fun K hK => ?_) AllReadyIn.nil
              go_simp
              refine hK _ _ ?_
              clear hK K
              refine wpAnyIn_done (by kernel_rfl) ?_ _
              gi_wp2
              refine ⟨(keepsBM hS.out).trans (hk2.from _), (kpt_of hS.out hvl).t hKp, ⟨_, hv2, ?_, trivial⟩, (hB.trans (hS.out.mono (Nat.le_of_lt hvl))).trans hb2⟩
              rw [marksL_snoc]
              exact OwnE.push hr2
            exact AllReadyIn.nil
          exact AllReadyIn.nil
        exact AllReadyIn.nil
      refine AllReadyIn.cons rfl (fun K hK => ?_) ?_
      · go_simp
        refine hK _ _ ?_
        clear hK K
        refine wpAnyIn_ready (rs := [1]) (by kernel_rfl) (by simp) ?_
        refine AllReadyIn.cons rfl (fun K hK => ?_) ?_
        · go_simp
          refine hK _ _ ?_
          clear hK K
          refine wpAnyIn_ready (rs := [3]) (by kernel_rfl) (by simp) ?_
          refine AllReadyIn.cons rfl (fun K hK => ?_) ?_
          · go_simp
            gi_wp2_with ((refine (CallsIn.inRound l (callsIn_wide.2 (HMK.out _ _))).mono ?_; rintro e4 w4 ⟨rfl, hB4⟩; have hS : Hid (Below W.heap.size W w4) := hidE (((Below.refl _ W).drew).trans hB4); have hc4 := below_cell hS.out hcv; have hc4' := fun o => cellOn o hc4; have HV4 : Hid (Boxed w4 (w.heap.size + 1) 26 v) := hidE ((hS.out.block _ hvl).trans HV.out); have HR4 := hidE (row_belowM HRow.out hS.out); have hz4 := hS.out.size; clear hB4; obtain ⟨v', w5, hr5, hown', hgrow, hnil, hat⟩ := run_append_own_at (P := Tryz.prog) (w4.alloc (.cells #[.string e.p, .int .i64 e.d, .string e.x] 43)) (w.heap.size + 1) 26 26 43 i0 _ 3 40 Tryz.underlying26 hi hi0 hi1 hi2 rfl (by decide) v _ _ (HR4.out.alloc _) ⟨w4.heap.size, 0, none⟩ 1 1 (cellsE e) rfl (cells_new w4 e) rowE_one' (by unfold maxLen; omega) (by omega) (by simp; omega); obtain ⟨hv1, hv2, hr2, hk2, hb2⟩ := HV4.out.appended (by decide) HR4.out (by omega) (Nat.le_refl _) hown' hgrow; have hKp := KpT.appended HV4.out (by decide) HR4.out (by omega) (Nat.le_refl _) hown' hgrow hat; obtain ⟨g5, cap5, rfl⟩ := ownsRow_succ hown'; have hc1 := hv1.cell; have hf1 := hv1.frozen))
            refine wpAnyIn_ready (rs := [4]) (by kernel_rfl) (by simp) ?_
            refine AllReadyIn.cons rfl (fun K hK => ?_) ?_
            · go_simp
              refine hK _ _ ?_
              clear hK K
              refine wpAnyIn_ready (rs := [5]) (by kernel_rfl) (by simp) ?_
              refine ready_append _ _ _ _ rfl (by kernel_rfl) rfl hr5 ?_
              refine wpAnyIn_ready (rs := [6]) (by kernel_rfl) (by simp) ?_
              refine AllReadyIn.cons rfl (fun K hK => ?_) AllReadyIn.nil
              go_simp
              refine hK _ _ ?_
              clear hK K
              refine wpAnyIn_done (by kernel_rfl) ?_ _
              gi_wp2
              refine ⟨(keepsBM hS.out).trans (hk2.from _), (kpt_of hS.out hvl).t hKp, ⟨_, hv2, ?_, trivial⟩, (hB.trans (hS.out.mono (Nat.le_of_lt hvl))).trans hb2⟩
              rw [marksL_snoc]
              exact OwnE.push hr2
            exact AllReadyIn.nil
          exact AllReadyIn.nil
        exact AllReadyIn.nil
      exact AllReadyIn.nil
    refine AllReadyIn.cons rfl (fun K hK => ?_) ?_
    · go_simp
      refine hK _ _ ?_
      clear hK K
      refine wpAnyIn_ready (rs := [0, 2]) (by kernel_rfl) (by simp) ?_
      refine AllReadyIn.cons rfl (fun K hK => ?_) ?_
      · go_simp
        refine hK _ _ ?_
        clear hK K
        refine wpAnyIn_ready (rs := [2]) (by kernel_rfl) (by simp) ?_
        refine AllReadyIn.cons rfl (fun K hK => ?_) ?_
        · go_simp
          refine hK _ _ ?_
          clear hK K
          refine wpAnyIn_ready (rs := [3]) (by kernel_rfl) (by simp) ?_
          refine AllReadyIn.cons rfl (fun K hK => ?_) ?_
          · go_simp
            gi_wp2_with ((refine (CallsIn.inRound l (callsIn_wide.2 (HMK.out _ _))).mono ?_; rintro e4 w4 ⟨rfl, hB4⟩; have hS : Hid (Below W.heap.size W w4) := hidE (((Below.refl _ W).drew).trans hB4); have hc4 := below_cell hS.out hcv; have hc4' := fun o => cellOn o hc4; have HV4 : Hid (Boxed w4 (w.heap.size + 1) 26 v) := hidE ((hS.out.block _ hvl).trans HV.out); have HR4 := hidE (row_belowM HRow.out hS.out); have hz4 := hS.out.size; clear hB4; obtain ⟨v', w5, hr5, hown', hgrow, hnil, hat⟩ := run_append_own_at (P := Tryz.prog) (w4.alloc (.cells #[.string e.p, .int .i64 e.d, .string e.x] 43)) (w.heap.size + 1) 26 26 43 i0 _ 3 40 Tryz.underlying26 hi hi0 hi1 hi2 rfl (by decide) v _ _ (HR4.out.alloc _) ⟨w4.heap.size, 0, none⟩ 1 1 (cellsE e) rfl (cells_new w4 e) rowE_one' (by unfold maxLen; omega) (by omega) (by simp; omega); obtain ⟨hv1, hv2, hr2, hk2, hb2⟩ := HV4.out.appended (by decide) HR4.out (by omega) (Nat.le_refl _) hown' hgrow; have hKp := KpT.appended HV4.out (by decide) HR4.out (by omega) (Nat.le_refl _) hown' hgrow hat; obtain ⟨g5, cap5, rfl⟩ := ownsRow_succ hown'; have hc1 := hv1.cell; have hf1 := hv1.frozen))
            refine wpAnyIn_ready (rs := [4]) (by kernel_rfl) (by simp) ?_
            refine AllReadyIn.cons rfl (fun K hK => ?_) ?_
            · go_simp
              refine hK _ _ ?_
              clear hK K
              refine wpAnyIn_ready (rs := [5]) (by kernel_rfl) (by simp) ?_
              refine ready_append _ _ _ _ rfl (by kernel_rfl) rfl hr5 ?_
              refine wpAnyIn_ready (rs := [6]) (by kernel_rfl) (by simp) ?_
              refine AllReadyIn.cons rfl (fun K hK => ?_) AllReadyIn.nil
              go_simp
              refine hK _ _ ?_
              clear hK K
              refine wpAnyIn_done (by kernel_rfl) ?_ _
              gi_wp2
              refine ⟨(keepsBM hS.out).trans (hk2.from _), (kpt_of hS.out hvl).t hKp, ⟨_, hv2, ?_, trivial⟩, (hB.trans (hS.out.mono (Nat.le_of_lt hvl))).trans hb2⟩
              rw [marksL_snoc]
              exact OwnE.push hr2
            exact AllReadyIn.nil
          exact AllReadyIn.nil
        exact AllReadyIn.nil
      refine AllReadyIn.cons rfl (fun K hK => ?_) ?_
      · go_simp
        refine hK _ _ ?_
        clear hK K
        refine wpAnyIn_ready (rs := [0, 3]) (by kernel_rfl) (by simp) ?_
        refine AllReadyIn.cons rfl (fun K hK => ?_) ?_
        · go_simp
          refine hK _ _ ?_
          clear hK K
          refine wpAnyIn_ready (rs := [3]) (by kernel_rfl) (by simp) ?_
          refine AllReadyIn.cons rfl (fun K hK => ?_) ?_
          · go_simp
            gi_wp2_with ((refine (CallsIn.inRound l (callsIn_wide.2 (HMK.out _ _))).mono ?_; rintro e4 w4 ⟨rfl, hB4⟩; have hS : Hid (Below W.heap.size W w4) := hidE (((Below.refl _ W).drew).trans hB4); have hc4 := below_cell hS.out hcv; have hc4' := fun o => cellOn o hc4; have HV4 : Hid (Boxed w4 (w.heap.size + 1) 26 v) := hidE ((hS.out.block _ hvl).trans HV.out); have HR4 := hidE (row_belowM HRow.out hS.out); have hz4 := hS.out.size; clear hB4; obtain ⟨v', w5, hr5, hown', hgrow, hnil, hat⟩ := run_append_own_at (P := Tryz.prog) (w4.alloc (.cells #[.string e.p, .int .i64 e.d, .string e.x] 43)) (w.heap.size + 1) 26 26 43 i0 _ 3 40 Tryz.underlying26 hi hi0 hi1 hi2 rfl (by decide) v _ _ (HR4.out.alloc _) ⟨w4.heap.size, 0, none⟩ 1 1 (cellsE e) rfl (cells_new w4 e) rowE_one' (by unfold maxLen; omega) (by omega) (by simp; omega); obtain ⟨hv1, hv2, hr2, hk2, hb2⟩ := HV4.out.appended (by decide) HR4.out (by omega) (Nat.le_refl _) hown' hgrow; have hKp := KpT.appended HV4.out (by decide) HR4.out (by omega) (Nat.le_refl _) hown' hgrow hat; obtain ⟨g5, cap5, rfl⟩ := ownsRow_succ hown'; have hc1 := hv1.cell; have hf1 := hv1.frozen))
            refine wpAnyIn_ready (rs := [4]) (by kernel_rfl) (by simp) ?_
            refine AllReadyIn.cons rfl (fun K hK => ?_) ?_
            · go_simp
              refine hK _ _ ?_
              clear hK K
              refine wpAnyIn_ready (rs := [5]) (by kernel_rfl) (by simp) ?_
              refine ready_append _ _ _ _ rfl (by kernel_rfl) rfl hr5 ?_
              refine wpAnyIn_ready (rs := [6]) (by kernel_rfl) (by simp) ?_
              refine AllReadyIn.cons rfl (fun K hK => ?_) AllReadyIn.nil
              go_simp
              refine hK _ _ ?_
              clear hK K
              refine wpAnyIn_done (by kernel_rfl) ?_ _
              gi_wp2
              refine ⟨(keepsBM hS.out).trans (hk2.from _), (kpt_of hS.out hvl).t hKp, ⟨_, hv2, ?_, trivial⟩, (hB.trans (hS.out.mono (Nat.le_of_lt hvl))).trans hb2⟩
              rw [marksL_snoc]
              exact OwnE.push hr2
            exact AllReadyIn.nil
          exact AllReadyIn.nil
        refine AllReadyIn.cons rfl (fun K hK => ?_) ?_
        · go_simp
          gi_wp2_with ((refine (CallsIn.inRound l (callsIn_wide.2 (HMK.out _ _))).mono ?_; rintro e4 w4 ⟨rfl, hB4⟩; have hS : Hid (Below W.heap.size W w4) := hidE (((Below.refl _ W).drew).trans hB4); have hc4 := below_cell hS.out hcv; have hc4' := fun o => cellOn o hc4; have HV4 : Hid (Boxed w4 (w.heap.size + 1) 26 v) := hidE ((hS.out.block _ hvl).trans HV.out); have HR4 := hidE (row_belowM HRow.out hS.out); have hz4 := hS.out.size; clear hB4; obtain ⟨v', w5, hr5, hown', hgrow, hnil, hat⟩ := run_append_own_at (P := Tryz.prog) (w4.alloc (.cells #[.string e.p, .int .i64 e.d, .string e.x] 43)) (w.heap.size + 1) 26 26 43 i0 _ 3 40 Tryz.underlying26 hi hi0 hi1 hi2 rfl (by decide) v _ _ (HR4.out.alloc _) ⟨w4.heap.size, 0, none⟩ 1 1 (cellsE e) rfl (cells_new w4 e) rowE_one' (by unfold maxLen; omega) (by omega) (by simp; omega); obtain ⟨hv1, hv2, hr2, hk2, hb2⟩ := HV4.out.appended (by decide) HR4.out (by omega) (Nat.le_refl _) hown' hgrow; have hKp := KpT.appended HV4.out (by decide) HR4.out (by omega) (Nat.le_refl _) hown' hgrow hat; obtain ⟨g5, cap5, rfl⟩ := ownsRow_succ hown'; have hc1 := hv1.cell; have hf1 := hv1.frozen))
          refine wpAnyIn_ready (rs := [0, 4]) (by kernel_rfl) (by simp) ?_
          refine AllReadyIn.cons rfl (fun K hK => ?_) ?_
          · go_simp
            refine hK _ _ ?_
            clear hK K
            refine wpAnyIn_ready (rs := [4]) (by kernel_rfl) (by simp) ?_
            refine AllReadyIn.cons rfl (fun K hK => ?_) ?_
            · go_simp
              refine hK _ _ ?_
              clear hK K
              refine wpAnyIn_ready (rs := [5]) (by kernel_rfl) (by simp) ?_
              refine ready_append _ _ _ _ rfl (by kernel_rfl) rfl hr5 ?_
              refine wpAnyIn_ready (rs := [6]) (by kernel_rfl) (by simp) ?_
              refine AllReadyIn.cons rfl (fun K hK => ?_) AllReadyIn.nil
              go_simp
              refine hK _ _ ?_
              clear hK K
              refine wpAnyIn_done (by kernel_rfl) ?_ _
              gi_wp2
              refine ⟨(keepsBM hS.out).trans (hk2.from _), (kpt_of hS.out hvl).t hKp, ⟨_, hv2, ?_, trivial⟩, (hB.trans (hS.out.mono (Nat.le_of_lt hvl))).trans hb2⟩
              rw [marksL_snoc]
              exact OwnE.push hr2
            exact AllReadyIn.nil
          refine AllReadyIn.cons rfl (fun K hK => ?_) ?_
          · go_simp
            refine hK _ _ ?_
            clear hK K
            refine wpAnyIn_ready (rs := [0]) (by kernel_rfl) (by simp) ?_
            refine AllReadyIn.cons rfl (fun K hK => ?_) ?_
            · go_simp
              refine hK _ _ ?_
              clear hK K
              refine wpAnyIn_ready (rs := [5]) (by kernel_rfl) (by simp) ?_
              refine ready_append _ _ _ _ rfl (by kernel_rfl) rfl hr5 ?_
              refine wpAnyIn_ready (rs := [6]) (by kernel_rfl) (by simp) ?_
              refine AllReadyIn.cons rfl (fun K hK => ?_) AllReadyIn.nil
              go_simp
              refine hK _ _ ?_
              clear hK K
              refine wpAnyIn_done (by kernel_rfl) ?_ _
              gi_wp2
              refine ⟨(keepsBM hS.out).trans (hk2.from _), (kpt_of hS.out hvl).t hKp, ⟨_, hv2, ?_, trivial⟩, (hB.trans (hS.out.mono (Nat.le_of_lt hvl))).trans hb2⟩
              rw [marksL_snoc]
              exact OwnE.push hr2
            exact AllReadyIn.nil
          exact AllReadyIn.nil
        exact AllReadyIn.nil
      exact AllReadyIn.nil
    refine AllReadyIn.cons rfl (fun K hK => ?_) ?_
    · go_simp
      refine hK _ _ ?_
      clear hK K
      refine wpAnyIn_ready (rs := [0, 1]) (by kernel_rfl) (by simp) ?_
      refine AllReadyIn.cons rfl (fun K hK => ?_) ?_
      · go_simp
        refine hK _ _ ?_
        clear hK K
        refine wpAnyIn_ready (rs := [1]) (by kernel_rfl) (by simp) ?_
        refine AllReadyIn.cons rfl (fun K hK => ?_) ?_
        · go_simp
          refine hK _ _ ?_
          clear hK K
          refine wpAnyIn_ready (rs := [3]) (by kernel_rfl) (by simp) ?_
          refine AllReadyIn.cons rfl (fun K hK => ?_) ?_
          · go_simp
            gi_wp2_with ((refine (CallsIn.inRound l (callsIn_wide.2 (HMK.out _ _))).mono ?_; rintro e4 w4 ⟨rfl, hB4⟩; have hS : Hid (Below W.heap.size W w4) := hidE (((Below.refl _ W).drew).trans hB4); have hc4 := below_cell hS.out hcv; have hc4' := fun o => cellOn o hc4; have HV4 : Hid (Boxed w4 (w.heap.size + 1) 26 v) := hidE ((hS.out.block _ hvl).trans HV.out); have HR4 := hidE (row_belowM HRow.out hS.out); have hz4 := hS.out.size; clear hB4; obtain ⟨v', w5, hr5, hown', hgrow, hnil, hat⟩ := run_append_own_at (P := Tryz.prog) (w4.alloc (.cells #[.string e.p, .int .i64 e.d, .string e.x] 43)) (w.heap.size + 1) 26 26 43 i0 _ 3 40 Tryz.underlying26 hi hi0 hi1 hi2 rfl (by decide) v _ _ (HR4.out.alloc _) ⟨w4.heap.size, 0, none⟩ 1 1 (cellsE e) rfl (cells_new w4 e) rowE_one' (by unfold maxLen; omega) (by omega) (by simp; omega); obtain ⟨hv1, hv2, hr2, hk2, hb2⟩ := HV4.out.appended (by decide) HR4.out (by omega) (Nat.le_refl _) hown' hgrow; have hKp := KpT.appended HV4.out (by decide) HR4.out (by omega) (Nat.le_refl _) hown' hgrow hat; obtain ⟨g5, cap5, rfl⟩ := ownsRow_succ hown'; have hc1 := hv1.cell; have hf1 := hv1.frozen))
            refine wpAnyIn_ready (rs := [4]) (by kernel_rfl) (by simp) ?_
            refine AllReadyIn.cons rfl (fun K hK => ?_) ?_
            · go_simp
              refine hK _ _ ?_
              clear hK K
              refine wpAnyIn_ready (rs := [5]) (by kernel_rfl) (by simp) ?_
              refine ready_append _ _ _ _ rfl (by kernel_rfl) rfl hr5 ?_
              refine wpAnyIn_ready (rs := [6]) (by kernel_rfl) (by simp) ?_
              refine AllReadyIn.cons rfl (fun K hK => ?_) AllReadyIn.nil
              go_simp
              refine hK _ _ ?_
              clear hK K
              refine wpAnyIn_done (by kernel_rfl) ?_ _
              gi_wp2
              refine ⟨(keepsBM hS.out).trans (hk2.from _), (kpt_of hS.out hvl).t hKp, ⟨_, hv2, ?_, trivial⟩, (hB.trans (hS.out.mono (Nat.le_of_lt hvl))).trans hb2⟩
              rw [marksL_snoc]
              exact OwnE.push hr2
            exact AllReadyIn.nil
          exact AllReadyIn.nil
        exact AllReadyIn.nil
      refine AllReadyIn.cons rfl (fun K hK => ?_) ?_
      · go_simp
        refine hK _ _ ?_
        clear hK K
        refine wpAnyIn_ready (rs := [0, 3]) (by kernel_rfl) (by simp) ?_
        refine AllReadyIn.cons rfl (fun K hK => ?_) ?_
        · go_simp
          refine hK _ _ ?_
          clear hK K
          refine wpAnyIn_ready (rs := [3]) (by kernel_rfl) (by simp) ?_
          refine AllReadyIn.cons rfl (fun K hK => ?_) ?_
          · go_simp
            gi_wp2_with ((refine (CallsIn.inRound l (callsIn_wide.2 (HMK.out _ _))).mono ?_; rintro e4 w4 ⟨rfl, hB4⟩; have hS : Hid (Below W.heap.size W w4) := hidE (((Below.refl _ W).drew).trans hB4); have hc4 := below_cell hS.out hcv; have hc4' := fun o => cellOn o hc4; have HV4 : Hid (Boxed w4 (w.heap.size + 1) 26 v) := hidE ((hS.out.block _ hvl).trans HV.out); have HR4 := hidE (row_belowM HRow.out hS.out); have hz4 := hS.out.size; clear hB4; obtain ⟨v', w5, hr5, hown', hgrow, hnil, hat⟩ := run_append_own_at (P := Tryz.prog) (w4.alloc (.cells #[.string e.p, .int .i64 e.d, .string e.x] 43)) (w.heap.size + 1) 26 26 43 i0 _ 3 40 Tryz.underlying26 hi hi0 hi1 hi2 rfl (by decide) v _ _ (HR4.out.alloc _) ⟨w4.heap.size, 0, none⟩ 1 1 (cellsE e) rfl (cells_new w4 e) rowE_one' (by unfold maxLen; omega) (by omega) (by simp; omega); obtain ⟨hv1, hv2, hr2, hk2, hb2⟩ := HV4.out.appended (by decide) HR4.out (by omega) (Nat.le_refl _) hown' hgrow; have hKp := KpT.appended HV4.out (by decide) HR4.out (by omega) (Nat.le_refl _) hown' hgrow hat; obtain ⟨g5, cap5, rfl⟩ := ownsRow_succ hown'; have hc1 := hv1.cell; have hf1 := hv1.frozen))
            refine wpAnyIn_ready (rs := [4]) (by kernel_rfl) (by simp) ?_
            refine AllReadyIn.cons rfl (fun K hK => ?_) ?_
            · go_simp
              refine hK _ _ ?_
              clear hK K
              refine wpAnyIn_ready (rs := [5]) (by kernel_rfl) (by simp) ?_
              refine ready_append _ _ _ _ rfl (by kernel_rfl) rfl hr5 ?_
              refine wpAnyIn_ready (rs := [6]) (by kernel_rfl) (by simp) ?_
              refine AllReadyIn.cons rfl (fun K hK => ?_) AllReadyIn.nil
              go_simp
              refine hK _ _ ?_
              clear hK K
              refine wpAnyIn_done (by kernel_rfl) ?_ _
              gi_wp2
              refine ⟨(keepsBM hS.out).trans (hk2.from _), (kpt_of hS.out hvl).t hKp, ⟨_, hv2, ?_, trivial⟩, (hB.trans (hS.out.mono (Nat.le_of_lt hvl))).trans hb2⟩
              rw [marksL_snoc]
              exact OwnE.push hr2
            exact AllReadyIn.nil
          exact AllReadyIn.nil
        refine AllReadyIn.cons rfl (fun K hK => ?_) ?_
        · go_simp
          gi_wp2_with ((refine (CallsIn.inRound l (callsIn_wide.2 (HMK.out _ _))).mono ?_; rintro e4 w4 ⟨rfl, hB4⟩; have hS : Hid (Below W.heap.size W w4) := hidE (((Below.refl _ W).drew).trans hB4); have hc4 := below_cell hS.out hcv; have hc4' := fun o => cellOn o hc4; have HV4 : Hid (Boxed w4 (w.heap.size + 1) 26 v) := hidE ((hS.out.block _ hvl).trans HV.out); have HR4 := hidE (row_belowM HRow.out hS.out); have hz4 := hS.out.size; clear hB4; obtain ⟨v', w5, hr5, hown', hgrow, hnil, hat⟩ := run_append_own_at (P := Tryz.prog) (w4.alloc (.cells #[.string e.p, .int .i64 e.d, .string e.x] 43)) (w.heap.size + 1) 26 26 43 i0 _ 3 40 Tryz.underlying26 hi hi0 hi1 hi2 rfl (by decide) v _ _ (HR4.out.alloc _) ⟨w4.heap.size, 0, none⟩ 1 1 (cellsE e) rfl (cells_new w4 e) rowE_one' (by unfold maxLen; omega) (by omega) (by simp; omega); obtain ⟨hv1, hv2, hr2, hk2, hb2⟩ := HV4.out.appended (by decide) HR4.out (by omega) (Nat.le_refl _) hown' hgrow; have hKp := KpT.appended HV4.out (by decide) HR4.out (by omega) (Nat.le_refl _) hown' hgrow hat; obtain ⟨g5, cap5, rfl⟩ := ownsRow_succ hown'; have hc1 := hv1.cell; have hf1 := hv1.frozen))
          refine wpAnyIn_ready (rs := [0, 4]) (by kernel_rfl) (by simp) ?_
          refine AllReadyIn.cons rfl (fun K hK => ?_) ?_
          · go_simp
            refine hK _ _ ?_
            clear hK K
            refine wpAnyIn_ready (rs := [4]) (by kernel_rfl) (by simp) ?_
            refine AllReadyIn.cons rfl (fun K hK => ?_) ?_
            · go_simp
              refine hK _ _ ?_
              clear hK K
              refine wpAnyIn_ready (rs := [5]) (by kernel_rfl) (by simp) ?_
              refine ready_append _ _ _ _ rfl (by kernel_rfl) rfl hr5 ?_
              refine wpAnyIn_ready (rs := [6]) (by kernel_rfl) (by simp) ?_
              refine AllReadyIn.cons rfl (fun K hK => ?_) AllReadyIn.nil
              go_simp
              refine hK _ _ ?_
              clear hK K
              refine wpAnyIn_done (by kernel_rfl) ?_ _
              gi_wp2
              refine ⟨(keepsBM hS.out).trans (hk2.from _), (kpt_of hS.out hvl).t hKp, ⟨_, hv2, ?_, trivial⟩, (hB.trans (hS.out.mono (Nat.le_of_lt hvl))).trans hb2⟩
              rw [marksL_snoc]
              exact OwnE.push hr2
            exact AllReadyIn.nil
          refine AllReadyIn.cons rfl (fun K hK => ?_) ?_
          · go_simp
            refine hK _ _ ?_
            clear hK K
            refine wpAnyIn_ready (rs := [0]) (by kernel_rfl) (by simp) ?_
            refine AllReadyIn.cons rfl (fun K hK => ?_) ?_
            · go_simp
              refine hK _ _ ?_
              clear hK K
              refine wpAnyIn_ready (rs := [5]) (by kernel_rfl) (by simp) ?_
              refine ready_append _ _ _ _ rfl (by kernel_rfl) rfl hr5 ?_
              refine wpAnyIn_ready (rs := [6]) (by kernel_rfl) (by simp) ?_
              refine AllReadyIn.cons rfl (fun K hK => ?_) AllReadyIn.nil
              go_simp
              refine hK _ _ ?_
              clear hK K
              refine wpAnyIn_done (by kernel_rfl) ?_ _
              gi_wp2
              refine ⟨(keepsBM hS.out).trans (hk2.from _), (kpt_of hS.out hvl).t hKp, ⟨_, hv2, ?_, trivial⟩, (hB.trans (hS.out.mono (Nat.le_of_lt hvl))).trans hb2⟩
              rw [marksL_snoc]
              exact OwnE.push hr2
            exact AllReadyIn.nil
          exact AllReadyIn.nil
        exact AllReadyIn.nil
      exact AllReadyIn.nil
    exact AllReadyIn.nil
  case done =>
    rintro D xs W hD hxs ⟨⟨v, hv, hrow, -⟩, hB⟩ hK
    rw [marksL_all T hxs] at hrow
    have hc := hv.cell
    have hrow6 := ownsRow_putObj hrow (.deferred none) hK rfl
    have hBf : Below w.heap.size w (W.putObj D (.deferred none)) := (hB0.trans (hB.mono (by omega))).trans (below_putM (by omega) _)
    have HR6 := hidE hrow6
    clear hrow hrow6
    gi_wp2
    refine ⟨by simp, .inl ⟨_, _, rfl, run_takeDeferred hK, ?_⟩⟩
    exact ⟨_, results_tmp rfl _ _ _, v, rfl, row_lowM HR6.out (by omega), hBf⟩
  case stop =>
    rintro D c pre W _ _ h _
    exact h.elim
end Go.Proofs.YtkjpmngohocmlabGreatDoor.Mk

/-
  The walk of the program's own: two layers joined, as they stand.
-/
namespace Go.Proofs.YtkjpmngohocmlabGreatDoor.Mk
open Go.RowKit Go.Shelf Go.Lib Go.Maps

attribute [local go_sem] Oper.semAt_some

/-- What the loops of join keep in mind. -/
structure JnI (w W : World) (bx aj : Nat) (rA rB : Nat) (n : Nat) (l : List E) : Prop where
  rep : ∃ J : ByteArray → Nat, J ⟨#[47]⟩ = aj ∧ Rep W w.heap.size n l J
  below : Below w.heap.size w W
  x1 : Box2 W w.heap.size (.iface 119 (.agg #[])) (.map (some rA))
  x2 : Box2 W (w.heap.size + 1) (.iface 119 (.agg #[])) (.map (some rB))
  x3 : Box2 W (w.heap.size + 2) .nilIface (.map none)
  x5 : Box2 W bx (.iface 119 (.agg #[])) (.map (some aj))
theorem JnI.bel {w W W' : World} {bx aj rA rB n : Nat} {l : List E} (h : JnI w W bx aj rA rB n l) (hB : Below W.heap.size W W') : JnI w W' bx aj rA rB n l := by
  obtain ⟨⟨J, h1, h2⟩, h3, h4, h5, h6, h7⟩ := h
  exact ⟨⟨J, h1, h2.below hB⟩, h3.trans (hB.mono h3.size), h4.below hB, h5.below hB, h6.below hB, h7.below hB⟩
theorem JnI.own {β : Type} {w : World} {B bx aj rA rB : Nat} (hB : w.heap.size ≤ B) (n : β → Nat) (l : β → List E) : OwnL B (fun s W => JnI w W bx aj rA rB (n s) (l s)) := fun s W W' row h hg hr => by
  obtain ⟨⟨J, h1, h2⟩, h3, h4, h5, h6, h7⟩ := h
  have hk := keepsA_of hg (fun r e => (hr r e).2)
  exact ⟨⟨J, h1, h2.keepsA hk⟩, h3.grown hg h3.size (fun q e => Nat.le_trans hB (hr q e).1), h4.keepsA hk, h5.keepsA hk, h6.keepsA hk, h7.keepsA hk⟩
theorem JnI.put {w W W' : World} {bx aj rA rB n n' : Nat} {l l' : List E} (h : JnI w W bx aj rA rB n l) (hT : Turn w.heap.size W W') (hR : ∃ J : ByteArray → Nat, J ⟨#[47]⟩ = aj ∧ Rep W' w.heap.size n' l' J) : JnI w W' bx aj rA rB n' l' :=
  ⟨hR, h.below.trans hT.below, h.x1.turn hT, h.x2.turn hT, h.x3.turn hT, h.x5.turn hT⟩
theorem cov_free {a : List E} (A : TrM a) (m : E) : Ly.covM a m.p = !Ly.freeM a m := by
  have h1 := Ly.free_iff A m
  unfold Ly.covM
  cases hl : lookE a m.p with
  | some k =>
    have : Ly.freeM a m = false := by
      cases q : Ly.freeM a m with
      | false => rfl
      | true => rw [(h1.1 q).2] at hl; cases hl
    rw [this]; rfl
  | none =>
    rw [hl] at h1
    cases hh : hidesM a m.p with
    | true =>
      have : Ly.freeM a m = false := by
        cases q : Ly.freeM a m with
        | false => rfl
        | true => rw [(h1.1 q).1] at hh; cases hh
      rw [this]; rfl
    | false => rw [h1.2 ⟨hh, rfl⟩]; rfl
theorem told_pre {es : List E} (T : TrM es) {pre : List (ItemM (toldM es ⟨#[47]⟩ ⟨#[]⟩))} {x : ItemM (toldM es ⟨#[47]⟩ ⟨#[]⟩)} (h : (pre ++ [x]).map Subtype.val <+: toldM es ⟨#[47]⟩ ⟨#[]⟩) : marksL pre ++ [x.1.2] <+: es := by
  have h1 : marksL (pre ++ [x]) = ((pre ++ [x]).map Subtype.val).map Prod.snd := by unfold marksL; rw [List.map_map]; rfl
  rw [← marksL_snoc, h1]
  have h2 : es = (toldM es ⟨#[47]⟩ ⟨#[]⟩).map Prod.snd := by rw [toldM_all T, List.map_map]; exact (List.map_id'' (fun _ => rfl) es).symm
  obtain ⟨r, hr⟩ := h
  exact ⟨r.map Prod.snd, by rw [← List.map_append, hr]; exact h2.symm⟩
theorem item_is {es : List E} (T : TrM es) (x : ItemM (toldM es ⟨#[47]⟩ ⟨#[]⟩)) : x.1.1 = x.1.2.p ∧ x.1.2 ∈ es := by
  obtain ⟨⟨s, e⟩, h⟩ := x
  rw [toldM_all T, List.mem_map] at h
  obtain ⟨e', h1, h2⟩ := h
  injection h2 with h2 h3
  subst h3
  exact ⟨h2.symm, h1⟩

set_option maxHeartbeats 4000000 in
set_option maxRecDepth 100000 in
theorem join_any (w : World) (b1 N1 b2 N2 : Nat) (a b : List E) (A B : ByteArray → Nat) (TA : TrM a) (TB : TrM b) (RA : Rep w b1 N1 a A) (RB : Rep w b2 N2 b B) (hN1 : N1 ≤ 1000) (hN2 : N2 ≤ 1000) (ha : a.length ≤ 100) (hb : b.length ≤ 100) :
    Calls Tryz.prog 38 #[layV A, layV B] w fun e w' => ∃ J, e = .returned (layV J) ∧ Below w.heap.size w w' ∧ Rep w' w.heap.size 200 (Ly.joinM a b) J := by
  obtain ⟨W0, hW0⟩ : ∃ W0, W0 = ((w.alloc (.cells #[.iface 119 (.agg #[]), .map (some (A ⟨#[47]⟩))] 65)).alloc (.cells #[.iface 119 (.agg #[]), .map (some (B ⟨#[47]⟩))] 65)).alloc (.cells #[.nilIface, .map none] 65) := ⟨_, rfl⟩
  have hB0 : Below w.heap.size w W0 := by rw [hW0]; exact belowA (belowA (belowA (Below.refl _ w) _) _) _
  have hs0 : W0.heap.size = w.heap.size + 3 := by rw [hW0]; simp
  have X1 : Box2 W0 w.heap.size (.iface 119 (.agg #[])) (.map (some (A ⟨#[47]⟩))) := by rw [hW0]; exact ((Box2.new _ _ _ _).on _).on _
  have X2 : Box2 W0 (w.heap.size + 1) (.iface 119 (.agg #[])) (.map (some (B ⟨#[47]⟩))) := by
    rw [hW0]
    have := (Box2.new (w.alloc (.cells #[.iface 119 (.agg #[]), .map (some (A ⟨#[47]⟩))] 65)) (.iface 119 (.agg #[])) (.map (some (B ⟨#[47]⟩))) 65).on (.cells #[.nilIface, .map none] 65)
    rwa [World.size_alloc] at this
  have X3 : Box2 W0 (w.heap.size + 2) .nilIface (.map none) := by
    rw [hW0]
    have := Box2.new ((w.alloc (.cells #[.iface 119 (.agg #[]), .map (some (A ⟨#[47]⟩))] 65)).alloc (.cells #[.iface 119 (.agg #[]), .map (some (B ⟨#[47]⟩))] 65)) .nilIface (.map none) 65
    rwa [World.size_alloc, World.size_alloc] at this
  refine (callsIn_wide (n := 6)).1 ?_
  refine callsIn_of_wp_marks Tryz.func38 rfl trivial ?_ rfl
  simp only [Tryz.ntmps38, List.size_toArray, List.length_cons, List.length_nil, Nat.reduceAdd, Nat.reduceSub, Array.replicate_succ, Array.replicate_zero, List.push_toArray, List.append_toArray, List.nil_append, List.cons_append]
  gi_wp2_with fail
  rw [← hW0]
  refine ⟨trivial, ?_⟩
  refine (callsIn_wide.2 (newLayer_any _)).mono ?_
  rintro e w1 ⟨⟨aj, haj, rfl, hM1⟩, hB1⟩
  obtain ⟨W1, hW1⟩ : ∃ W1, W1 = w1.alloc (.cells #[.iface 119 (.agg #[]), .map (some aj)] 65) := ⟨_, rfl⟩
  have hsw := hB1.size
  have hB01 : Below W0.heap.size W0 W1 := by rw [hW1]; exact belowA hB1 _
  have hI1 : Hid (JnI w W1 w1.heap.size aj (A ⟨#[47]⟩) (B ⟨#[47]⟩) 0 []) := by
    refine ⟨⟨fun _ => aj, rfl, ?_⟩, belowT hB0 hB01, X1.below hB01, X2.below hB01, X3.below hB01, by rw [hW1]; exact Box2.new _ _ _ _⟩
    exact rep_nil (by omega) (by rw [hW1]; exact hM1.kept (Below.heap_alloc _ _ _ hM1.lt))
  have HRA := hid (fun (W : World) (h : Below w.heap.size w W) => RA.below h)
  have HRB := hid (fun (W : World) (h : Below w.heap.size w W) => RB.below h)
  have HlowA : Hid (∀ p, AtM a p → A p < w.heap.size) := fun p hp => (RA.kids p hp).lt
  have HlowB : Hid (∀ p, AtM b p → B p < w.heap.size) := fun p hp => (RB.kids p hp).lt
  have hs1 : w.heap.size + 3 < W1.heap.size := by rw [hW1]; simp; omega
  have hs11 : w1.heap.size < W1.heap.size := by rw [hW1]; simp
  clear RA RB X1 X2 X3 hB0 hB1 hM1 hW0 hB01
  obtain ⟨y0, y1, y2, y3⟩ := hI1.out.x1
  rw [hW1] at y0 y1
  gi_wp2_with fail
  rw [← hW1]
  refine ⟨trivial, ?_⟩
  refine (callsIn_wide.2 (all_any A _)).mono ?_
  rintro e w2 ⟨rfl, hB2, hb2, d0, d1⟩
  have hI2 := hid (hI1.out.bel hB2)
  have hsW : W1.heap.size = w1.heap.size + 1 := by rw [hW1]; simp
  rw [hsW] at hb2 d0 d1
  have hta : (toldM a ⟨#[47]⟩ ⟨#[]⟩).length = a.length := by rw [toldM_all TA, List.length_map]
  have htb : (toldM b ⟨#[47]⟩ ⟨#[]⟩).length = b.length := by rw [toldM_all TB, List.length_map]
  have hs2 := hB2.size
  clear y0 y1 y2 y3 hI1
  gi_wp2
  refine wpIn_map rfl (by omega) (gf := 110) (lb := #[.pointer (some ⟨w1.heap.size + 1, 0, none⟩)]) rfl trivial (enters_of Tryz.func110 (by kernel_rfl) rfl)
    (allJ_map _ (by omega) a A b1 N1 w.heap.size hN1 (by omega) TA (w1.heap.size + 1) w2 hb2 d0 d1 HlowA.out (HRA.out _ hI2.out.below)) KpM.t (fun W l o o' _ h1 h2 h3 => KpM.b W l o o' h1 h2 h3) (Below.refl _ _) (fun _ => rfl)
    (fun (pre : List (ItemM (toldM a ⟨#[47]⟩ ⟨#[]⟩))) W => JnI w W w1.heap.size aj (A ⟨#[47]⟩) (B ⟨#[47]⟩) pre.length (Ly.upA b (marksL pre)))
    (fun _ _ _ => False)
    (JnI.own (by omega) _ _) (fun _ _ _ _ _ hs _ _ => hs) hI2.out
    (fun x ac _ => ac = { tmps := #[layV A, layV B, .pointer (some ⟨w.heap.size, 0, none⟩), .pointer (some ⟨w.heap.size + 1, 0, none⟩), .pointer (some ⟨w.heap.size + 1 + 1, 0, none⟩), .pointer (some ⟨w1.heap.size, 0, none⟩), .string x.1.1, signV x.1.2.d x.1.2.x, undef, undef, undef, undef, .agg #[.iface 119 (.agg #[]), .map (some aj)], layV A, .func (.func 110) #[] #[.pointer (some ⟨w1.heap.size + 1, 0, none⟩)], .string x.1.1, signV x.1.2.d x.1.2.x, undef, undef, undef, undef, undef, undef, undef, undef, undef, undef, undef, undef, undef, undef, undef, undef, undef, undef, undef, undef, undef, undef, undef, undef, undef, undef, undef, undef, undef, undef, undef, undef, undef, undef, undef, undef], defers := [] })
    (fun _ _ _ _ _ _ hs _ _ => hs)
    ?assign ?body ?done ?stop
  case stop =>
    rintro D c pre W _ _ h _
    exact h.elim
  case assign =>
    rintro l pre x W K hI hK
    gi_wp2
    exact hK _ _ ⟨Nat.le_refl _, fun _ _ _ h _ _ => h⟩ (KpM.of (Below.refl _ W)) hI rfl
  case body =>
    rintro l pre x ac W hl hI hsp rfl hlt
    obtain ⟨hxs, hxm⟩ := item_is TA x
    have hpr := told_pre TA hsp
    obtain ⟨⟨s, e⟩, hxi⟩ := x
    dsimp only at hxs hxm hpr ⊢
    subst hxs
    obtain ⟨hup, hnone⟩ := Ly.upA_next TA b hpr
    have hke := TA.kind e hxm
    have hpe := TA.path e hxm
    have hes : e.p.size ≤ 16777216 := by have := path_sizeD hpe; omega
    have hpl : pre.length < 1000 := by omega
    obtain ⟨J, hJ0, hJR⟩ := hI.rep
    have hTu := Ly.upA_tr TA b ((List.prefix_append _ _).trans hpr)
    have hla : layV J = .agg #[.iface 119 (.agg #[]), .map (some aj)] := by unfold layV; rw [hJ0]
    have HPut := hid (fun (W' : World) (d : Int) (hB : Below W.heap.size W W') => putq_any w.heap.size pre.length (Ly.upA b (marksL pre)) J hTu W' (hJR.below hB) (Nat.le_trans hI.below.size hB.size) hpl e.p hes d e.x hpe hup hnone)
    rw [hla] at HPut
    have HAt := hid (at_any b2 N2 b B TB (e.p.size + 1) W (HRB.out _ hI.below) e.p (Nat.lt_succ_self _) hes)
    have hsn : Ly.upA b (marksL (pre ++ [(⟨(e.p, e), hxi⟩ : ItemM (toldM a ⟨#[47]⟩ ⟨#[]⟩))])) = putE (Ly.upA b (marksL pre)) ⟨e.p, Ly.bothK e.d (kindM b e.p), e.x⟩ := by
      rw [marksL_snoc, Ly.upA_snoc]; rfl
    have HI := hid hI
    have HSN := hid hsn
    have hff : ∀ f, Fence.wide.fn f := fun _ => trivial
    have fin : Hid (∀ (d : Int) (W3 W4 : World), d = Ly.bothK e.d (kindM b e.p) → Below W.heap.size W W3 → Turn w.heap.size W3 W4 → (∃ A', A' ⟨#[47]⟩ = J ⟨#[47]⟩ ∧ Rep W4 w.heap.size (pre.length + 1) (putE (Ly.upA b (marksL pre)) ⟨e.p, d, e.x⟩) A') →
        KeepsL w2.heap.size W W4 ∧ KpM w.heap.size W W4 ∧ JnI w W4 w1.heap.size aj (A ⟨#[47]⟩) (B ⟨#[47]⟩) (pre ++ [(⟨(e.p, e), hxi⟩ : ItemM (toldM a ⟨#[47]⟩ ⟨#[]⟩))]).length (Ly.upA b (marksL (pre ++ [(⟨(e.p, e), hxi⟩ : ItemM (toldM a ⟨#[47]⟩ ⟨#[]⟩))])))) := by
      rintro d W3 W4 rfl hB hT ⟨A', hA', hR'⟩
      refine ⟨(KeepsL.of_from (keepsBM hB)).trans (KeepsL.turn hT), (KpM.of hB).t (KpM.turn hT), ?_⟩
      rw [HSN.out, List.length_append, List.length_singleton]
      exact (HI.out.bel hB).put hT ⟨A', hA'.trans hJ0, hR'⟩
    obtain ⟨y0, y1, y2, y3⟩ := hI.x2
    have HX5 := hid hI.x5
    cases hlk : lookE b e.p with
    | none =>
      have hkb : kindM b e.p = 0 := by rw [kind_look, hlk]; rfl
      have hbk : e.d = Ly.bothK e.d (kindM b e.p) := by unfold Ly.bothK; rw [hkb, if_neg (by omega)]
      rw [atV_none (path_not_root hpe) hlk] at HAt
      obtain ⟨te, ue, hse⟩ := sign_is e.d e.x
      have HPe := hid (fun (W' : World) (hB : Below W.heap.size W W') => HPut.out W' e.d hB)
      rw [hse] at HPe ⊢
      have HBK := hid hbk
      clear hI hpr hup hnone hJR hTu hsn hlk hbk hsp HPut
      gi_wp2_with (first
        | (gi_at_call 69; refine (CallsIn.inRound l (callsIn_wide.2 HAt.out)).mono ?_; rintro e3 w3 ⟨rfl, hB3⟩; obtain ⟨q0, q1, q2, q3⟩ := (HX5.out.below hB3).on (.cells #[.nilIface, .map none] 63))
        | (gi_at_call 27; refine (CallsIn.inRound l (callsIn_wide.2 (HPe.out _ (belowA hB3 _)))).mono ?_; rintro e4 w4 ⟨⟨v4, rfl⟩, hT4, hR4⟩)
        | fail)
      exact fin.out _ _ _ HBK.out (belowA hB3 _) hT4 hR4
    | some f =>
      have hkf := TB.kind f (look_mem hlk).1
      have hkb : kindM b e.p = f.d := by rw [kind_look, hlk]; rfl
      rw [atV_some TB hlk] at HAt
      unfold nodeV at HAt
      obtain ⟨te, ue, fe, hse, hme, hce, hhe⟩ := hides_of hke e.x
      obtain ⟨tf, uf, ff, hsf, hmf, hcf, hhf⟩ := hides_of hkf f.x
      have HHe := hid hhe
      have HHf := hid hhf
      rw [hsf] at HAt
      have hcase : (e.d = 2 ∧ f.d = 2 ∧ Ly.bothK e.d (kindM b e.p) = e.d) ∨ (e.d = 2 ∧ f.d ≠ 2 ∧ Ly.bothK e.d (kindM b e.p) = 4) ∨ (e.d ≠ 2 ∧ Ly.bothK e.d (kindM b e.p) = e.d) := by
        unfold Ly.bothK
        rw [hkb]
        by_cases h1 : e.d = 2
        · by_cases h2 : f.d = 2
          · exact .inl ⟨h1, h2, by rw [if_neg (fun q => q.2.2 h2)]⟩
          · exact .inr (.inl ⟨h1, h2, by rw [if_pos ⟨h1, by omega, h2⟩]⟩)
        · exact .inr (.inr ⟨h1, by rw [if_neg (fun q => h1 q.1)]⟩)
      have HPe := hid (fun (W' : World) (hB : Below W.heap.size W W') => HPut.out W' e.d hB)
      have HPb := hid (fun (W' : World) (hB : Below W.heap.size W W') => HPut.out W' 4 hB)
      rw [hse] at HPe ⊢
      rw [sign4] at HPb
      clear hI hpr hup hnone hJR hTu hsn hlk hsp HPut hhe hhf hse hsf hkb
      rcases hcase with ⟨h1, h2, h3⟩ | ⟨h1, h2, h3⟩ | ⟨h1, h3⟩
      · have g1 : (e.d != 2) = false := by rw [h1]; rfl
        have g2 : (f.d != 2) = false := by rw [h2]; rfl
        rw [g1] at HHe
        rw [g2] at HHf
        have HBK := hid h3.symm
        clear h1 h2 h3 g1 g2
        gi_wp2_with (first
          | (gi_at_call 69; refine (CallsIn.inRound l (callsIn_wide.2 HAt.out)).mono ?_; rintro e3 w3 ⟨rfl, hB3⟩; have HXn := hid (Box2.new w3 (.iface tf uf) (.map (some (B e.p))) 63); have HX3 := hid (HX5.out.below hB3))
          | (refine (CallsIn.inRound l (callsIn_wide.2 (HHe.out _))).mono ?_; rintro e5 w5 ⟨rfl, hB5⟩; obtain ⟨p0, p1, p2, p3⟩ := HXn.out.below hB5; obtain ⟨q0, q1, q2, q3⟩ := ((HX3.out.on _).below hB5))
          | (refine (CallsIn.inRound l (callsIn_wide.2 (HHf.out _))).mono ?_; rintro e6 w6 ⟨rfl, hB6⟩; clear q0 q1 q2 q3; obtain ⟨q0, q1, q2, q3⟩ := (((HX3.out.on _).below hB5).below hB6))
          | (gi_at_call 27; refine (CallsIn.inRound l (callsIn_wide.2 (HPe.out _ (belowT (belowT (belowA hB3 _) hB5) hB6)))).mono ?_; rintro e4 w4 ⟨⟨v4, rfl⟩, hT4, hR4⟩)
          | fail)
        exact fin.out _ _ _ HBK.out (belowT (belowT (belowA hB3 _) hB5) hB6) hT4 hR4
      · have g1 : (e.d != 2) = false := by rw [h1]; rfl
        have g2 : (f.d != 2) = true := by simpa using h2
        rw [g1] at HHe
        rw [g2] at HHf
        have HBK := hid h3.symm
        clear h1 h2 h3 g1 g2
        gi_wp2_with (first
          | (gi_at_call 69; refine (CallsIn.inRound l (callsIn_wide.2 HAt.out)).mono ?_; rintro e3 w3 ⟨rfl, hB3⟩; have HXn := hid (Box2.new w3 (.iface tf uf) (.map (some (B e.p))) 63); have HX3 := hid (HX5.out.below hB3))
          | (refine (CallsIn.inRound l (callsIn_wide.2 (HHe.out _))).mono ?_; rintro e5 w5 ⟨rfl, hB5⟩; obtain ⟨p0, p1, p2, p3⟩ := HXn.out.below hB5; obtain ⟨q0, q1, q2, q3⟩ := ((HX3.out.on _).below hB5))
          | (refine (CallsIn.inRound l (callsIn_wide.2 (HHf.out _))).mono ?_; rintro e6 w6 ⟨rfl, hB6⟩; clear q0 q1 q2 q3; obtain ⟨q0, q1, q2, q3⟩ := (((HX3.out.on _).below hB5).below hB6))
          | (gi_at_call 27; refine (CallsIn.inRound l (callsIn_wide.2 (HPb.out _ (belowT (belowT (belowA hB3 _) hB5) hB6)))).mono ?_; rintro e4 w4 ⟨⟨v4, rfl⟩, hT4, hR4⟩)
          | fail)
        exact fin.out _ _ _ HBK.out (belowT (belowT (belowA hB3 _) hB5) hB6) hT4 hR4
      · have g1 : (e.d != 2) = true := by simpa using h1
        rw [g1] at HHe
        have HBK := hid h3.symm
        clear h1 h3 g1
        gi_wp2_with (first
          | (gi_at_call 69; refine (CallsIn.inRound l (callsIn_wide.2 HAt.out)).mono ?_; rintro e3 w3 ⟨rfl, hB3⟩; have HXn := hid (Box2.new w3 (.iface tf uf) (.map (some (B e.p))) 63); have HX3 := hid (HX5.out.below hB3))
          | (refine (CallsIn.inRound l (callsIn_wide.2 (HHe.out _))).mono ?_; rintro e5 w5 ⟨rfl, hB5⟩; obtain ⟨p0, p1, p2, p3⟩ := HXn.out.below hB5; obtain ⟨q0, q1, q2, q3⟩ := ((HX3.out.on _).below hB5))
          | (gi_at_call 27; refine (CallsIn.inRound l (callsIn_wide.2 (HPe.out _ (belowT (belowA hB3 _) hB5)))).mono ?_; rintro e4 w4 ⟨⟨v4, rfl⟩, hT4, hR4⟩)
          | fail)
        exact fin.out _ _ _ HBK.out (belowT (belowA hB3 _) hB5) hT4 hR4
  case done =>
    rintro D xs W hD hxs hI hK
    have hall : Ly.upA b (marksL xs) = Ly.loB a b [] := by rw [marksL_all TA hxs]; rfl
    have hxl : xs.length = a.length := by
      have := congrArg List.length hxs
      rwa [List.length_map, hta] at this
    rw [hall, hxl] at hI
    obtain ⟨y0, y1, y2, y3⟩ := hI.x2
    have HI := hid hI
    clear hI hall
    gi_wp2_with fail
    refine ⟨trivial, ?_⟩
    refine (callsIn_wide.2 (all_any B _)).mono ?_
    rintro e w3 ⟨rfl, hB3, hb3, f0, f1⟩
    have hI3 := hid (HI.out.bel hB3)
    have hs3 := hB3.size
    have hD3 : w3.heap[D]? = some (.deferred (some [])) := (hB3.block _ (Array.getElem?_eq_some_iff.1 hK).1).trans hK
    have hDl := (Array.getElem?_eq_some_iff.1 hK).1
    have hIs := HI.out.below.size
    clear y0 y1 y2 y3 HI
    gi_wp2
    refine wpIn_map rfl (by omega) (gf := 110) (lb := #[.pointer (some ⟨W.heap.size, 0, none⟩)]) rfl trivial (enters_of Tryz.func110 (by kernel_rfl) rfl)
      (allJ_map _ (by omega) b B b2 N2 w.heap.size hN2 (by omega) TB W.heap.size w3 hb3 f0 f1 HlowB.out (HRB.out _ hI3.out.below)) KpM.t (fun W l o o' _ h1 h2 h3 => KpM.b W l o o' h1 h2 h3) (Below.refl _ _) (fun _ => rfl)
      (fun (pre : List (ItemM (toldM b ⟨#[47]⟩ ⟨#[]⟩))) W => JnI w W w1.heap.size aj (A ⟨#[47]⟩) (B ⟨#[47]⟩) (a.length + pre.length) (Ly.loB a b (marksL pre)) ∧ W.heap[D]? = some (.deferred (some [])))
      (fun _ _ _ => False)
      (OwnL.and (JnI.own (by omega) _ _) (fun _ X Y row h hg hr => (hg.block D (Array.getElem?_eq_some_iff.1 h).1 (fun e => by have := (hr D e.symm).1; omega)).trans h)) (fun _ _ _ _ _ hs _ _ => hs) ⟨hI3.out, hD3⟩
      (fun x ac _ => ac = { tmps := #[layV A, layV B, .pointer (some ⟨w.heap.size, 0, none⟩), .pointer (some ⟨w.heap.size + 1, 0, none⟩), .pointer (some ⟨w.heap.size + 1 + 1, 0, none⟩), .pointer (some ⟨w1.heap.size, 0, none⟩), undef, undef, undef, undef, .string x.1.1, signV x.1.2.d x.1.2.x, .agg #[.iface 119 (.agg #[]), .map (some aj)], layV A, .func (.func 110) #[] #[.pointer (some ⟨w1.heap.size + 1, 0, none⟩)], undef, undef, undef, undef, undef, undef, undef, undef, undef, undef, undef, undef, undef, undef, undef, undef, undef, undef, undef, undef, undef, undef, undef, undef, undef, layV B, .func (.func 110) #[] #[.pointer (some ⟨W.heap.size, 0, none⟩)], .string x.1.1, signV x.1.2.d x.1.2.x, undef, undef, undef, undef, undef, undef, undef, undef, undef], defers := [] })
      (fun _ _ _ _ _ _ hs _ _ => hs)
      ?assign2 ?body2 ?done2 ?stop2
    case stop2 =>
      rintro D c pre W _ _ h _
      exact h.elim
    case assign2 =>
      rintro l pre x W4 K hI hK4
      gi_wp2
      exact hK4 _ _ ⟨Nat.le_refl _, fun _ _ _ h _ _ => h⟩ (KpM.of (Below.refl _ W4)) hI rfl
    case body2 =>
      rintro l pre x ac X hl ⟨hI, hDX⟩ hsp rfl hlt
      obtain ⟨hxs', hxm⟩ := item_is TB x
      have hpr := told_pre TB hsp
      obtain ⟨⟨s, e⟩, hxi⟩ := x
      dsimp only at hxs' hxm hpr ⊢
      subst hxs'
      have hpe := TB.path e hxm
      have hes : e.p.size ≤ 16777216 := by have := path_sizeD hpe; omega
      have hpl : a.length + pre.length < 1000 := by omega
      obtain ⟨J, hJ0, hJR⟩ := hI.rep
      have hTl := Ly.loB_tr TA TB ((List.prefix_append _ _).trans hpr)
      have hla : layV J = .agg #[.iface 119 (.agg #[]), .map (some aj)] := by unfold layV; rw [hJ0]
      have hff : ∀ f, Fence.wide.fn f := fun _ => trivial
      have HCo := hid (covers_any b1 N1 a A TA X (HRA.out _ hI.below) e.p hpe hes)
      rw [cov_free TA e] at HCo
      have HX5 := hid hI.x5
      have HI := hid hI
      have hsn : Ly.loB a b (marksL (pre ++ [(⟨(e.p, e), hxi⟩ : ItemM (toldM b ⟨#[47]⟩ ⟨#[]⟩))])) = if Ly.freeM a e = true then putE (Ly.loB a b (marksL pre)) e else Ly.loB a b (marksL pre) := by
        rw [marksL_snoc, Ly.loB_snoc]
      have HSN := hid hsn
      obtain ⟨y0, y1, y2, y3⟩ := hI.x1
      cases hfr : Ly.freeM a e with
      | false =>
        rw [hfr] at HCo HSN
        clear hI hpr hJR hTl hsn hsp hfr
        gi_wp2_with (first
          | (gi_at_call 82; refine (CallsIn.inRound l (callsIn_wide.2 HCo.out)).mono ?_; rintro e4 w4 ⟨rfl, hB4⟩)
          | fail)
        refine ⟨KeepsL.of_from (keepsBM hB4), KpM.of hB4, ?_, (hB4.block _ (Array.getElem?_eq_some_iff.1 hDX).1).trans hDX⟩
        rw [HSN.out, if_neg (by decide), List.length_append, List.length_singleton]
        obtain ⟨⟨J', g1, g2⟩, g3, g4, g5, g6, g7⟩ := HI.out.bel hB4
        exact ⟨⟨J', g1, g2.mono (by omega)⟩, g3, g4, g5, g6, g7⟩
      | true =>
        obtain ⟨hup, hnone⟩ := Ly.loB_next TA TB hpr hfr
        have HPut := hid (fun (W' : World) (hB : Below X.heap.size X W') => putq_any w.heap.size (a.length + pre.length) (Ly.loB a b (marksL pre)) J hTl W' (hJR.below hB) (Nat.le_trans hI.below.size hB.size) hpl e.p hes e.d e.x hpe hup hnone)
        rw [hla] at HPut
        obtain ⟨te, ue, hse⟩ := sign_is e.d e.x
        rw [hse] at HPut ⊢
        rw [hfr] at HCo HSN
        clear hI hpr hJR hTl hsn hsp hfr hup hnone
        gi_wp2_with (first
          | (gi_at_call 82; refine (CallsIn.inRound l (callsIn_wide.2 HCo.out)).mono ?_; rintro e4 w4 ⟨rfl, hB4⟩; obtain ⟨q0, q1, q2, q3⟩ := HX5.out.below hB4)
          | (gi_at_call 27; refine (CallsIn.inRound l (callsIn_wide.2 (HPut.out _ hB4))).mono ?_; rintro e5 w5 ⟨⟨v5, rfl⟩, hT5, hR5⟩)
          | fail)
        refine ⟨(KeepsL.of_from (keepsBM hB4)).trans (KeepsL.turn hT5), (KpM.of hB4).t (KpM.turn hT5), ?_, hT5.cells _ _ ((hB4.block _ (Array.getElem?_eq_some_iff.1 hDX).1).trans hDX) (fun _ _ e => by cases e)⟩
        rw [HSN.out, if_pos trivial, List.length_append, List.length_singleton]
        obtain ⟨A', hA', hR'⟩ := hR5
        exact (HI.out.bel hB4).put hT5 ⟨A', hA'.trans hJ0, hR'⟩
    case done2 =>
      rintro D2 ys X hD2 hys ⟨hI, hDX⟩ hK2
      have hall2 : Ly.loB a b (marksL ys) = Ly.joinM a b := by rw [marksL_all TB hys]; exact Ly.loB_join TA TB
      have hyl : ys.length = b.length := by
        have := congrArg List.length hys
        rwa [List.length_map, htb] at this
      rw [hall2, hyl] at hI
      have HI := hid hI
      obtain ⟨y0, y1, y2, y3⟩ := hI.x5
      obtain ⟨z0, z1, z2, z3⟩ := hI.x3
      clear hI hall2
      gi_wp2
      have hDD : D ≠ D2 := by omega
      have hset := (Box2.mk z0 z1 z2 z3).set (.iface 119 (.agg #[])) (.map (some aj))
      have hBs := set2_below (Below.refl w.heap.size X) (Nat.le_add_right w.heap.size (1 + 1)) (.iface 119 (.agg #[])) (.map (some aj))
      have hko := set2_keeps X (w.heap.size + 1 + 1) (.iface 119 (.agg #[])) (.map (some aj))
      obtain ⟨X', hX'⟩ : ∃ X', X' = (X.setCell ⟨w.heap.size + 1 + 1, 0, none⟩ (.iface 119 (.agg #[]))).setCell ⟨w.heap.size + 1 + 1, 1, none⟩ (.map (some aj)) := ⟨_, rfl⟩
      have hX2 : set2 X (w.heap.size + 1 + 1) (.iface 119 (.agg #[])) (.map (some aj)) = X' := hX'.symm
      rw [hX2] at hset hBs hko
      rw [← hX']
      have hK2' := hko.same D2 _ hK2 rfl
      have hDX' := hko.same D _ hDX rfl
      have hD6 : (X'.putObj D2 (.deferred none)).heap[D]? = some (.deferred (some [])) := (World.putObj_heap_other hDD).trans hDX'
      refine ⟨by simp, .inl ⟨_, _, rfl, run_takeDeferred hK2', ?_⟩⟩
      refine ⟨by simp, .inl ⟨_, _, rfl, run_takeDeferred hD6, ?_⟩⟩
      obtain ⟨⟨J, g1, g2⟩, g3, _⟩ := HI.out
      have hp : KeepsA X' ((X'.putObj D2 (.deferred none)).putObj D (.deferred none)) := fun k o h1 h2 => by
        have n2 : k ≠ D2 := fun e => by
          rw [e, hK2'] at h1; cases h1
          rcases h2 with q | q <;> cases q
        have n1 : k ≠ D := fun e => by
          rw [e, hDX'] at h1; cases h1
          rcases h2 with q | q <;> cases q
        exact (World.putObj_heap_other n1).trans ((World.putObj_heap_other n2).trans h1)
      have hset2 := hset.keepsA hp
      refine ⟨layV J, ?_, J, rfl, ?_, ?_⟩
      · have h0 := hset2.c0
        have h1 := hset2.c1
        simp [results, Tryz.f38, go_sem, h0, h1, g1]
      · exact below_putM (by omega) _ |> fun h => (g3.trans hBs).trans ((below_putM (by omega) _).trans h)
      · exact ((g2.keeps hko).keepsA hp).mono (by omega)
end Go.Proofs.YtkjpmngohocmlabGreatDoor.Mk

/-
  The walk of the program's own: a joined layer, tidied.
-/
namespace Go.Proofs.YtkjpmngohocmlabGreatDoor.Mk
open Go.RowKit Go.Shelf Go.Lib Go.Maps

attribute [local go_sem] Oper.semAt_some

/-- What the loop of settled keeps in mind. -/
structure StI (w W : World) (bx aj : Nat) (rA : Nat) (n : Nat) (l : List E) : Prop where
  rep : ∃ J : ByteArray → Nat, J ⟨#[47]⟩ = aj ∧ Rep W w.heap.size n l J
  below : Below w.heap.size w W
  x1 : Box2 W w.heap.size (.iface 119 (.agg #[])) (.map (some rA))
  x2 : Box2 W (w.heap.size + 1) .nilIface (.map none)
  x3 : Box2 W bx (.iface 119 (.agg #[])) (.map (some aj))
theorem StI.bel {w W W' : World} {bx aj rA n : Nat} {l : List E} (h : StI w W bx aj rA n l) (hB : Below W.heap.size W W') : StI w W' bx aj rA n l := by
  obtain ⟨⟨J, h1, h2⟩, h3, h4, h6, h7⟩ := h
  exact ⟨⟨J, h1, h2.below hB⟩, h3.trans (hB.mono h3.size), h4.below hB, h6.below hB, h7.below hB⟩
theorem StI.own {β : Type} {w : World} {B bx aj rA : Nat} (hB : w.heap.size ≤ B) (n : β → Nat) (l : β → List E) : OwnL B (fun s W => StI w W bx aj rA (n s) (l s)) := fun s W W' row h hg hr => by
  obtain ⟨⟨J, h1, h2⟩, h3, h4, h6, h7⟩ := h
  have hk := keepsA_of hg (fun r e => (hr r e).2)
  exact ⟨⟨J, h1, h2.keepsA hk⟩, h3.grown hg h3.size (fun q e => Nat.le_trans hB (hr q e).1), h4.keepsA hk, h6.keepsA hk, h7.keepsA hk⟩
theorem StI.put {w W W' : World} {bx aj rA n n' : Nat} {l l' : List E} (h : StI w W bx aj rA n l) (hT : Turn w.heap.size W W') (hR : ∃ J : ByteArray → Nat, J ⟨#[47]⟩ = aj ∧ Rep W' w.heap.size n' l' J) : StI w W' bx aj rA n' l' :=
  ⟨hR, h.below.trans hT.below, h.x1.turn hT, h.x2.turn hT, h.x3.turn hT⟩
/-- What is left of a sign below a bare one is what is left of its mark. -/
theorem left_sign {L : List E} {m : E} (hb : bareM L m.p = true) (hk : 1 ≤ m.d ∧ m.d ≤ 4) : (Ly.leftM L m = none ∧ inB m.d m.x = (.nilIface, false)) ∨ ∃ d, (d = 1 ∨ d = 2) ∧ Ly.leftM L m = some ⟨m.p, d, m.x⟩ ∧ inB m.d m.x = (signV d m.x, true) := by
  obtain ⟨p, d, x⟩ := m
  dsimp only at hb hk ⊢
  unfold Ly.leftM inB
  dsimp only
  rw [hb, if_pos rfl]
  rcases (by omega : d = 1 ∨ d = 2 ∨ d = 3 ∨ d = 4) with rfl | rfl | rfl | rfl
  · exact .inr ⟨1, .inl rfl, rfl, rfl⟩
  · exact .inr ⟨2, .inr rfl, rfl, rfl⟩
  · exact .inl ⟨rfl, rfl⟩
  · exact .inr ⟨2, .inr rfl, rfl, rfl⟩

set_option maxHeartbeats 4000000 in
set_option maxRecDepth 100000 in
theorem settled_any (w : World) (b1 N1 : Nat) (a : List E) (A : ByteArray → Nat) (TA : TrM a) (hza : ∀ e ∈ a, e.x.size ≤ 16777216) (RA : Rep w b1 N1 a A) (hN1 : N1 ≤ 1000) (ha : a.length ≤ 200) :
    Calls Tryz.prog 39 #[layV A] w fun e w' => ∃ J, e = .returned (layV J) ∧ Below w.heap.size w w' ∧ Rep w' w.heap.size 200 (Ly.tidyM a) J := by
  obtain ⟨W0, hW0⟩ : ∃ W0, W0 = (w.alloc (.cells #[.iface 119 (.agg #[]), .map (some (A ⟨#[47]⟩))] 65)).alloc (.cells #[.nilIface, .map none] 65) := ⟨_, rfl⟩
  have hB0 : Below w.heap.size w W0 := by rw [hW0]; exact belowA (belowA (Below.refl _ w) _) _
  have hs0 : W0.heap.size = w.heap.size + 2 := by rw [hW0]; simp
  have X1 : Box2 W0 w.heap.size (.iface 119 (.agg #[])) (.map (some (A ⟨#[47]⟩))) := by rw [hW0]; exact (Box2.new _ _ _ _).on _
  have X2 : Box2 W0 (w.heap.size + 1) .nilIface (.map none) := by
    rw [hW0]
    have := Box2.new (w.alloc (.cells #[.iface 119 (.agg #[]), .map (some (A ⟨#[47]⟩))] 65)) .nilIface (.map none) 65
    rwa [World.size_alloc] at this
  refine (callsIn_wide (n := 6)).1 ?_
  refine callsIn_of_wp_marks Tryz.func39 rfl trivial ?_ rfl
  simp only [Tryz.ntmps39, List.size_toArray, List.length_cons, List.length_nil, Nat.reduceAdd, Nat.reduceSub, Array.replicate_succ, Array.replicate_zero, List.push_toArray, List.append_toArray, List.nil_append, List.cons_append]
  gi_wp2_with fail
  rw [← hW0]
  refine ⟨trivial, ?_⟩
  refine (callsIn_wide.2 (newLayer_any _)).mono ?_
  rintro e w1 ⟨⟨aj, haj, rfl, hM1⟩, hB1⟩
  obtain ⟨W1, hW1⟩ : ∃ W1, W1 = w1.alloc (.cells #[.iface 119 (.agg #[]), .map (some aj)] 65) := ⟨_, rfl⟩
  have hsw := hB1.size
  have hB01 : Below W0.heap.size W0 W1 := by rw [hW1]; exact belowA hB1 _
  have hI1 : Hid (StI w W1 w1.heap.size aj (A ⟨#[47]⟩) 0 []) := by
    refine ⟨⟨fun _ => aj, rfl, ?_⟩, belowT hB0 hB01, X1.below hB01, X2.below hB01, by rw [hW1]; exact Box2.new _ _ _ _⟩
    exact rep_nil (by omega) (by rw [hW1]; exact hM1.kept (Below.heap_alloc _ _ _ hM1.lt))
  have HRA := hid (fun (W : World) (h : Below w.heap.size w W) => RA.below h)
  have HlowA : Hid (∀ p, AtM a p → A p < w.heap.size) := fun p hp => (RA.kids p hp).lt
  have hs1 : w.heap.size + 2 < W1.heap.size := by rw [hW1]; simp; omega
  have hs11 : w1.heap.size < W1.heap.size := by rw [hW1]; simp
  clear RA X1 X2 hB0 hB1 hM1 hW0 hB01
  obtain ⟨y0, y1, y2, y3⟩ := hI1.out.x1
  rw [hW1] at y0 y1
  gi_wp2_with fail
  rw [← hW1]
  refine ⟨trivial, ?_⟩
  refine (callsIn_wide.2 (all_any A _)).mono ?_
  rintro e w2 ⟨rfl, hB2, hb2, d0, d1⟩
  have hI2 := hid (hI1.out.bel hB2)
  have hsW : W1.heap.size = w1.heap.size + 1 := by rw [hW1]; simp
  rw [hsW] at hb2 d0 d1
  have hta : (toldM a ⟨#[47]⟩ ⟨#[]⟩).length = a.length := by rw [toldM_all TA, List.length_map]
  have hs2 := hB2.size
  clear y0 y1 y2 y3 hI1
  gi_wp2
  refine wpIn_map rfl (by omega) (gf := 110) (lb := #[.pointer (some ⟨w1.heap.size + 1, 0, none⟩)]) rfl trivial (enters_of Tryz.func110 (by kernel_rfl) rfl)
    (allJ_map _ (by omega) a A b1 N1 w.heap.size hN1 (by omega) TA (w1.heap.size + 1) w2 hb2 d0 d1 HlowA.out (HRA.out _ hI2.out.below)) KpM.t (fun W l o o' _ h1 h2 h3 => KpM.b W l o o' h1 h2 h3) (Below.refl _ _) (fun _ => rfl)
    (fun (pre : List (ItemM (toldM a ⟨#[47]⟩ ⟨#[]⟩))) W => StI w W w1.heap.size aj (A ⟨#[47]⟩) pre.length (Ly.leA a (marksL pre)))
    (fun _ _ _ => False)
    (StI.own (by omega) _ _) (fun _ _ _ _ _ hs _ _ => hs) hI2.out
    (fun x ac _ => ac = { tmps := #[layV A, .pointer (some ⟨w.heap.size, 0, none⟩), .pointer (some ⟨w.heap.size + 1, 0, none⟩), .pointer (some ⟨w1.heap.size, 0, none⟩), .string x.1.1, signV x.1.2.d x.1.2.x, undef, .agg #[.iface 119 (.agg #[]), .map (some aj)], layV A, .func (.func 110) #[] #[.pointer (some ⟨w1.heap.size + 1, 0, none⟩)], .string x.1.1, signV x.1.2.d x.1.2.x, undef, undef, undef, undef, undef, undef, undef, undef, undef, undef, undef, undef, undef, undef], defers := [] })
    (fun _ _ _ _ _ _ hs _ _ => hs)
    ?assign ?body ?done ?stop
  case stop =>
    rintro D c pre W _ _ h _
    exact h.elim
  case assign =>
    rintro l pre x W K hI hK
    gi_wp2
    exact hK _ _ ⟨Nat.le_refl _, fun _ _ _ h _ _ => h⟩ (KpM.of (Below.refl _ W)) hI rfl
  case body =>
    rintro l pre x ac W hl hI hsp rfl hlt
    obtain ⟨hxs, hxm⟩ := item_is TA x
    have hpr := told_pre TA hsp
    obtain ⟨⟨s, e⟩, hxi⟩ := x
    dsimp only at hxs hxm hpr ⊢
    subst hxs
    have hke := TA.kind e hxm
    have hpe := TA.path e hxm
    have hes : e.p.size ≤ 16777216 := by have := path_sizeD hpe; omega
    have hex := hza e hxm
    have hpl : pre.length < 1000 := by omega
    obtain ⟨J, hJ0, hJR⟩ := hI.rep
    have hTu := Ly.leA_tr TA ((List.prefix_append _ _).trans hpr)
    have hla : layV J = .agg #[.iface 119 (.agg #[]), .map (some aj)] := by unfold layV; rw [hJ0]
    have hff : ∀ f, Fence.wide.fn f := fun _ => trivial
    have HBa := hid (bares_any b1 N1 a A TA W (HRA.out _ hI.below) e.p hes)
    rw [bares_is TA hpe] at HBa
    have HI := hid hI
    have HX3 := hid hI.x3
    have hsn : Ly.leA a (marksL (pre ++ [(⟨(e.p, e), hxi⟩ : ItemM (toldM a ⟨#[47]⟩ ⟨#[]⟩))])) = Ly.leA a (marksL pre) ++ (Ly.leftM a e).toList := by
      rw [marksL_snoc, Ly.leA_snoc]
    have HSN := hid hsn
    obtain ⟨y0, y1, y2, y3⟩ := hI.x1
    have HPut := hid (fun (W' : World) (k : E) (hk : Ly.leftM a e = some k) (hB : Below W.heap.size W W') => put_any w.heap.size pre.length (Ly.leA a (marksL pre)) J hTu W' (hJR.below hB) (Nat.le_trans hI.below.size hB.size) hpl k.p (by rw [Ly.left_path hk]; exact hes) k.d k.x (by rw [Ly.left_path hk]; exact hpe)
      ((Ly.leA_next TA hpr hk).1.imp id fun ⟨f, h, _⟩ => ⟨f, h⟩) (look_none.2 fun f hf q => by have := (Ly.leA_next TA hpr hk).2 f hf; rw [q] at this; exact less_irrefl _ this))
    rw [hla] at HPut
    have fin : Hid (∀ (k : E) (W3 W4 : World), Ly.leftM a e = some k → Below W.heap.size W W3 → Turn w.heap.size W3 W4 → (∃ A', A' ⟨#[47]⟩ = J ⟨#[47]⟩ ∧ Rep W4 w.heap.size (pre.length + 1) (Ly.leA a (marksL pre) ++ [⟨k.p, k.d, k.x⟩]) A') →
        KeepsL w2.heap.size W W4 ∧ KpM w.heap.size W W4 ∧ StI w W4 w1.heap.size aj (A ⟨#[47]⟩) (pre ++ [(⟨(e.p, e), hxi⟩ : ItemM (toldM a ⟨#[47]⟩ ⟨#[]⟩))]).length (Ly.leA a (marksL (pre ++ [(⟨(e.p, e), hxi⟩ : ItemM (toldM a ⟨#[47]⟩ ⟨#[]⟩))])))) := by
      rintro k W3 W4 hk hB hT ⟨A', hA', hR'⟩
      refine ⟨(KeepsL.of_from (keepsBM hB)).trans (KeepsL.turn hT), (KpM.of hB).t (KpM.turn hT), ?_⟩
      rw [HSN.out, hk, List.length_append, List.length_singleton]
      exact (HI.out.bel hB).put hT ⟨A', hA'.trans hJ0, hR'⟩
    cases hb : bareM a e.p with
    | false =>
      have hk := Ly.left_self hb
      have HPe := hid (fun (W' : World) (hB : Below W.heap.size W W') => HPut.out W' e hk hB)
      have HK := hid hk
      rw [hb] at HBa
      obtain ⟨te, ue, hse⟩ := sign_is e.d e.x
      rw [hse] at HPe ⊢
      clear hI hpr hJR hTu hsn hsp HPut hb hk
      gi_wp2_with (first
        | (gi_at_call 83; refine (CallsIn.inRound l (callsIn_wide.2 HBa.out)).mono ?_; rintro e3 w3 ⟨rfl, hB3⟩; obtain ⟨q0, q1, q2, q3⟩ := HX3.out.below hB3)
        | (gi_at_call 27; refine (CallsIn.inRound l (callsIn_wide.2 (HPe.out _ hB3))).mono ?_; rintro e4 w4 ⟨⟨v4, rfl⟩, hT4, hR4⟩)
        | fail)
      exact fin.out e _ _ HK.out hB3 hT4 hR4
    | true =>
      rw [hb] at HBa
      have HIn := hid (fun (W' : World) => inBare_any e.d e.x hex hke W')
      rcases left_sign hb hke with ⟨hk, hv⟩ | ⟨d, hd, hk, hv⟩
      · rw [hv] at HIn
        obtain ⟨te, ue, hse⟩ := sign_is e.d e.x
        rw [hse] at HIn ⊢
        have HK := hid hk
        clear hI hpr hJR hTu hsn hsp HPut hb hk
        gi_wp2_with (first
          | (gi_at_call 83; refine (CallsIn.inRound l (callsIn_wide.2 HBa.out)).mono ?_; rintro e3 w3 ⟨rfl, hB3⟩)
          | (gi_at_call 84; refine (CallsIn.inRound l (callsIn_wide.2 (HIn.out _))).mono ?_; rintro e4 w4 ⟨rfl, hB4⟩)
          | fail)
        refine ⟨KeepsL.of_from (keepsBM (belowT hB3 hB4)), KpM.of (belowT hB3 hB4), ?_⟩
        show StI _ _ _ _ _ _ _
        rw [HSN.out, HK.out, List.length_append, List.length_singleton]
        obtain ⟨⟨J', g1, g2⟩, g3, g4, g5, g6⟩ := HI.out.bel (belowT hB3 hB4)
        exact ⟨⟨J', g1, by rw [Option.toList_none, List.append_nil]; exact g2.mono (by omega)⟩, g3, g4, g5, g6⟩
      · rw [hv] at HIn
        have HPe := hid (fun (W' : World) (hB : Below W.heap.size W W') => HPut.out W' ⟨e.p, d, e.x⟩ hk hB)
        obtain ⟨te, ue, hse⟩ := sign_is e.d e.x
        obtain ⟨td, ud, hsd⟩ := sign_is d e.x
        rw [hse] at HIn ⊢
        dsimp only at HPe HIn
        rw [hsd] at HPe HIn
        have HK := hid hk
        clear hI hpr hJR hTu hsn hsp HPut hb hk hv hse hsd
        gi_wp2_with (first
          | (gi_at_call 83; refine (CallsIn.inRound l (callsIn_wide.2 HBa.out)).mono ?_; rintro e3 w3 ⟨rfl, hB3⟩)
          | (gi_at_call 84; refine (CallsIn.inRound l (callsIn_wide.2 (HIn.out _))).mono ?_; rintro e4 w4 ⟨rfl, hB4⟩; obtain ⟨q0, q1, q2, q3⟩ := (HX3.out.below hB3).below hB4)
          | (gi_at_call 27; refine (CallsIn.inRound l (callsIn_wide.2 (HPe.out _ (belowT hB3 hB4)))).mono ?_; rintro e5 w5 ⟨⟨v5, rfl⟩, hT5, hR5⟩)
          | fail)
        exact fin.out _ _ _ HK.out (belowT hB3 hB4) hT5 hR5
  case done =>
    rintro D xs X hD hxs hI hK
    have hall : Ly.leA a (marksL xs) = Ly.tidyM a := by rw [marksL_all TA hxs, Ly.tidy_is TA]; rfl
    have hxl : xs.length = a.length := by
      have := congrArg List.length hxs
      rwa [List.length_map, hta] at this
    rw [hall, hxl] at hI
    have HI := hid hI
    obtain ⟨y0, y1, y2, y3⟩ := hI.x3
    obtain ⟨z0, z1, z2, z3⟩ := hI.x2
    clear hI hall
    gi_wp2
    have hset := (Box2.mk z0 z1 z2 z3).set (.iface 119 (.agg #[])) (.map (some aj))
    have hBs := set2_below (Below.refl w.heap.size X) (Nat.le_add_right w.heap.size 1) (.iface 119 (.agg #[])) (.map (some aj))
    have hko := set2_keeps X (w.heap.size + 1) (.iface 119 (.agg #[])) (.map (some aj))
    obtain ⟨X', hX'⟩ : ∃ X', X' = (X.setCell ⟨w.heap.size + 1, 0, none⟩ (.iface 119 (.agg #[]))).setCell ⟨w.heap.size + 1, 1, none⟩ (.map (some aj)) := ⟨_, rfl⟩
    have hX2 : set2 X (w.heap.size + 1) (.iface 119 (.agg #[])) (.map (some aj)) = X' := hX'.symm
    rw [hX2] at hset hBs hko
    rw [← hX']
    have hK' := hko.same D _ hK rfl
    refine ⟨by simp, .inl ⟨_, _, rfl, run_takeDeferred hK', ?_⟩⟩
    obtain ⟨⟨J, g1, g2⟩, g3, _⟩ := HI.out
    have hp : KeepsA X' (X'.putObj D (.deferred none)) := fun k o h1 h2 => by
      have n1 : k ≠ D := fun e => by
        rw [e, hK'] at h1; cases h1
        rcases h2 with q | q <;> cases q
      exact (World.putObj_heap_other n1).trans h1
    have hset2 := hset.keepsA hp
    refine ⟨layV J, ?_, J, rfl, ?_, ?_⟩
    · have h0 := hset2.c0
      have h1 := hset2.c1
      simp [results, Tryz.f39, go_sem, h0, h1, g1]
    · exact (g3.trans hBs).trans (below_putM (by omega) _)
    · exact ((g2.keeps hko).keepsA hp).mono (by omega)
end Go.Proofs.YtkjpmngohocmlabGreatDoor.Mk

/-
  The walks of LayerJoin, the program's own and the model's.
-/
namespace Go.Proofs.YtkjpmngohocmlabGreatDoor.Mk
open Go.RowKit Go.Lib Go.Shelf

attribute [local go_sem] Oper.semAt_some

/-- What LayerJoin tells. -/
def jnB (a b : List E) : Bool := (layB a && layB b) && decide ((Ly.tidyM (Ly.joinM a b)).length ≤ 32)
def jnE (a b : List E) : List E := if jnB a b = true then Ly.tidyM (Ly.joinM a b) else []
theorem lay_len {l : List E} (h : layB l = true) : l.length ≤ 32 := by
  unfold layB at h
  rw [Bool.and_eq_true] at h
  exact of_decide_eq_true h.2
theorem join_len (a b : List E) (ha : a.length ≤ 32) (hb : b.length ≤ 32) : (Ly.joinM a b).length ≤ 64 := by
  have h1 := upp_len b (lowF a b) a a.length (Nat.le_refl _)
  have h2 := low_len a b b.length (Nat.le_refl _)
  rw [List.take_length] at h1 h2
  show (uppF b (lowF a b) a).length ≤ 64
  omega
theorem tidy_len (l : List E) (hz : ∀ e ∈ l, e.p.size ≤ 16777216) : (Ly.tidyM l).length ≤ l.length := by
  have := (tid_facts l hz l.length (Nat.le_refl _)).1
  rwa [List.take_length] at this
theorem join_sz {a b : List E} (A : TrM a) (B : TrM b) (hz : ∀ e ∈ a, e.p.size ≤ 16777216 ∧ e.x.size ≤ 16777216) (hz' : ∀ e ∈ b, e.p.size ≤ 16777216 ∧ e.x.size ≤ 16777216) : ∀ e ∈ Ly.joinM a b, e.p.size ≤ 16777216 ∧ e.x.size ≤ 16777216 := fun e he => by
  rcases (Ly.join_mem A B e).1 he with ⟨k, hk, rfl⟩ | ⟨h, _⟩
  · exact hz k hk
  · exact hz' e h

set_option maxHeartbeats 2000000 in
set_option maxRecDepth 100000 in
theorem sLayerJoin_any (w : World) (a : Option Addr) (g o cap : Nat) (l : List E) (a' : Option Addr) (g' o' cap' : Nat) (t : List E) (hl : l.length ≤ 1048576) (ht : t.length ≤ 1048576) (hcap : l.length ≤ cap) (hcap' : t.length ≤ cap') (hz : ∀ e ∈ l, e.p.size ≤ 16777216 ∧ e.x.size ≤ 16777216) (hz' : ∀ e ∈ t, e.p.size ≤ 16777216 ∧ e.x.size ≤ 16777216) (ha : 0 < l.length → a = some ⟨g, o, none⟩) (ha' : 0 < t.length → a' = some ⟨g', o', none⟩) (hE : Ents w g o l) (hF : Ents w g' o' t) :
    Calls Tryz.prog 17 #[.slice a l.length cap, .slice a' t.length cap'] w fun r w' => ∃ v, r = .returned (.tuple #[v, .bool (jnB l t)]) ∧ OwnE w' w.heap.size v (jnE l t) ∧ Below w.heap.size w w' := by
  have HE := hidE hE
  have HF := hidE hF
  have HO := hidE (fun (W : World) (hW : Ents W g o l) => sLayerOk_any W a g o cap l (by omega) hcap hz ha hW)
  have HT := hidE (fun (W : World) (hW : Ents W g' o' t) => sLayerOk_any W a' g' o' cap' t (by omega) hcap' hz' ha' hW)
  have HD : Hid (jnB l t = ((layB l && layB t) && decide ((Ly.tidyM (Ly.joinM l t)).length ≤ 32))) := rfl
  clear hE hF
  go_enter Tryz.func17, Tryz.ntmps17
  go_wp2_with fail
  refine (HO.out _ HE.out).mono ?_
  rintro e w1 ⟨rfl, hB⟩
  have HB1 := hidE hB
  have HE1 := hidE (HE.out.below hB)
  have HF1 := hidE (HF.out.below hB)
  clear hB
  cases hly : layB l with
  | false =>
    have hn : jnB l t = false := by rw [HD.out, hly]; rfl
    have hq : jnE l t = [] := by unfold jnE; rw [hn]; rfl
    go_wp2
    go_ret2
    exact ⟨_, by rw [hn]; rfl, by rw [hq]; exact OwnE.made _ HB1.out.size, HB1.out.alloc HB1.out.size _⟩
  | true =>
    go_wp2_with fail
    refine (HT.out _ HF1.out).mono ?_
    rintro e w2 ⟨rfl, hB⟩
    have HB2 := hidE (tBelow HB1.out hB)
    have HE2 := hidE (HE1.out.below hB)
    have HF2 := hidE (HF1.out.below hB)
    clear hB HB1 HE1 HF1
    cases htr : layB t with
    | false =>
      have hn : jnB l t = false := by rw [HD.out, hly, htr]; rfl
      have hq : jnE l t = [] := by unfold jnE; rw [hn]; rfl
      go_wp2
      go_ret2
      exact ⟨_, by rw [hn]; rfl, by rw [hq]; exact OwnE.made _ HB2.out.size, HB2.out.alloc HB2.out.size _⟩
    | true =>
      have hll := lay_len hly
      have htl := lay_len htr
      have hjl := join_len l t hll htl
      have hjz := join_sz (layB_tr hly) (layB_tr htr) hz hz'
      go_wp2_with fail
      refine (l3Join_any _ a g o cap l a' g' o' cap' t (by omega) (by omega) (fun e he => (hz e he).1) (fun e he => (hz' e he).1) ha ha' HE2.out HF2.out).mono ?_
      rintro e w3 ⟨v3, rfl, ho3, hB⟩
      have HO3 := hidE (ho3.lower (base' := w.heap.size) HB2.out.size)
      have HB3 := hidE (tBelow HB2.out hB)
      clear ho3 hB HB2 HE2 HF2
      obtain ⟨a3, g3, c3, rfl, ha3, hE3, hc3⟩ := HO3.out.ents
      have HTd := hidE (l3Tidy_any w3 a3 g3 0 c3 (Ly.joinM l t) (by omega) (fun e he => (hjz e he).1) ha3 hE3)
      clear ha3 hE3
      go_wp2_with fail
      refine HTd.out.mono ?_
      rintro e w4 ⟨v4, rfl, ho4, hB⟩
      have HO4 := hidE (ho4.lower (base' := w.heap.size) HB3.out.size)
      have HB4 := hidE (tBelow HB3.out hB)
      clear ho4 hB HB3
      obtain ⟨a4, g4, c4, rfl, ha4, hE4, hc4⟩ := HO4.out.ents
      clear ha4 hE4
      by_cases h16 : (Ly.tidyM (Ly.joinM l t)).length ≤ 32
      · have hn : jnB l t = true := by rw [HD.out, hly, htr, decide_eq_true h16]; rfl
        have hq : jnE l t = Ly.tidyM (Ly.joinM l t) := by unfold jnE; rw [hn]; rfl
        go_wp2
        go_ret2
        exact ⟨_, by rw [hn]; rfl, by rw [hq]; exact HO4.out, HB4.out⟩
      · have hn : jnB l t = false := by rw [HD.out, hly, htr, decide_eq_false h16]; rfl
        have hq : jnE l t = [] := by unfold jnE; rw [hn]; rfl
        have h17 : (32 : Int) < (Ly.tidyM (Ly.joinM l t)).length := by omega
        go_wp2
        go_ret2
        exact ⟨_, by rw [hn]; rfl, by rw [hq]; exact OwnE.made _ HB4.out.size, HB4.out.alloc HB4.out.size _⟩

set_option maxHeartbeats 2000000 in
set_option maxRecDepth 100000 in
theorem iLayerJoin_any (w : World) (a : Option Addr) (g o cap : Nat) (l : List E) (a' : Option Addr) (g' o' cap' : Nat) (t : List E) (hl : l.length ≤ 16777216) (ht : t.length ≤ 16777216) (hz : ∀ e ∈ l, e.p.size ≤ 16777216 ∧ e.x.size ≤ 16777216) (hz' : ∀ e ∈ t, e.p.size ≤ 16777216 ∧ e.x.size ≤ 16777216) (ha : 0 < l.length → a = some ⟨g, o, none⟩) (ha' : 0 < t.length → a' = some ⟨g', o', none⟩) (hE : Ents w g o l) (hF : Ents w g' o' t) :
    Calls Tryz.prog 12 #[.slice a l.length cap, .slice a' t.length cap'] w fun r w' => ∃ v, r = .returned (.tuple #[v, .bool (jnB l t)]) ∧ OwnE w' w.heap.size v (jnE l t) ∧ Below w.heap.size w w' := by
  have HD : Hid (jnB l t = ((layB l && layB t) && decide ((Ly.tidyM (Ly.joinM l t)).length ≤ 32))) := rfl
  have HL := hidE (fun (W : World) (hW : Below w.heap.size w W) => layerOf_any W a g o cap l hl hz ha (hE.below hW))
  have HR := hidE (fun (W : World) (hW : Below w.heap.size w W) => layerOf_any W a' g' o' cap' t ht hz' ha' (hF.below hW))
  have HZ := hidE hz
  have HZ' := hidE hz'
  clear hE hF hz hz'
  go_enter Tryz.func12, Tryz.ntmps12
  go_wp2_with fail
  refine (HL.out _ (Below.refl _ _)).mono ?_
  rintro e w1 ⟨A, rfl, hB1, hR1⟩
  have hBa := belowA hB1 (.cells #[.iface 119 (.agg #[]), .map (some (A ⟨#[47]⟩))] 65)
  have X1 := Box2.new w1 (.iface 119 (.agg #[])) (.map (some (A ⟨#[47]⟩))) 65
  obtain ⟨W1, hW1⟩ : ∃ W1, W1 = w1.alloc (.cells #[.iface 119 (.agg #[]), .map (some (A ⟨#[47]⟩))] 65) := ⟨_, rfl⟩
  have hB11 : Below w1.heap.size w1 W1 := by rw [hW1]; exact belowA (Below.refl _ w1) _
  rw [← hW1] at hBa X1
  have HX1 := hidE X1
  have HB1 := hidE hBa
  have HR1 := hidE (fun h => (hR1 h).below hB11)
  clear X1 hBa hB1 hR1
  go_wp2_with fail
  rw [← hW1]
  clear hW1 hB11
  refine (HR.out _ HB1.out).mono ?_
  rintro e w2 ⟨B, rfl, hB2, hR2⟩
  have hBa := belowA (belowT HB1.out hB2) (.cells #[.iface 119 (.agg #[]), .map (some (B ⟨#[47]⟩))] 65)
  have X2 := Box2.new w2 (.iface 119 (.agg #[])) (.map (some (B ⟨#[47]⟩))) 65
  obtain ⟨W2, hW2⟩ : ∃ W2, W2 = w2.alloc (.cells #[.iface 119 (.agg #[]), .map (some (B ⟨#[47]⟩))] 65) := ⟨_, rfl⟩
  have hB22 : Below w2.heap.size w2 W2 := by rw [hW2]; exact belowA (Below.refl _ w2) _
  rw [← hW2] at hBa X2
  have HX2 := hidE X2
  have HX12 := hidE ((HX1.out.below hB2).below hB22)
  have HB2 := hidE hBa
  have HR2 := hidE (fun h => (hR2 h).below hB22)
  have HR12 := hidE (fun h => ((HR1.out h).below hB2).below hB22)
  clear X2 hBa hB2 hR2 HX1 HB1 HR1
  cases hly : layB l with
  | false =>
    have hn : jnB l t = false := by rw [HD.out, hly]; rfl
    have hq : jnE l t = [] := by unfold jnE; rw [hn]; rfl
    go_wp2
    rw [← hW2]
    go_ret2
    exact ⟨_, by rw [hn]; rfl, by rw [hq]; exact World.ownsRow_nil _ _ _ _, HB2.out⟩
  | true =>
    cases htr : layB t with
    | false =>
      have hn : jnB l t = false := by rw [HD.out, hly, htr]; rfl
      have hq : jnE l t = [] := by unfold jnE; rw [hn]; rfl
      go_wp2
      rw [← hW2]
      go_ret2
      exact ⟨_, by rw [hn]; rfl, by rw [hq]; exact World.ownsRow_nil _ _ _ _, HB2.out⟩
    | true =>
      have hll := lay_len hly
      have htl := lay_len htr
      have hjl := join_len l t hll htl
      have TA := layB_tr hly
      have TB := layB_tr htr
      have hjz := join_sz TA TB HZ.out HZ'.out
      have hjt := tidy_len (Ly.joinM l t) (fun e he => (hjz e he).1)
      have RJ := Ly.join_rt (Ly.lay_rt hly) (Ly.lay_rt htr)
      have HJ := hidE (fun (W : World) (hW : Below W2.heap.size W2 W) => join_any W _ 32 _ 32 l t A B TA TB ((HR12.out hly).below hW) ((HR2.out htr).below hW) (by omega) (by omega) (by omega) (by omega))
      have HS := hidE (fun (W : World) (b : Nat) (J : ByteArray → Nat) (hW : Rep W b 200 (Ly.joinM l t) J) => settled_any W b 200 (Ly.joinM l t) J (Ly.join_tr TA TB) (fun e he => (hjz e he).2) hW (by omega) (by omega))
      have HM := hidE (fun (W : World) (b : Nat) (J : ByteArray → Nat) (hW : Rep W b 200 (Ly.tidyM (Ly.joinM l t)) J) => marks_any W b 200 (Ly.tidyM (Ly.joinM l t)) J RJ.tr RJ.plain hW (by omega) (by omega))
      obtain ⟨y0, y1, y2, y3⟩ := HX12.out
      obtain ⟨z0, z1, z2, z3⟩ := HX2.out
      rw [hW2] at y0 y1 z0 z1
      clear hjz TA TB RJ
      go_wp2_with fail
      rw [← hW2]
      clear hW2 hB22 y0 y1 y2 y3 z0 z1 z2 z3
      refine (HJ.out _ (Below.refl _ _)).mono ?_
      rintro e w3 ⟨J, rfl, hB3, hR3⟩
      have HB3 := hidE (belowT HB2.out hB3)
      have HR3 := hidE hR3
      clear hB3 hR3
      go_wp2_with fail
      refine (HS.out _ _ _ HR3.out).mono ?_
      rintro e w4 ⟨J4, rfl, hB4, hR4⟩
      have HB4 := hidE (belowT HB3.out hB4)
      have HR4 := hidE hR4
      clear hB4 hR4
      go_wp2_with fail
      refine (HM.out _ _ _ HR4.out).mono ?_
      rintro e w5 ⟨v5, rfl, ho5, hB5⟩
      have HO5 := hidE (ho5.lower (base' := w.heap.size) HB4.out.size)
      have HB5 := hidE (belowT HB4.out hB5)
      clear ho5 hB5 HB3 HB4 HR3 HR4 HB2
      obtain ⟨a5, g5, c5, rfl, ha5, hE5, hc5⟩ := HO5.out.ents
      clear ha5 hE5
      by_cases h16 : (Ly.tidyM (Ly.joinM l t)).length ≤ 32
      · have hn : jnB l t = true := by rw [HD.out, hly, htr, decide_eq_true h16]; rfl
        have hq : jnE l t = Ly.tidyM (Ly.joinM l t) := by unfold jnE; rw [hn]; rfl
        go_wp2
        go_ret2
        exact ⟨_, by rw [hn]; rfl, by rw [hq]; exact HO5.out, HB5.out⟩
      · have hn : jnB l t = false := by rw [HD.out, hly, htr, decide_eq_false h16]; rfl
        have hq : jnE l t = [] := by unfold jnE; rw [hn]; rfl
        have h17 : (32 : Int) < (Ly.tidyM (Ly.joinM l t)).length := by omega
        go_wp2
        go_ret2
        exact ⟨_, by rw [hn]; rfl, by rw [hq]; exact World.ownsRow_nil _ _ _ _, HB5.out⟩
end Go.Proofs.YtkjpmngohocmlabGreatDoor.Mk

/-
  Plain facts on what LayerJoin and LayerOn tell together.
-/
namespace Go.Proofs.YtkjpmngohocmlabGreatDoor.Ly
open Go.Lib

theorem jn_parts {a b : List Mk.E} (h : Mk.jnB a b = true) : Mk.layB a = true ∧ Mk.layB b = true ∧ Mk.jnE a b = tidyM (joinM a b) ∧ Mk.layB (tidyM (joinM a b)) = true := by
  have hq : Mk.jnE a b = tidyM (joinM a b) := by unfold Mk.jnE; rw [h]; rfl
  unfold Mk.jnB at h
  rw [Bool.and_eq_true, Bool.and_eq_true, decide_eq_true_eq] at h
  obtain ⟨⟨h1, h2⟩, h3⟩ := h
  exact ⟨h1, h2, hq, rt_lay (join_rt (lay_rt h1) (lay_rt h2)) h3⟩
theorem onB_is (l : List Mk.E) (t : List E) : onB l t = ((Mk.layB l && treeE t) && decide ((onM l t).length ≤ 16)) := rfl
theorem onE_yes {l : List Mk.E} {t : List E} (h : onB l t = true) : onE l t = onM l t := by unfold onE; rw [h]; rfl
theorem onE_no {l : List Mk.E} {t : List E} (h : onB l t = false) : onE l t = [] := by unfold onE; rw [h]; rfl
/-- Two layers that show the same on two trees tell the same. -/
theorem on_same {l l' : List Mk.E} {t t' : List E} (h1 : Mk.layB l = true) (h2 : Mk.layB l' = true) (h3 : treeE t = treeE t') (h4 : treeE t = true → onM l t = onM l' t') : onB l t = onB l' t' ∧ onE l t = onE l' t' := by
  have hb : onB l t = onB l' t' := by
    rw [onB_is, onB_is, h1, h2, ← h3]
    cases ht : treeE t with
    | false => rfl
    | true => rw [h4 ht]
  refine ⟨hb, ?_⟩
  cases ho : onB l t with
  | false => rw [onE_no ho, onE_no (hb.symm.trans ho)]
  | true =>
    rw [onE_yes ho, onE_yes (hb.symm.trans ho)]
    exact h4 (on_is ho).2.1
theorem on_tree {l : List Mk.E} {t : List E} (h : onB l t = true) : treeE (onE l t) = true ∧ TrE (onM l t) := by
  obtain ⟨h1, h2, h3, h4⟩ := on_is h
  have T := on_tr (lay_data h1) (lay_tr' h1) (treeE_tr h2).1
  rw [h4]
  exact ⟨T.treeE h3, T⟩
theorem jn_on {a b : List Mk.E} {t : List E} (h : Mk.jnB a b = true) (h2 : onB b t = true) : onB a (onE b t) = onB (Mk.jnE a b) t ∧ onE a (onE b t) = onE (Mk.jnE a b) t := by
  obtain ⟨g1, g2, g3, g4⟩ := jn_parts h
  obtain ⟨k1, k2, k3, k4⟩ := on_is h2
  refine on_same g1 (by rw [g3]; exact g4) (by rw [(on_tree h2).1, k2]) fun _ => ?_
  rw [k4, g3]
  exact (on_join (lay_rt g1) (lay_rt g2) (treeE_tr k2).1).symm
theorem jn_three {a b c : List Mk.E} {t : List E} (p : Mk.jnB a b = true) (q : Mk.jnB b c = true) (r : Mk.jnB (Mk.jnE a b) c = true) (s : Mk.jnB a (Mk.jnE b c) = true) :
    onB (Mk.jnE (Mk.jnE a b) c) t = onB (Mk.jnE a (Mk.jnE b c)) t ∧ onE (Mk.jnE (Mk.jnE a b) c) t = onE (Mk.jnE a (Mk.jnE b c)) t := by
  obtain ⟨p1, p2, p3, p4⟩ := jn_parts p
  obtain ⟨q1, q2, q3, q4⟩ := jn_parts q
  obtain ⟨r1, r2, r3, r4⟩ := jn_parts r
  obtain ⟨s1, s2, s3, s4⟩ := jn_parts s
  refine on_same (by rw [r3]; exact r4) (by rw [s3]; exact s4) rfl fun ht => ?_
  have U := (treeE_tr ht).1
  have V := on_tr (lay_data q2) (lay_tr' q2) U
  rw [r3, s3, on_join (lay_rt r1) (lay_rt r2) U, on_join (lay_rt s1) (lay_rt s2) U, p3, q3, on_join (lay_rt p1) (lay_rt p2) V, on_join (lay_rt q1) (lay_rt q2) U]
theorem fm_self (f : Mk.E → Option Mk.E) : ∀ l : List Mk.E, (∀ m ∈ l, f m = some m) → l.filterMap f = l
  | [], _ => rfl
  | x :: r, h => by rw [List.filterMap_cons_some (h x (List.mem_cons_self ..)), fm_self f r (fun m hm => h m (List.mem_cons_of_mem _ hm))]
theorem rise_nil_tidy {a : List Mk.E} (A : RtM a) : tidyM a = a := by
  rw [tidy_is A.tr]
  have key : ∀ m ∈ a, leftM a m = some m := fun m hm => by
    unfold leftM
    split
    · rename_i hb
      obtain ⟨k, hk, h1, h2⟩ := (bare_iff A.tr (A.tr.path m hm)).1 hb
      have := A.bare m hm k hk h1 h2
      rw [if_neg (by omega), if_neg (by omega)]
    · rfl
  exact fm_self _ a key
theorem jn_none {a : List Mk.E} (h : Mk.layB a = true) : Mk.jnB a [] = true ∧ Mk.jnE a [] = a ∧ Mk.jnB [] a = true ∧ Mk.jnE [] a = a := by
  have A := lay_rt h
  have hl := Mk.lay_len h
  have h0 : Mk.layB [] = true := rfl
  have e1 : joinM a [] = a := Mk.look_extM (join_rise A.tr Mk.TrM.nil) A.tr.sort fun m => by
    rw [join_mem A.tr Mk.TrM.nil]
    have ho : ∀ k : Mk.E, overM [] k = k := fun k => by
      unfold overM bothK
      have : Mk.kindM [] k.p = 0 := rfl
      rw [this, if_neg (fun q => q.2.1 rfl)]
    simp only [ho]
    constructor
    · rintro (⟨k, hk, rfl⟩ | ⟨h, _⟩)
      · exact hk
      · cases h
    · exact fun h => .inl ⟨m, h, rfl⟩
  have e2 : joinM [] a = a := Mk.look_extM (join_rise Mk.TrM.nil A.tr) A.tr.sort fun m => by
    rw [join_mem Mk.TrM.nil A.tr]
    constructor
    · rintro (⟨k, hk, _⟩ | ⟨h, _⟩)
      · cases hk
      · exact h
    · exact fun h => .inr ⟨h, rfl, rfl⟩
  have b1 : Mk.jnB a [] = true := by unfold Mk.jnB; rw [h, h0, e1, rise_nil_tidy A, decide_eq_true hl]; rfl
  have b2 : Mk.jnB [] a = true := by unfold Mk.jnB; rw [h, h0, e2, rise_nil_tidy A, decide_eq_true hl]; rfl
  refine ⟨b1, ?_, b2, ?_⟩
  · rw [(jn_parts b1).2.2.1, e1, rise_nil_tidy A]
  · rw [(jn_parts b2).2.2.1, e2, rise_nil_tidy A]
theorem jn_top {a b : List Mk.E} {t : List E} (h : Mk.jnB a b = true) (h1 : onB (Mk.jnE a b) t = true) (h2 : Mk.jnB a (Mk.jnE a b) = true) :
    onB (Mk.jnE a (Mk.jnE a b)) t = true ∧ onE (Mk.jnE a (Mk.jnE a b)) t = onE (Mk.jnE a b) t ∧ onB a (onE (Mk.jnE a b) t) = true ∧ onE a (onE (Mk.jnE a b) t) = onE (Mk.jnE a b) t := by
  obtain ⟨g1, g2, g3, g4⟩ := jn_parts h
  obtain ⟨k1, k2, k3, k4⟩ := jn_parts h2
  obtain ⟨n1, n2, n3, n4⟩ := on_is h1
  have U := (treeE_tr n2).1
  have V := on_tr (lay_data g2) (lay_tr' g2) U
  have hj : onM (Mk.jnE a b) t = onM a (onM b t) := by rw [g3]; exact on_join (lay_rt g1) (lay_rt g2) U
  have e1 : onM a (onM (Mk.jnE a b) t) = onM (Mk.jnE a b) t := by rw [hj]; exact on_twice (lay_tr' g1) V.sort
  have e2 : onM (Mk.jnE a (Mk.jnE a b)) t = onM (Mk.jnE a b) t := by
    rw [k3, on_join (lay_rt k1) (lay_rt k2) U]; exact e1
  obtain ⟨b1, b2⟩ := on_same (l := Mk.jnE a (Mk.jnE a b)) (l' := Mk.jnE a b) (t := t) (t' := t) (by rw [k3]; exact k4) n1 rfl (fun _ => e2)
  have b3 := on_same (l := a) (l' := Mk.jnE a b) (t := onE (Mk.jnE a b) t) (t' := t) g1 n1 (by rw [(on_tree h1).1, n2]) (fun _ => by rw [n4]; exact e1)
  exact ⟨b1.trans h1, b2, b3.1.trans h1, b3.2⟩
theorem jn_sz {a b : List Mk.E} (hz : ∀ e ∈ a, e.p.size ≤ 16777216 ∧ e.x.size ≤ 16777216) (hz' : ∀ e ∈ b, e.p.size ≤ 16777216 ∧ e.x.size ≤ 16777216) : (Mk.jnE a b).length ≤ 32 ∧ ∀ e ∈ Mk.jnE a b, e.p.size ≤ 16777216 ∧ e.x.size ≤ 16777216 := by
  cases h : Mk.jnB a b with
  | false =>
    have : Mk.jnE a b = [] := by unfold Mk.jnE; rw [h]; rfl
    rw [this]; exact ⟨Nat.zero_le _, fun e he => by cases he⟩
  | true =>
    obtain ⟨g1, g2, g3, g4⟩ := jn_parts h
    refine ⟨by rw [g3]; exact Mk.lay_len g4, fun e he => ?_⟩
    rw [g3] at he
    obtain ⟨m, hm, hl⟩ := (tidy_mem (join_tr (lay_tr' g1) (lay_tr' g2)) e).1 he
    have hmz := Mk.join_sz (lay_tr' g1) (lay_tr' g2) hz hz' m hm
    refine ⟨by rw [left_path hl]; exact hmz.1, ?_⟩
    unfold leftM at hl
    split at hl
    · split at hl
      · cases hl
      · split at hl
        · cases hl; exact hmz.2
        · cases hl; exact hmz.2
    · cases hl; exact hmz.2
theorem onE_sz {l : List Mk.E} {t : List E} (hz : ∀ e ∈ l, e.p.size ≤ 16777216 ∧ e.x.size ≤ 16777216) (hz' : ∀ e ∈ t, e.p.size ≤ 16777216 ∧ e.x.size ≤ 16777216) : (onE l t).length ≤ 16 ∧ ∀ e ∈ onE l t, e.p.size ≤ 16777216 ∧ e.x.size ≤ 16777216 := by
  cases h : onB l t with
  | false => rw [onE_no h]; exact ⟨Nat.zero_le _, fun e he => by cases he⟩
  | true =>
    obtain ⟨p1, p2, p3, p4⟩ := on_is h
    rw [p4]
    exact ⟨p3, on_sz (lay_tr' p1) (treeE_tr p2).1 hz hz'⟩
theorem jn_no {a b : List Mk.E} (h : Mk.jnB a b = false) : Mk.jnE a b = [] := by unfold Mk.jnE; rw [h]; rfl
end Go.Proofs.YtkjpmngohocmlabGreatDoor.Ly

/-
  The walk of the program's own TreeTurned.
-/
namespace Go.Proofs.YtkjpmngohocmlabGreatDoor
open Go.RowKit Go.Shelf Go.Lib Go.Maps

attribute [local go_sem] Oper.semAt_some

theorem infoStr : (Tryz.prog.info? 9).map (fun i => (i.zero, i.size, i.bytes)) = some (some (.string ByteArray.empty), 1, 16) := by kernel_rfl
/-- What is turned of what one tree has, held against the other. -/
def same1 (fs : List E) (y : ByteArray × E) : Bool := match lookE fs y.1 with
  | some f => sameT1 f y.2
  | none => false
def turn1 (fs : List E) (xs : List (ByteArray × E)) : List ByteArray := (xs.filter (fun y => !same1 fs y)).map (·.1)
theorem turn1_hit (fs : List E) {Lt : List (ByteArray × E)} (pre : List (ItemT Lt)) {y : ByteArray × E} (h : y ∈ Lt) (hs : same1 fs y = false) : turn1 fs ((pre ++ [⟨y, h⟩] : List (ItemT Lt)).map Subtype.val) = turn1 fs (pre.map Subtype.val) ++ [y.1] := by
  unfold turn1; rw [List.map_append, List.filter_append, List.map_append]; simp [hs]
theorem turn1_miss (fs : List E) {Lt : List (ByteArray × E)} (pre : List (ItemT Lt)) {y : ByteArray × E} (h : y ∈ Lt) (hs : same1 fs y = true) : turn1 fs ((pre ++ [⟨y, h⟩] : List (ItemT Lt)).map Subtype.val) = turn1 fs (pre.map Subtype.val) := by
  unfold turn1; rw [List.map_append, List.filter_append, List.map_append]; simp [hs]
theorem turn1_len (fs : List E) {Lt : List (ByteArray × E)} (pre : List (ItemT Lt)) : (turn1 fs (pre.map Subtype.val)).length ≤ pre.length := by
  unfold turn1
  rw [List.length_map]
  have := List.length_filter_le (fun y => !same1 fs y) (pre.map Subtype.val)
  rw [List.length_map] at this; exact this
def turn2 (es : List E) (xs : List (ByteArray × E)) : List ByteArray := (xs.filter (fun y => (lookE es y.1).isNone)).map (·.1)
theorem turn2_hit (es : List E) {Lt : List (ByteArray × E)} (pre : List (ItemT Lt)) {y : ByteArray × E} (h : y ∈ Lt) (hs : lookE es y.1 = none) : turn2 es ((pre ++ [⟨y, h⟩] : List (ItemT Lt)).map Subtype.val) = turn2 es (pre.map Subtype.val) ++ [y.1] := by
  unfold turn2; rw [List.map_append, List.filter_append, List.map_append]; simp [hs]
theorem turn2_miss (es : List E) {Lt : List (ByteArray × E)} (pre : List (ItemT Lt)) {y : ByteArray × E} (h : y ∈ Lt) (hs : (lookE es y.1).isSome = true) : turn2 es ((pre ++ [⟨y, h⟩] : List (ItemT Lt)).map Subtype.val) = turn2 es (pre.map Subtype.val) := by
  have hn : (lookE es y.1).isNone = false := by cases hl : lookE es y.1 with
    | none => rw [hl] at hs; cases hs
    | some _ => rfl
  unfold turn2; rw [List.map_append, List.filter_append, List.map_append]; simp [hn]
theorem turn2_len (es : List E) {Lt : List (ByteArray × E)} (pre : List (ItemT Lt)) : (turn2 es (pre.map Subtype.val)).length ≤ pre.length := by
  unfold turn2
  rw [List.length_map]
  have := List.length_filter_le (fun y : ByteArray × E => (lookE es y.1).isNone) (pre.map Subtype.val)
  rw [List.length_map] at this; exact this
theorem turn1_len' (fs : List E) (xs : List (ByteArray × E)) : (turn1 fs xs).length ≤ xs.length := by
  unfold turn1
  rw [List.length_map]
  exact List.length_filter_le _ _
theorem turn2_len' (es : List E) (xs : List (ByteArray × E)) : (turn2 es xs).length ≤ xs.length := by
  unfold turn2
  rw [List.length_map]
  exact List.length_filter_le _ _
theorem turn1_mem {es fs : List E} (T : TrE es) (s : ByteArray) : s ∈ turn1 fs (told es ⟨#[47]⟩ ⟨#[]⟩) ↔ ∃ e, lookE es s = some e ∧ lookE fs s ≠ some e := by
  unfold turn1
  rw [told_all T, List.mem_map]
  have hs1 : ∀ e : E, same1 fs (e.p, e) = true ↔ lookE fs e.p = some e := fun e => by
    unfold same1
    cases hl : lookE fs e.p with
    | none => simp
    | some f => show sameT1 f e = true ↔ _; rw [sameT1_iff]; simp
  constructor
  · rintro ⟨y, hy, rfl⟩
    obtain ⟨h1, h2⟩ := List.mem_filter.1 hy
    obtain ⟨e, he, rfl⟩ := List.mem_map.1 h1
    refine ⟨e, look_self T.sort he, fun q => ?_⟩
    rw [(hs1 e).2 q] at h2; cases h2
  · rintro ⟨e, h1, h2⟩
    obtain ⟨h3, rfl⟩ := look_mem h1
    refine ⟨(e.p, e), List.mem_filter.2 ⟨List.mem_map.2 ⟨e, h3, rfl⟩, ?_⟩, rfl⟩
    cases hs : same1 fs (e.p, e) with
    | false => rfl
    | true => exact absurd ((hs1 e).1 hs) h2
theorem turn2_mem {es fs : List E} (U : TrE fs) (s : ByteArray) : s ∈ turn2 es (told fs ⟨#[47]⟩ ⟨#[]⟩) ↔ lookE es s = none ∧ ∃ f, lookE fs s = some f := by
  unfold turn2
  rw [told_all U, List.mem_map]
  constructor
  · rintro ⟨y, hy, rfl⟩
    obtain ⟨h1, h2⟩ := List.mem_filter.1 hy
    obtain ⟨e, he, rfl⟩ := List.mem_map.1 h1
    exact ⟨Option.isNone_iff_eq_none.1 h2, e, look_self U.sort he⟩
  · rintro ⟨h1, f, h2⟩
    obtain ⟨h3, rfl⟩ := look_mem h2
    exact ⟨(f.p, f), List.mem_filter.2 ⟨List.mem_map.2 ⟨f, h3, rfl⟩, by show (lookE es f.p).isNone = true; rw [h1]; rfl⟩, rfl⟩
theorem turn1_rise {es : List E} (T : TrE es) (fs : List E) : (turn1 fs (told es ⟨#[47]⟩ ⟨#[]⟩)).Pairwise less := by
  unfold turn1
  rw [told_all T, List.pairwise_map]
  refine List.Pairwise.filter _ ?_
  rw [List.pairwise_map]
  exact T.sort
theorem turn2_rise {fs : List E} (U : TrE fs) (es : List E) : (turn2 es (told fs ⟨#[47]⟩ ⟨#[]⟩)).Pairwise less := by
  unfold turn2
  rw [told_all U, List.pairwise_map]
  refine List.Pairwise.filter _ ?_
  rw [List.pairwise_map]
  exact U.sort
theorem nodup_less {l : List ByteArray} (h : l.Pairwise less) : l.Nodup := h.imp fun {a b} k e => by rw [e] at k; exact less_irrefl _ k
theorem turn_perm {es fs : List E} (T : TrE es) (U : TrE fs) : (turn1 fs (told es ⟨#[47]⟩ ⟨#[]⟩) ++ turn2 es (told fs ⟨#[47]⟩ ⟨#[]⟩)).Perm (turnE es fs) := by
  refine (List.perm_ext_iff_of_nodup ?_ (nodup_less (turnE_rise T))).2 fun s => ?_
  · rw [List.nodup_append]
    refine ⟨nodup_less (turn1_rise T fs), nodup_less (turn2_rise U es), fun a ha b hb e => ?_⟩
    subst e
    obtain ⟨e, h1, _⟩ := (turn1_mem T a).1 ha
    have h2 := ((turn2_mem U a).1 hb).1
    rw [h1] at h2; cases h2
  · rw [List.mem_append, turn1_mem T, turn2_mem U, turnE_mem T U]
    unfold differ
    constructor
    · rintro (⟨e, h1, h2⟩ | ⟨h1, f, h2⟩)
      · rw [h1]; exact fun q => h2 q.symm
      · rw [h1, h2]; simp
    · intro h
      cases h1 : lookE es s with
      | some e => exact .inl ⟨e, rfl, fun q => h (by rw [h1, q])⟩
      | none =>
        cases h2 : lookE fs s with
        | some f => exact .inr ⟨rfl, f, rfl⟩
        | none => rw [h1, h2] at h; exact absurd rfl h
theorem def_kept {W w5 : World} {base n D : Nat} {e : TypeId} {size : Nat} {v : Value} {xs : List Value} {ds : Option (List Deferred)} (hr : W.ownsRow base e size v n xs) (hg : W.grownBy w5 v.ownBlock) (hD : W.heap[D]? = some (.deferred ds)) : w5.heap[D]? = some (.deferred ds) := by
  refine (hg.block D (Array.getElem?_eq_some_iff.1 hD).1 fun q => ?_).trans hD
  rcases hr.2 with ⟨rfl, _⟩ | ⟨g, cap, cur, rfl, _, hh, _⟩
  · simp [Value.ownBlock] at q
  · obtain rfl : D = g := by simpa [Value.ownBlock] using q
    rw [hh] at hD; cases hD
theorem row_base {W : World} {base n : Nat} {e : TypeId} {size : Nat} {v : Value} {xs : List Value} (hr : W.ownsRow base e size v n xs) : ∀ j, v.ownBlock = some j → base ≤ j := by
  intro j hj
  rcases hr.2 with ⟨rfl, _⟩ | ⟨g, cap, cur, rfl, hb, _⟩
  · simp [Value.ownBlock] at hj
  · obtain rfl : g = j := by simpa [Value.ownBlock] using hj
    exact hb
theorem below_put {n D : Nat} {W : World} (h : n ≤ D) (o : Obj) : Below n W (W.putObj D o) := ⟨rfl, rfl, rfl, by simp, fun k hk => World.putObj_heap_other (by omega)⟩
theorem row_lowT {w : World} {base base' : Nat} {e : TypeId} {size : Nat} {v : Value} {n : Nat} {xs : List Value} (h : w.ownsRow base e size v n xs) (hb : base' ≤ base) : w.ownsRow base' e size v n xs := by
  obtain ⟨h1, h2 | ⟨g, cap, cur, e1, e2, e3⟩⟩ := h
  · exact ⟨h1, .inl h2⟩
  · exact ⟨h1, .inr ⟨g, cap, cur, e1, Nat.le_trans hb e2, e3⟩⟩
theorem row_below {w w' : World} {base n : Nat} {e : TypeId} {size : Nat} {v : Value} {xs : List Value} (h : w.ownsRow base e size v n xs) (hb : Below w.heap.size w w') : w'.ownsRow base e size v n xs := by
  obtain ⟨h1, h2 | ⟨g, cap, cur, e1, e2, e3, e4⟩⟩ := h
  · exact ⟨h1, .inl h2⟩
  · exact ⟨h1, .inr ⟨g, cap, cur, e1, e2, (hb.block g (Array.getElem?_eq_some_iff.1 e3).1).trans e3, e4⟩⟩
theorem keepsB {w w' : World} {B : Nat} (hb : Below w.heap.size w w') : KeepsFrom B w w' := ⟨hb.size, fun k _ _ h _ => (hb.block k (Array.getElem?_eq_some_iff.1 h).1).trans h⟩
theorem tree_len {es : List E} (h : treeE es = true) : es.length ≤ 1000 := by
  unfold treeE at h
  rw [Bool.and_eq_true] at h
  have := of_decide_eq_true h.1; omega
theorem lev_root : 0 ≤ levS ⟨#[47]⟩ := by decide

set_option maxHeartbeats 4000000 in
set_option maxRecDepth 100000 in
theorem iTurned_ok (w : World) (a : Option Addr) (g o cap : Nat) (es : List E) (a' : Option Addr) (g' o' cap' : Nat) (fs : List E) (ae : Int → Addr) (hErr : Errs2 w ae) (hl : es.length ≤ 16777216) (hl' : fs.length ≤ 16777216)
    (hz : ∀ e ∈ es, e.p.size ≤ 16777216 ∧ e.x.size ≤ 16777216) (hz' : ∀ e ∈ fs, e.p.size ≤ 16777216 ∧ e.x.size ≤ 16777216) (ha : 0 < es.length → a = some ⟨g, o, none⟩) (ha' : 0 < fs.length → a' = some ⟨g', o', none⟩) (hE : Ents w g o es) (hF : Ents w g' o' fs) (ht : treeE es = true) (hu : treeE fs = true) :
    Calls Tryz.prog 18 #[.slice a es.length cap, .slice a' fs.length cap'] w fun r w' => ∃ v, r = .returned v ∧ w'.ownsRow w.heap.size 9 1 v (turnE es fs).length ((turnE es fs).map Value.string) ∧ Below w.heap.size w w' := by
  obtain ⟨i0, hi, hi0, hi1, hi2⟩ := info_parts infoStr
  have T := (treeE_tr ht).1
  have U := (treeE_tr hu).1
  have HT := hidE (treeOf_any w a g o cap es ae hErr hl hz ha hE)
  have HU := hidE (fun (W : World) (hW : Below w.heap.size w W) => treeOf_any W a' g' o' cap' fs ae (hErr.below hW) hl' hz' ha' (hF.below hW))
  rw [ht] at HT
  rw [hu] at HU
  have HZ := hidE hz
  have HZ' := hidE hz'
  clear hErr hz hz' ha ha' hE hF
  refine (callsIn_wide (n := 6)).1 ?_
  refine callsIn_of_wp_marks Tryz.func18 rfl trivial ?_ rfl
  simp only [Tryz.ntmps18, List.size_toArray, List.length_cons, List.length_nil, Nat.reduceAdd, Nat.reduceSub, Array.replicate_succ, Array.replicate_zero, List.push_toArray, List.append_toArray, List.nil_append, List.cons_append]
  gi_wp2_with fail
  refine ⟨trivial, ?_⟩
  refine (callsIn_wide.2 HT.out).mono ?_
  rintro e w1 ⟨A, rfl, hB1, hR1⟩
  have hBt1 : Below w1.heap.size w1 (w1.alloc (.cells #[.bool true, .string ⟨#[]⟩, .map (some (A ⟨#[47]⟩))] 56)) := (Below.refl _ w1).alloc (Nat.le_refl _) _
  have HB1 := hidE (hB1.trans (hBt1.mono hB1.size))
  have HR1 := hidE ((hR1 trivial).below hBt1)
  clear hB1 hR1 hBt1
  gi_wp2_with fail
  refine ⟨trivial, ?_⟩
  refine (callsIn_wide.2 (HU.out _ HB1.out)).mono ?_
  rintro e w2 ⟨B, rfl, hB2, hR2⟩
  obtain ⟨-, a0, a1, a2, -, -, -, -⟩ := boxKept hB2 (b := w1.heap.size) (p := .bool true) (q := .string ⟨#[]⟩) (r := .map (some (A ⟨#[47]⟩))) ⟨by simp, by simp, by simp⟩ ⟨by simp, by simp, by simp⟩
  have hBt2 : Below w2.heap.size w2 (w2.alloc (.cells #[.bool true, .string ⟨#[]⟩, .map (some (B ⟨#[47]⟩))] 56)) := (Below.refl _ w2).alloc (Nat.le_refl _) _
  have HB2 := hidE ((HB1.out.trans (hB2.mono HB1.out.size)).trans (hBt2.mono (HB1.out.trans (hB2.mono HB1.out.size)).size))
  have HR2 := hidE ((HR1.out.below hB2).below hBt2)
  have HS2 := hidE ((hR2 trivial).below hBt2)
  have hs12 := hB2.size
  simp only [World.size_alloc] at hs12
  obtain ⟨Wv, hWv⟩ : ∃ Wv, Wv = w2.alloc (.cells #[.bool true, .string ⟨#[]⟩, .map (some (B ⟨#[47]⟩))] 56) := ⟨_, rfl⟩
  have hszv : Wv.heap.size = w2.heap.size + 1 := by rw [hWv]; simp
  have p0 : Wv.cell? ⟨w1.heap.size, 0, none⟩ = some (.bool true) := by rw [hWv]; exact a0 _
  have p1 : Wv.cell? ⟨w1.heap.size, 1, none⟩ = some (.string ⟨#[]⟩) := by rw [hWv]; exact a1 _
  have p2 : Wv.cell? ⟨w1.heap.size, 2, none⟩ = some (.map (some (A ⟨#[47]⟩))) := by rw [hWv]; exact a2 _
  have q0 : Wv.cell? ⟨w2.heap.size, 0, none⟩ = some (.bool true) := by rw [hWv]; simp
  have q1 : Wv.cell? ⟨w2.heap.size, 1, none⟩ = some (.string ⟨#[]⟩) := by rw [hWv]; simp
  have q2 : Wv.cell? ⟨w2.heap.size, 2, none⟩ = some (.map (some (B ⟨#[47]⟩))) := by rw [hWv]; simp
  rw [← hWv] at HB2 HR2 HS2 hBt2
  have c0 := cellOn (.cells #[.slice none 0 0] 40) p0
  have c1 := cellOn (.cells #[.slice none 0 0] 40) p1
  have c2 := cellOn (.cells #[.slice none 0 0] 40) p2
  have c0' := c0
  have c1' := c1
  have c2' := c2
  rw [hWv] at c0 c1 c2
  clear hB2 hR2 hBt2 a0 a1 a2
  gi_wp2_with fail
  rw [← hWv]
  rw [← hszv]
  refine ⟨trivial, ?_⟩
  refine (callsIn_wide.2 (all_any A _)).mono ?_
  rintro e w3 ⟨b, hb1, hb2, rfl, hB3, d0, d1, d2, d3⟩
  have hB3' : Below Wv.heap.size Wv w3 := ((Below.refl _ Wv).alloc (Nat.le_refl _) _).trans (hB3.mono (by simp))
  have hbx : Boxed w3 Wv.heap.size 40 (.slice none 0 0) := (hB3.block _ (by simp)).trans (World.alloc_heap_new Wv _)
  have hs3 := hB3.size
  simp only [World.size_alloc] at hb1 hs3
  clear c0 c1 c2 c0' c1' c2' hWv hB3
  gi_wp2
  have hvb : w2.heap.size + 1 < w3.heap.size := by omega
  have HB3 := hidE hB3'
  have HQ := hidE (And.intro q0 (And.intro q1 q2))
  have HP := hidE (And.intro p0 (And.intro p1 p2))
  rw [hszv] at hbx
  have hnv : w2.heap.size + 1 ≤ Wv.heap.size := by omega
  have hes := (treeE_len ht)
  have hrow0 : w3.ownsRow (w2.heap.size + 1) 9 1 (.slice none 0 0) 0 [] := World.ownsRow_nil _ _ _ _
  clear q0 q1 q2 p0 p1 p2 hB3'
  refine wpIn_rangeFunc_ownH rfl (by omega) (gf := 129) (lb := #[.pointer (some ⟨b, 0, none⟩), .pointer (some ⟨b + 1, 0, none⟩)]) rfl trivial (enters_of Tryz.func129 (by kernel_rfl) rfl)
    (below_stops _ (by omega) es A w.heap.size 16 (w2.heap.size + 1) (by omega) (tree_len ht) T ⟨#[47]⟩ ⟨#[]⟩ (by decide) true ⟨#[]⟩ (some (A ⟨#[47]⟩)) (.inl ⟨look_dir (.inl rfl), rfl⟩) b (b + 1) w3 (by omega) (by omega) d0 d1 d2 d3 (HR2.out.below HB3.out) hvb (good_row hbx hrow0) (lev_root)) KpT.t (KpT.b hvb) (Below.refl _ _) (fun _ => rfl)
    (fun (pre : List (ItemT (told es ⟨#[47]⟩ ⟨#[]⟩))) W => (∃ v, Boxed W (w2.heap.size + 1) 40 v ∧ W.ownsRow (w2.heap.size + 1) 9 1 v (turn1 fs (pre.map Subtype.val)).length ((turn1 fs (pre.map Subtype.val)).map Value.string) ∧ True) ∧ Below (w2.heap.size + 1) Wv W)
    (fun _ _ _ => False)
    (OwnFrom.and (Own.from (holdsRow_own (w2.heap.size + 1) (w2.heap.size + 1) 40 9 1 (fun (pre : List (ItemT (told es ⟨#[47]⟩ ⟨#[]⟩))) => (turn1 fs (pre.map Subtype.val)).length) (fun (pre : List (ItemT (told es ⟨#[47]⟩ ⟨#[]⟩))) => (turn1 fs (pre.map Subtype.val)).map Value.string) (fun _ _ => True)) _) (ownFrom_below hnv (by omega)))
    (fun _ _ _ _ _ hs _ _ => hs)
    ⟨⟨_, hbx, hrow0, trivial⟩, HB3.out.mono hnv⟩
    (fun x ac W => ∃ Bx, w2.heap.size + 1 < Bx ∧ (W.cell? ⟨Bx, 0, none⟩ = some (.bool x.1.2.d) ∧ W.cell? ⟨Bx, 1, none⟩ = some (.string x.1.2.x) ∧ W.cell? ⟨Bx, 2, none⟩ = some (.map (optV x.1.2.d (A x.1.2.p)))) ∧ ac = { tmps := #[Value.slice a es.length cap, Value.slice a' fs.length cap', undef, undef, Value.slice none 0 0, Value.pointer (some { block := w1.heap.size, off := 0 }), Value.bool true, Value.pointer (some { block := w2.heap.size, off := 0 }), Value.bool true, Value.pointer (some { block := w2.heap.size + 1, off := 0 }), Value.string x.1.1, Value.pointer (some ⟨Bx, 0, none⟩), undef, undef, undef, undef, undef, Value.tuple #[treeV A, Value.bool true], Value.slice a es.length cap, Value.tuple #[treeV A, Value.bool true], treeV A, Value.bool true, Value.tuple #[treeV B, Value.bool true], Value.slice a' fs.length cap', Value.tuple #[treeV B, Value.bool true], treeV B, Value.bool true, Value.bool true, Value.bool false, Value.bool false, Value.bool true, Value.bool false, Value.bool false, Value.agg #[Value.bool true, Value.string { data := #[] }, Value.map (some (A { data := #[47] }))], Value.func (Fn.func 129) #[] #[Value.pointer (some { block := b, off := 0 }), Value.pointer (some { block := b + 1, off := 0 })], Value.string x.1.1, Value.agg #[Value.bool x.1.2.d, Value.string x.1.2.x, Value.map (optV x.1.2.d (A x.1.2.p))], undef, undef, undef, undef, undef, undef, undef, undef, undef, undef, undef, undef, undef, undef, undef, undef, undef, undef, undef, undef, undef, undef, undef, undef, undef, undef, undef, undef, undef, undef, undef, undef, undef, undef, undef, undef, undef, undef, undef, undef], defers := [] })
    (fun x ac _ X Y row hs hg hr => by obtain ⟨Bx, h1, ⟨h2, h3, h4⟩, h5⟩ := hs; exact ⟨Bx, h1, ⟨cell_kept h2 hg (fun r e => (hr r e).2), cell_kept h3 hg (fun r e => (hr r e).2), cell_kept h4 hg (fun r e => (hr r e).2)⟩, h5⟩)
    ?assign ?body ?done ?stop
  case assign =>
    rintro l pre x W K ⟨⟨v, hv, hrow, -⟩, hB⟩ hK
    gi_wp2
    exact hK _ _ ((KeepsOthers.alloc _ _).from _) (kpt_of ((Below.refl _ W).alloc (Nat.le_refl _) _) hv.lt) ⟨⟨v, hv.alloc _, hrow.alloc _, trivial⟩, hB.alloc (Nat.le_of_lt hv.lt) _⟩ ⟨W.heap.size, hv.lt, ⟨by simp, by simp, by simp⟩, rfl⟩
  case body =>
    rintro l pre x ac W hl ⟨r, hr⟩ ⟨⟨v, hv, hrow, -⟩, hB⟩ ⟨Bx, hBx, ⟨x0, x1, x2⟩, rfl⟩ hlt
    obtain ⟨⟨s, e⟩, hxm⟩ := x
    have hse : s = e.p ∧ e ∈ es := by
      have h := hxm
      rw [told_all T, List.mem_map] at h
      obtain ⟨e', h1, h2⟩ := h
      injection h2 with h2 h3
      subst h3
      exact ⟨h2.symm, h1⟩
    obtain ⟨rfl, he⟩ := hse
    have hpl := turn1_len fs pre
    have htl : (told es ⟨#[47]⟩ ⟨#[]⟩).length = es.length := by rw [told_all T, List.length_map]
    have hes1 := tree_len ht
    have hroot := root_not_path (T.path e he)
    have hez := (HZ.out e he).1
    have hBW : Below Wv.heap.size Wv W := by rw [hszv]; exact hB
    have RW := HS2.out.below hBW
    have hAt := at_any W _ 16 fs B U RW e.p (by omega)
    obtain ⟨q0, q1, q2⟩ := HQ.out
    have r0 := (hB.cell (p := ⟨w2.heap.size, 0, none⟩) (by simp)).trans q0
    have r1 := (hB.cell (p := ⟨w2.heap.size, 1, none⟩) (by simp)).trans q1
    have r2 := (hB.cell (p := ⟨w2.heap.size, 2, none⟩) (by simp)).trans q2
    have HAt := hidE hAt
    have HV := hidE hv
    have HRow := hidE hrow
    clear q0 q1 q2 hAt hrow hv
    dsimp only at x0 x1 x2 ⊢
    cases hlk : lookE fs e.p with
    | none =>
      have hat : atE fs B e.p = (zeroN, false) := by unfold atE; rw [hroot, hlk]; rfl
      rw [hat] at HAt
      gi_wp2_with fail
      refine ⟨trivial, ?_⟩
      refine (CallsIn.inRound l (callsIn_wide.2 HAt.out)).mono ?_
      rintro e2 W2 ⟨rfl, hB2⟩
      gi_wp2
      have hfe : Fence.wide.fn 54 := trivial
      have hsame : same1 fs (e.p, e) = false := by unfold same1; rw [hlk]
      have hcol : turn1 fs ((pre ++ [⟨(e.p, e), hxm⟩] : List (ItemT (told es ⟨#[47]⟩ ⟨#[]⟩))).map Subtype.val) = turn1 fs (pre.map Subtype.val) ++ [e.p] := turn1_hit fs pre hxm hsame
      rename_i Kx hKx
      have HK : ∀ Wz, Below W.heap.size W Wz → Kx { tmps := #[Value.slice a es.length cap, Value.slice a' fs.length cap', undef, undef, Value.slice none 0 0, Value.pointer (some { block := w1.heap.size, off := 0 }), Value.bool true, Value.pointer (some { block := w2.heap.size, off := 0 }), Value.bool true, Value.pointer (some { block := w2.heap.size + 1, off := 0 }), Value.string e.p, Value.pointer (some { block := Bx, off := 0 }), Value.pointer (some { block := W2.heap.size, off := 0 }), Value.bool false, undef, undef, undef, Value.tuple #[treeV A, Value.bool true], Value.slice a es.length cap, Value.tuple #[treeV A, Value.bool true], treeV A, Value.bool true, Value.tuple #[treeV B, Value.bool true], Value.slice a' fs.length cap', Value.tuple #[treeV B, Value.bool true], treeV B, Value.bool true, Value.bool true, Value.bool false, Value.bool false, Value.bool true, Value.bool false, Value.bool false, Value.agg #[Value.bool true, Value.string { data := #[] }, Value.map (some (A { data := #[47] }))], Value.func (Fn.func 129) #[] #[Value.pointer (some { block := b, off := 0 }), Value.pointer (some { block := b + 1, off := 0 })], Value.string e.p, Value.agg #[Value.bool e.d, Value.string e.x, Value.map (optV e.d (A e.p))], Value.tuple #[zeroN, Value.bool false], Value.agg #[Value.bool true, Value.string { data := #[] }, Value.map (some (B { data := #[47] }))], Value.string e.p, Value.tuple #[zeroN, Value.bool false], zeroN, Value.bool false, Value.bool false, Value.bool true, Value.bool true, undef, undef, undef, undef, undef, undef, undef, Value.bool true, undef, undef, undef, undef, undef, undef, undef, undef, undef, undef, undef, undef, undef, undef, undef, undef, undef, undef, undef, undef, undef, undef, undef], defers := [] } Wz := fun Wz hBz => hKx _ _ (by
        have hvz : Boxed Wz (w2.heap.size + 1) 40 v := (hBz.block _ HV.out.lt).trans HV.out
        have hrowz := row_below HRow.out hBz
        have hcz := hvz.cell
        have hszz := hBz.size
        have hvl := HV.out.lt
        have HRz := hidE hrowz
        have HVz := hidE hvz
        clear hrowz
        gi_wp2_with (gi_at_builtin; refine wpListIn_append_own_at _ rfl _ _ 40 rfl (w2.heap.size + 1) 9 i0 (.string ByteArray.empty) 1 16 Tryz.underlying40 hi hi0 hi1 hi2 rfl (by decide) _ _ _ rfl (HRz.out.alloc _) ⟨Wz.heap.size, 0, none⟩ 1 1 [.string e.p] rfl rfl (cell_one_new _ _ _) (by simp [Value.oneCell']) (by unfold maxLen; omega) (by omega) (by simp; omega) ?_; intro v' w5 hown' hgrow hnil hat; obtain ⟨hv1, hv2, hr2, hk2, hb2⟩ := HVz.out.appended (by decide) HRz.out (by omega) (Nat.le_refl _) hown' hgrow; have hKp := KpT.appended HVz.out (by decide) HRz.out (by omega) (Nat.le_refl _) hown' hgrow hat; obtain ⟨g5, cap5, rfl⟩ := ownsRow_succ hown'; have hc1 := hv1.cell; have hf1 := hv1.frozen)
        refine ⟨(keepsB hBz).trans (hk2.from _), (kpt_of hBz hvl).t hKp, ⟨_, hv2, ?_, trivial⟩, (hB.trans (hBz.mono (Nat.le_of_lt hvl))).trans hb2⟩
        rw [hcol, List.length_append, List.map_append]
        exact hr2)
      have hBy := hB2.trans (((Below.refl _ W2).alloc (Nat.le_refl _) (.cells #[.bool false, .string ⟨#[]⟩, .map none] 54)).mono hB2.size)
      gi_region_with (fail)
      all_goals exact HK _ hBy.drew
    | some f =>
      have hfp : f.p = e.p := (look_mem hlk).2
      have hat : atE fs B e.p = (.agg #[.bool f.d, .string f.x, .map (optV f.d (B e.p))], true) := by unfold atE; rw [hroot, hlk]; rfl
      rw [hat] at HAt
      gi_wp2_with fail
      refine ⟨trivial, ?_⟩
      refine (CallsIn.inRound l (callsIn_wide.2 HAt.out)).mono ?_
      rintro e2 W2 ⟨rfl, hB2⟩
      obtain ⟨X, hX⟩ : ∃ X, X = W2.alloc (.cells #[.bool f.d, .string f.x, .map (optV f.d (B e.p))] 54) := ⟨_, rfl⟩
      have hBy : Below W.heap.size W X := by rw [hX]; exact hB2.trans (((Below.refl _ W2).alloc (Nat.le_refl _) _).mono hB2.size)
      have AS : Hid (∀ W', Below X.heap.size X W' → (W'.cell? ⟨W2.heap.size, 0, none⟩ = some (.bool f.d) ∧ W'.cell? ⟨W2.heap.size, 1, none⟩ = some (.string f.x) ∧ W'.cell? ⟨W2.heap.size, 2, none⟩ = some (.map (optV f.d (B e.p)))) ∧ W'.cell? ⟨Bx, 0, none⟩ = some (.bool e.d) ∧ W'.cell? ⟨Bx, 1, none⟩ = some (.string e.x) ∧ W'.cell? ⟨Bx, 2, none⟩ = some (.map (optV e.d (A e.p)))) := fun W' h =>
        ⟨⟨below_cell h (by rw [hX]; simp), below_cell h (by rw [hX]; simp), below_cell h (by rw [hX]; simp)⟩, below_cell h (below_cell hBy x0), below_cell h (below_cell hBy x1), below_cell h (below_cell hBy x2)⟩
      obtain ⟨⟨y0, y1, y2⟩, y3, y4, y5⟩ := AS.out X.drew (Below.refl _ _).drew
      have hfe : Fence.wide.fn 54 := trivial
      obtain ⟨bb, hbb⟩ : ∃ bb, ((e.p.toList == e.p.toList) && (f.d == e.d) && (f.x.toList == e.x.toList)) = bb := ⟨_, rfl⟩
      have hcmp : ∀ W', (Op.equalIn 10000 47 (.agg #[.string e.p, .bool f.d, .string f.x]) (.agg #[.string e.p, .bool e.d, .string e.x])).run Tryz.prog W' = .ok bb W' := fun W' => by rw [← hbb]; exact eq_entP ..
      have hgrd := fun op x y xs ys W' => guard_entP op x y xs ys W'
      have HBB := hidE hbb
      clear hbb
      gi_wp2
      rw [← hX]
      clear hX
      have hS := hidE ((Below.refl X.heap.size X).drew)
      have hsm : same1 fs (e.p, e) = bb := by
        unfold same1; rw [hlk]
        show sameT1 f e = bb
        unfold sameT1; rw [hfp]; exact HBB.out
      rename_i Kx hKx
      have HK : ∀ Wz, Below W.heap.size W Wz → Kx { tmps := #[Value.slice a es.length cap, Value.slice a' fs.length cap', undef, undef, Value.slice none 0 0, Value.pointer (some { block := w1.heap.size, off := 0 }), Value.bool true, Value.pointer (some { block := w2.heap.size, off := 0 }), Value.bool true, Value.pointer (some { block := w2.heap.size + 1, off := 0 }), Value.string e.p, Value.pointer (some { block := Bx, off := 0 }), Value.pointer (some { block := W2.heap.size, off := 0 }), Value.bool true, undef, undef, undef, Value.tuple #[treeV A, Value.bool true], Value.slice a es.length cap, Value.tuple #[treeV A, Value.bool true], treeV A, Value.bool true, Value.tuple #[treeV B, Value.bool true], Value.slice a' fs.length cap', Value.tuple #[treeV B, Value.bool true], treeV B, Value.bool true, Value.bool true, Value.bool false, Value.bool false, Value.bool true, Value.bool false, Value.bool false, Value.agg #[Value.bool true, Value.string { data := #[] }, Value.map (some (A { data := #[47] }))], Value.func (Fn.func 129) #[] #[Value.pointer (some { block := b, off := 0 }), Value.pointer (some { block := b + 1, off := 0 })], Value.string e.p, Value.agg #[Value.bool e.d, Value.string e.x, Value.map (optV e.d (A e.p))], Value.tuple #[Value.agg #[Value.bool f.d, Value.string f.x, Value.map (optV f.d (B e.p))], Value.bool true], Value.agg #[Value.bool true, Value.string { data := #[] }, Value.map (some (B { data := #[47] }))], Value.string e.p, Value.tuple #[Value.agg #[Value.bool f.d, Value.string f.x, Value.map (optV f.d (B e.p))], Value.bool true], Value.agg #[Value.bool f.d, Value.string f.x, Value.map (optV f.d (B e.p))], Value.bool true, Value.bool true, Value.bool false, Value.bool false, Value.agg #[Value.bool f.d, Value.string f.x, Value.map (optV f.d (B e.p))], Value.string e.p, Value.agg #[Value.string e.p, Value.bool f.d, Value.string f.x], Value.agg #[Value.bool e.d, Value.string e.x, Value.map (optV e.d (A e.p))], Value.string e.p, Value.agg #[Value.string e.p, Value.bool e.d, Value.string e.x], Value.bool (!bb), Value.bool (!bb), undef, undef, undef, undef, undef, undef, undef, undef, undef, undef, undef, undef, undef, undef, undef, undef, undef, undef, undef, undef, undef, undef, undef], defers := [] } Wz := fun Wz hBz => hKx _ _ (by
        have hvz : Boxed Wz (w2.heap.size + 1) 40 v := (hBz.block _ HV.out.lt).trans HV.out
        have hrowz := row_below HRow.out hBz
        have hcz := hvz.cell
        have hszz := hBz.size
        have hvl := HV.out.lt
        have HRz := hidE hrowz
        have HVz := hidE hvz
        clear hrowz hcmp HBB
        cases bb with
        | true =>
          have hcol : turn1 fs ((pre ++ [⟨(e.p, e), hxm⟩] : List (ItemT (told es ⟨#[47]⟩ ⟨#[]⟩))).map Subtype.val) = turn1 fs (pre.map Subtype.val) := turn1_miss fs pre hxm hsm
          gi_wp2
          refine ⟨keepsB hBz, kpt_of hBz hvl, ⟨v, HVz.out, ?_, trivial⟩, hB.trans (hBz.mono (Nat.le_of_lt hvl))⟩
          rw [hcol]
          exact HRz.out
        | false =>
          have hcol : turn1 fs ((pre ++ [⟨(e.p, e), hxm⟩] : List (ItemT (told es ⟨#[47]⟩ ⟨#[]⟩))).map Subtype.val) = turn1 fs (pre.map Subtype.val) ++ [e.p] := turn1_hit fs pre hxm hsm
          gi_wp2_with (gi_at_builtin; refine wpListIn_append_own_at _ rfl _ _ 40 rfl (w2.heap.size + 1) 9 i0 (.string ByteArray.empty) 1 16 Tryz.underlying40 hi hi0 hi1 hi2 rfl (by decide) _ _ _ rfl (HRz.out.alloc _) ⟨Wz.heap.size, 0, none⟩ 1 1 [.string e.p] rfl rfl (cell_one_new _ _ _) (by simp [Value.oneCell']) (by unfold maxLen; omega) (by omega) (by simp; omega) ?_; intro v' w5 hown' hgrow hnil hat; obtain ⟨hv1, hv2, hr2, hk2, hb2⟩ := HVz.out.appended (by decide) HRz.out (by omega) (Nat.le_refl _) hown' hgrow; have hKp := KpT.appended HVz.out (by decide) HRz.out (by omega) (Nat.le_refl _) hown' hgrow hat; obtain ⟨g5, cap5, rfl⟩ := ownsRow_succ hown'; have hc1 := hv1.cell; have hf1 := hv1.frozen)
          refine ⟨(keepsB hBz).trans (hk2.from _), (kpt_of hBz hvl).t hKp, ⟨_, hv2, ?_, trivial⟩, (hB.trans (hBz.mono (Nat.le_of_lt hvl))).trans hb2⟩
          rw [hcol, List.length_append, List.map_append]
          exact hr2)
      have HKX := hidE HK
      clear HK
      gi_region_with (gi_at_call 54; refine (CallsIn.inRound l (callsIn_wide.2 (ent_any _ _ _ _ _))).mono ?_; rintro e4 w4 ⟨rfl, hB4⟩; have hS := hidE (belowT hS.out hB4); obtain ⟨⟨z0, z1, z2⟩, z3, z4, z5⟩ := AS.out _ hS.out)
      all_goals exact HKX.out _ (belowT hBy hS.out)
  case done =>
    rintro D xs W hD hxs ⟨⟨v, hv, hrow, -⟩, hB⟩ hK
    rw [hxs] at hrow
    have hBW : Below Wv.heap.size Wv W := by rw [hszv]; exact hB
    obtain ⟨q0, q1, q2⟩ := HQ.out
    have r0 := below_cell hBW q0
    have r1 := below_cell hBW q1
    have r2 := below_cell hBW q2
    have HV := hidE hv
    have HRow := hidE hrow
    clear hv hrow q0 q1 q2
    gi_wp2_with fail
    refine ⟨trivial, ?_⟩
    refine (callsIn_wide.2 (all_any B _)).mono ?_
    rintro e w4 ⟨c, hc1, hc2, rfl, hB4, e0, e1, e2, e3⟩
    have hbx4 : Boxed w4 (w2.heap.size + 1) 40 v := (hB4.block _ HV.out.lt).trans HV.out
    have hrow4 := row_below HRow.out hB4
    have hD4 : w4.heap[D]? = some (.deferred (some [])) := (hB4.block _ (Array.getElem?_eq_some_iff.1 hK).1).trans hK
    have hDl := (Array.getElem?_eq_some_iff.1 hK).1
    have hs4 := hB4.size
    have hvl4 := HV.out.lt
    have hBv4 : Below (w2.heap.size + 1) Wv w4 := hB.trans (hB4.mono (by omega))
    have HB4 := hidE hBv4
    have hBvv : Below Wv.heap.size Wv w4 := by rw [hszv]; exact hBv4
    gi_wp2
    refine wpIn_rangeFunc_ownH rfl (by omega) (gf := 129) (lb := #[.pointer (some ⟨c, 0, none⟩), .pointer (some ⟨c + 1, 0, none⟩)]) rfl trivial (enters_of Tryz.func129 (by kernel_rfl) rfl)
      (below_stops _ (by omega) fs B _ 16 (w2.heap.size + 1) (by omega) (tree_len hu) U ⟨#[47]⟩ ⟨#[]⟩ (by decide) true ⟨#[]⟩ (some (B ⟨#[47]⟩)) (.inl ⟨look_dir (.inl rfl), rfl⟩) c (c + 1) w4 (by omega) (by omega) e0 e1 e2 e3 (HS2.out.below hBvv) (by omega) (good_row hbx4 hrow4) (lev_root)) KpT.t (KpT.b (by omega)) (Below.refl _ _) (fun _ => rfl)
      (fun (pre : List (ItemT (told fs ⟨#[47]⟩ ⟨#[]⟩))) W => ((∃ v, Boxed W (w2.heap.size + 1) 40 v ∧ W.ownsRow (w2.heap.size + 1) 9 1 v (turn1 fs (told es ⟨#[47]⟩ ⟨#[]⟩) ++ turn2 es (pre.map Subtype.val)).length ((turn1 fs (told es ⟨#[47]⟩ ⟨#[]⟩) ++ turn2 es (pre.map Subtype.val)).map Value.string) ∧ True) ∧ Below (w2.heap.size + 1) Wv W) ∧ W.heap[D]? = some (.deferred (some [])))
      (fun _ _ _ => False)
      (OwnFrom.and (OwnFrom.and (Own.from (holdsRow_own (w2.heap.size + 1) (w2.heap.size + 1) 40 9 1 (fun (pre : List (ItemT (told fs ⟨#[47]⟩ ⟨#[]⟩))) => (turn1 fs (told es ⟨#[47]⟩ ⟨#[]⟩) ++ turn2 es (pre.map Subtype.val)).length) (fun (pre : List (ItemT (told fs ⟨#[47]⟩ ⟨#[]⟩))) => (turn1 fs (told es ⟨#[47]⟩ ⟨#[]⟩) ++ turn2 es (pre.map Subtype.val)).map Value.string) (fun _ _ => True)) _) (ownFrom_below hnv (by omega))) (fun _ X Y row hs hg hr => (hg.block D (Array.getElem?_eq_some_iff.1 hs).1 (fun q => by have := (hr D q.symm).1; omega)).trans hs))
      (fun _ _ _ _ _ hs _ _ => hs)
      ⟨⟨⟨_, hbx4, by simpa [turn2] using hrow4, trivial⟩, hBv4⟩, hD4⟩
      (fun x ac _ => ac = { tmps := #[Value.slice a es.length cap, Value.slice a' fs.length cap', undef, undef, Value.slice none 0 0, Value.pointer (some { block := w1.heap.size, off := 0 }), Value.bool true, Value.pointer (some { block := w2.heap.size, off := 0 }), Value.bool true, Value.pointer (some { block := w2.heap.size + 1, off := 0 }), undef, undef, undef, undef, Value.string x.1.1, undef, undef, Value.tuple #[treeV A, Value.bool true], Value.slice a es.length cap, Value.tuple #[treeV A, Value.bool true], treeV A, Value.bool true, Value.tuple #[treeV B, Value.bool true], Value.slice a' fs.length cap', Value.tuple #[treeV B, Value.bool true], treeV B, Value.bool true, Value.bool true, Value.bool false, Value.bool false, Value.bool true, Value.bool false, Value.bool false, Value.agg #[Value.bool true, Value.string { data := #[] }, Value.map (some (A { data := #[47] }))], Value.func (Fn.func 129) #[] #[Value.pointer (some { block := b, off := 0 }), Value.pointer (some { block := b + 1, off := 0 })], undef, undef, undef, undef, undef, undef, undef, undef, undef, undef, undef, undef, undef, undef, undef, undef, undef, undef, undef, undef, undef, undef, undef, Value.agg #[Value.bool true, Value.string { data := #[] }, Value.map (some (B { data := #[47] }))], Value.func (Fn.func 129) #[] #[Value.pointer (some { block := c, off := 0 }), Value.pointer (some { block := c + 1, off := 0 })], Value.string x.1.1, Value.agg #[Value.bool x.1.2.d, Value.string x.1.2.x, Value.map (optV x.1.2.d (B x.1.2.p))], undef, undef, undef, undef, undef, undef, undef, undef, undef, undef, undef, undef, undef, undef, undef], defers := [] })
      (fun _ _ _ _ _ _ hs _ _ => hs)
      ?assign2 ?body2 ?done2 ?stop2
    case assign2 =>
      rintro l pre x W K hI hKK
      gi_wp2
      exact hKK _ _ (KeepsFrom.refl _ _) (kpt_of (Below.refl _ _) hI.1.1.choose_spec.1.lt) hI rfl
    case body2 =>
      rintro l pre x ac W hl ⟨r, hr⟩ ⟨⟨⟨v, hv, hrow, -⟩, hB⟩, hDW⟩ rfl hlt
      obtain ⟨⟨s, e⟩, hxm⟩ := x
      have hse : s = e.p ∧ e ∈ fs := by
        have h := hxm
        rw [told_all U, List.mem_map] at h
        obtain ⟨e', h1, h2⟩ := h
        injection h2 with h2 h3
        subst h3
        exact ⟨h2.symm, h1⟩
      obtain ⟨rfl, he⟩ := hse
      have hpl := turn2_len es pre
      have hpl1 := turn1_len' fs (told es ⟨#[47]⟩ ⟨#[]⟩)
      have htl : (told es ⟨#[47]⟩ ⟨#[]⟩).length = es.length := by rw [told_all T, List.length_map]
      have htl' : (told fs ⟨#[47]⟩ ⟨#[]⟩).length = fs.length := by rw [told_all U, List.length_map]
      have hes1 := tree_len ht
      have hfs1 := tree_len hu
      have hroot := root_not_path (U.path e he)
      have hez := (HZ'.out e he).1
      have hBW : Below Wv.heap.size Wv W := by rw [hszv]; exact hB
      have hAt := at_any W _ 16 es A T (HR2.out.below hBW) e.p (by omega)
      obtain ⟨p0, p1, p2⟩ := HP.out
      have r0 := below_cell hBW p0
      have r1 := below_cell hBW p1
      have r2 := below_cell hBW p2
      have HAt := hidE hAt
      have HV := hidE hv
      have HRow := hidE hrow
      have hbl : (turn1 fs (told es ⟨#[47]⟩ ⟨#[]⟩) ++ turn2 es (pre.map Subtype.val)).length ≤ 2000 := by rw [List.length_append]; omega
      obtain ⟨ts, hts⟩ : ∃ ts, turn1 fs (told es ⟨#[47]⟩ ⟨#[]⟩) ++ turn2 es (pre.map Subtype.val) = ts := ⟨_, rfl⟩
      rw [hts] at HRow hbl
      have HTS := hidE hts
      clear p0 p1 p2 hAt hrow hv hts hpl hpl1
      dsimp only
      cases hlk : lookE es e.p with
      | none =>
        have hat : atE es A e.p = (zeroN, false) := by unfold atE; rw [hroot, hlk]; rfl
        rw [hat] at HAt
        have hcol : turn1 fs (told es ⟨#[47]⟩ ⟨#[]⟩) ++ turn2 es ((pre ++ [⟨(e.p, e), hxm⟩] : List (ItemT (told fs ⟨#[47]⟩ ⟨#[]⟩))).map Subtype.val) = ts ++ [e.p] := by rw [turn2_hit es pre hxm hlk, ← List.append_assoc, HTS.out]
        gi_wp2_with fail
        refine ⟨trivial, ?_⟩
        refine (CallsIn.inRound l (callsIn_wide.2 HAt.out)).mono ?_
        rintro e2 W2 ⟨rfl, hB2⟩
        obtain ⟨Wz, hWz⟩ : ∃ Wz, Wz = W2.alloc (.cells #[.bool false, .string ⟨#[]⟩, .map none] 54) := ⟨_, rfl⟩
        have hBz : Below W.heap.size W Wz := by rw [hWz]; exact hB2.trans (((Below.refl _ W2).alloc (Nat.le_refl _) _).mono hB2.size)
        have hvz : Boxed Wz (w2.heap.size + 1) 40 v := (hBz.block _ HV.out.lt).trans HV.out
        have hrowz := row_below HRow.out hBz
        have hcz := hvz.cell
        have hszz := hBz.size
        have hvl := HV.out.lt
        have HRz := hidE hrowz
        have HVz := hidE hvz
        have hcz' : (W2.alloc (.cells #[.bool false, .string ⟨#[]⟩, .map none] 54)).cell? ⟨w2.heap.size + 1, 0, none⟩ = some v := by rw [← hWz]; exact hcz
        clear hrowz hvz
        rw [hWz] at HRz HVz
        have hszW : Wz.heap.size = W2.heap.size + 1 := by rw [hWz]; simp
        gi_wp2_with (gi_at_builtin; refine wpListIn_append_own_at _ rfl _ _ 40 rfl (w2.heap.size + 1) 9 i0 (.string ByteArray.empty) 1 16 Tryz.underlying40 hi hi0 hi1 hi2 rfl (by decide) _ _ _ rfl (HRz.out.alloc _) ⟨W2.heap.size + 1, 0, none⟩ 1 1 [.string e.p] rfl rfl (by have := cell_one_new (W2.alloc (.cells #[.bool false, .string ⟨#[]⟩, .map none] 54)) (.string e.p) 9; simpa using this) (by simp [Value.oneCell']) (by unfold maxLen; omega) (by omega) (by simp; omega) ?_; intro v' w5 hown' hgrow hnil hat; obtain ⟨hv1, hv2, hr2, hk2, hb2⟩ := HVz.out.appended (by decide) HRz.out (by simp; omega) (Nat.le_refl _) hown' hgrow; have hKp := KpT.appended HVz.out (by decide) HRz.out (by simp; omega) (Nat.le_refl _) hown' hgrow hat; obtain ⟨g5, cap5, rfl⟩ := ownsRow_succ hown'; have hc1 := hv1.cell; have hf1 := hv1.frozen)
        rw [← hWz] at hk2 hb2 hKp
        refine ⟨(keepsB hBz).trans (hk2.from _), (kpt_of hBz hvl).t hKp, ⟨⟨_, hv2, ?_, trivial⟩, (hB.trans (hBz.mono (Nat.le_of_lt hvl))).trans hb2⟩, hk2.same D _ ((hBz.block D (Array.getElem?_eq_some_iff.1 hDW).1).trans hDW) rfl⟩
        rw [hcol, List.length_append, List.map_append]
        exact hr2
      | some f =>
        have hat : atE es A e.p = (.agg #[.bool f.d, .string f.x, .map (optV f.d (A e.p))], true) := by unfold atE; rw [hroot, hlk]; rfl
        rw [hat] at HAt
        have hcol : turn1 fs (told es ⟨#[47]⟩ ⟨#[]⟩) ++ turn2 es ((pre ++ [⟨(e.p, e), hxm⟩] : List (ItemT (told fs ⟨#[47]⟩ ⟨#[]⟩))).map Subtype.val) = ts := by rw [turn2_miss es pre hxm (by rw [hlk]; rfl), HTS.out]
        gi_wp2_with fail
        refine ⟨trivial, ?_⟩
        refine (CallsIn.inRound l (callsIn_wide.2 HAt.out)).mono ?_
        rintro e2 W2 ⟨rfl, hB2⟩
        have hBz : Below W.heap.size W (W2.alloc (.cells #[.bool f.d, .string f.x, .map (optV f.d (A e.p))] 54)) := hB2.trans (((Below.refl _ W2).alloc (Nat.le_refl _) _).mono hB2.size)
        have hvl := HV.out.lt
        gi_wp2
        refine ⟨keepsB hBz, kpt_of hBz hvl, ⟨⟨v, (hBz.block _ hvl).trans HV.out, ?_, trivial⟩, hB.trans (hBz.mono (Nat.le_of_lt hvl))⟩, (hBz.block D (Array.getElem?_eq_some_iff.1 hDW).1).trans hDW⟩
        rw [hcol]
        exact row_below HRow.out hBz
    case done2 =>
      rintro D2 xs2 W hD2 hxs2 ⟨⟨⟨v, hv, hrow, -⟩, hB⟩, hDW⟩ hK2
      rw [hxs2] at hrow
      have hlenT : (turn1 fs (told es ⟨#[47]⟩ ⟨#[]⟩) ++ turn2 es (told fs ⟨#[47]⟩ ⟨#[]⟩)).length ≤ 2000 := by
        have h1 := turn1_len' fs (told es ⟨#[47]⟩ ⟨#[]⟩)
        have h2 := turn2_len' es (told fs ⟨#[47]⟩ ⟨#[]⟩)
        have h3 : (told es ⟨#[47]⟩ ⟨#[]⟩).length = es.length := by rw [told_all T, List.length_map]
        have h4 : (told fs ⟨#[47]⟩ ⟨#[]⟩).length = fs.length := by rw [told_all U, List.length_map]
        have h5 := tree_len ht
        have h6 := tree_len hu
        rw [List.length_append]; omega
      have HSo := hidE (sort_any W (w2.heap.size + 1) v _ (turnE es fs) hrow (turnE_rise T) (turn_perm T U) (by omega))
      have hcv := hv.cell
      have HV := hidE hv
      have HRow := hidE hrow
      clear hrow hv
      gi_wp2_with fail
      refine ⟨trivial, ?_⟩
      refine (callsIn_wide.2 HSo.out).mono ?_
      rintro e w5 ⟨rfl, hrow5, hg5⟩
      have hv5 : Boxed w5 (w2.heap.size + 1) 40 v := HV.out.kept hg5 (HV.out.not_row (by decide) HRow.out)
      have hcv5 := hv5.cell
      have hDD : D ≠ D2 := by omega
      have hK5 := def_kept HRow.out hg5 hK2
      have hD5 := def_kept HRow.out hg5 hDW
      have hD6 : (w5.putObj D2 (.deferred none)).heap[D]? = some (.deferred (some [])) := (World.putObj_heap_other hDD).trans hD5
      have hrow6 := ownsRow_putObj (ownsRow_putObj hrow5 (.deferred none) hK5 rfl) (.deferred none) hD6 rfl
      have hszw := HB2.out.size
      have hBf : Below w.heap.size w ((w5.putObj D2 (.deferred none)).putObj D (.deferred none)) := by
        have h1 : Below (w2.heap.size + 1) W w5 := (Below.refl _ W).grown hg5 (by have := HV.out.lt; omega) (row_base HRow.out)
        have h2 := (hB.trans h1).mono (show w.heap.size ≤ w2.heap.size + 1 by omega)
        exact ((HB2.out.trans h2).trans (below_put (by omega) _)).trans (below_put (by omega) _)
      clear HSo HRow HV
      gi_wp2
      refine ⟨by simp, .inl ⟨_, _, rfl, run_takeDeferred hK5, ?_⟩⟩
      refine ⟨by simp, .inl ⟨_, _, rfl, run_takeDeferred hD6, ?_⟩⟩
      exact ⟨_, results_tmp rfl _ _ _, v, rfl, row_lowT hrow6 (by omega), hBf⟩
    case stop2 =>
      rintro D c pre W _ _ h _
      exact h.elim
  case stop =>
    rintro D c pre W _ _ h _
    exact h.elim
end Go.Proofs.YtkjpmngohocmlabGreatDoor

/-
  The program's own TreeTurned, at every two lists.
-/
namespace Go.Proofs.YtkjpmngohocmlabGreatDoor
open Go.RowKit Go.Shelf Go.Lib Go.Maps

attribute [local go_sem] Oper.semAt_some

set_option maxHeartbeats 1000000 in
set_option maxRecDepth 100000 in
theorem iTurned_any (w : World) (a : Option Addr) (g o cap : Nat) (es : List E) (a' : Option Addr) (g' o' cap' : Nat) (fs : List E) (ae : Int → Addr) (hErr : Errs2 w ae) (hl : es.length ≤ 16777216) (hl' : fs.length ≤ 16777216)
    (hz : ∀ e ∈ es, e.p.size ≤ 16777216 ∧ e.x.size ≤ 16777216) (hz' : ∀ e ∈ fs, e.p.size ≤ 16777216 ∧ e.x.size ≤ 16777216) (ha : 0 < es.length → a = some ⟨g, o, none⟩) (ha' : 0 < fs.length → a' = some ⟨g', o', none⟩) (hE : Ents w g o es) (hF : Ents w g' o' fs) :
    Calls Tryz.prog 18 #[.slice a es.length cap, .slice a' fs.length cap'] w fun r w' => ∃ v, r = .returned v ∧ w'.ownsRow w.heap.size 9 1 v (turnedE es fs).length ((turnedE es fs).map Value.string) ∧ Below w.heap.size w w' := by
  cases hb : treeE es && treeE fs with
  | true =>
    have h1 : turnedE es fs = turnE es fs := by unfold turnedE; rw [hb]; rfl
    rw [h1]
    rw [Bool.and_eq_true] at hb
    exact iTurned_ok w a g o cap es a' g' o' cap' fs ae hErr hl hl' hz hz' ha ha' hE hF hb.1 hb.2
  | false =>
    have h1 : turnedE es fs = [] := by unfold turnedE; rw [hb]; rfl
    rw [h1]
    have HT := hidE (treeOf_any w a g o cap es ae hErr hl hz ha hE)
    have HU := hidE (fun (W : World) (hW : Below w.heap.size w W) => treeOf_any W a' g' o' cap' fs ae (hErr.below hW) hl' hz' ha' (hF.below hW))
    obtain ⟨b1, hb1⟩ : ∃ b, treeE es = b := ⟨_, rfl⟩
    obtain ⟨b2, hb2⟩ : ∃ b, treeE fs = b := ⟨_, rfl⟩
    rw [hb1] at HT hb
    rw [hb2] at HU hb
    clear hErr hz hz' ha ha' hE hF hb1 hb2
    cases b1 with
    | false =>
      go_enter Tryz.func18, Tryz.ntmps18
      go_wp2_with fail
      refine HT.out.mono ?_
      rintro e w1 ⟨A, rfl, hB1, -⟩
      have HB1 := hidE (hB1.alloc hB1.size (.cells #[.bool true, .string ⟨#[]⟩, .map (some (A ⟨#[47]⟩))] 56))
      clear hB1
      go_wp2_with fail
      refine (HU.out _ HB1.out).mono ?_
      rintro e w2 ⟨B, rfl, hB2, -⟩
      have hB3 := HB1.out.trans (hB2.mono HB1.out.size)
      have HB3 := hidE (hB3.alloc hB3.size (.cells #[.bool true, .string ⟨#[]⟩, .map (some (B ⟨#[47]⟩))] 56))
      clear hB2 hB3
      go_wp2
      go_ret
      exact ⟨_, rfl, World.ownsRow_nil _ _ _ _, HB3.out⟩
    | true =>
      cases b2 with
      | true => cases hb
      | false =>
        go_enter Tryz.func18, Tryz.ntmps18
        go_wp2_with fail
        refine HT.out.mono ?_
        rintro e w1 ⟨A, rfl, hB1, -⟩
        have HB1 := hidE (hB1.alloc hB1.size (.cells #[.bool true, .string ⟨#[]⟩, .map (some (A ⟨#[47]⟩))] 56))
        clear hB1
        go_wp2_with fail
        refine (HU.out _ HB1.out).mono ?_
        rintro e w2 ⟨B, rfl, hB2, -⟩
        have hB3 := HB1.out.trans (hB2.mono HB1.out.size)
        have HB3 := hidE (hB3.alloc hB3.size (.cells #[.bool true, .string ⟨#[]⟩, .map (some (B ⟨#[47]⟩))] 56))
        clear hB2 hB3
        go_wp2
        go_ret
        exact ⟨_, rfl, World.ownsRow_nil _ _ _ _, HB3.out⟩
end Go.Proofs.YtkjpmngohocmlabGreatDoor
