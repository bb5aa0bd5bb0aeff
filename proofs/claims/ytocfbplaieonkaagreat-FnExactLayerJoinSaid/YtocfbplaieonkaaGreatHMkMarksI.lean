/-
  The walk of the program's own: a layer as a list of marks.
-/
import Derived.Test.YtocfbplaieonkaaGreatHReadyB
import Derived.Test.YtocfbplaieonkaaGreatHPk17
import Derived.Test.YtocfbplaieonkaaGreatHPk02
import Derived.Test.YtocfbplaieonkaaGreatHPk18
import Derived.Test.YtocfbplaieonkaaGreatHCollI
namespace Go.Proofs.YtocfbplaieonkaaGreat.Mk
open Go.RowKit Go.Shelf Go.Lib Go.Maps

attribute [local go_sem] Oper.semAt_some

theorem mark1_any (x p : ByteArray) (w : World) : Calls Tryz.prog 115 #[.agg #[.string x], .string p] w fun e w' => e = .returned (.agg #[.string p, .int .i64 1, .string x]) ∧ Below w.heap.size w w' := by
  go_enter Tryz.func115, Tryz.ntmps115
  go_wp2
  exact bodyPost_ret (v := .agg #[.string p, .int .i64 1, .string x]) (by simp [results, Tryz.results115, go_sem]) rfl ⟨rfl, belowA (belowA (Below.refl _ _) _) _⟩
theorem mark2_any (p : ByteArray) (w : World) : Calls Tryz.prog 112 #[.agg #[], .string p] w fun e w' => e = .returned (.agg #[.string p, .int .i64 2, .string ⟨#[]⟩]) ∧ Below w.heap.size w w' := by
  go_enter Tryz.func112, Tryz.ntmps112
  go_wp2
  exact bodyPost_ret (v := .agg #[.string p, .int .i64 2, .string ⟨#[]⟩]) (by simp [results, Tryz.results112, go_sem]) rfl ⟨rfl, belowA (belowA (Below.refl _ _) _) _⟩
theorem mark3_any (p : ByteArray) (w : World) : Calls Tryz.prog 119 #[.agg #[], .string p] w fun e w' => e = .returned (.agg #[.string p, .int .i64 3, .string ⟨#[]⟩]) ∧ Below w.heap.size w w' := by
  go_enter Tryz.func119, Tryz.ntmps119
  go_wp2
  exact bodyPost_ret (v := .agg #[.string p, .int .i64 3, .string ⟨#[]⟩]) (by simp [results, Tryz.results119, go_sem]) rfl ⟨rfl, belowA (belowA (Below.refl _ _) _) _⟩
theorem mark4_any (p : ByteArray) (w : World) : Calls Tryz.prog 108 #[.agg #[], .string p] w fun e w' => e = .returned (.agg #[.string p, .int .i64 4, .string ⟨#[]⟩]) ∧ Below w.heap.size w w' := by
  go_enter Tryz.func108, Tryz.ntmps108
  go_wp2
  exact bodyPost_ret (v := .agg #[.string p, .int .i64 4, .string ⟨#[]⟩]) (by simp [results, Tryz.results108, go_sem]) rfl ⟨rfl, belowA (belowA (Below.refl _ _) _) _⟩
/-- What a sign's own mark is, whatever its kind. -/
theorem mark_of {d : Int} (hd : 1 ≤ d ∧ d ≤ 4) {x : ByteArray} (hx : d ≠ 1 → x = ⟨#[]⟩) : ∃ (t : TypeId) (u : Value) (f : FuncId), signV d x = .iface t u ∧ (∀ W, (method 247 t u "loop.example/pargeting/impl.mark").run Tryz.prog W = .ok (f, u) W) ∧ (∀ args W, (callFunc f args).run Tryz.prog W = .ok (.enter f args) W) ∧
    ∀ (p : ByteArray) (W : World), Calls Tryz.prog f #[u, .string p] W fun e w' => e = .returned (.agg #[.string p, .int .i64 d, .string x]) ∧ Below W.heap.size W w' := by
  rcases (by omega : d = 1 ∨ d = 2 ∨ d = 3 ∨ d = 4) with rfl | rfl | rfl | rfl
  · exact ⟨_, _, 115, sign1 x, fun _ => by kernel_rfl, enters_of Tryz.func115 (by kernel_rfl) rfl, fun p W => mark1_any x p W⟩
  · rw [hx (by decide)]; exact ⟨_, _, 112, sign2 _, fun _ => by kernel_rfl, enters_of Tryz.func112 (by kernel_rfl) rfl, fun p W => mark2_any p W⟩
  · rw [hx (by decide)]; exact ⟨_, _, 119, sign3 _, fun _ => by kernel_rfl, enters_of Tryz.func119 (by kernel_rfl) rfl, fun p W => mark3_any p W⟩
  · rw [hx (by decide)]; exact ⟨_, _, 108, sign4 _, fun _ => by kernel_rfl, enters_of Tryz.func108 (by kernel_rfl) rfl, fun p W => mark4_any p W⟩

theorem below_putM {n D : Nat} {W : World} (h : n ≤ D) (o : Obj) : Below n W (W.putObj D o) := ⟨rfl, rfl, rfl, by simp, fun k hk => World.putObj_heap_other (by omega)⟩

theorem row_lowM {w : World} {base base' : Nat} {e : TypeId} {size : Nat} {v : Value} {n : Nat} {xs : List Value} (h : w.ownsRow base e size v n xs) (hb : base' ≤ base) : w.ownsRow base' e size v n xs := by
  obtain ⟨h1, h2 | ⟨g, cap, cur, e1, e2, e3⟩⟩ := h
  · exact ⟨h1, .inl h2⟩
  · exact ⟨h1, .inr ⟨g, cap, cur, e1, Nat.le_trans hb e2, e3⟩⟩
theorem row_belowM {w w' : World} {base n : Nat} {e : TypeId} {size : Nat} {v : Value} {xs : List Value} (h : w.ownsRow base e size v n xs) (hb : Below w.heap.size w w') : w'.ownsRow base e size v n xs := by
  obtain ⟨h1, h2 | ⟨g, cap, cur, e1, e2, e3, e4⟩⟩ := h
  · exact ⟨h1, .inl h2⟩
  · exact ⟨h1, .inr ⟨g, cap, cur, e1, e2, (hb.block g (Array.getElem?_eq_some_iff.1 e3).1).trans e3, e4⟩⟩
theorem keepsBM {w w' : World} {B : Nat} (hb : Below w.heap.size w w') : KeepsFrom B w w' := ⟨hb.size, fun k _ _ h _ => (hb.block k (Array.getElem?_eq_some_iff.1 h).1).trans h⟩
def marksL {Lt : List (ByteArray × E)} (xs : List (ItemM Lt)) : List E := xs.map (fun y => y.1.2)
theorem marksL_snoc {Lt : List (ByteArray × E)} (xs : List (ItemM Lt)) (y : ItemM Lt) : marksL (xs ++ [y]) = marksL xs ++ [y.1.2] := by unfold marksL; rw [List.map_append]; rfl
theorem marksL_all {es : List E} (T : TrM es) {xs : List (ItemM (toldM es ⟨#[47]⟩ ⟨#[]⟩))} (h : xs.map Subtype.val = toldM es ⟨#[47]⟩ ⟨#[]⟩) : marksL xs = es := by
  have h1 : marksL xs = (xs.map Subtype.val).map Prod.snd := by unfold marksL; rw [List.map_map]; rfl
  rw [h1, h, toldM_all T, List.map_map]
  exact List.map_id'' (fun _ => rfl) es

set_option maxHeartbeats 4000000 in
set_option maxRecDepth 100000 in
theorem marks_any (w : World) (base N : Nat) (es : List E) (A : ByteArray → Nat) (T : TrM es) (hpl : ∀ e ∈ es, e.d ≠ 1 → e.x = ⟨#[]⟩) (R : Rep w base N es A) (hN : N ≤ 1000) (hes : es.length ≤ 1000) :
    Calls Tryz.prog 19 #[layV A] w fun r w' => ∃ v, r = .returned v ∧ OwnE w' w.heap.size v es ∧ Below w.heap.size w w' := by
  obtain ⟨i0, hi, hi0, hi1, hi2⟩ := info_parts Tryz.infoE'
  obtain ⟨W0, hW0⟩ : ∃ W0, W0 = w.alloc (.cells #[.iface 78 (.agg #[]), .map (some (A ⟨#[47]⟩))] 45) := ⟨_, rfl⟩
  have hB0 : Below w.heap.size w W0 := hW0 ▸ (Below.refl _ w).alloc (Nat.le_refl _) _
  have hs0 : W0.heap.size = w.heap.size + 1 := by rw [hW0]; simp
  refine (callsIn_wide (n := 6)).1 ?_
  refine callsIn_of_wp_marks Tryz.func19 rfl trivial ?_ rfl
  simp only [Tryz.ntmps19, List.size_toArray, List.length_cons, List.length_nil, Nat.reduceAdd, Nat.reduceSub, Array.replicate_succ, Array.replicate_zero, List.push_toArray, List.append_toArray, List.nil_append, List.cons_append]
  gi_wp2_with fail
  rw [← hW0]
  refine ⟨trivial, ?_⟩
  refine (callsIn_wide.2 (all_any A _)).mono ?_
  rintro e w3 ⟨rfl, hB3, hb1, d0, d1⟩
  have hbx : Boxed w3 (w.heap.size + 1) 24 (.slice none 0 0) := by rw [← hs0]; exact (hB3.block _ (by simp)).trans (World.alloc_heap_new W0 _)
  have hs3 := hB3.size
  have hB3' : Below W0.heap.size W0 w3 := ((Below.refl _ W0).alloc (Nat.le_refl _) _).trans (hB3.mono (by simp))
  simp only [World.size_alloc, hs0] at hb1 d0 d1 hs3
  have HB3 := hidE hB3'
  have HR := hidE ((R.below hB0).below hB3')
  have HPL := hidE hpl
  clear hB3 hW0 R hB3' hpl
  gi_wp2
  have hvb : w.heap.size + 1 < w3.heap.size := by omega
  have htl : (toldM es ⟨#[47]⟩ ⟨#[]⟩).length = es.length := by rw [toldM_all T, List.length_map]
  have hrow0 : OwnE w3 (w.heap.size + 1) (.slice none 0 0) [] := World.ownsRow_nil _ _ _ _
  refine wpIn_rangeFunc_ownH rfl (by omega) (gf := 50) (lb := #[.pointer (some ⟨w.heap.size + 1 + 1, 0, none⟩)]) rfl trivial (enters_of Tryz.func50 (by kernel_rfl) rfl)
    (all_stops _ (by omega) es A base N (w.heap.size + 1) hN hes T (w.heap.size + 1 + 1) w3 (by omega) d0 d1 HR.out hvb (good_row hbx hrow0)) KpT.t (KpT.b hvb) (Below.refl _ _) (fun _ => rfl)
    (fun (pre : List (ItemM (toldM es ⟨#[47]⟩ ⟨#[]⟩))) W => (∃ v, Boxed W (w.heap.size + 1) 24 v ∧ OwnE W (w.heap.size + 1) v (marksL pre) ∧ True) ∧ Below (w.heap.size + 1) W0 W)
    (fun _ _ _ => False)
    (OwnFrom.and (Own.from (holdsRow_own (w.heap.size + 1) (w.heap.size + 1) 24 37 3 (fun (pre : List (ItemM (toldM es ⟨#[47]⟩ ⟨#[]⟩))) => (marksL pre).length) (fun (pre : List (ItemM (toldM es ⟨#[47]⟩ ⟨#[]⟩))) => rowE (marksL pre)) (fun _ _ => True)) _) (ownFrom_below (by omega) (by omega)))
    (fun _ _ _ _ _ hs _ _ => hs)
    ⟨⟨_, hbx, hrow0, trivial⟩, HB3.out.mono (by omega)⟩
    (fun x ac _ => ac = { tmps := #[layV A, .pointer (some ⟨w.heap.size, 0, none⟩), .slice none 0 0, .pointer (some ⟨w.heap.size + 1, 0, none⟩), .string x.1.1, signV x.1.2.d x.1.2.x, layV A, .func (.func 50) #[] #[.pointer (some ⟨w.heap.size + 1 + 1, 0, none⟩)], .string x.1.1, signV x.1.2.d x.1.2.x, undef, undef, undef, undef, undef, undef, undef], defers := [] })
    (fun _ _ _ _ _ _ hs _ _ => hs)
    ?assign ?body ?done ?stop
  case assign =>
    rintro l pre x W K ⟨⟨v, hv, hrow, -⟩, hB⟩ hK
    gi_wp2
    exact hK _ _ ((KeepsOthers.refl _).from _) (kpt_of (Below.refl _ W) hv.lt) ⟨⟨v, hv, hrow, trivial⟩, hB⟩ rfl
  case body =>
    rintro l pre x ac W hl ⟨r, hr⟩ ⟨⟨v, hv, hrow, -⟩, hB⟩ rfl hlt
    obtain ⟨⟨s, e⟩, hxm⟩ := x
    have hse : s = e.p ∧ e ∈ es := by
      have h := hxm
      rw [toldM_all T, List.mem_map] at h
      obtain ⟨e', h1, h2⟩ := h
      injection h2 with h2 h3
      subst h3
      exact ⟨h2.symm, h1⟩
    obtain ⟨hse, hme⟩ := hse
    subst hse
    have hpl : (marksL pre).length = pre.length := by unfold marksL; rw [List.length_map]
    have HV := hidE hv
    have HRow := hidE hrow
    have hcv := hv.cell
    have hvl := hv.lt
    obtain ⟨tm, um, fm, hsg, hm, hcf, hmk⟩ := mark_of (T.kind e hme) (HPL.out e hme)
    have HMK := hidE hmk
    clear hrow hv hmk
    dsimp only
    rw [hsg]
    have hff : ∀ f, Fence.wide.fn f := fun _ => trivial
    have hbl : (marksL pre).length ≤ 2000 := by omega
    clear hpl
    have hcvd : W.drew.cell? ⟨w.heap.size + 1, 0, none⟩ = some v := hcv
    gi_wp2
    refine wpIn_region_any (by kernel_rfl) ?_
    change wpAnyIn _ _ _ _ _ _ _ _ _ (World.drew _)
    refine wpAnyIn_ready (rs := [0, 1, 2]) (by kernel_rfl) (by simp) ?_
    refine AllReadyIn.cons rfl (fun K hK => ?_) ?_
    · go_simp
      refine hK _ _ ?_
      clear hK K
      refine wpAnyIn_ready (rs := [1, 2]) (by kernel_rfl) (by simp) ?_
      refine AllReadyIn.cons rfl (fun K hK => ?_) ?_
      · go_simp
        refine hK _ _ ?_
        clear hK K
        refine wpAnyIn_ready (rs := [2]) (by kernel_rfl) (by simp) ?_
        refine AllReadyIn.cons rfl (fun K hK => ?_) ?_
        · go_simp
          refine hK _ _ ?_
          clear hK K
          refine wpAnyIn_ready (rs := [3]) (by kernel_rfl) (by simp) ?_
          refine AllReadyIn.cons rfl (fun K hK => ?_) ?_
          · go_simp
            gi_wp2_with ((refine (CallsIn.inRound l (callsIn_wide.2 (HMK.out _ _))).mono ?_; rintro e4 w4 ⟨rfl, hB4⟩; have hS : Hid (Below W.heap.size W w4) := hidE (((Below.refl _ W).drew).trans hB4); have hc4 := below_cell hS.out hcv; have hc4' := fun o => cellOn o hc4; have HV4 : Hid (Boxed w4 (w.heap.size + 1) 24 v) := hidE ((hS.out.block _ hvl).trans HV.out); have HR4 := hidE (row_belowM HRow.out hS.out); have hz4 := hS.out.size; clear hB4; obtain ⟨v', w5, hr5, hown', hgrow, hnil, hat⟩ := run_append_own_at (P := Tryz.prog) (w4.alloc (.cells #[.string e.p, .int .i64 e.d, .string e.x] 37)) (w.heap.size + 1) 24 24 37 i0 _ 3 40 Tryz.underlying24 hi hi0 hi1 hi2 rfl (by decide) v _ _ (HR4.out.alloc _) ⟨w4.heap.size, 0, none⟩ 1 1 (cellsE e) rfl (cells_new w4 e) rowE_one' (by unfold maxLen; omega) (by omega) (by simp; omega); obtain ⟨hv1, hv2, hr2, hk2, hb2⟩ := HV4.out.appended (by decide) HR4.out (by omega) (Nat.le_refl _) hown' hgrow; have hKp := KpT.appended HV4.out (by decide) HR4.out (by omega) (Nat.le_refl _) hown' hgrow hat; obtain ⟨g5, cap5, rfl⟩ := ownsRow_succ hown'; have hc1 := hv1.cell; have hf1 := hv1.frozen))
            refine wpAnyIn_ready (rs := [4]) (by kernel_rfl) (by simp) ?_
            refine AllReadyIn.cons rfl (fun K hK => ?_) ?_
            · go_simp
              refine hK _ _ ?_
              clear hK K
              refine wpAnyIn_ready (rs := [5]) (by kernel_rfl) (by simp) ?_
              refine ready_append _ _ _ _ rfl (by kernel_rfl) rfl hr5 ?_
              refine wpAnyIn_ready (rs := [6]) (by kernel_rfl) (by simp) ?_
              refine AllReadyIn.cons rfl (fun K hK => ?_) AllReadyIn.nil
              go_simp
              refine hK _ _ ?_
              clear hK K
              refine wpAnyIn_done (by kernel_rfl) ?_ _
              gi_wp2
              refine ⟨(keepsBM hS.out).trans (hk2.from _), (kpt_of hS.out hvl).t hKp, ⟨_, hv2, ?_, trivial⟩, (hB.trans (hS.out.mono (Nat.le_of_lt hvl))).trans hb2⟩
              rw [marksL_snoc]
              exact OwnE.push hr2
            exact AllReadyIn.nil
          exact AllReadyIn.nil
        exact AllReadyIn.nil
      refine AllReadyIn.cons rfl (fun K hK => ?_) ?_
      · go_simp
        refine hK _ _ ?_
        clear hK K
        refine wpAnyIn_ready (rs := [1]) (by kernel_rfl) (by simp) ?_
        refine AllReadyIn.cons rfl (fun K hK => ?_) ?_
        · go_simp
          refine hK _ _ ?_
          clear hK K
          refine wpAnyIn_ready (rs := [3]) (by kernel_rfl) (by simp) ?_
          refine AllReadyIn.cons rfl (fun K hK => ?_) ?_
          · go_simp
            gi_wp2_with ((refine (CallsIn.inRound l (callsIn_wide.2 (HMK.out _ _))).mono ?_; rintro e4 w4 ⟨rfl, hB4⟩; have hS : Hid (Below W.heap.size W w4) := hidE (((Below.refl _ W).drew).trans hB4); have hc4 := below_cell hS.out hcv; have hc4' := fun o => cellOn o hc4; have HV4 : Hid (Boxed w4 (w.heap.size + 1) 24 v) := hidE ((hS.out.block _ hvl).trans HV.out); have HR4 := hidE (row_belowM HRow.out hS.out); have hz4 := hS.out.size; clear hB4; obtain ⟨v', w5, hr5, hown', hgrow, hnil, hat⟩ := run_append_own_at (P := Tryz.prog) (w4.alloc (.cells #[.string e.p, .int .i64 e.d, .string e.x] 37)) (w.heap.size + 1) 24 24 37 i0 _ 3 40 Tryz.underlying24 hi hi0 hi1 hi2 rfl (by decide) v _ _ (HR4.out.alloc _) ⟨w4.heap.size, 0, none⟩ 1 1 (cellsE e) rfl (cells_new w4 e) rowE_one' (by unfold maxLen; omega) (by omega) (by simp; omega); obtain ⟨hv1, hv2, hr2, hk2, hb2⟩ := HV4.out.appended (by decide) HR4.out (by omega) (Nat.le_refl _) hown' hgrow; have hKp := KpT.appended HV4.out (by decide) HR4.out (by omega) (Nat.le_refl _) hown' hgrow hat; obtain ⟨g5, cap5, rfl⟩ := ownsRow_succ hown'; have hc1 := hv1.cell; have hf1 := hv1.frozen))
            refine wpAnyIn_ready (rs := [4]) (by kernel_rfl) (by simp) ?_
            refine AllReadyIn.cons rfl (fun K hK => ?_) ?_
            · go_simp
              refine hK _ _ ?_
              clear hK K
              refine wpAnyIn_ready (rs := [5]) (by kernel_rfl) (by simp) ?_
              refine ready_append _ _ _ _ rfl (by kernel_rfl) rfl hr5 ?_
              refine wpAnyIn_ready (rs := [6]) (by kernel_rfl) (by simp) ?_
              refine AllReadyIn.cons rfl (fun K hK => ?_) AllReadyIn.nil
              go_simp
              refine hK _ _ ?_
              clear hK K
              refine wpAnyIn_done (by kernel_rfl) ?_ _
              gi_wp2
              refine ⟨(keepsBM hS.out).trans (hk2.from _), (kpt_of hS.out hvl).t hKp, ⟨_, hv2, ?_, trivial⟩, (hB.trans (hS.out.mono (Nat.le_of_lt hvl))).trans hb2⟩
              rw [marksL_snoc]
              exact OwnE.push hr2
            exact AllReadyIn.nil
          exact AllReadyIn.nil
        exact AllReadyIn.nil
      exact AllReadyIn.nil
    refine AllReadyIn.cons rfl (fun K hK => ?_) ?_
    · go_simp
      refine hK _ _ ?_
      clear hK K
      refine wpAnyIn_ready (rs := [0, 2]) (by kernel_rfl) (by simp) ?_
      refine AllReadyIn.cons rfl (fun K hK => ?_) ?_
      · go_simp
        refine hK _ _ ?_
        clear hK K
        refine wpAnyIn_ready (rs := [2]) (by kernel_rfl) (by simp) ?_
        refine AllReadyIn.cons rfl (fun K hK => ?_) ?_
        · go_simp
          refine hK _ _ ?_
          clear hK K
          refine wpAnyIn_ready (rs := [3]) (by kernel_rfl) (by simp) ?_
          refine AllReadyIn.cons rfl (fun K hK => ?_) ?_
          · go_simp
            gi_wp2_with ((refine (CallsIn.inRound l (callsIn_wide.2 (HMK.out _ _))).mono ?_; rintro e4 w4 ⟨rfl, hB4⟩; have hS : Hid (Below W.heap.size W w4) := hidE (((Below.refl _ W).drew).trans hB4); have hc4 := below_cell hS.out hcv; have hc4' := fun o => cellOn o hc4; have HV4 : Hid (Boxed w4 (w.heap.size + 1) 24 v) := hidE ((hS.out.block _ hvl).trans HV.out); have HR4 := hidE (row_belowM HRow.out hS.out); have hz4 := hS.out.size; clear hB4; obtain ⟨v', w5, hr5, hown', hgrow, hnil, hat⟩ := run_append_own_at (P := Tryz.prog) (w4.alloc (.cells #[.string e.p, .int .i64 e.d, .string e.x] 37)) (w.heap.size + 1) 24 24 37 i0 _ 3 40 Tryz.underlying24 hi hi0 hi1 hi2 rfl (by decide) v _ _ (HR4.out.alloc _) ⟨w4.heap.size, 0, none⟩ 1 1 (cellsE e) rfl (cells_new w4 e) rowE_one' (by unfold maxLen; omega) (by omega) (by simp; omega); obtain ⟨hv1, hv2, hr2, hk2, hb2⟩ := HV4.out.appended (by decide) HR4.out (by omega) (Nat.le_refl _) hown' hgrow; have hKp := KpT.appended HV4.out (by decide) HR4.out (by omega) (Nat.le_refl _) hown' hgrow hat; obtain ⟨g5, cap5, rfl⟩ := ownsRow_succ hown'; have hc1 := hv1.cell; have hf1 := hv1.frozen))
            refine wpAnyIn_ready (rs := [4]) (by kernel_rfl) (by simp) ?_
            refine AllReadyIn.cons rfl (fun K hK => ?_) ?_
            · go_simp
              refine hK _ _ ?_
              clear hK K
              refine wpAnyIn_ready (rs := [5]) (by kernel_rfl) (by simp) ?_
              refine ready_append _ _ _ _ rfl (by kernel_rfl) rfl hr5 ?_
              refine wpAnyIn_ready (rs := [6]) (by kernel_rfl) (by simp) ?_
              refine AllReadyIn.cons rfl (fun K hK => ?_) AllReadyIn.nil
              go_simp
              refine hK _ _ ?_
              clear hK K
              refine wpAnyIn_done (by kernel_rfl) ?_ _
              gi_wp2
              refine ⟨(keepsBM hS.out).trans (hk2.from _), (kpt_of hS.out hvl).t hKp, ⟨_, hv2, ?_, trivial⟩, (hB.trans (hS.out.mono (Nat.le_of_lt hvl))).trans hb2⟩
              rw [marksL_snoc]
              exact OwnE.push hr2
            exact AllReadyIn.nil
          exact AllReadyIn.nil
        exact AllReadyIn.nil
      refine AllReadyIn.cons rfl (fun K hK => ?_) ?_
      · go_simp
        refine hK _ _ ?_
        clear hK K
        refine wpAnyIn_ready (rs := [0, 3]) (by kernel_rfl) (by simp) ?_
        refine AllReadyIn.cons rfl (fun K hK => ?_) ?_
        · go_simp
          refine hK _ _ ?_
          clear hK K
          refine wpAnyIn_ready (rs := [3]) (by kernel_rfl) (by simp) ?_
          refine AllReadyIn.cons rfl (fun K hK => ?_) ?_
          · go_simp
            gi_wp2_with ((refine (CallsIn.inRound l (callsIn_wide.2 (HMK.out _ _))).mono ?_; rintro e4 w4 ⟨rfl, hB4⟩; have hS : Hid (Below W.heap.size W w4) := hidE (((Below.refl _ W).drew).trans hB4); have hc4 := below_cell hS.out hcv; have hc4' := fun o => cellOn o hc4; have HV4 : Hid (Boxed w4 (w.heap.size + 1) 24 v) := hidE ((hS.out.block _ hvl).trans HV.out); have HR4 := hidE (row_belowM HRow.out hS.out); have hz4 := hS.out.size; clear hB4; obtain ⟨v', w5, hr5, hown', hgrow, hnil, hat⟩ := run_append_own_at (P := Tryz.prog) (w4.alloc (.cells #[.string e.p, .int .i64 e.d, .string e.x] 37)) (w.heap.size + 1) 24 24 37 i0 _ 3 40 Tryz.underlying24 hi hi0 hi1 hi2 rfl (by decide) v _ _ (HR4.out.alloc _) ⟨w4.heap.size, 0, none⟩ 1 1 (cellsE e) rfl (cells_new w4 e) rowE_one' (by unfold maxLen; omega) (by omega) (by simp; omega); obtain ⟨hv1, hv2, hr2, hk2, hb2⟩ := HV4.out.appended (by decide) HR4.out (by omega) (Nat.le_refl _) hown' hgrow; have hKp := KpT.appended HV4.out (by decide) HR4.out (by omega) (Nat.le_refl _) hown' hgrow hat; obtain ⟨g5, cap5, rfl⟩ := ownsRow_succ hown'; have hc1 := hv1.cell; have hf1 := hv1.frozen))
            refine wpAnyIn_ready (rs := [4]) (by kernel_rfl) (by simp) ?_
            refine AllReadyIn.cons rfl (fun K hK => ?_) ?_
            · go_simp
              refine hK _ _ ?_
              clear hK K
              refine wpAnyIn_ready (rs := [5]) (by kernel_rfl) (by simp) ?_
              refine ready_append _ _ _ _ rfl (by kernel_rfl) rfl hr5 ?_
              refine wpAnyIn_ready (rs := [6]) (by kernel_rfl) (by simp) ?_
              refine AllReadyIn.cons rfl (fun K hK => ?_) AllReadyIn.nil
              go_simp
              refine hK _ _ ?_
              clear hK K
              refine wpAnyIn_done (by kernel_rfl) ?_ _
              gi_wp2
              refine ⟨(keepsBM hS.out).trans (hk2.from _), (kpt_of hS.out hvl).t hKp, ⟨_, hv2, ?_, trivial⟩, (hB.trans (hS.out.mono (Nat.le_of_lt hvl))).trans hb2⟩
              rw [marksL_snoc]
              exact OwnE.push hr2
            exact AllReadyIn.nil
          exact AllReadyIn.nil
        refine AllReadyIn.cons rfl (fun K hK => ?_) ?_
        · go_simp
          gi_wp2_with ((refine (CallsIn.inRound l (callsIn_wide.2 (HMK.out _ _))).mono ?_; rintro e4 w4 ⟨rfl, hB4⟩; have hS : Hid (Below W.heap.size W w4) := hidE (((Below.refl _ W).drew).trans hB4); have hc4 := below_cell hS.out hcv; have hc4' := fun o => cellOn o hc4; have HV4 : Hid (Boxed w4 (w.heap.size + 1) 24 v) := hidE ((hS.out.block _ hvl).trans HV.out); have HR4 := hidE (row_belowM HRow.out hS.out); have hz4 := hS.out.size; clear hB4; obtain ⟨v', w5, hr5, hown', hgrow, hnil, hat⟩ := run_append_own_at (P := Tryz.prog) (w4.alloc (.cells #[.string e.p, .int .i64 e.d, .string e.x] 37)) (w.heap.size + 1) 24 24 37 i0 _ 3 40 Tryz.underlying24 hi hi0 hi1 hi2 rfl (by decide) v _ _ (HR4.out.alloc _) ⟨w4.heap.size, 0, none⟩ 1 1 (cellsE e) rfl (cells_new w4 e) rowE_one' (by unfold maxLen; omega) (by omega) (by simp; omega); obtain ⟨hv1, hv2, hr2, hk2, hb2⟩ := HV4.out.appended (by decide) HR4.out (by omega) (Nat.le_refl _) hown' hgrow; have hKp := KpT.appended HV4.out (by decide) HR4.out (by omega) (Nat.le_refl _) hown' hgrow hat; obtain ⟨g5, cap5, rfl⟩ := ownsRow_succ hown'; have hc1 := hv1.cell; have hf1 := hv1.frozen))
          refine wpAnyIn_ready (rs := [0, 4]) (by kernel_rfl) (by simp) ?_
          refine AllReadyIn.cons rfl (fun K hK => ?_) ?_
          · go_simp
            refine hK _ _ ?_
            clear hK K
            refine wpAnyIn_ready (rs := [4]) (by kernel_rfl) (by simp) ?_
            refine AllReadyIn.cons rfl (fun K hK => ?_) ?_
            · go_simp
              refine hK _ _ ?_
              clear hK K
              refine wpAnyIn_ready (rs := [5]) (by kernel_rfl) (by simp) ?_
              refine ready_append _ _ _ _ rfl (by kernel_rfl) rfl hr5 ?_
              refine wpAnyIn_ready (rs := [6]) (by kernel_rfl) (by simp) ?_
              refine AllReadyIn.cons rfl (fun K hK => ?_) AllReadyIn.nil
              go_simp
              refine hK _ _ ?_
              clear hK K
              refine wpAnyIn_done (by kernel_rfl) ?_ _
              gi_wp2
              refine ⟨(keepsBM hS.out).trans (hk2.from _), (kpt_of hS.out hvl).t hKp, ⟨_, hv2, ?_, trivial⟩, (hB.trans (hS.out.mono (Nat.le_of_lt hvl))).trans hb2⟩
              rw [marksL_snoc]
              exact OwnE.push hr2
            exact AllReadyIn.nil
          refine AllReadyIn.cons rfl (fun K hK => ?_) ?_
          · go_simp
            refine hK _ _ ?_
            clear hK K
            refine wpAnyIn_ready (rs := [0]) (by kernel_rfl) (by simp) ?_
            refine AllReadyIn.cons rfl (fun K hK => ?_) ?_
            · go_simp
              refine hK _ _ ?_
              clear hK K
              refine wpAnyIn_ready (rs := [5]) (by kernel_rfl) (by simp) ?_
              refine ready_append _ _ _ _ rfl (by kernel_rfl) rfl hr5 ?_
              refine wpAnyIn_ready (rs := [6]) (by kernel_rfl) (by simp) ?_
              refine AllReadyIn.cons rfl (fun K hK => ?_) AllReadyIn.nil
              go_simp
              refine hK _ _ ?_
              clear hK K
              refine wpAnyIn_done (by kernel_rfl) ?_ _
              gi_wp2
              refine ⟨(keepsBM hS.out).trans (hk2.from _), (kpt_of hS.out hvl).t hKp, ⟨_, hv2, ?_, trivial⟩, (hB.trans (hS.out.mono (Nat.le_of_lt hvl))).trans hb2⟩
              rw [marksL_snoc]
              exact OwnE.push hr2
            exact AllReadyIn.nil
          exact AllReadyIn.nil
        exact AllReadyIn.nil
      exact AllReadyIn.nil
    refine AllReadyIn.cons rfl (fun K hK => ?_) ?_
    · go_simp
      refine hK _ _ ?_
      clear hK K
      refine wpAnyIn_ready (rs := [0, 1]) (by kernel_rfl) (by simp) ?_
      refine AllReadyIn.cons rfl (fun K hK => ?_) ?_
      · go_simp
        refine hK _ _ ?_
        clear hK K
        refine wpAnyIn_ready (rs := [1]) (by kernel_rfl) (by simp) ?_
        refine AllReadyIn.cons rfl (fun K hK => ?_) ?_
        · go_simp
          refine hK _ _ ?_
          clear hK K
          refine wpAnyIn_ready (rs := [3]) (by kernel_rfl) (by simp) ?_
          refine AllReadyIn.cons rfl (fun K hK => ?_) ?_
          · go_simp
            gi_wp2_with ((refine (CallsIn.inRound l (callsIn_wide.2 (HMK.out _ _))).mono ?_; rintro e4 w4 ⟨rfl, hB4⟩; have hS : Hid (Below W.heap.size W w4) := hidE (((Below.refl _ W).drew).trans hB4); have hc4 := below_cell hS.out hcv; have hc4' := fun o => cellOn o hc4; have HV4 : Hid (Boxed w4 (w.heap.size + 1) 24 v) := hidE ((hS.out.block _ hvl).trans HV.out); have HR4 := hidE (row_belowM HRow.out hS.out); have hz4 := hS.out.size; clear hB4; obtain ⟨v', w5, hr5, hown', hgrow, hnil, hat⟩ := run_append_own_at (P := Tryz.prog) (w4.alloc (.cells #[.string e.p, .int .i64 e.d, .string e.x] 37)) (w.heap.size + 1) 24 24 37 i0 _ 3 40 Tryz.underlying24 hi hi0 hi1 hi2 rfl (by decide) v _ _ (HR4.out.alloc _) ⟨w4.heap.size, 0, none⟩ 1 1 (cellsE e) rfl (cells_new w4 e) rowE_one' (by unfold maxLen; omega) (by omega) (by simp; omega); obtain ⟨hv1, hv2, hr2, hk2, hb2⟩ := HV4.out.appended (by decide) HR4.out (by omega) (Nat.le_refl _) hown' hgrow; have hKp := KpT.appended HV4.out (by decide) HR4.out (by omega) (Nat.le_refl _) hown' hgrow hat; obtain ⟨g5, cap5, rfl⟩ := ownsRow_succ hown'; have hc1 := hv1.cell; have hf1 := hv1.frozen))
            refine wpAnyIn_ready (rs := [4]) (by kernel_rfl) (by simp) ?_
            refine AllReadyIn.cons rfl (fun K hK => ?_) ?_
            · go_simp
              refine hK _ _ ?_
              clear hK K
              refine wpAnyIn_ready (rs := [5]) (by kernel_rfl) (by simp) ?_
              refine ready_append _ _ _ _ rfl (by kernel_rfl) rfl hr5 ?_
              refine wpAnyIn_ready (rs := [6]) (by kernel_rfl) (by simp) ?_
              refine AllReadyIn.cons rfl (fun K hK => ?_) AllReadyIn.nil
              go_simp
              refine hK _ _ ?_
              clear hK K
              refine wpAnyIn_done (by kernel_rfl) ?_ _
              gi_wp2
              refine ⟨(keepsBM hS.out).trans (hk2.from _), (kpt_of hS.out hvl).t hKp, ⟨_, hv2, ?_, trivial⟩, (hB.trans (hS.out.mono (Nat.le_of_lt hvl))).trans hb2⟩
              rw [marksL_snoc]
              exact OwnE.push hr2
            exact AllReadyIn.nil
          exact AllReadyIn.nil
        exact AllReadyIn.nil
      refine AllReadyIn.cons rfl (fun K hK => ?_) ?_
      · go_simp
        refine hK _ _ ?_
        clear hK K
        refine wpAnyIn_ready (rs := [0, 3]) (by kernel_rfl) (by simp) ?_
        refine AllReadyIn.cons rfl (fun K hK => ?_) ?_
        · go_simp
          refine hK _ _ ?_
          clear hK K
          refine wpAnyIn_ready (rs := [3]) (by kernel_rfl) (by simp) ?_
          refine AllReadyIn.cons rfl (fun K hK => ?_) ?_
          · go_simp
            gi_wp2_with ((refine (CallsIn.inRound l (callsIn_wide.2 (HMK.out _ _))).mono ?_; rintro e4 w4 ⟨rfl, hB4⟩; have hS : Hid (Below W.heap.size W w4) := hidE (((Below.refl _ W).drew).trans hB4); have hc4 := below_cell hS.out hcv; have hc4' := fun o => cellOn o hc4; have HV4 : Hid (Boxed w4 (w.heap.size + 1) 24 v) := hidE ((hS.out.block _ hvl).trans HV.out); have HR4 := hidE (row_belowM HRow.out hS.out); have hz4 := hS.out.size; clear hB4; obtain ⟨v', w5, hr5, hown', hgrow, hnil, hat⟩ := run_append_own_at (P := Tryz.prog) (w4.alloc (.cells #[.string e.p, .int .i64 e.d, .string e.x] 37)) (w.heap.size + 1) 24 24 37 i0 _ 3 40 Tryz.underlying24 hi hi0 hi1 hi2 rfl (by decide) v _ _ (HR4.out.alloc _) ⟨w4.heap.size, 0, none⟩ 1 1 (cellsE e) rfl (cells_new w4 e) rowE_one' (by unfold maxLen; omega) (by omega) (by simp; omega); obtain ⟨hv1, hv2, hr2, hk2, hb2⟩ := HV4.out.appended (by decide) HR4.out (by omega) (Nat.le_refl _) hown' hgrow; have hKp := KpT.appended HV4.out (by decide) HR4.out (by omega) (Nat.le_refl _) hown' hgrow hat; obtain ⟨g5, cap5, rfl⟩ := ownsRow_succ hown'; have hc1 := hv1.cell; have hf1 := hv1.frozen))
            refine wpAnyIn_ready (rs := [4]) (by kernel_rfl) (by simp) ?_
            refine AllReadyIn.cons rfl (fun K hK => ?_) ?_
            · go_simp
              refine hK _ _ ?_
              clear hK K
              refine wpAnyIn_ready (rs := [5]) (by kernel_rfl) (by simp) ?_
              refine ready_append _ _ _ _ rfl (by kernel_rfl) rfl hr5 ?_
              refine wpAnyIn_ready (rs := [6]) (by kernel_rfl) (by simp) ?_
              refine AllReadyIn.cons rfl (fun K hK => ?_) AllReadyIn.nil
              go_simp
              refine hK _ _ ?_
              clear hK K
              refine wpAnyIn_done (by kernel_rfl) ?_ _
              gi_wp2
              refine ⟨(keepsBM hS.out).trans (hk2.from _), (kpt_of hS.out hvl).t hKp, ⟨_, hv2, ?_, trivial⟩, (hB.trans (hS.out.mono (Nat.le_of_lt hvl))).trans hb2⟩
              rw [marksL_snoc]
              exact OwnE.push hr2
            exact AllReadyIn.nil
          exact AllReadyIn.nil
        refine AllReadyIn.cons rfl (fun K hK => ?_) ?_
        · go_simp
          gi_wp2_with ((refine (CallsIn.inRound l (callsIn_wide.2 (HMK.out _ _))).mono ?_; rintro e4 w4 ⟨rfl, hB4⟩; have hS : Hid (Below W.heap.size W w4) := hidE (((Below.refl _ W).drew).trans hB4); have hc4 := below_cell hS.out hcv; have hc4' := fun o => cellOn o hc4; have HV4 : Hid (Boxed w4 (w.heap.size + 1) 24 v) := hidE ((hS.out.block _ hvl).trans HV.out); have HR4 := hidE (row_belowM HRow.out hS.out); have hz4 := hS.out.size; clear hB4; obtain ⟨v', w5, hr5, hown', hgrow, hnil, hat⟩ := run_append_own_at (P := Tryz.prog) (w4.alloc (.cells #[.string e.p, .int .i64 e.d, .string e.x] 37)) (w.heap.size + 1) 24 24 37 i0 _ 3 40 Tryz.underlying24 hi hi0 hi1 hi2 rfl (by decide) v _ _ (HR4.out.alloc _) ⟨w4.heap.size, 0, none⟩ 1 1 (cellsE e) rfl (cells_new w4 e) rowE_one' (by unfold maxLen; omega) (by omega) (by simp; omega); obtain ⟨hv1, hv2, hr2, hk2, hb2⟩ := HV4.out.appended (by decide) HR4.out (by omega) (Nat.le_refl _) hown' hgrow; have hKp := KpT.appended HV4.out (by decide) HR4.out (by omega) (Nat.le_refl _) hown' hgrow hat; obtain ⟨g5, cap5, rfl⟩ := ownsRow_succ hown'; have hc1 := hv1.cell; have hf1 := hv1.frozen))
          refine wpAnyIn_ready (rs := [0, 4]) (by kernel_rfl) (by simp) ?_
          refine AllReadyIn.cons rfl (fun K hK => ?_) ?_
          · go_simp
            refine hK _ _ ?_
            clear hK K
            refine wpAnyIn_ready (rs := [4]) (by kernel_rfl) (by simp) ?_
            refine AllReadyIn.cons rfl (fun K hK => ?_) ?_
            · go_simp
              refine hK _ _ ?_
              clear hK K
              refine wpAnyIn_ready (rs := [5]) (by kernel_rfl) (by simp) ?_
              refine ready_append _ _ _ _ rfl (by kernel_rfl) rfl hr5 ?_
              refine wpAnyIn_ready (rs := [6]) (by kernel_rfl) (by simp) ?_
              refine AllReadyIn.cons rfl (fun K hK => ?_) AllReadyIn.nil
              go_simp
              refine hK _ _ ?_
              clear hK K
              refine wpAnyIn_done (by kernel_rfl) ?_ _
              gi_wp2
              refine ⟨(keepsBM hS.out).trans (hk2.from _), (kpt_of hS.out hvl).t hKp, ⟨_, hv2, ?_, trivial⟩, (hB.trans (hS.out.mono (Nat.le_of_lt hvl))).trans hb2⟩
              rw [marksL_snoc]
              exact OwnE.push hr2
            exact AllReadyIn.nil
          refine AllReadyIn.cons rfl (fun K hK => ?_) ?_
          · go_simp
            refine hK _ _ ?_
            clear hK K
            refine wpAnyIn_ready (rs := [0]) (by kernel_rfl) (by simp) ?_
            refine AllReadyIn.cons rfl (fun K hK => ?_) ?_
            · go_simp
              refine hK _ _ ?_
              clear hK K
              refine wpAnyIn_ready (rs := [5]) (by kernel_rfl) (by simp) ?_
              refine ready_append _ _ _ _ rfl (by kernel_rfl) rfl hr5 ?_
              refine wpAnyIn_ready (rs := [6]) (by kernel_rfl) (by simp) ?_
              refine AllReadyIn.cons rfl (fun K hK => ?_) AllReadyIn.nil
              go_simp
              refine hK _ _ ?_
              clear hK K
              refine wpAnyIn_done (by kernel_rfl) ?_ _
              gi_wp2
              refine ⟨(keepsBM hS.out).trans (hk2.from _), (kpt_of hS.out hvl).t hKp, ⟨_, hv2, ?_, trivial⟩, (hB.trans (hS.out.mono (Nat.le_of_lt hvl))).trans hb2⟩
              rw [marksL_snoc]
              exact OwnE.push hr2
            exact AllReadyIn.nil
          exact AllReadyIn.nil
        exact AllReadyIn.nil
      exact AllReadyIn.nil
    exact AllReadyIn.nil
  case done =>
    rintro D xs W hD hxs ⟨⟨v, hv, hrow, -⟩, hB⟩ hK
    rw [marksL_all T hxs] at hrow
    have hc := hv.cell
    have hrow6 := ownsRow_putObj hrow (.deferred none) hK rfl
    have hBf : Below w.heap.size w (W.putObj D (.deferred none)) := (hB0.trans (hB.mono (by omega))).trans (below_putM (by omega) _)
    have HR6 := hidE hrow6
    clear hrow hrow6
    gi_wp2
    refine ⟨by simp, .inl ⟨_, _, rfl, run_takeDeferred hK, ?_⟩⟩
    exact ⟨_, results_tmp rfl _ _ _, v, rfl, row_lowM HR6.out (by omega), hBf⟩
  case stop =>
    rintro D c pre W _ _ h _
    exact h.elim
end Go.Proofs.YtocfbplaieonkaaGreat.Mk
