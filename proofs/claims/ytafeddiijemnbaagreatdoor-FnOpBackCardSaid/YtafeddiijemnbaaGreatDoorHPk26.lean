import Derived.Deep.RegionHeld3
import Derived.Test.YtafeddiijemnbaaGreatDoorHReadyB
import Derived.Test.YtafeddiijemnbaaGreatDoorHPk24
import Derived.Test.YtafeddiijemnbaaGreatDoorHNamesI
import Derived.Test.YtafeddiijemnbaaGreatDoorHPk07
import Derived.RangeFuncLeaves
import Derived.Test.YtafeddiijemnbaaGreatDoorHPk23
namespace Go.Proofs.YtafeddiijemnbaaGreatDoor
open Go.RowKit Go.Shelf Go.Lib
attribute [local go_sem] Oper.semAt_some
set_option maxHeartbeats 4000000 in
set_option maxRecDepth 100000 in
theorem cut_any (w : World) (base N : Nat) (es : List E) (A : ByteArray → Nat) (T : TrE es) (R : Rep w base N es A) (p : ByteArray) (hpb : pathB p = true) (hp : p.size ≤ 16777216) (hdir : dirE es (upS p) = true) :
  Calls Tryz.prog 129 #[treeV A, .string p] w fun r w' => (∃ v, r = .returned v) ∧ ∃ V, Below w.heap.size w V ∧ V.mapTurned w' (A (upS p)) ∧ MapIs w' (A (upS p)) N (fun t => if t = nmS p then none else kidF es A (upS p) t) := by
 obtain ⟨W0, hW0⟩ : ∃ W0, W0 = w.alloc (.cells #[.bool true, .string ⟨#[]⟩, .map (some (A ⟨#[47]⟩))] 38) := ⟨_, rfl⟩
 have hBw : Below w.heap.size w W0 := hW0 ▸ (Below.refl _ w).alloc (Nat.le_refl _) _
 have AS : Hid (∀ W', Below W0.heap.size W0 W' → (W'.cell? ⟨w.heap.size, 0, none⟩ = some (.bool true) ∧ W'.cell? ⟨w.heap.size, 1, none⟩ = some (.string ⟨#[]⟩) ∧ W'.cell? ⟨w.heap.size, 2, none⟩ = some (.map (some (A ⟨#[47]⟩))))) := fun W' hW => by
  subst hW0; exact box3n hW
 have AR : Hid (∀ W', Below W0.heap.size W0 W' → Rep W' base N es A) := fun W' hW => (R.below hBw).below hW; have HU := hid (fun W => iPathUp_any p hp W); have hus : (upS p).size ≤ 4611686018427387904 := by have := upS_size p; omega
 have HAt := hid (fun (W : World) (hW : Rep W base N es A) => at_any W base N es A T hW (upS p) hus); have HN5 := hid (fun W => iPathName_any p hp W); have hnz := name_len hpb; obtain ⟨xx, hxx⟩ := atE_dir (A := A) hdir; rw [hxx] at HAt; clear R hxx; go_enter Tryz.func129, Tryz.ntmps129
 go_wp2_with fail
 rw [← hW0]; clear hW0
 rename_i Qx Kx hKx
 have HK : Hid (∀ (b : Nat) (W : World), Below W0.heap.size W0 W → W.cell? ⟨b, 2, none⟩ = some (.map (some (A (upS p)))) → Kx { tmps := #[treeV A, .string p, .pointer (some ⟨w.heap.size, 0, none⟩), undef, .pointer (some ⟨b, 0, none⟩), .bool true, .tuple #[.agg #[.bool true, .string xx, .map (some (A (upS p)))], .bool true], treeV A, .string p, .string (upS p), .tuple #[.agg #[.bool true, .string xx, .map (some (A (upS p)))], .bool true], .agg #[.bool true, .string xx, .map (some (A (upS p)))], .bool true, undef, undef, undef, undef], defers := [] } W) := by
  intro b W hBW hb2; refine hKx _ _ ?_; go_wp2
  refine wp_region_any (by kernel_rfl) ?_
  change wpAny _ _ _ _ _ _ _ (World.drew _)
  refine wpAny_take (i := 0) (v := ?_) rfl (by kernel_rfl) (by kernel_rfl) (by kernel_rfl) (fun _ _ _ h => h) (Or.inl ⟨by rfl, ?_⟩) ?_
  rotate_left 1
  ·
   intro w; go_simp; first | done | with_reducible rfl
  refine wpAny_take (i := 2) (v := ?_) rfl (by kernel_rfl) (by kernel_rfl) (by kernel_rfl) (fun _ _ _ h => h) (Or.inl ⟨by rfl, ?_⟩) ?_
  rotate_left 1
  ·
   intro w; go_simp; first | done | with_reducible rfl
  refine wpAny_ready (rs := [1, 3]) (by kernel_rfl) (by simp) ?_; refine AllReady.cons rfl (fun K hK => ?_) ?_
  ·
   go_simp; refine hK _ _ ?_; clear hK K; refine wpAny_ready (rs := [3]) (by kernel_rfl) (by simp) ?_; refine AllReady.cons rfl (fun K hK => ?_) ?_
   ·
    go_simp; go_wp2_with (go_at_call 46; refine (HN5.out _).mono ?_; rintro e w7 ⟨rfl, hB7⟩; have hb7 := below_cell hB7 (show W.drew.cell? ⟨b, 2, none⟩ = some (.map (some (A (upS p)))) from hb2))
    obtain ⟨w8, hdl, hm8, ht8⟩ := ((AR.out _ (belowT (hBW.drew) hB7)).kids _ hdir).drop hnz 0; refine wpAny_ready (rs := [4]) (by kernel_rfl) (by simp) ?_; refine ready_delete0 _ _ _ _ rfl (by kernel_rfl) rfl hdl ?_; refine wpAny_done (by kernel_rfl) ?_ _; go_wp2
    refine bodyPost_end (results_none rfl _ _ _) rfl ⟨⟨_, rfl⟩, w7, hBw.trans ((belowT (hBW.drew) hB7).mono hBw.size), ht8, hm8⟩
   exact AllReady.nil
  refine AllReady.cons rfl (fun K hK => ?_) ?_
  ·
   go_simp; go_wp2_with (go_at_call 46; refine (HN5.out _).mono ?_; rintro e w7 ⟨rfl, hB7⟩; have hb7 := below_cell hB7 (show W.drew.cell? ⟨b, 2, none⟩ = some (.map (some (A (upS p)))) from hb2))
   refine wpAny_ready (rs := [1]) (by kernel_rfl) (by simp) ?_; refine AllReady.cons rfl (fun K hK => ?_) ?_
   ·
    go_simp; refine hK _ _ ?_; clear hK K; obtain ⟨w8, hdl, hm8, ht8⟩ := ((AR.out _ (belowT (hBW.drew) hB7)).kids _ hdir).drop hnz 0; refine wpAny_ready (rs := [4]) (by kernel_rfl) (by simp) ?_; refine ready_delete0 _ _ _ _ rfl (by kernel_rfl) rfl hdl ?_; refine wpAny_done (by kernel_rfl) ?_ _; go_wp2
    refine bodyPost_end (results_none rfl _ _ _) rfl ⟨⟨_, rfl⟩, w7, hBw.trans ((belowT (hBW.drew) hB7).mono hBw.size), ht8, hm8⟩
   exact AllReady.nil
  exact AllReady.nil
 clear hKx
 go_region_held3 (fun W' => W'.cell? ⟨w.heap.size, 0, none⟩ = some (.bool true) ∧ W'.cell? ⟨w.heap.size, 1, none⟩ = some (.string ⟨#[]⟩) ∧ W'.cell? ⟨w.heap.size, 2, none⟩ = some (.map (some (A ⟨#[47]⟩))))
  ((refine AS.out _ ?_; repeat (first | exact Below.refl _ _ | apply belowA | refine belowT ?_ hB4 | refine belowT ?_ hB3 | apply Below.drew | refine set3_below ?_ (by first | exact Nat.le_refl _ | (have h3 := hB3.size; have h4 := hB4.size; simp at h3 h4 ⊢; omega)) _ _ _)))
  (first | (go_at_call 45; refine (HU.out _).mono ?_; rintro e w3 ⟨rfl, hB3⟩; obtain ⟨bc3, bf3⟩ := bcellN hB3; have l3 := hB3.size; (try simp at l3); (try (have z0 := bc3 W0.heap.size 0 (lt_allocD _ _); have z1 := bc3 W0.heap.size 1 (lt_allocD _ _); have z2 := bc3 W0.heap.size 2 (lt_allocD _ _); have z3 := bf3 W0.heap.size 0 (lt_allocD _ _); have z4 := bf3 W0.heap.size 1 (lt_allocD _ _); have z5 := bf3 W0.heap.size 2 (lt_allocD _ _); simp at z0 z1 z2 z3 z4 z5)); clear bc3 bf3) | (go_at_call 51; refine (HAt.out _ (AR.out _ (by repeat (first | exact Below.refl _ _ | apply belowA | refine belowT ?_ hB3 | apply Below.drew)))).mono ?_; rintro e w4 ⟨rfl, hB4⟩; obtain ⟨bc4, bf4⟩ := bcellN hB4; have l4 := hB4.size; (try simp at l4); (try (have z0 := bc4 w3.heap.size 0 (lt_alloc _ _); have z1 := bc4 w3.heap.size 1 (lt_alloc _ _); have z2 := bc4 w3.heap.size 2 (lt_alloc _ _); have z3 := bf4 w3.heap.size 0 (lt_alloc _ _); have z4 := bf4 w3.heap.size 1 (lt_alloc _ _); have z5 := bf4 w3.heap.size 2 (lt_alloc _ _); simp at z0 z1 z2 z3 z4 z5)); (try (have v0 := (bc4 W0.heap.size 0 l3).trans z0; have v1 := (bc4 W0.heap.size 1 l3).trans z1; have v2 := (bc4 W0.heap.size 2 l3).trans z2; have v3 := (bf4 W0.heap.size 0 l3).trans z3; have v4 := (bf4 W0.heap.size 1 l3).trans z4; have v5 := (bf4 W0.heap.size 2 l3).trans z5)); clear bc4 bf4))
 all_goals refine HK.out _ _ (by repeat (first | exact Below.refl _ _ | apply belowA | refine belowT ?_ hB4 | refine belowT ?_ hB3 | apply Below.drew | refine set3_below ?_ (by first | exact Nat.le_refl _ | (have h3 := hB3.size; have h4 := hB4.size; simp at h3 h4 ⊢; omega)) _ _ _)) ?_
 all_goals first | exact (set3_cells v0 v1 v2 _ _ _).2.2 | exact (set3_cells z0 z1 z2 _ _ _).2.2 | simp
end Go.Proofs.YtafeddiijemnbaaGreatDoor
namespace Go.Proofs.YtafeddiijemnbaaGreatDoor
open Go.RowKit Go.Shelf Go.Lib Go.Maps
attribute [local go_sem] Oper.semAt_some
theorem kids_size {w : World} {b N : Nat} {es : List E} {A : ByteArray → Nat} {p : ByteArray} (T : TrE es) (hst : stemOk p = true) (h : MapIs w b N (kidF es A p)) :
  ∃ m : Nat, (∀ ty, (Builtin.len_ #[34] ty #[.map (some b)]).run Tryz.prog w = .ok (.int .i64 m) w) ∧ (0 < m ↔ 0 < (kidsE es p).length) := by
 obtain ⟨D, n, hown, _, hD⟩ := h; refine ⟨Maps.size D, fun ty => hown.len Tryz.underlying34 ty, ?_⟩; obtain ⟨es', rfl, hko⟩ := hown.keysOf; have hk := kids_some (A := A) T hst
 constructor
 ·
  intro hm; cases es' with
  | nil => simp [Maps.size] at hm
  | cons q r =>
   obtain ⟨v, hv⟩ := hko q (List.mem_cons_self ..); obtain ⟨y, _, hy, hl⟩ := Maps.keyOf_str Tryz.underlying9 hv
   have hhas : Maps.has (DataW.map (q :: r)) (.string y) = true := by
    rw [has_eq, List.any_eq_true]; exact ⟨q, List.mem_cons_self .., by rw [hy]; exact WideAt.sameKey_self trivial⟩
   have hs := hD ⟨y.toArray⟩ (by show y.toArray.size ≤ _; simpa using hl); have hm2 : (⟨y.toArray⟩ : ByteArray) ∈ kidsE es p := (hk _).2 ⟨by show y.toArray.size ≤ _; simpa using hl, by rw [← hs.1]; simpa using hhas⟩; exact List.length_pos_of_mem hm2
 ·
  intro hm; obtain ⟨s, hs⟩ := List.exists_mem_of_length_pos hm; obtain ⟨h1, h2⟩ := (hk s).1 hs; have := (hD s h1).1; rw [h2, has_eq, List.any_eq_true] at this; obtain ⟨q, hq, _⟩ := this; simp only [Maps.size]; exact List.length_pos_of_mem hq
/-! ### The codes -/
theorem offC_none {es : List E} {k : Int} {p : ByteArray} (hp : pathB p = true) (hl : lookE es p = none) : offC es k p = 2 := by
 unfold offC; rw [getE_look (root_not_path hp), hl]; rfl
theorem offC_some {es : List E} {k : Int} {p : ByteArray} (hp : pathB p = true) {f : E} (hl : lookE es p = some f) : offC es k p = if k = 3 ∧ f.d = true then 5 else if k = 4 ∧ f.d = false then 3 else if 0 < (kidsE es p).length then 6 else 0 := by
 unfold offC; rw [getE_look (root_not_path hp), hl]; rfl
set_option maxHeartbeats 4000000 in
set_option maxRecDepth 100000 in
theorem rmDo_any (w : World) (base N : Nat) (es : List E) (A : ByteArray → Nat) (ae : Int → Addr) (T : TrE es) (R : Rep w base N es A) (hE : Errs8 w ae) (k : Int) (p t x : ByteArray) (hpb : pathB p = true)
  (hp : p.size ≤ 16777216) (hb : base ≤ w.heap.size) :
  Calls Tryz.prog 136 #[opV k p t x, treeV A] w fun r w' => r = .returned (errV ae (offC es 3 p)) ∧ Turn base w w' ∧ ∃ A', A' ⟨#[47]⟩ = A ⟨#[47]⟩ ∧ Rep w' base (N + 1) (if offC es 3 p = 0 then offE es p else es) A' := by
 obtain ⟨W0, hW0⟩ : ∃ W0, W0 = (w.alloc (.cells #[.int .i64 k, .string p, .string t, .string x] 100)).alloc (.cells #[.bool true, .string ⟨#[]⟩, .map (some (A ⟨#[47]⟩))] 38) := ⟨_, rfl⟩
 have hBw : Below w.heap.size w W0 := hW0 ▸ ((Below.refl _ w).alloc (Nat.le_refl _) _).alloc (by simp) _
 have HX : Hid (DoBox W0 w.heap.size A k p t x) := by
  subst hW0
  constructor <;> simp
 have AX : Hid (∀ W', Below W0.heap.size W0 W' → DoBox W' w.heap.size A k p t x) := fun W' hW => HX.out.below hW; have AR : Hid (∀ W', Below W0.heap.size W0 W' → Rep W' base N es A) := fun W' hW => (R.below hBw).below hW; have AE : Hid (∀ W', Below W0.heap.size W0 W' → Errs8 W' ae) := fun W' hW => (hE.below hBw).below hW; have HAt := hid (fun (W : World) (hW : Rep W base N es A) => at_any W base N es A T hW p (by omega)); have HTu : Hid (∀ W', Below W0.heap.size W0 W' → Turn base w W') := fun W' hW => Turn.of_below (hBw.trans (hW.mono hBw.size)) hb; have HRk : Hid (∀ W', Below W0.heap.size W0 W' → ∃ A', A' ⟨#[47]⟩ = A ⟨#[47]⟩ ∧ Rep W' base (N + 1) es A') := fun W' hW => ⟨A, rfl, (AR.out W' hW).more⟩; clear hE R; cases hl : lookE es p with
 | none =>
  rw [atE_none hpb hl] at HAt; rw [offC_none hpb hl, if_neg (by decide), errV_no (by decide)]; go_enter Tryz.func136, Tryz.ntmps136
  go_wp2_with (go_at_call 51; rw [← hW0]; refine (HAt.out _ (AR.out _ (Below.refl _ _))).mono ?_; rintro e w5 ⟨rfl, hB5⟩; have n2 := (AE.out _ hB5).two.noneC; have n2' := fun o => cellOn o n2)
  go_ret
  exact ⟨rfl, HTu.out _ (belowA hB5 _), HRk.out _ (belowA hB5 _)⟩
 | some f =>
  rw [atE_some hpb hl] at HAt; rw [offC_some hpb hl]; cases hfd : f.d with
  | true =>
   rw [hfd] at HAt; rw [if_pos ⟨rfl, rfl⟩, if_neg (by decide), errV_no (by decide)]; go_enter Tryz.func136, Tryz.ntmps136
   go_wp2_with (go_at_call 51; rw [← hW0]; refine (HAt.out _ (AR.out _ (Below.refl _ _))).mono ?_; rintro e w5 ⟨rfl, hB5⟩; have n2 := (AE.out _ hB5).isDir; have n2' := fun o => cellOn o n2)
   go_ret
   exact ⟨rfl, HTu.out _ (belowA hB5 _), HRk.out _ (belowA hB5 _)⟩
  | false =>
   rw [hfd] at HAt; have hdf : dirE es p = false := by rw [dirE_look, hl, root_not_path hpb]; exact hfd
   have hkn := kids_file T hdf
   have hup : dirE es (upS p) = true := by
    obtain ⟨h1, h2⟩ := look_mem hl; rw [← h2]; exact T.up f h1
   rw [if_neg (by simp), if_neg (by simp), hkn, if_neg (by simp), if_pos rfl, show errV ae 0 = .nilIface from rfl]; have HCu := hid (fun (W : World) (hW : Rep W base N es A) => cut_any W base N es A T hW p hpb hp hup); go_enter Tryz.func136, Tryz.ntmps136
   go_wp2_with (first | (go_at_call 51; rw [← hW0]; refine (HAt.out _ (AR.out _ (Below.refl _ _))).mono ?_; rintro e w5 ⟨rfl, hB5⟩; obtain ⟨q0, q1, q2, q3, q4, q5, q6⟩ := AX.out _ hB5; have u0 := fun o => cellOn o q4; have u1 := fun o => cellOn o q5; have u2 := fun o => cellOn o q6; have u3 := fun o => cellOn o q1) | (go_at_call 129; refine (HCu.out _ (AR.out _ (belowA hB5 _))).mono ?_; rintro e w6 ⟨⟨v6, rfl⟩, V, hB6, ht6, hm6⟩))
   go_ret
   have hBV := belowT (belowA hB5 _) hB6; have fin := off_fin T (AR.out _ hBV) (HTu.out _ hBV) hpb hup hm6 ht6; exact ⟨rfl, fin.1, A, rfl, fin.2.more⟩
set_option maxHeartbeats 4000000 in
set_option maxRecDepth 100000 in
theorem rmdirDo_any (w : World) (base N : Nat) (es : List E) (A : ByteArray → Nat) (ae : Int → Addr) (T : TrE es) (R : Rep w base N es A) (hE : Errs8 w ae) (k : Int) (p t x : ByteArray) (hpb : pathB p = true)
  (hp : p.size ≤ 16777216) (hb : base ≤ w.heap.size) :
  Calls Tryz.prog 138 #[opV k p t x, treeV A] w fun r w' => r = .returned (errV ae (offC es 4 p)) ∧ Turn base w w' ∧ ∃ A', A' ⟨#[47]⟩ = A ⟨#[47]⟩ ∧ Rep w' base (N + 1) (if offC es 4 p = 0 then offE es p else es) A' := by
 obtain ⟨W0, hW0⟩ : ∃ W0, W0 = (w.alloc (.cells #[.int .i64 k, .string p, .string t, .string x] 101)).alloc (.cells #[.bool true, .string ⟨#[]⟩, .map (some (A ⟨#[47]⟩))] 38) := ⟨_, rfl⟩
 have hBw : Below w.heap.size w W0 := hW0 ▸ ((Below.refl _ w).alloc (Nat.le_refl _) _).alloc (by simp) _
 have HX : Hid (DoBox W0 w.heap.size A k p t x) := by
  subst hW0
  constructor <;> simp
 have AX : Hid (∀ W', Below W0.heap.size W0 W' → DoBox W' w.heap.size A k p t x) := fun W' hW => HX.out.below hW; have AR : Hid (∀ W', Below W0.heap.size W0 W' → Rep W' base N es A) := fun W' hW => (R.below hBw).below hW; have AE : Hid (∀ W', Below W0.heap.size W0 W' → Errs8 W' ae) := fun W' hW => (hE.below hBw).below hW; have HDi := hid (fun (W : World) (hW : Rep W base N es A) (hE : Errs2 W ae) => dirAt_any W base N es A ae T hW hE p (by omega)); have HTu : Hid (∀ W', Below W0.heap.size W0 W' → Turn base w W') := fun W' hW => Turn.of_below (hBw.trans (hW.mono hBw.size)) hb; have HRk : Hid (∀ W', Below W0.heap.size W0 W' → ∃ A', A' ⟨#[47]⟩ = A ⟨#[47]⟩ ∧ Rep W' base (N + 1) es A') := fun W' hW => ⟨A, rfl, (AR.out W' hW).more⟩; clear hE R; by_cases hc0 : dirC es p = 0
 ·
  have hdir := dirC_zero hc0
  obtain ⟨f, hl, hfd⟩ : ∃ f, lookE es p = some f ∧ f.d = true := by
   rcases dir_look hdir with h | h
   ·
    rw [h, root_no_path] at hpb; cases hpb
   ·
    exact h
  obtain ⟨xx, hxx⟩ := atE_dir (A := A) hdir; have hdv : dirV es A p = .agg #[.bool true, .string xx, .map (some (A p))] := by unfold dirV; rw [if_pos hc0, hxx]
  have hev : errV ae (dirC es p) = .nilIface := by rw [hc0]; rfl
  rw [hdv, hev] at HDi; rw [offC_some hpb hl, hfd, if_neg (by simp), if_neg (by simp)]
  have hup : dirE es (upS p) = true := by
   obtain ⟨h1, h2⟩ := look_mem hl; rw [← h2]; exact T.up f h1
  have HCu := hid (fun (W : World) (hW : Rep W base N es A) => cut_any W base N es A T hW p hpb hp hup); by_cases hk : 0 < (kidsE es p).length
  ·
   rw [if_pos hk, if_neg (by decide), errV_no (by decide)]; go_enter Tryz.func138, Tryz.ntmps138
   go_wp2_with (first | (go_at_call 44; rw [← hW0]; refine (HDi.out _ (AR.out _ (Below.refl _ _)) (AE.out _ (Below.refl _ _)).two).mono ?_; rintro e w5 ⟨rfl, hB5⟩; have n2 := (AE.out _ hB5).kept; have n2' := fun o => cellOn o n2; obtain ⟨m, hm1, hm2⟩ := kids_size T (stemOk_path hpb) ((AR.out _ (belowA hB5 (.cells #[.bool true, .string xx, .map (some (A p))] 36))).kids p hdir); have hmp := hm2.2 hk) | fail)
   go_ret
   exact ⟨rfl, HTu.out _ (belowA hB5 _), HRk.out _ (belowA hB5 _)⟩
  ·
   rw [if_neg hk, if_pos rfl, show errV ae 0 = .nilIface from rfl]; go_enter Tryz.func138, Tryz.ntmps138
   go_wp2_with (first | (go_at_call 44; rw [← hW0]; refine (HDi.out _ (AR.out _ (Below.refl _ _)) (AE.out _ (Below.refl _ _)).two).mono ?_; rintro e w5 ⟨rfl, hB5⟩; obtain ⟨q0, q1, q2, q3, q4, q5, q6⟩ := AX.out _ hB5; have u0 := fun o => cellOn o q4; have u1 := fun o => cellOn o q5; have u2 := fun o => cellOn o q6; have u3 := fun o => cellOn o q1; obtain ⟨m, hm1, hm2⟩ := kids_size T (stemOk_path hpb) ((AR.out _ (belowA hB5 (.cells #[.bool true, .string xx, .map (some (A p))] 36))).kids p hdir); obtain rfl : m = 0 := Nat.eq_zero_of_not_pos (fun h => hk (hm2.1 h))) | (go_at_call 129; refine (HCu.out _ (AR.out _ (belowA hB5 _))).mono ?_; rintro e w6 ⟨⟨v6, rfl⟩, V, hB6, ht6, hm6⟩))
   go_ret
   have hBV := belowT (belowA hB5 _) hB6; have fin := off_fin T (AR.out _ hBV) (HTu.out _ hBV) hpb hup hm6 ht6; exact ⟨rfl, fin.1, A, rfl, fin.2.more⟩
 ·
  have hdv : dirV es A p = zeroN := by unfold dirV; rw [if_neg hc0]
  have hcode : offC es 4 p = dirC es p := by
   cases hl : lookE es p with
   | none => rw [offC_none hpb hl]; unfold dirC; rw [getE_look (root_not_path hpb), hl]; rfl
   | some f =>
    have hfd : f.d = false := by
     cases h : f.d with
     | false => rfl
     | true => exact absurd (dirC_dir (look_dir (.inr ⟨f, hl, h⟩))) hc0
    rw [offC_some hpb hl, hfd, if_neg (by simp), if_pos ⟨rfl, rfl⟩]; unfold dirC; rw [getE_look (root_not_path hpb), hl]; simp [hfd]
  rw [hcode, if_neg hc0, errV_no hc0]; rw [hdv, errV_no hc0] at HDi; go_enter Tryz.func138, Tryz.ntmps138
  go_wp2_with (go_at_call 44; rw [← hW0]; refine (HDi.out _ (AR.out _ (Below.refl _ _)) (AE.out _ (Below.refl _ _)).two).mono ?_; rintro e w5 ⟨rfl, hB5⟩)
  go_ret
  exact ⟨rfl, HTu.out _ (belowA hB5 _), HRk.out _ (belowA hB5 _)⟩
end Go.Proofs.YtafeddiijemnbaaGreatDoor
namespace Go.Proofs.YtafeddiijemnbaaGreatDoor
open Go.RowKit Go.Shelf Go.Lib
attribute [local go_sem] Oper.semAt_some
set_option maxHeartbeats 4000000 in
set_option maxRecDepth 100000 in
theorem move_none (w : World) (base N : Nat) (es : List E) (A : ByteArray → Nat) (ae : Int → Addr) (T : TrE es) (R : Rep w base N es A)
  (hE : Errs8 w ae) (k : Int) (p t x : ByteArray) (hpb : pathB p = true)
  (hp : p.size ≤ 16777216) (hl : lookE es p = none) (hb : base ≤ w.heap.size) :
  Calls Tryz.prog 140 #[opV k p t x, treeV A] w fun r w' => r = .returned (errV ae 2) ∧ Turn base w w' ∧ ∃ A', A' ⟨#[47]⟩ = A ⟨#[47]⟩ ∧ Rep w' base (N + 1) es A' := by
 obtain ⟨W0, hW0⟩ : ∃ W0, W0 = ((w.alloc (.cells #[.int .i64 k, .string p, .string t, .string x] 102)).alloc (.cells #[.bool true, .string ⟨#[]⟩, .map (some (A ⟨#[47]⟩))] 38)).alloc (.cells #[.nilIface] 42) := ⟨_, rfl⟩
 have hBw : Below w.heap.size w W0 := hW0 ▸ (((Below.refl _ w).alloc (Nat.le_refl _) _).alloc (by simp) _).alloc (by simp; omega) _; have hs0 : W0.heap.size = w.heap.size + 3 := by rw [hW0]; simp
 have HX : Hid (DoBox W0 w.heap.size A k p t x) := by
  obtain ⟨y0, y1, y2, y3⟩ := box4i (w := w) (a := .int .i64 k) (b := .string p) (c := .string t) (d := .string x) (T := 102) (w' := W0) (by rw [hW0]; exact ((Below.refl _ _).alloc (Nat.le_refl _) _).alloc (by simp) _); obtain ⟨y4, y5, y6⟩ := box3n (w := w.alloc (.cells #[.int .i64 k, .string p, .string t, .string x] 102)) (a := .bool true) (b := .string ⟨#[]⟩) (c := .map (some (A ⟨#[47]⟩))) (T := 38) (w' := W0) (by rw [hW0]; exact (Below.refl _ _).alloc (Nat.le_refl _) _); rw [World.size_alloc] at y4 y5 y6; exact ⟨y0, y1, y2, y3, y4, y5, y6⟩
 have hcr : W0.heap[w.heap.size + 2]? = some (.cells #[.nilIface] 42 (0, 0)) := by
  have := World.alloc_heap_new ((w.alloc (.cells #[.int .i64 k, .string p, .string t, .string x] 102)).alloc (.cells #[.bool true, .string ⟨#[]⟩, .map (some (A ⟨#[47]⟩))] 38)) (.cells #[.nilIface] 42); rw [hW0]; simpa using this
 have AX : Hid (∀ W', Below W0.heap.size W0 W' → DoBox W' w.heap.size A k p t x) := fun W' hW => HX.out.below hW; have AC : Hid (∀ W', Below W0.heap.size W0 W' → Boxed W' (w.heap.size + 2) 42 .nilIface) := fun W' hW => (hW.block _ (Array.getElem?_eq_some_iff.1 hcr).1).trans hcr; have AR : Hid (∀ W', Below W0.heap.size W0 W' → Rep W' base N es A) := fun W' hW => (R.below hBw).below hW; have AE : Hid (∀ W', Below W0.heap.size W0 W' → Errs8 W' ae) := fun W' hW => (hE.below hBw).below hW; have HAt := hid (fun (W : World) (hW : Rep W base N es A) => at_any W base N es A T hW p (by omega)); have HTu : Hid (∀ W' v, Below W0.heap.size W0 W' → Turn base w (W'.setCell ⟨w.heap.size + 2, 0, none⟩ v)) := fun W' v hW => Turn.of_below ((hBw.trans (hW.mono hBw.size)).setCell (p := ⟨w.heap.size + 2, 0, none⟩) (by show _ ≤ w.heap.size + 2; omega) v) hb; have HRk : Hid (∀ W' v, Below W0.heap.size W0 W' → ∃ A', A' ⟨#[47]⟩ = A ⟨#[47]⟩ ∧ Rep (W'.setCell ⟨w.heap.size + 2, 0, none⟩ v) base (N + 1) es A') := fun W' v hW => ⟨A, rfl, (R.below ((hBw.trans (hW.mono hBw.size)).setCell (p := ⟨w.heap.size + 2, 0, none⟩) (by show _ ≤ w.heap.size + 2; omega) v)).more⟩; clear hcr; rw [atE_none hpb hl] at HAt; rw [errV_no (by decide)]; go_enter Tryz.func140, Tryz.ntmps140
 go_wp2_with (go_at_call 51; rw [← hW0]; refine (HAt.out _ (AR.out _ (Below.refl _ _))).mono ?_; rintro e w5 ⟨rfl, hB5⟩; have n2 := (AE.out _ hB5).two.noneC; have n2' := fun o => cellOn o n2; have hc5 := (AC.out _ (belowA hB5 (.cells #[.bool false, .string ⟨#[]⟩, .map none] 36))).cell; have hf5 := (AC.out _ (belowA hB5 (.cells #[.bool false, .string ⟨#[]⟩, .map none] 36))).frozen)
 have hset := (AC.out _ (belowA hB5 (.cells #[.bool false, .string ⟨#[]⟩, .map none] 36))).set (.iface 168 (.pointer (some (ae 2)))); have hcc := hset.cell; exact bodyPost_ret (v := .iface 168 (.pointer (some (ae 2)))) (by simp [results, Tryz.results140, go_sem, hcc]) rfl ⟨rfl, HTu.out _ _ (belowA hB5 _), HRk.out _ _ (belowA hB5 _)⟩
set_option maxHeartbeats 4000000 in
set_option maxRecDepth 100000 in
theorem move_up (w : World) (base N : Nat) (es : List E) (A : ByteArray → Nat) (ae : Int → Addr) (T : TrE es) (R : Rep w base N es A)
  (hE : Errs8 w ae) (k : Int) (p t x : ByteArray) (hpb : pathB p = true)
  (hp : p.size ≤ 16777216) (ht : t.size ≤ 16777216) (e0 : E) (hl : lookE es p = some e0) (hc0 : dirC es (upS t) ≠ 0) (hb : base ≤ w.heap.size) :
  Calls Tryz.prog 140 #[opV k p t x, treeV A] w fun r w' => r = .returned (errV ae (dirC es (upS t))) ∧ Turn base w w' ∧ ∃ A', A' ⟨#[47]⟩ = A ⟨#[47]⟩ ∧ Rep w' base (N + 1) es A' := by
 obtain ⟨W0, hW0⟩ : ∃ W0, W0 = ((w.alloc (.cells #[.int .i64 k, .string p, .string t, .string x] 102)).alloc (.cells #[.bool true, .string ⟨#[]⟩, .map (some (A ⟨#[47]⟩))] 38)).alloc (.cells #[.nilIface] 42) := ⟨_, rfl⟩
 have hBw : Below w.heap.size w W0 := hW0 ▸ (((Below.refl _ w).alloc (Nat.le_refl _) _).alloc (by simp) _).alloc (by simp; omega) _; have hs0 : W0.heap.size = w.heap.size + 3 := by rw [hW0]; simp
 have HX : Hid (DoBox W0 w.heap.size A k p t x) := by
  obtain ⟨y0, y1, y2, y3⟩ := box4i (w := w) (a := .int .i64 k) (b := .string p) (c := .string t) (d := .string x) (T := 102) (w' := W0) (by rw [hW0]; exact ((Below.refl _ _).alloc (Nat.le_refl _) _).alloc (by simp) _); obtain ⟨y4, y5, y6⟩ := box3n (w := w.alloc (.cells #[.int .i64 k, .string p, .string t, .string x] 102)) (a := .bool true) (b := .string ⟨#[]⟩) (c := .map (some (A ⟨#[47]⟩))) (T := 38) (w' := W0) (by rw [hW0]; exact (Below.refl _ _).alloc (Nat.le_refl _) _); rw [World.size_alloc] at y4 y5 y6; exact ⟨y0, y1, y2, y3, y4, y5, y6⟩
 have hcr : W0.heap[w.heap.size + 2]? = some (.cells #[.nilIface] 42 (0, 0)) := by
  have := World.alloc_heap_new ((w.alloc (.cells #[.int .i64 k, .string p, .string t, .string x] 102)).alloc (.cells #[.bool true, .string ⟨#[]⟩, .map (some (A ⟨#[47]⟩))] 38)) (.cells #[.nilIface] 42); rw [hW0]; simpa using this
 have AX : Hid (∀ W', Below W0.heap.size W0 W' → DoBox W' w.heap.size A k p t x) := fun W' hW => HX.out.below hW; have AC : Hid (∀ W', Below W0.heap.size W0 W' → Boxed W' (w.heap.size + 2) 42 .nilIface) := fun W' hW => (hW.block _ (Array.getElem?_eq_some_iff.1 hcr).1).trans hcr; have AR : Hid (∀ W', Below W0.heap.size W0 W' → Rep W' base N es A) := fun W' hW => (R.below hBw).below hW; have AE : Hid (∀ W', Below W0.heap.size W0 W' → Errs8 W' ae) := fun W' hW => (hE.below hBw).below hW; have HAt := hid (fun (W : World) (hW : Rep W base N es A) => at_any W base N es A T hW p (by omega)); have HTu : Hid (∀ W' v, Below W0.heap.size W0 W' → Turn base w (W'.setCell ⟨w.heap.size + 2, 0, none⟩ v)) := fun W' v hW => Turn.of_below ((hBw.trans (hW.mono hBw.size)).setCell (p := ⟨w.heap.size + 2, 0, none⟩) (by show _ ≤ w.heap.size + 2; omega) v) hb; have HRk : Hid (∀ W' v, Below W0.heap.size W0 W' → ∃ A', A' ⟨#[47]⟩ = A ⟨#[47]⟩ ∧ Rep (W'.setCell ⟨w.heap.size + 2, 0, none⟩ v) base (N + 1) es A') := fun W' v hW => ⟨A, rfl, (R.below ((hBw.trans (hW.mono hBw.size)).setCell (p := ⟨w.heap.size + 2, 0, none⟩) (by show _ ≤ w.heap.size + 2; omega) v)).more⟩; clear hcr; rw [atE_some hpb hl] at HAt; have hdv : dirV es A (upS t) = zeroN := by unfold dirV; rw [if_neg hc0]
 have HU := hid (fun W => iPathUp_any t ht W); have hus : (upS t).size ≤ 4611686018427387904 := by have := upS_size t; omega
 have HDi := hid (fun (W : World) (hW : Rep W base N es A) (hE : Errs2 W ae) => dirAt_any W base N es A ae T hW hE (upS t) hus); rw [errV_no hc0]; rw [hdv, errV_no hc0] at HDi; clear hE R; go_enter Tryz.func140, Tryz.ntmps140
 go_wp2_with (first | (go_at_call 51; rw [← hW0]; refine (HAt.out _ (AR.out _ (Below.refl _ _))).mono ?_; rintro e w5 ⟨rfl, hB5⟩) | fail)
 obtain ⟨W1, hW1⟩ : ∃ W1, W1 = w5.alloc (.cells #[.bool e0.d, .string e0.x, .map (optV e0.d (A p))] 36) := ⟨_, rfl⟩
 have hB1 : Below W0.heap.size W0 W1 := by rw [hW1]; exact belowA hB5 _
 rw [← hW1]; clear hW0 hW1 hs0
 have AS : Hid (∀ W', Below W1.heap.size W1 W' → (W'.cell? ⟨w.heap.size, 2, none⟩ = some (.string t) ∧ W'.cell? ⟨w.heap.size + 1, 0, none⟩ = some (.bool true) ∧ W'.cell? ⟨w.heap.size + 1, 1, none⟩ = some (.string ⟨#[]⟩) ∧ W'.cell? ⟨w.heap.size + 1, 2, none⟩ = some (.map (some (A ⟨#[47]⟩))))) := fun W' hW => by
  have := AX.out _ (belowT hB1 hW); exact ⟨this.o2, this.t0, this.t1, this.t2⟩
 have AR1 : Hid (∀ W', Below W1.heap.size W1 W' → Rep W' base N es A) := fun W' hW => AR.out _ (belowT hB1 hW); have AE1 : Hid (∀ W', Below W1.heap.size W1 W' → Errs8 W' ae) := fun W' hW => AE.out _ (belowT hB1 hW)
 rename_i Qx Kx hKx
 have HK : Hid (∀ (b : Nat) (W : World), Below W1.heap.size W1 W → Kx { tmps := #[opV k p t x, treeV A, .pointer (some ⟨w.heap.size, 0, none⟩), .pointer (some ⟨w.heap.size + 1, 0, none⟩), .pointer (some ⟨w.heap.size + 2, 0, none⟩), .pointer (some ⟨w5.heap.size, 0, none⟩), .bool true, .pointer (some ⟨b, 0, none⟩), .iface 168 (.pointer (some (ae (dirC es (upS t))))), undef, undef, undef, .tuple #[.agg #[.bool e0.d, .string e0.x, .map (optV e0.d (A p))], .bool true], treeV A, .pointer (some ⟨w.heap.size, 1, none⟩), .string p, .tuple #[.agg #[.bool e0.d, .string e0.x, .map (optV e0.d (A p))], .bool true], .agg #[.bool e0.d, .string e0.x, .map (optV e0.d (A p))], .bool true, .bool true, .bool false, undef, .tuple #[zeroN, .iface 168 (.pointer (some (ae (dirC es (upS t)))))], treeV A, .pointer (some ⟨w.heap.size, 2, none⟩), .string t, .string (upS t), .tuple #[zeroN, .iface 168 (.pointer (some (ae (dirC es (upS t)))))], zeroN, .iface 168 (.pointer (some (ae (dirC es (upS t))))), undef, undef, undef, undef, undef, undef, undef, undef, undef, undef, undef, undef, undef, undef, undef, undef, undef, undef, undef, undef, undef, undef, undef, undef, undef, undef, undef, undef, undef, undef, undef, undef, undef, undef, undef, undef, undef, undef], defers := [] } W) := by
  intro b W hBW; refine hKx _ _ ?_; have hc5 := (AC.out _ (belowT hB1 hBW)).cell; have hf5 := (AC.out _ (belowT hB1 hBW)).frozen; go_wp2
  have hset := (AC.out _ (belowT hB1 hBW)).set (.iface 168 (.pointer (some (ae (dirC es (upS t)))))); have hcc := hset.cell; exact bodyPost_ret (v := .iface 168 (.pointer (some (ae (dirC es (upS t)))))) (by simp [results, Tryz.results140, go_sem, hcc]) rfl ⟨rfl, HTu.out _ _ (belowT hB1 hBW), HRk.out _ _ (belowT hB1 hBW)⟩
 clear hKx
 go_region_held3 (fun W' => W'.cell? ⟨w.heap.size, 2, none⟩ = some (.string t) ∧ W'.cell? ⟨w.heap.size + 1, 0, none⟩ = some (.bool true) ∧ W'.cell? ⟨w.heap.size + 1, 1, none⟩ = some (.string ⟨#[]⟩) ∧ W'.cell? ⟨w.heap.size + 1, 2, none⟩ = some (.map (some (A ⟨#[47]⟩))))
  ((refine AS.out _ ?_; repeat (first | exact Below.refl _ _ | apply belowA | refine belowT ?_ hB4 | refine belowT ?_ hB3 | apply Below.drew | refine set3_below ?_ (by first | exact Nat.le_refl _ | (have h3 := hB3.size; have h4 := hB4.size; simp at h3 h4 ⊢; omega)) _ _ _)))
  (first | (go_at_call 45; refine (HU.out _).mono ?_; rintro e w3 ⟨rfl, hB3⟩; obtain ⟨bc3, bf3⟩ := bcellN hB3; have l3 := hB3.size; (try simp at l3); (try (have z0 := bc3 W1.heap.size 0 (lt_allocD _ _); have z1 := bc3 W1.heap.size 1 (lt_allocD _ _); have z2 := bc3 W1.heap.size 2 (lt_allocD _ _); have z3 := bf3 W1.heap.size 0 (lt_allocD _ _); have z4 := bf3 W1.heap.size 1 (lt_allocD _ _); have z5 := bf3 W1.heap.size 2 (lt_allocD _ _); simp at z0 z1 z2 z3 z4 z5)); clear bc3 bf3) | (go_at_call 44; refine (HDi.out _ (AR1.out _ (by repeat (first | exact Below.refl _ _ | apply belowA | refine belowT ?_ hB3 | apply Below.drew))) (AE1.out _ (by repeat (first | exact Below.refl _ _ | apply belowA | refine belowT ?_ hB3 | apply Below.drew))).two).mono ?_; rintro e w4 ⟨rfl, hB4⟩; obtain ⟨bc4, bf4⟩ := bcellN hB4; have l4 := hB4.size; (try simp at l4); (try (have z0 := bc4 w3.heap.size 0 (lt_alloc _ _); have z1 := bc4 w3.heap.size 1 (lt_alloc _ _); have z2 := bc4 w3.heap.size 2 (lt_alloc _ _); have z3 := bf4 w3.heap.size 0 (lt_alloc _ _); have z4 := bf4 w3.heap.size 1 (lt_alloc _ _); have z5 := bf4 w3.heap.size 2 (lt_alloc _ _); simp at z0 z1 z2 z3 z4 z5)); (try (have v0 := (bc4 W1.heap.size 0 l3).trans z0; have v1 := (bc4 W1.heap.size 1 l3).trans z1; have v2 := (bc4 W1.heap.size 2 l3).trans z2; have v3 := (bf4 W1.heap.size 0 l3).trans z3; have v4 := (bf4 W1.heap.size 1 l3).trans z4; have v5 := (bf4 W1.heap.size 2 l3).trans z5)); clear bc4 bf4))
 all_goals exact HK.out _ _ (by repeat (first | exact Below.refl _ _ | apply belowA | refine belowT ?_ hB4 | refine belowT ?_ hB3 | apply Below.drew | refine set3_below ?_ (by first | exact Nat.le_refl _ | (have h3 := hB3.size; have h4 := hB4.size; simp at h3 h4 ⊢; omega)) _ _ _))
end Go.Proofs.YtafeddiijemnbaaGreatDoor
namespace Go.Proofs.YtafeddiijemnbaaGreatDoor
open Go.RowKit Go.Shelf Go.Lib
attribute [local go_sem] Oper.semAt_some
set_option maxHeartbeats 4000000 in
set_option maxRecDepth 100000 in
theorem move_there (w : World) (base N : Nat) (es : List E) (A : ByteArray → Nat) (ae : Int → Addr) (T : TrE es) (R : Rep w base N es A)
  (hE : Errs8 w ae) (k : Int) (p t x : ByteArray) (hpb : pathB p = true)
  (hp : p.size ≤ 16777216) (ht : t.size ≤ 16777216) (e0 : E) (hl : lookE es p = some e0) (htb : pathB t = true) (hdir : dirE es (upS t) = true) (f : E) (hlt : lookE es t = some f) (hb : base ≤ w.heap.size) :
  Calls Tryz.prog 140 #[opV k p t x, treeV A] w fun r w' => r = .returned (errV ae 4) ∧ Turn base w w' ∧ ∃ A', A' ⟨#[47]⟩ = A ⟨#[47]⟩ ∧ Rep w' base (N + 1) es A' := by
 obtain ⟨W0, hW0⟩ : ∃ W0, W0 = ((w.alloc (.cells #[.int .i64 k, .string p, .string t, .string x] 102)).alloc (.cells #[.bool true, .string ⟨#[]⟩, .map (some (A ⟨#[47]⟩))] 38)).alloc (.cells #[.nilIface] 42) := ⟨_, rfl⟩
 have hBw : Below w.heap.size w W0 := hW0 ▸ (((Below.refl _ w).alloc (Nat.le_refl _) _).alloc (by simp) _).alloc (by simp; omega) _; have hs0 : W0.heap.size = w.heap.size + 3 := by rw [hW0]; simp
 have HX : Hid (DoBox W0 w.heap.size A k p t x) := by
  obtain ⟨y0, y1, y2, y3⟩ := box4i (w := w) (a := .int .i64 k) (b := .string p) (c := .string t) (d := .string x) (T := 102) (w' := W0) (by rw [hW0]; exact ((Below.refl _ _).alloc (Nat.le_refl _) _).alloc (by simp) _); obtain ⟨y4, y5, y6⟩ := box3n (w := w.alloc (.cells #[.int .i64 k, .string p, .string t, .string x] 102)) (a := .bool true) (b := .string ⟨#[]⟩) (c := .map (some (A ⟨#[47]⟩))) (T := 38) (w' := W0) (by rw [hW0]; exact (Below.refl _ _).alloc (Nat.le_refl _) _); rw [World.size_alloc] at y4 y5 y6; exact ⟨y0, y1, y2, y3, y4, y5, y6⟩
 have hcr : W0.heap[w.heap.size + 2]? = some (.cells #[.nilIface] 42 (0, 0)) := by
  have := World.alloc_heap_new ((w.alloc (.cells #[.int .i64 k, .string p, .string t, .string x] 102)).alloc (.cells #[.bool true, .string ⟨#[]⟩, .map (some (A ⟨#[47]⟩))] 38)) (.cells #[.nilIface] 42); rw [hW0]; simpa using this
 have AX : Hid (∀ W', Below W0.heap.size W0 W' → DoBox W' w.heap.size A k p t x) := fun W' hW => HX.out.below hW; have AC : Hid (∀ W', Below W0.heap.size W0 W' → Boxed W' (w.heap.size + 2) 42 .nilIface) := fun W' hW => (hW.block _ (Array.getElem?_eq_some_iff.1 hcr).1).trans hcr; have AR : Hid (∀ W', Below W0.heap.size W0 W' → Rep W' base N es A) := fun W' hW => (R.below hBw).below hW; have AE : Hid (∀ W', Below W0.heap.size W0 W' → Errs8 W' ae) := fun W' hW => (hE.below hBw).below hW; have HAt := hid (fun (W : World) (hW : Rep W base N es A) => at_any W base N es A T hW p (by omega)); have HTu : Hid (∀ W' v, Below W0.heap.size W0 W' → Turn base w (W'.setCell ⟨w.heap.size + 2, 0, none⟩ v)) := fun W' v hW => Turn.of_below ((hBw.trans (hW.mono hBw.size)).setCell (p := ⟨w.heap.size + 2, 0, none⟩) (by show _ ≤ w.heap.size + 2; omega) v) hb; have HRk : Hid (∀ W' v, Below W0.heap.size W0 W' → ∃ A', A' ⟨#[47]⟩ = A ⟨#[47]⟩ ∧ Rep (W'.setCell ⟨w.heap.size + 2, 0, none⟩ v) base (N + 1) es A') := fun W' v hW => ⟨A, rfl, (R.below ((hBw.trans (hW.mono hBw.size)).setCell (p := ⟨w.heap.size + 2, 0, none⟩) (by show _ ≤ w.heap.size + 2; omega) v)).more⟩; clear hcr; rw [atE_some hpb hl] at HAt; obtain ⟨xx, hxx⟩ := atE_dir (A := A) hdir; have hdv : dirV es A (upS t) = .agg #[.bool true, .string xx, .map (some (A (upS t)))] := by unfold dirV; rw [dirC_dir hdir, if_pos rfl, hxx]
 have hev : errV ae (dirC es (upS t)) = .nilIface := by rw [dirC_dir hdir]; rfl
 have HU := hid (fun W => iPathUp_any t ht W); have hus : (upS t).size ≤ 4611686018427387904 := by have := upS_size t; omega
 have HDi := hid (fun (W : World) (hW : Rep W base N es A) (hE : Errs2 W ae) => dirAt_any W base N es A ae T hW hE (upS t) hus); have HAt2 := hid (fun (W : World) (hW : Rep W base N es A) => at_any W base N es A T hW t (by omega)); rw [hdv, hev] at HDi; have HR0 := hid R; clear hE R; rw [atE_some htb hlt] at HAt2; rw [errV_no (by decide)]; refine (callsIn_wide (n := 6)).1 ?_; refine callsIn_of_wp_marks Tryz.func140 rfl trivial ?_ rfl; simp only [Tryz.ntmps140, List.size_toArray, List.length_cons, List.length_nil, Nat.reduceAdd, Nat.reduceSub, Array.replicate_succ, Array.replicate_zero, List.push_toArray, List.append_toArray, List.nil_append, List.cons_append]; refine wpIn_wide.2 ?_; go_wp2_with (first | (go_at_call 51; rw [← hW0]; refine (HAt.out _ (AR.out _ (Below.refl _ _))).mono ?_; rintro e w5 ⟨rfl, hB5⟩) | fail)
 obtain ⟨W1, hW1⟩ : ∃ W1, W1 = w5.alloc (.cells #[.bool e0.d, .string e0.x, .map (optV e0.d (A p))] 36) := ⟨_, rfl⟩
 have hB1 : Below W0.heap.size W0 W1 := by rw [hW1]; exact belowA hB5 _
 have c50 : W1.cell? ⟨w5.heap.size, 0, none⟩ = some (.bool e0.d) := by rw [hW1]; simp
 have c51 : W1.cell? ⟨w5.heap.size, 1, none⟩ = some (.string e0.x) := by rw [hW1]; simp
 have c52 : W1.cell? ⟨w5.heap.size, 2, none⟩ = some (.map (optV e0.d (A p))) := by rw [hW1]; simp
 rw [← hW1]; clear hW0 hW1 HAt; have hsz1 := hB1.size; have hs2 : w.heap.size + 2 < W1.heap.size := by omega
 clear hs0 hsz1
 have AS : Hid (∀ W', Below W1.heap.size W1 W' → (W'.cell? ⟨w.heap.size, 2, none⟩ = some (.string t) ∧ W'.cell? ⟨w.heap.size + 1, 0, none⟩ = some (.bool true) ∧ W'.cell? ⟨w.heap.size + 1, 1, none⟩ = some (.string ⟨#[]⟩) ∧ W'.cell? ⟨w.heap.size + 1, 2, none⟩ = some (.map (some (A ⟨#[47]⟩))))) := fun W' hW => by
  have := AX.out _ (belowT hB1 hW); exact ⟨this.o2, this.t0, this.t1, this.t2⟩
 have AR1 : Hid (∀ W', Below W1.heap.size W1 W' → Rep W' base N es A) := fun W' hW => AR.out _ (belowT hB1 hW); have AE1 : Hid (∀ W', Below W1.heap.size W1 W' → Errs8 W' ae) := fun W' hW => AE.out _ (belowT hB1 hW); have AN : Hid (∀ W', Below W1.heap.size W1 W' → W'.cell? ⟨w5.heap.size, 0, none⟩ = some (.bool e0.d) ∧ W'.cell? ⟨w5.heap.size, 1, none⟩ = some (.string e0.x) ∧ W'.cell? ⟨w5.heap.size, 2, none⟩ = some (.map (optV e0.d (A p)))) := fun W' hW => ⟨below_cell hW c50, below_cell hW c51, below_cell hW c52⟩; clear c50 c51 c52
 rename_i Qx Kx hKx
 have HK : Hid (∀ (b : Nat) (W : World), Below W1.heap.size W1 W → W.cell? ⟨b, 2, none⟩ = some (.map (some (A (upS t)))) → Kx { tmps := #[opV k p t x, treeV A, .pointer (some ⟨w.heap.size, 0, none⟩), .pointer (some ⟨w.heap.size + 1, 0, none⟩), .pointer (some ⟨w.heap.size + 2, 0, none⟩), .pointer (some ⟨w5.heap.size, 0, none⟩), .bool true, .pointer (some ⟨b, 0, none⟩), .nilIface, undef, undef, undef, .tuple #[.agg #[.bool e0.d, .string e0.x, .map (optV e0.d (A p))], .bool true], treeV A, .pointer (some ⟨w.heap.size, 1, none⟩), .string p, .tuple #[.agg #[.bool e0.d, .string e0.x, .map (optV e0.d (A p))], .bool true], .agg #[.bool e0.d, .string e0.x, .map (optV e0.d (A p))], .bool true, .bool true, .bool false, undef, .tuple #[.agg #[.bool true, .string xx, .map (some (A (upS t)))], .nilIface], treeV A, .pointer (some ⟨w.heap.size, 2, none⟩), .string t, .string (upS t), .tuple #[.agg #[.bool true, .string xx, .map (some (A (upS t)))], .nilIface], .agg #[.bool true, .string xx, .map (some (A (upS t)))], .nilIface, undef, undef, undef, undef, undef, undef, undef, undef, undef, undef, undef, undef, undef, undef, undef, undef, undef, undef, undef, undef, undef, undef, undef, undef, undef, undef, undef, undef, undef, undef, undef, undef, undef, undef, undef, undef, undef, undef], defers := [] } W) := by
  intro b W hBW hb2; refine hKx _ _ ?_; have hBW0 := belowT hB1 hBW; obtain ⟨y0, y1, y2, y3, y4, y5, y6⟩ := AX.out _ hBW0; go_wp2_with (go_at_call 51; refine (HAt2.out _ (AR.out _ hBW0)).mono ?_; rintro e w6 ⟨rfl, hB6⟩; have hBW6 := belowT hBW0 hB6; obtain ⟨q0, q1, q2, q3, q4, q5, q6⟩ := AX.out _ hBW6; have u0 := fun o => cellOn o q1; have u1 := fun o => cellOn o q2; have n4 := (AE.out _ hBW6).there; have n4' := fun o => cellOn o n4; have hc6 := fun o => (AC.out _ (belowA hBW6 o)).cell; have hf6 := fun o => (AC.out _ (belowA hBW6 o)).frozen)
  have hset := (AC.out _ (belowA hBW6 (.cells #[.bool f.d, .string f.x, .map (optV f.d (A t))] 36))).set (.iface 168 (.pointer (some (ae 4)))); have hcc := hset.cell; refine ⟨.iface 168 (.pointer (some (ae 4))), ?_, rfl, HTu.out _ _ (belowA hBW6 (.cells #[.bool f.d, .string f.x, .map (optV f.d (A t))] 36)), HRk.out _ _ (belowA hBW6 (.cells #[.bool f.d, .string f.x, .map (optV f.d (A t))] 36))⟩; simp [results, Tryz.results140, go_sem, hcc]
 clear hKx
 go_region_held3 (fun W' => W'.cell? ⟨w.heap.size, 2, none⟩ = some (.string t) ∧ W'.cell? ⟨w.heap.size + 1, 0, none⟩ = some (.bool true) ∧ W'.cell? ⟨w.heap.size + 1, 1, none⟩ = some (.string ⟨#[]⟩) ∧ W'.cell? ⟨w.heap.size + 1, 2, none⟩ = some (.map (some (A ⟨#[47]⟩))))
  ((refine AS.out _ ?_; repeat (first | exact Below.refl _ _ | apply belowA | refine belowT ?_ hB4 | refine belowT ?_ hB3 | apply Below.drew | refine set3_below ?_ (by first | exact Nat.le_refl _ | (have h3 := hB3.size; have h4 := hB4.size; simp at h3 h4 ⊢; omega)) _ _ _)))
  (first | (go_at_call 45; refine (HU.out _).mono ?_; rintro e w3 ⟨rfl, hB3⟩; obtain ⟨bc3, bf3⟩ := bcellN hB3; have l3 := hB3.size; (try simp at l3); (try (have z0 := bc3 W1.heap.size 0 (lt_allocD _ _); have z1 := bc3 W1.heap.size 1 (lt_allocD _ _); have z2 := bc3 W1.heap.size 2 (lt_allocD _ _); have z3 := bf3 W1.heap.size 0 (lt_allocD _ _); have z4 := bf3 W1.heap.size 1 (lt_allocD _ _); have z5 := bf3 W1.heap.size 2 (lt_allocD _ _); simp at z0 z1 z2 z3 z4 z5)); clear bc3 bf3) | (go_at_call 44; refine (HDi.out _ (AR1.out _ (by repeat (first | exact Below.refl _ _ | apply belowA | refine belowT ?_ hB3 | apply Below.drew))) (AE1.out _ (by repeat (first | exact Below.refl _ _ | apply belowA | refine belowT ?_ hB3 | apply Below.drew))).two).mono ?_; rintro e w4 ⟨rfl, hB4⟩; obtain ⟨bc4, bf4⟩ := bcellN hB4; have l4 := hB4.size; (try simp at l4); (try (have z0 := bc4 w3.heap.size 0 (lt_alloc _ _); have z1 := bc4 w3.heap.size 1 (lt_alloc _ _); have z2 := bc4 w3.heap.size 2 (lt_alloc _ _); have z3 := bf4 w3.heap.size 0 (lt_alloc _ _); have z4 := bf4 w3.heap.size 1 (lt_alloc _ _); have z5 := bf4 w3.heap.size 2 (lt_alloc _ _); simp at z0 z1 z2 z3 z4 z5)); (try (have v0 := (bc4 W1.heap.size 0 l3).trans z0; have v1 := (bc4 W1.heap.size 1 l3).trans z1; have v2 := (bc4 W1.heap.size 2 l3).trans z2; have v3 := (bf4 W1.heap.size 0 l3).trans z3; have v4 := (bf4 W1.heap.size 1 l3).trans z4; have v5 := (bf4 W1.heap.size 2 l3).trans z5)); clear bc4 bf4))
 all_goals refine HK.out _ _ (by repeat (first | exact Below.refl _ _ | apply belowA | refine belowT ?_ hB4 | refine belowT ?_ hB3 | apply Below.drew | refine set3_below ?_ (by first | exact Nat.le_refl _ | (have h3 := hB3.size; have h4 := hB4.size; simp at h3 h4 ⊢; omega)) _ _ _)) ?_
 all_goals first | exact (set3_cells v0 v1 v2 _ _ _).2.2 | exact (set3_cells z0 z1 z2 _ _ _).2.2 | simp
set_option maxHeartbeats 4000000 in
set_option maxRecDepth 100000 in
theorem move_under (w : World) (base N : Nat) (es : List E) (A : ByteArray → Nat) (ae : Int → Addr) (T : TrE es) (R : Rep w base N es A)
  (hE : Errs8 w ae) (k : Int) (p t x : ByteArray) (hpb : pathB p = true)
  (hp : p.size ≤ 16777216) (ht : t.size ≤ 16777216) (e0 : E) (hl : lookE es p = some e0) (htb : pathB t = true) (hdir : dirE es (upS t) = true) (hlt : lookE es t = none) (hun : underI t p = true) (hb : base ≤ w.heap.size) :
  Calls Tryz.prog 140 #[opV k p t x, treeV A] w fun r w' => r = .returned (errV ae 7) ∧ Turn base w w' ∧ ∃ A', A' ⟨#[47]⟩ = A ⟨#[47]⟩ ∧ Rep w' base (N + 1) es A' := by
 obtain ⟨W0, hW0⟩ : ∃ W0, W0 = ((w.alloc (.cells #[.int .i64 k, .string p, .string t, .string x] 102)).alloc (.cells #[.bool true, .string ⟨#[]⟩, .map (some (A ⟨#[47]⟩))] 38)).alloc (.cells #[.nilIface] 42) := ⟨_, rfl⟩
 have hBw : Below w.heap.size w W0 := hW0 ▸ (((Below.refl _ w).alloc (Nat.le_refl _) _).alloc (by simp) _).alloc (by simp; omega) _; have hs0 : W0.heap.size = w.heap.size + 3 := by rw [hW0]; simp
 have HX : Hid (DoBox W0 w.heap.size A k p t x) := by
  obtain ⟨y0, y1, y2, y3⟩ := box4i (w := w) (a := .int .i64 k) (b := .string p) (c := .string t) (d := .string x) (T := 102) (w' := W0) (by rw [hW0]; exact ((Below.refl _ _).alloc (Nat.le_refl _) _).alloc (by simp) _); obtain ⟨y4, y5, y6⟩ := box3n (w := w.alloc (.cells #[.int .i64 k, .string p, .string t, .string x] 102)) (a := .bool true) (b := .string ⟨#[]⟩) (c := .map (some (A ⟨#[47]⟩))) (T := 38) (w' := W0) (by rw [hW0]; exact (Below.refl _ _).alloc (Nat.le_refl _) _); rw [World.size_alloc] at y4 y5 y6; exact ⟨y0, y1, y2, y3, y4, y5, y6⟩
 have hcr : W0.heap[w.heap.size + 2]? = some (.cells #[.nilIface] 42 (0, 0)) := by
  have := World.alloc_heap_new ((w.alloc (.cells #[.int .i64 k, .string p, .string t, .string x] 102)).alloc (.cells #[.bool true, .string ⟨#[]⟩, .map (some (A ⟨#[47]⟩))] 38)) (.cells #[.nilIface] 42); rw [hW0]; simpa using this
 have AX : Hid (∀ W', Below W0.heap.size W0 W' → DoBox W' w.heap.size A k p t x) := fun W' hW => HX.out.below hW; have AC : Hid (∀ W', Below W0.heap.size W0 W' → Boxed W' (w.heap.size + 2) 42 .nilIface) := fun W' hW => (hW.block _ (Array.getElem?_eq_some_iff.1 hcr).1).trans hcr; have AR : Hid (∀ W', Below W0.heap.size W0 W' → Rep W' base N es A) := fun W' hW => (R.below hBw).below hW; have AE : Hid (∀ W', Below W0.heap.size W0 W' → Errs8 W' ae) := fun W' hW => (hE.below hBw).below hW; have HAt := hid (fun (W : World) (hW : Rep W base N es A) => at_any W base N es A T hW p (by omega)); have HTu : Hid (∀ W' v, Below W0.heap.size W0 W' → Turn base w (W'.setCell ⟨w.heap.size + 2, 0, none⟩ v)) := fun W' v hW => Turn.of_below ((hBw.trans (hW.mono hBw.size)).setCell (p := ⟨w.heap.size + 2, 0, none⟩) (by show _ ≤ w.heap.size + 2; omega) v) hb; have HRk : Hid (∀ W' v, Below W0.heap.size W0 W' → ∃ A', A' ⟨#[47]⟩ = A ⟨#[47]⟩ ∧ Rep (W'.setCell ⟨w.heap.size + 2, 0, none⟩ v) base (N + 1) es A') := fun W' v hW => ⟨A, rfl, (R.below ((hBw.trans (hW.mono hBw.size)).setCell (p := ⟨w.heap.size + 2, 0, none⟩) (by show _ ≤ w.heap.size + 2; omega) v)).more⟩; clear hcr; rw [atE_some hpb hl] at HAt; obtain ⟨xx, hxx⟩ := atE_dir (A := A) hdir; have hdv : dirV es A (upS t) = .agg #[.bool true, .string xx, .map (some (A (upS t)))] := by unfold dirV; rw [dirC_dir hdir, if_pos rfl, hxx]
 have hev : errV ae (dirC es (upS t)) = .nilIface := by rw [dirC_dir hdir]; rfl
 have HU := hid (fun W => iPathUp_any t ht W); have hus : (upS t).size ≤ 4611686018427387904 := by have := upS_size t; omega
 have HDi := hid (fun (W : World) (hW : Rep W base N es A) (hE : Errs2 W ae) => dirAt_any W base N es A ae T hW hE (upS t) hus); have HAt2 := hid (fun (W : World) (hW : Rep W base N es A) => at_any W base N es A T hW t (by omega)); rw [hdv, hev] at HDi; have HR0 := hid R; clear hE R; rw [atE_none htb hlt] at HAt2; have HUn := hid (fun W => iPathUnder_any t p ht hp W); rw [hun] at HUn; rw [errV_no (by decide)]; refine (callsIn_wide (n := 6)).1 ?_; refine callsIn_of_wp_marks Tryz.func140 rfl trivial ?_ rfl; simp only [Tryz.ntmps140, List.size_toArray, List.length_cons, List.length_nil, Nat.reduceAdd, Nat.reduceSub, Array.replicate_succ, Array.replicate_zero, List.push_toArray, List.append_toArray, List.nil_append, List.cons_append]; refine wpIn_wide.2 ?_; go_wp2_with (first | (go_at_call 51; rw [← hW0]; refine (HAt.out _ (AR.out _ (Below.refl _ _))).mono ?_; rintro e w5 ⟨rfl, hB5⟩) | fail)
 obtain ⟨W1, hW1⟩ : ∃ W1, W1 = w5.alloc (.cells #[.bool e0.d, .string e0.x, .map (optV e0.d (A p))] 36) := ⟨_, rfl⟩
 have hB1 : Below W0.heap.size W0 W1 := by rw [hW1]; exact belowA hB5 _
 have c50 : W1.cell? ⟨w5.heap.size, 0, none⟩ = some (.bool e0.d) := by rw [hW1]; simp
 have c51 : W1.cell? ⟨w5.heap.size, 1, none⟩ = some (.string e0.x) := by rw [hW1]; simp
 have c52 : W1.cell? ⟨w5.heap.size, 2, none⟩ = some (.map (optV e0.d (A p))) := by rw [hW1]; simp
 rw [← hW1]; clear hW0 hW1 HAt; have hsz1 := hB1.size; have hs2 : w.heap.size + 2 < W1.heap.size := by omega
 clear hs0 hsz1
 have AS : Hid (∀ W', Below W1.heap.size W1 W' → (W'.cell? ⟨w.heap.size, 2, none⟩ = some (.string t) ∧ W'.cell? ⟨w.heap.size + 1, 0, none⟩ = some (.bool true) ∧ W'.cell? ⟨w.heap.size + 1, 1, none⟩ = some (.string ⟨#[]⟩) ∧ W'.cell? ⟨w.heap.size + 1, 2, none⟩ = some (.map (some (A ⟨#[47]⟩))))) := fun W' hW => by
  have := AX.out _ (belowT hB1 hW); exact ⟨this.o2, this.t0, this.t1, this.t2⟩
 have AR1 : Hid (∀ W', Below W1.heap.size W1 W' → Rep W' base N es A) := fun W' hW => AR.out _ (belowT hB1 hW); have AE1 : Hid (∀ W', Below W1.heap.size W1 W' → Errs8 W' ae) := fun W' hW => AE.out _ (belowT hB1 hW); have AN : Hid (∀ W', Below W1.heap.size W1 W' → W'.cell? ⟨w5.heap.size, 0, none⟩ = some (.bool e0.d) ∧ W'.cell? ⟨w5.heap.size, 1, none⟩ = some (.string e0.x) ∧ W'.cell? ⟨w5.heap.size, 2, none⟩ = some (.map (optV e0.d (A p)))) := fun W' hW => ⟨below_cell hW c50, below_cell hW c51, below_cell hW c52⟩; clear c50 c51 c52
 rename_i Qx Kx hKx
 have HK : Hid (∀ (b : Nat) (W : World), Below W1.heap.size W1 W → W.cell? ⟨b, 2, none⟩ = some (.map (some (A (upS t)))) → Kx { tmps := #[opV k p t x, treeV A, .pointer (some ⟨w.heap.size, 0, none⟩), .pointer (some ⟨w.heap.size + 1, 0, none⟩), .pointer (some ⟨w.heap.size + 2, 0, none⟩), .pointer (some ⟨w5.heap.size, 0, none⟩), .bool true, .pointer (some ⟨b, 0, none⟩), .nilIface, undef, undef, undef, .tuple #[.agg #[.bool e0.d, .string e0.x, .map (optV e0.d (A p))], .bool true], treeV A, .pointer (some ⟨w.heap.size, 1, none⟩), .string p, .tuple #[.agg #[.bool e0.d, .string e0.x, .map (optV e0.d (A p))], .bool true], .agg #[.bool e0.d, .string e0.x, .map (optV e0.d (A p))], .bool true, .bool true, .bool false, undef, .tuple #[.agg #[.bool true, .string xx, .map (some (A (upS t)))], .nilIface], treeV A, .pointer (some ⟨w.heap.size, 2, none⟩), .string t, .string (upS t), .tuple #[.agg #[.bool true, .string xx, .map (some (A (upS t)))], .nilIface], .agg #[.bool true, .string xx, .map (some (A (upS t)))], .nilIface, undef, undef, undef, undef, undef, undef, undef, undef, undef, undef, undef, undef, undef, undef, undef, undef, undef, undef, undef, undef, undef, undef, undef, undef, undef, undef, undef, undef, undef, undef, undef, undef, undef, undef, undef, undef, undef, undef], defers := [] } W) := by
  intro b W hBW hb2; refine hKx _ _ ?_; have hBW0 := belowT hB1 hBW; obtain ⟨y0, y1, y2, y3, y4, y5, y6⟩ := AX.out _ hBW0; go_wp2_with (first | (go_at_call 51; refine (HAt2.out _ (AR.out _ hBW0)).mono ?_; rintro e w6 ⟨rfl, hB6⟩; have hBW6 := belowT hBW0 hB6; obtain ⟨q0, q1, q2, q3, q4, q5, q6⟩ := AX.out _ hBW6; have u0 := fun o => cellOn o q1; have u1 := fun o => cellOn o q2; have n4 := (AE.out _ hBW6).there; have n4' := fun o => cellOn o n4; have hc6 := fun o => (AC.out _ (belowA hBW6 o)).cell; have hf6 := fun o => (AC.out _ (belowA hBW6 o)).frozen) | (go_at_call 142; refine (HUn.out _).mono ?_; rintro e w7 ⟨rfl, hB7⟩; have hBW7 := belowT (belowA hBW6 _) hB7; have n7 := (AE.out _ hBW7).under; have hc7 := (AC.out _ hBW7).cell; have hf7 := (AC.out _ hBW7).frozen; obtain ⟨r0, r1, r2, r3, r4, r5, r6⟩ := AX.out _ hBW7))
  have hset := (AC.out _ (hBW7)).set (.iface 168 (.pointer (some (ae 7)))); have hcc := hset.cell; refine ⟨.iface 168 (.pointer (some (ae 7))), ?_, rfl, HTu.out _ _ (hBW7), HRk.out _ _ (hBW7)⟩; simp [results, Tryz.results140, go_sem, hcc]
 clear hKx
 go_region_held3 (fun W' => W'.cell? ⟨w.heap.size, 2, none⟩ = some (.string t) ∧ W'.cell? ⟨w.heap.size + 1, 0, none⟩ = some (.bool true) ∧ W'.cell? ⟨w.heap.size + 1, 1, none⟩ = some (.string ⟨#[]⟩) ∧ W'.cell? ⟨w.heap.size + 1, 2, none⟩ = some (.map (some (A ⟨#[47]⟩))))
  ((refine AS.out _ ?_; repeat (first | exact Below.refl _ _ | apply belowA | refine belowT ?_ hB4 | refine belowT ?_ hB3 | apply Below.drew | refine set3_below ?_ (by first | exact Nat.le_refl _ | (have h3 := hB3.size; have h4 := hB4.size; simp at h3 h4 ⊢; omega)) _ _ _)))
  (first | (go_at_call 45; refine (HU.out _).mono ?_; rintro e w3 ⟨rfl, hB3⟩; obtain ⟨bc3, bf3⟩ := bcellN hB3; have l3 := hB3.size; (try simp at l3); (try (have z0 := bc3 W1.heap.size 0 (lt_allocD _ _); have z1 := bc3 W1.heap.size 1 (lt_allocD _ _); have z2 := bc3 W1.heap.size 2 (lt_allocD _ _); have z3 := bf3 W1.heap.size 0 (lt_allocD _ _); have z4 := bf3 W1.heap.size 1 (lt_allocD _ _); have z5 := bf3 W1.heap.size 2 (lt_allocD _ _); simp at z0 z1 z2 z3 z4 z5)); clear bc3 bf3) | (go_at_call 44; refine (HDi.out _ (AR1.out _ (by repeat (first | exact Below.refl _ _ | apply belowA | refine belowT ?_ hB3 | apply Below.drew))) (AE1.out _ (by repeat (first | exact Below.refl _ _ | apply belowA | refine belowT ?_ hB3 | apply Below.drew))).two).mono ?_; rintro e w4 ⟨rfl, hB4⟩; obtain ⟨bc4, bf4⟩ := bcellN hB4; have l4 := hB4.size; (try simp at l4); (try (have z0 := bc4 w3.heap.size 0 (lt_alloc _ _); have z1 := bc4 w3.heap.size 1 (lt_alloc _ _); have z2 := bc4 w3.heap.size 2 (lt_alloc _ _); have z3 := bf4 w3.heap.size 0 (lt_alloc _ _); have z4 := bf4 w3.heap.size 1 (lt_alloc _ _); have z5 := bf4 w3.heap.size 2 (lt_alloc _ _); simp at z0 z1 z2 z3 z4 z5)); (try (have v0 := (bc4 W1.heap.size 0 l3).trans z0; have v1 := (bc4 W1.heap.size 1 l3).trans z1; have v2 := (bc4 W1.heap.size 2 l3).trans z2; have v3 := (bf4 W1.heap.size 0 l3).trans z3; have v4 := (bf4 W1.heap.size 1 l3).trans z4; have v5 := (bf4 W1.heap.size 2 l3).trans z5)); clear bc4 bf4))
 all_goals refine HK.out _ _ (by repeat (first | exact Below.refl _ _ | apply belowA | refine belowT ?_ hB4 | refine belowT ?_ hB3 | apply Below.drew | refine set3_below ?_ (by first | exact Nat.le_refl _ | (have h3 := hB3.size; have h4 := hB4.size; simp at h3 h4 ⊢; omega)) _ _ _)) ?_
 all_goals first | exact (set3_cells v0 v1 v2 _ _ _).2.2 | exact (set3_cells z0 z1 z2 _ _ _).2.2 | simp
end Go.Proofs.YtafeddiijemnbaaGreatDoor
namespace Go.Proofs.YtafeddiijemnbaaGreatDoor
open Go.RowKit Go.Shelf Go.Lib Go.Maps
attribute [local go_sem] Oper.semAt_some
theorem pts_no {W : World} {vb : Nat} {t : TypeId} (h : Boxed W vb t .nilIface) (g : Nat) : ¬ pts W vb g := by
 rintro ⟨o, n, cap, e⟩; rw [h.cell] at e; cases e
theorem good_no {W : World} {vb : Nat} {t : TypeId} (h : Boxed W vb t .nilIface) : Good vb W := fun g q => absurd q (pts_no h g)
theorem keepsBG {w w' : World} {B : Nat} (hb : Below w.heap.size w w') : KeepsFrom B w w' := ⟨hb.size, fun k _ _ h _ => (hb.block k (Array.getElem?_eq_some_iff.1 h).1).trans h⟩
theorem turn_end {base n D : Nat} {w X : World} {v : Value} (h : Turn base w X) (hb : base ≤ w.heap.size) (hn : w.heap.size ≤ n) (hD : w.heap.size ≤ D) : Turn base w ((X.setCell ⟨n, 0, none⟩ v).putObj D (.deferred none)) :=
 ⟨(h.below.setCell (p := ⟨n, 0, none⟩) (by show base ≤ n; omega) v).trans (below_putF (by omega) _), fun k o h1 h2 => by
  have hk := (Array.getElem?_eq_some_iff.1 h1).1; rw [World.putObj_heap_other (by omega), Below.heap_setCell X ⟨n, 0, none⟩ v k (by show k ≠ n; omega)]
  exact h.cells k o h1 h2⟩
theorem rep_end {base N n D : Nat} {X : World} {es : List E} {A : ByteArray → Nat} {v u : Value} {T : TypeId} (R : Rep X base N es A) (hn : Boxed X n T u) (hD : X.heap[D]? = some (.deferred (some []))) : Rep ((X.setCell ⟨n, 0, none⟩ v).putObj D (.deferred none)) base N es A :=
 R.keep fun b _ ⟨o, c, hb⟩ => by
  have e1 : b ≠ D := fun q => by rw [q, hD] at hb; cases hb
  have e2 : b ≠ n := fun q => by rw [q, show X.heap[n]? = _ from hn] at hb; cases hb
  rw [World.putObj_heap_other e1, Below.heap_setCell X ⟨n, 0, none⟩ v b e2]
set_option maxHeartbeats 4000000 in
set_option maxRecDepth 100000 in
theorem move_room (w : World) (base N : Nat) (es : List E) (A : ByteArray → Nat) (ae : Int → Addr) (T : TrE es) (R : Rep w base N es A)
  (hE : Errs8 w ae) (k : Int) (p t x : ByteArray) (hpb : pathB p = true)
  (hp : p.size ≤ 16777216) (ht : t.size ≤ 16777216) (e0 : E) (hl : lookE es p = some e0) (htb : pathB t = true) (hdir : dirE es (upS t) = true) (hlt : lookE es t = none) (hun : underI t p = false) (hN : N < 900) (hes : es.length ≤ 16) (hfi : fitE es p t = false) (hb : base ≤ w.heap.size) :
  Calls Tryz.prog 140 #[opV k p t x, treeV A] w fun r w' => r = .returned (errV ae 8) ∧ Turn base w w' ∧ ∃ A', A' ⟨#[47]⟩ = A ⟨#[47]⟩ ∧ Rep w' base (N + 1) es A' := by
 obtain ⟨W0, hW0⟩ : ∃ W0, W0 = ((w.alloc (.cells #[.int .i64 k, .string p, .string t, .string x] 102)).alloc (.cells #[.bool true, .string ⟨#[]⟩, .map (some (A ⟨#[47]⟩))] 38)).alloc (.cells #[.nilIface] 42) := ⟨_, rfl⟩
 have hBw : Below w.heap.size w W0 := hW0 ▸ (((Below.refl _ w).alloc (Nat.le_refl _) _).alloc (by simp) _).alloc (by simp; omega) _; have hs0 : W0.heap.size = w.heap.size + 3 := by rw [hW0]; simp
 have HX : Hid (DoBox W0 w.heap.size A k p t x) := by
  obtain ⟨y0, y1, y2, y3⟩ := box4i (w := w) (a := .int .i64 k) (b := .string p) (c := .string t) (d := .string x) (T := 102) (w' := W0) (by rw [hW0]; exact ((Below.refl _ _).alloc (Nat.le_refl _) _).alloc (by simp) _); obtain ⟨y4, y5, y6⟩ := box3n (w := w.alloc (.cells #[.int .i64 k, .string p, .string t, .string x] 102)) (a := .bool true) (b := .string ⟨#[]⟩) (c := .map (some (A ⟨#[47]⟩))) (T := 38) (w' := W0) (by rw [hW0]; exact (Below.refl _ _).alloc (Nat.le_refl _) _); rw [World.size_alloc] at y4 y5 y6; exact ⟨y0, y1, y2, y3, y4, y5, y6⟩
 have hcr : W0.heap[w.heap.size + 2]? = some (.cells #[.nilIface] 42 (0, 0)) := by
  have := World.alloc_heap_new ((w.alloc (.cells #[.int .i64 k, .string p, .string t, .string x] 102)).alloc (.cells #[.bool true, .string ⟨#[]⟩, .map (some (A ⟨#[47]⟩))] 38)) (.cells #[.nilIface] 42); rw [hW0]; simpa using this
 have AX : Hid (∀ W', Below W0.heap.size W0 W' → DoBox W' w.heap.size A k p t x) := fun W' hW => HX.out.below hW; have AC : Hid (∀ W', Below W0.heap.size W0 W' → Boxed W' (w.heap.size + 2) 42 .nilIface) := fun W' hW => (hW.block _ (Array.getElem?_eq_some_iff.1 hcr).1).trans hcr; have AR : Hid (∀ W', Below W0.heap.size W0 W' → Rep W' base N es A) := fun W' hW => (R.below hBw).below hW; have AE : Hid (∀ W', Below W0.heap.size W0 W' → Errs8 W' ae) := fun W' hW => (hE.below hBw).below hW; have HAt := hid (fun (W : World) (hW : Rep W base N es A) => at_any W base N es A T hW p (by omega)); have HTu : Hid (∀ W' v, Below W0.heap.size W0 W' → Turn base w (W'.setCell ⟨w.heap.size + 2, 0, none⟩ v)) := fun W' v hW => Turn.of_below ((hBw.trans (hW.mono hBw.size)).setCell (p := ⟨w.heap.size + 2, 0, none⟩) (by show _ ≤ w.heap.size + 2; omega) v) hb; have HRk : Hid (∀ W' v, Below W0.heap.size W0 W' → ∃ A', A' ⟨#[47]⟩ = A ⟨#[47]⟩ ∧ Rep (W'.setCell ⟨w.heap.size + 2, 0, none⟩ v) base (N + 1) es A') := fun W' v hW => ⟨A, rfl, (R.below ((hBw.trans (hW.mono hBw.size)).setCell (p := ⟨w.heap.size + 2, 0, none⟩) (by show _ ≤ w.heap.size + 2; omega) v)).more⟩; clear hcr; rw [atE_some hpb hl] at HAt; obtain ⟨xx, hxx⟩ := atE_dir (A := A) hdir; have hdv : dirV es A (upS t) = .agg #[.bool true, .string xx, .map (some (A (upS t)))] := by unfold dirV; rw [dirC_dir hdir, if_pos rfl, hxx]
 have hev : errV ae (dirC es (upS t)) = .nilIface := by rw [dirC_dir hdir]; rfl
 have HU := hid (fun W => iPathUp_any t ht W); have hus : (upS t).size ≤ 4611686018427387904 := by have := upS_size t; omega
 have HDi := hid (fun (W : World) (hW : Rep W base N es A) (hE : Errs2 W ae) => dirAt_any W base N es A ae T hW hE (upS t) hus); have HAt2 := hid (fun (W : World) (hW : Rep W base N es A) => at_any W base N es A T hW t (by omega)); rw [hdv, hev] at HDi; have HR0 := hid R; clear hE R; rw [atE_none htb hlt] at HAt2; have HUn := hid (fun W => iPathUnder_any t p ht hp W); rw [hun] at HUn; refine (callsIn_wide (n := 6)).1 ?_; refine callsIn_of_wp_marks Tryz.func140 rfl trivial ?_ rfl; simp only [Tryz.ntmps140, List.size_toArray, List.length_cons, List.length_nil, Nat.reduceAdd, Nat.reduceSub, Array.replicate_succ, Array.replicate_zero, List.push_toArray, List.append_toArray, List.nil_append, List.cons_append]; refine wpIn_wide.2 ?_; go_wp2_with (first | (go_at_call 51; rw [← hW0]; refine (HAt.out _ (AR.out _ (Below.refl _ _))).mono ?_; rintro e w5 ⟨rfl, hB5⟩) | fail)
 obtain ⟨W1, hW1⟩ : ∃ W1, W1 = w5.alloc (.cells #[.bool e0.d, .string e0.x, .map (optV e0.d (A p))] 36) := ⟨_, rfl⟩
 have hB1 : Below W0.heap.size W0 W1 := by rw [hW1]; exact belowA hB5 _
 have c50 : W1.cell? ⟨w5.heap.size, 0, none⟩ = some (.bool e0.d) := by rw [hW1]; simp
 have c51 : W1.cell? ⟨w5.heap.size, 1, none⟩ = some (.string e0.x) := by rw [hW1]; simp
 have c52 : W1.cell? ⟨w5.heap.size, 2, none⟩ = some (.map (optV e0.d (A p))) := by rw [hW1]; simp
 rw [← hW1]; clear hW0 hW1 HAt; have hsz1 := hB1.size; have hs2 : w.heap.size + 2 < W1.heap.size := by omega
 clear hs0 hsz1
 have AS : Hid (∀ W', Below W1.heap.size W1 W' → (W'.cell? ⟨w.heap.size, 2, none⟩ = some (.string t) ∧ W'.cell? ⟨w.heap.size + 1, 0, none⟩ = some (.bool true) ∧ W'.cell? ⟨w.heap.size + 1, 1, none⟩ = some (.string ⟨#[]⟩) ∧ W'.cell? ⟨w.heap.size + 1, 2, none⟩ = some (.map (some (A ⟨#[47]⟩))))) := fun W' hW => by
  have := AX.out _ (belowT hB1 hW); exact ⟨this.o2, this.t0, this.t1, this.t2⟩
 have AR1 : Hid (∀ W', Below W1.heap.size W1 W' → Rep W' base N es A) := fun W' hW => AR.out _ (belowT hB1 hW); have AE1 : Hid (∀ W', Below W1.heap.size W1 W' → Errs8 W' ae) := fun W' hW => AE.out _ (belowT hB1 hW); have AN : Hid (∀ W', Below W1.heap.size W1 W' → W'.cell? ⟨w5.heap.size, 0, none⟩ = some (.bool e0.d) ∧ W'.cell? ⟨w5.heap.size, 1, none⟩ = some (.string e0.x) ∧ W'.cell? ⟨w5.heap.size, 2, none⟩ = some (.map (optV e0.d (A p)))) := fun W' hW => ⟨below_cell hW c50, below_cell hW c51, below_cell hW c52⟩; clear c50 c51 c52
 rename_i Qx Kx hKx
 have HK : Hid (∀ (b : Nat) (W : World), Below W1.heap.size W1 W → W.cell? ⟨b, 2, none⟩ = some (.map (some (A (upS t)))) → Kx { tmps := #[opV k p t x, treeV A, .pointer (some ⟨w.heap.size, 0, none⟩), .pointer (some ⟨w.heap.size + 1, 0, none⟩), .pointer (some ⟨w.heap.size + 2, 0, none⟩), .pointer (some ⟨w5.heap.size, 0, none⟩), .bool true, .pointer (some ⟨b, 0, none⟩), .nilIface, undef, undef, undef, .tuple #[.agg #[.bool e0.d, .string e0.x, .map (optV e0.d (A p))], .bool true], treeV A, .pointer (some ⟨w.heap.size, 1, none⟩), .string p, .tuple #[.agg #[.bool e0.d, .string e0.x, .map (optV e0.d (A p))], .bool true], .agg #[.bool e0.d, .string e0.x, .map (optV e0.d (A p))], .bool true, .bool true, .bool false, undef, .tuple #[.agg #[.bool true, .string xx, .map (some (A (upS t)))], .nilIface], treeV A, .pointer (some ⟨w.heap.size, 2, none⟩), .string t, .string (upS t), .tuple #[.agg #[.bool true, .string xx, .map (some (A (upS t)))], .nilIface], .agg #[.bool true, .string xx, .map (some (A (upS t)))], .nilIface, undef, undef, undef, undef, undef, undef, undef, undef, undef, undef, undef, undef, undef, undef, undef, undef, undef, undef, undef, undef, undef, undef, undef, undef, undef, undef, undef, undef, undef, undef, undef, undef, undef, undef, undef, undef, undef, undef], defers := [] } W) := by
  intro b W hBW hb2; refine hKx _ _ ?_; have hBW0 := belowT hB1 hBW; obtain ⟨y0, y1, y2, y3, y4, y5, y6⟩ := AX.out _ hBW0; go_wp2_with (first | (go_at_call 51; refine (HAt2.out _ (AR.out _ hBW0)).mono ?_; rintro e w6 ⟨rfl, hB6⟩; have hBW6 := belowT hBW0 hB6; obtain ⟨q0, q1, q2, q3, q4, q5, q6⟩ := AX.out _ hBW6; have u0 := fun o => cellOn o q1; have u1 := fun o => cellOn o q2; have n4 := (AE.out _ hBW6).there; have n4' := fun o => cellOn o n4; have hc6 := fun o => (AC.out _ (belowA hBW6 o)).cell; have hf6 := fun o => (AC.out _ (belowA hBW6 o)).frozen) | (go_at_call 142; refine (HUn.out _).mono ?_; rintro e w7 ⟨rfl, hB7⟩; have hBW7 := belowT (belowA hBW6 _) hB7; have n7 := (AE.out _ hBW7).under; have hc7 := (AC.out _ hBW7).cell; have hf7 := (AC.out _ hBW7).frozen; obtain ⟨r0, r1, r2, r3, r4, r5, r6⟩ := AX.out _ hBW7; obtain ⟨s0, s1, s2⟩ := AN.out _ (belowT (belowA (belowT hBW hB6) _) hB7)) | (go_at_call 67; refine (below_any _ _ _ _ _).mono ?_; rintro e w8 ⟨rfl, hB8, hs8, d0, d1, d2, d3⟩))
  have hBW8 := belowT hBW7 hB8; have hbx := AC.out _ hBW8; have hs7 := hBW7.size; have hs07 := (hB1.trans (hBW.mono hB1.size)).size; have hv8 : w.heap.size + 2 < w8.heap.size := Nat.lt_of_lt_of_le hs2 (Nat.le_trans hBW.size (Nat.le_trans hB6.size (Nat.le_trans (by simp) (Nat.le_trans hB7.size hB8.size))))
  have hm8 : (dirE es p = true ∧ optV e0.d (A p) = some (A p)) ∨ (optV e0.d (A p) = none ∧ told es p t = []) := by
   cases hd : e0.d with
   | true => exact .inl ⟨look_dir (.inr ⟨e0, hl, hd⟩), rfl⟩
   | false => exact .inr ⟨rfl, told_file T hl hd t⟩
  have htz := path_size htb; have hlev := lev_path hpb; have hfit := told_fit T hpb htb; have hb7 : w8.cell? ⟨b, 2, none⟩ = some (.map (some (A (upS t)))) := below_cell hB8 (below_cell hB7 (cellOn _ (below_cell hB6 hb2))); have HN8 := hidF (AN.out _ (belowT (belowT (belowA (belowT hBW hB6) _) hB7) hB8)); have HX8 := hidF (AX.out _ hBW8); have HR8 := hidF (AR.out _ hBW8); clear q0 q1 q2 q3 q4 q5 q6 u0 u1 n4 n4' hc6 hf6 n7 hc7 hf7 r0 r1 r2 r3 r4 r5 r6 s0 s1 s2 y0 y1 y2 y3 y4 y5 y6; refine (wpIn_wide (n := 6)).1 ?_
  refine wpIn_rangeFunc_ownH rfl (by omega) (gf := 81) (lb := #[.pointer (some ⟨w7.heap.size, 0, none⟩), .pointer (some ⟨w7.heap.size + 1, 0, none⟩)]) rfl trivial (enters_of Tryz.func81 (by kernel_rfl) rfl)
   (below_stops _ (by omega) es A base N (w.heap.size + 2) (by omega) (by omega) T p t (by omega) e0.d e0.x (optV e0.d (A p)) hm8 w7.heap.size (w7.heap.size + 1) w8 (by omega) (by omega) d0 d1 d2 d3 HR8.out hv8 (good_no hbx) hlev) KpT.t (KpT.b hv8) (Below.refl _ _) (fun _ => rfl)
   (fun (pre : List (ItemT (told es p t))) W => Below w8.heap.size w8 W ∧ ∀ y ∈ pre, pathB y.1.1 = true)
   (fun c (pre : List (ItemT (told es p t))) W => c = .ret ∧ Boxed W (w.heap.size + 2) 42 (.iface 168 (.pointer (some (ae 8)))) ∧ Below (w.heap.size + 2) w8 W ∧ ∃ y ∈ pre, pathB y.1.1 = false)
   (OwnFrom.and (ownFrom_below (Nat.le_refl _) (Nat.le_refl _)) (ownFrom_pure _ _))
   (fun c => OwnFrom.and (ownFrom_pure _ (fun _ => c = .ret)) (OwnFrom.and (Own.from (boxed_own (w.heap.size + 2) 42 (fun _ => .iface 168 (.pointer (some (ae 8))))) _) (OwnFrom.and (ownFrom_below (by omega) (by omega)) (ownFrom_pure _ _))))
   ⟨Below.refl _ _, fun _ h => by cases h⟩
   (fun z ac _ => ac = { tmps := #[opV k p t x, treeV A, Value.pointer (some ⟨w.heap.size, 0, none⟩), Value.pointer (some ⟨w.heap.size + 1, 0, none⟩), Value.pointer (some ⟨w.heap.size + 2, 0, none⟩), Value.pointer (some ⟨w5.heap.size, 0, none⟩), .bool true, Value.pointer (some ⟨b, 0, none⟩), .nilIface, Value.pointer (some ⟨w6.heap.size, 0, none⟩), .bool false, .string z.1.1, .tuple #[.agg #[.bool e0.d, .string e0.x, .map (optV e0.d (A p))], .bool true], treeV A, Value.pointer (some ⟨w.heap.size, 1, none⟩), .string p, .tuple #[.agg #[.bool e0.d, .string e0.x, .map (optV e0.d (A p))], .bool true], .agg #[.bool e0.d, .string e0.x, .map (optV e0.d (A p))], .bool true, .bool true, .bool false, undef, .tuple #[.agg #[.bool true, .string xx, .map (some (A (upS t)))], .nilIface], treeV A, Value.pointer (some ⟨w.heap.size, 2, none⟩), .string t, .string (upS t), .tuple #[.agg #[.bool true, .string xx, .map (some (A (upS t)))], .nilIface], .agg #[.bool true, .string xx, .map (some (A (upS t)))], .nilIface, .nilIface, .bool false, undef, .tuple #[zeroN, .bool false], .agg #[.bool true, .string ⟨#[]⟩, .map (some (A ⟨#[47]⟩))], Value.pointer (some ⟨w.heap.size, 2, none⟩), .string t, .tuple #[zeroN, .bool false], zeroN, .bool false, .bool false, undef, Value.pointer (some ⟨w.heap.size, 2, none⟩), .string t, Value.pointer (some ⟨w.heap.size, 1, none⟩), .string p, .bool false, undef, .agg #[.bool e0.d, .string e0.x, .map (optV e0.d (A p))], Value.pointer (some ⟨w.heap.size, 2, none⟩), .string t, .func (.func 81) #[] #[.pointer (some ⟨w7.heap.size, 0, none⟩), .pointer (some ⟨w7.heap.size + 1, 0, none⟩)], .string z.1.1, .agg #[.bool z.1.2.d, .string z.1.2.x, .map (optV z.1.2.d (A z.1.2.p))], undef, undef, undef, undef, undef, undef, undef, undef, undef, undef, undef, undef, undef, undef], defers := [] })
   (fun _ _ _ _ _ _ hs _ _ => hs)
   ?assign ?body ?done ?stop
  case assign =>
   rintro l pre x W K hI hK
   gi_wp2
   exact hK _ _ (KeepsFrom.refl _ _) (kpt_of (Below.refl _ _) (Nat.lt_of_lt_of_le hv8 hI.1.size)) hI (by simp)
  case body =>
   rintro l pre x ac W hl2 ⟨r, hr⟩ ⟨hB, hall⟩ rfl hlt2; obtain ⟨⟨s, e⟩, hxm⟩ := x; have hsz := told_size T htz hxm; dsimp only at hsz ⊢; have hBWW := belowT hBW8 hB; have HO := hidF (fun W => pOk_any s (by omega) W); have n8 := (AE.out _ hBWW).room; cases hpo : pathB s with
   | true =>
    rw [hpo] at HO
    gi_wp2_with (refine ⟨trivial, ?_⟩; gi_at_call 42; refine (CallsIn.inRound l (callsIn_wide.2 (HO.out _))).mono ?_; rintro e2 w9 ⟨rfl, hB9⟩)
    refine ⟨keepsBG hB9, kpt_of hB9 (Nat.lt_of_lt_of_le hv8 hB.size), belowT hB hB9, fun y hy => ?_⟩; rcases List.mem_append.1 hy with h | h
    ·
     exact hall y h
    ·
     rw [List.mem_singleton.1 h]; exact hpo
   | false =>
    rw [hpo] at HO
    gi_wp2_with (refine ⟨trivial, ?_⟩; gi_at_call 42; refine (CallsIn.inRound l (callsIn_wide.2 (HO.out _))).mono ?_; rintro e2 w9 ⟨rfl, hB9⟩; have n9 := (AE.out _ (belowT hBWW hB9)).room; have hc9 := (AC.out _ (belowT hBWW hB9)).cell; have hf9 := (AC.out _ (belowT hBWW hB9)).frozen)
    refine ⟨(keepsBG hB9).trans ((KeepsOthers.setCell _ _ _).from _), rfl, (AC.out _ (belowT hBWW hB9)).set _, (((belowT hB hB9).mono (Nat.le_of_lt hv8)).setCell (p := ⟨w.heap.size + 2, 0, none⟩) (Nat.le_refl _) _), ⟨_, List.mem_append_right _ (List.mem_singleton.2 rfl), hpo⟩⟩
  case stop =>
   rintro D c pre W hD hpre ⟨rfl, hbx2, hB, y, hy, hyb⟩ hK; have hBs : Below w.heap.size w W := hBw.trans ((hBW8.mono hBw.size).trans (hB.mono (by omega))); have hcc := hbx2.cell; have hcp : (W.putObj D (.deferred none)).cell? ⟨w.heap.size + 2, 0, none⟩ = some (.iface 168 (.pointer (some (ae 8)))) := (World.cell?_of_block (World.putObj_heap_other (show w.heap.size + 2 ≠ D by omega))).trans hcc
   gi_wp2
   refine ⟨by simp, .inl ⟨_, _, rfl, run_takeDeferred hK, ?_⟩⟩; have hBf : Below w.heap.size w (W.putObj D (.deferred none)) := hBs.trans (below_putF (by omega) _); refine ⟨.iface 168 (.pointer (some (ae 8))), ?_, rfl, Turn.of_below hBf hb, A, rfl, (HR0.out.below hBf).more⟩; simp [results, Tryz.results140, go_sem, hcp]
  case done =>
   rintro D xs W hD hxs ⟨hB, hall⟩ hK
   exfalso
   have : fitE es p t = true := by
    rw [← hfit, List.all_eq_true, ← hxs]; intro y hy; obtain ⟨z, hz, rfl⟩ := List.mem_map.1 hy; exact hall z hz
   rw [hfi] at this; cases this
 clear hKx
 go_region_held3 (fun W' => W'.cell? ⟨w.heap.size, 2, none⟩ = some (.string t) ∧ W'.cell? ⟨w.heap.size + 1, 0, none⟩ = some (.bool true) ∧ W'.cell? ⟨w.heap.size + 1, 1, none⟩ = some (.string ⟨#[]⟩) ∧ W'.cell? ⟨w.heap.size + 1, 2, none⟩ = some (.map (some (A ⟨#[47]⟩))))
  ((refine AS.out _ ?_; repeat (first | exact Below.refl _ _ | apply belowA | refine belowT ?_ hB4 | refine belowT ?_ hB3 | apply Below.drew | refine set3_below ?_ (by first | exact Nat.le_refl _ | (have h3 := hB3.size; have h4 := hB4.size; simp at h3 h4 ⊢; omega)) _ _ _)))
  (first | (go_at_call 45; refine (HU.out _).mono ?_; rintro e w3 ⟨rfl, hB3⟩; obtain ⟨bc3, bf3⟩ := bcellN hB3; have l3 := hB3.size; (try simp at l3); (try (have z0 := bc3 W1.heap.size 0 (lt_allocD _ _); have z1 := bc3 W1.heap.size 1 (lt_allocD _ _); have z2 := bc3 W1.heap.size 2 (lt_allocD _ _); have z3 := bf3 W1.heap.size 0 (lt_allocD _ _); have z4 := bf3 W1.heap.size 1 (lt_allocD _ _); have z5 := bf3 W1.heap.size 2 (lt_allocD _ _); simp at z0 z1 z2 z3 z4 z5)); clear bc3 bf3) | (go_at_call 44; refine (HDi.out _ (AR1.out _ (by repeat (first | exact Below.refl _ _ | apply belowA | refine belowT ?_ hB3 | apply Below.drew))) (AE1.out _ (by repeat (first | exact Below.refl _ _ | apply belowA | refine belowT ?_ hB3 | apply Below.drew))).two).mono ?_; rintro e w4 ⟨rfl, hB4⟩; obtain ⟨bc4, bf4⟩ := bcellN hB4; have l4 := hB4.size; (try simp at l4); (try (have z0 := bc4 w3.heap.size 0 (lt_alloc _ _); have z1 := bc4 w3.heap.size 1 (lt_alloc _ _); have z2 := bc4 w3.heap.size 2 (lt_alloc _ _); have z3 := bf4 w3.heap.size 0 (lt_alloc _ _); have z4 := bf4 w3.heap.size 1 (lt_alloc _ _); have z5 := bf4 w3.heap.size 2 (lt_alloc _ _); simp at z0 z1 z2 z3 z4 z5)); (try (have v0 := (bc4 W1.heap.size 0 l3).trans z0; have v1 := (bc4 W1.heap.size 1 l3).trans z1; have v2 := (bc4 W1.heap.size 2 l3).trans z2; have v3 := (bf4 W1.heap.size 0 l3).trans z3; have v4 := (bf4 W1.heap.size 1 l3).trans z4; have v5 := (bf4 W1.heap.size 2 l3).trans z5)); clear bc4 bf4))
 all_goals refine HK.out _ _ (by repeat (first | exact Below.refl _ _ | apply belowA | refine belowT ?_ hB4 | refine belowT ?_ hB3 | apply Below.drew | refine set3_below ?_ (by first | exact Nat.le_refl _ | (have h3 := hB3.size; have h4 := hB4.size; simp at h3 h4 ⊢; omega)) _ _ _)) ?_
 all_goals first | exact (set3_cells v0 v1 v2 _ _ _).2.2 | exact (set3_cells z0 z1 z2 _ _ _).2.2 | simp
end Go.Proofs.YtafeddiijemnbaaGreatDoor
namespace Go.Proofs.YtafeddiijemnbaaGreatDoor
open Go.RowKit Go.Shelf Go.Lib Go.Maps
attribute [local go_sem] Oper.semAt_some
set_option maxHeartbeats 4000000 in
set_option maxRecDepth 100000 in
theorem move_fit (w : World) (base N : Nat) (es : List E) (A : ByteArray → Nat) (ae : Int → Addr) (T : TrE es) (R : Rep w base N es A)
  (hE : Errs8 w ae) (k : Int) (p t x : ByteArray) (hpb : pathB p = true)
  (hp : p.size ≤ 16777216) (ht : t.size ≤ 16777216) (e0 : E) (hl : lookE es p = some e0) (htb : pathB t = true) (hdir : dirE es (upS t) = true) (hlt : lookE es t = none) (hun : underI t p = false) (hN : N < 900) (hes : es.length ≤ 16) (hfi : fitE es p t = true) (hb : base ≤ w.heap.size) :
  Calls Tryz.prog 140 #[opV k p t x, treeV A] w fun r w' => r = .returned (errV ae 0) ∧ Turn base w w' ∧ ∃ A', A' ⟨#[47]⟩ = A ⟨#[47]⟩ ∧ Rep w' base (N + 1) (movE es p t) A' := by
 obtain ⟨W0, hW0⟩ : ∃ W0, W0 = ((w.alloc (.cells #[.int .i64 k, .string p, .string t, .string x] 102)).alloc (.cells #[.bool true, .string ⟨#[]⟩, .map (some (A ⟨#[47]⟩))] 38)).alloc (.cells #[.nilIface] 42) := ⟨_, rfl⟩
 have hBw : Below w.heap.size w W0 := hW0 ▸ (((Below.refl _ w).alloc (Nat.le_refl _) _).alloc (by simp) _).alloc (by simp; omega) _; have hs0 : W0.heap.size = w.heap.size + 3 := by rw [hW0]; simp
 have HX : Hid (DoBox W0 w.heap.size A k p t x) := by
  obtain ⟨y0, y1, y2, y3⟩ := box4i (w := w) (a := .int .i64 k) (b := .string p) (c := .string t) (d := .string x) (T := 102) (w' := W0) (by rw [hW0]; exact ((Below.refl _ _).alloc (Nat.le_refl _) _).alloc (by simp) _); obtain ⟨y4, y5, y6⟩ := box3n (w := w.alloc (.cells #[.int .i64 k, .string p, .string t, .string x] 102)) (a := .bool true) (b := .string ⟨#[]⟩) (c := .map (some (A ⟨#[47]⟩))) (T := 38) (w' := W0) (by rw [hW0]; exact (Below.refl _ _).alloc (Nat.le_refl _) _); rw [World.size_alloc] at y4 y5 y6; exact ⟨y0, y1, y2, y3, y4, y5, y6⟩
 have hcr : W0.heap[w.heap.size + 2]? = some (.cells #[.nilIface] 42 (0, 0)) := by
  have := World.alloc_heap_new ((w.alloc (.cells #[.int .i64 k, .string p, .string t, .string x] 102)).alloc (.cells #[.bool true, .string ⟨#[]⟩, .map (some (A ⟨#[47]⟩))] 38)) (.cells #[.nilIface] 42); rw [hW0]; simpa using this
 have AX : Hid (∀ W', Below W0.heap.size W0 W' → DoBox W' w.heap.size A k p t x) := fun W' hW => HX.out.below hW; have AC : Hid (∀ W', Below W0.heap.size W0 W' → Boxed W' (w.heap.size + 2) 42 .nilIface) := fun W' hW => (hW.block _ (Array.getElem?_eq_some_iff.1 hcr).1).trans hcr; have AR : Hid (∀ W', Below W0.heap.size W0 W' → Rep W' base N es A) := fun W' hW => (R.below hBw).below hW; have AE : Hid (∀ W', Below W0.heap.size W0 W' → Errs8 W' ae) := fun W' hW => (hE.below hBw).below hW; have HAt := hid (fun (W : World) (hW : Rep W base N es A) => at_any W base N es A T hW p (by omega)); have HTu : Hid (∀ W' v, Below W0.heap.size W0 W' → Turn base w (W'.setCell ⟨w.heap.size + 2, 0, none⟩ v)) := fun W' v hW => Turn.of_below ((hBw.trans (hW.mono hBw.size)).setCell (p := ⟨w.heap.size + 2, 0, none⟩) (by show _ ≤ w.heap.size + 2; omega) v) hb; have HRk : Hid (∀ W' v, Below W0.heap.size W0 W' → ∃ A', A' ⟨#[47]⟩ = A ⟨#[47]⟩ ∧ Rep (W'.setCell ⟨w.heap.size + 2, 0, none⟩ v) base (N + 1) es A') := fun W' v hW => ⟨A, rfl, (R.below ((hBw.trans (hW.mono hBw.size)).setCell (p := ⟨w.heap.size + 2, 0, none⟩) (by show _ ≤ w.heap.size + 2; omega) v)).more⟩; clear hcr; rw [atE_some hpb hl] at HAt; obtain ⟨xx, hxx⟩ := atE_dir (A := A) hdir; have hdv : dirV es A (upS t) = .agg #[.bool true, .string xx, .map (some (A (upS t)))] := by unfold dirV; rw [dirC_dir hdir, if_pos rfl, hxx]
 have hev : errV ae (dirC es (upS t)) = .nilIface := by rw [dirC_dir hdir]; rfl
 have HU := hid (fun W => iPathUp_any t ht W); have hus : (upS t).size ≤ 4611686018427387904 := by have := upS_size t; omega
 have HDi := hid (fun (W : World) (hW : Rep W base N es A) (hE : Errs2 W ae) => dirAt_any W base N es A ae T hW hE (upS t) hus); have HAt2 := hid (fun (W : World) (hW : Rep W base N es A) => at_any W base N es A T hW t (by omega)); rw [hdv, hev] at HDi; have HR0 := hid R; clear hE R; rw [atE_none htb hlt] at HAt2; have HUn := hid (fun W => iPathUnder_any t p ht hp W); rw [hun] at HUn; refine (callsIn_wide (n := 6)).1 ?_; refine callsIn_of_wp_marks Tryz.func140 rfl trivial ?_ rfl; simp only [Tryz.ntmps140, List.size_toArray, List.length_cons, List.length_nil, Nat.reduceAdd, Nat.reduceSub, Array.replicate_succ, Array.replicate_zero, List.push_toArray, List.append_toArray, List.nil_append, List.cons_append]; refine wpIn_wide.2 ?_; go_wp2_with (first | (go_at_call 51; rw [← hW0]; refine (HAt.out _ (AR.out _ (Below.refl _ _))).mono ?_; rintro e w5 ⟨rfl, hB5⟩) | fail)
 obtain ⟨W1, hW1⟩ : ∃ W1, W1 = w5.alloc (.cells #[.bool e0.d, .string e0.x, .map (optV e0.d (A p))] 36) := ⟨_, rfl⟩
 have hB1 : Below W0.heap.size W0 W1 := by rw [hW1]; exact belowA hB5 _
 have c50 : W1.cell? ⟨w5.heap.size, 0, none⟩ = some (.bool e0.d) := by rw [hW1]; simp
 have c51 : W1.cell? ⟨w5.heap.size, 1, none⟩ = some (.string e0.x) := by rw [hW1]; simp
 have c52 : W1.cell? ⟨w5.heap.size, 2, none⟩ = some (.map (optV e0.d (A p))) := by rw [hW1]; simp
 rw [← hW1]; clear hW0 hW1 HAt; have hsz1 := hB1.size; have hs2 : w.heap.size + 2 < W1.heap.size := by omega
 clear hs0 hsz1
 have AS : Hid (∀ W', Below W1.heap.size W1 W' → (W'.cell? ⟨w.heap.size, 2, none⟩ = some (.string t) ∧ W'.cell? ⟨w.heap.size + 1, 0, none⟩ = some (.bool true) ∧ W'.cell? ⟨w.heap.size + 1, 1, none⟩ = some (.string ⟨#[]⟩) ∧ W'.cell? ⟨w.heap.size + 1, 2, none⟩ = some (.map (some (A ⟨#[47]⟩))))) := fun W' hW => by
  have := AX.out _ (belowT hB1 hW); exact ⟨this.o2, this.t0, this.t1, this.t2⟩
 have AR1 : Hid (∀ W', Below W1.heap.size W1 W' → Rep W' base N es A) := fun W' hW => AR.out _ (belowT hB1 hW); have AE1 : Hid (∀ W', Below W1.heap.size W1 W' → Errs8 W' ae) := fun W' hW => AE.out _ (belowT hB1 hW); have AN : Hid (∀ W', Below W1.heap.size W1 W' → W'.cell? ⟨w5.heap.size, 0, none⟩ = some (.bool e0.d) ∧ W'.cell? ⟨w5.heap.size, 1, none⟩ = some (.string e0.x) ∧ W'.cell? ⟨w5.heap.size, 2, none⟩ = some (.map (optV e0.d (A p)))) := fun W' hW => ⟨below_cell hW c50, below_cell hW c51, below_cell hW c52⟩; clear c50 c51 c52
 rename_i Qx Kx hKx
 have HK : Hid (∀ (b : Nat) (W : World), Below W1.heap.size W1 W → W.cell? ⟨b, 2, none⟩ = some (.map (some (A (upS t)))) → Kx { tmps := #[opV k p t x, treeV A, .pointer (some ⟨w.heap.size, 0, none⟩), .pointer (some ⟨w.heap.size + 1, 0, none⟩), .pointer (some ⟨w.heap.size + 2, 0, none⟩), .pointer (some ⟨w5.heap.size, 0, none⟩), .bool true, .pointer (some ⟨b, 0, none⟩), .nilIface, undef, undef, undef, .tuple #[.agg #[.bool e0.d, .string e0.x, .map (optV e0.d (A p))], .bool true], treeV A, .pointer (some ⟨w.heap.size, 1, none⟩), .string p, .tuple #[.agg #[.bool e0.d, .string e0.x, .map (optV e0.d (A p))], .bool true], .agg #[.bool e0.d, .string e0.x, .map (optV e0.d (A p))], .bool true, .bool true, .bool false, undef, .tuple #[.agg #[.bool true, .string xx, .map (some (A (upS t)))], .nilIface], treeV A, .pointer (some ⟨w.heap.size, 2, none⟩), .string t, .string (upS t), .tuple #[.agg #[.bool true, .string xx, .map (some (A (upS t)))], .nilIface], .agg #[.bool true, .string xx, .map (some (A (upS t)))], .nilIface, undef, undef, undef, undef, undef, undef, undef, undef, undef, undef, undef, undef, undef, undef, undef, undef, undef, undef, undef, undef, undef, undef, undef, undef, undef, undef, undef, undef, undef, undef, undef, undef, undef, undef, undef, undef, undef, undef], defers := [] } W) := by
  intro b W hBW hb2; refine hKx _ _ ?_; have hBW0 := belowT hB1 hBW; obtain ⟨y0, y1, y2, y3, y4, y5, y6⟩ := AX.out _ hBW0; go_wp2_with (first | (go_at_call 51; refine (HAt2.out _ (AR.out _ hBW0)).mono ?_; rintro e w6 ⟨rfl, hB6⟩; have hBW6 := belowT hBW0 hB6; obtain ⟨q0, q1, q2, q3, q4, q5, q6⟩ := AX.out _ hBW6; have u0 := fun o => cellOn o q1; have u1 := fun o => cellOn o q2; have n4 := (AE.out _ hBW6).there; have n4' := fun o => cellOn o n4; have hc6 := fun o => (AC.out _ (belowA hBW6 o)).cell; have hf6 := fun o => (AC.out _ (belowA hBW6 o)).frozen) | (go_at_call 142; refine (HUn.out _).mono ?_; rintro e w7 ⟨rfl, hB7⟩; have hBW7 := belowT (belowA hBW6 _) hB7; have n7 := (AE.out _ hBW7).under; have hc7 := (AC.out _ hBW7).cell; have hf7 := (AC.out _ hBW7).frozen; obtain ⟨r0, r1, r2, r3, r4, r5, r6⟩ := AX.out _ hBW7; obtain ⟨s0, s1, s2⟩ := AN.out _ (belowT (belowA (belowT hBW hB6) _) hB7)) | (go_at_call 67; refine (below_any _ _ _ _ _).mono ?_; rintro e w8 ⟨rfl, hB8, hs8, d0, d1, d2, d3⟩))
  have hBW8 := belowT hBW7 hB8; have hbx := AC.out _ hBW8; have hs7 := hBW7.size; have hs07 := (hB1.trans (hBW.mono hB1.size)).size; have hv8 : w.heap.size + 2 < w8.heap.size := Nat.lt_of_lt_of_le hs2 (Nat.le_trans hBW.size (Nat.le_trans hB6.size (Nat.le_trans (by simp) (Nat.le_trans hB7.size hB8.size))))
  have hm8 : (dirE es p = true ∧ optV e0.d (A p) = some (A p)) ∨ (optV e0.d (A p) = none ∧ told es p t = []) := by
   cases hd : e0.d with
   | true => exact .inl ⟨look_dir (.inr ⟨e0, hl, hd⟩), rfl⟩
   | false => exact .inr ⟨rfl, told_file T hl hd t⟩
  have htz := path_size htb; have hlev := lev_path hpb; have hfit := told_fit T hpb htb; have hb7 : w8.cell? ⟨b, 2, none⟩ = some (.map (some (A (upS t)))) := below_cell hB8 (below_cell hB7 (cellOn _ (below_cell hB6 hb2))); have HN8 := hidF (AN.out _ (belowT (belowT (belowA (belowT hBW hB6) _) hB7) hB8)); have HX8 := hidF (AX.out _ hBW8); have HR8 := hidF (AR.out _ hBW8); clear q0 q1 q2 q3 q4 q5 q6 u0 u1 n4 n4' hc6 hf6 n7 hc7 hf7 r0 r1 r2 r3 r4 r5 r6 s0 s1 s2 y0 y1 y2 y3 y4 y5 y6; refine (wpIn_wide (n := 6)).1 ?_
  refine wpIn_rangeFunc_ownH rfl (by omega) (gf := 81) (lb := #[.pointer (some ⟨w7.heap.size, 0, none⟩), .pointer (some ⟨w7.heap.size + 1, 0, none⟩)]) rfl trivial (enters_of Tryz.func81 (by kernel_rfl) rfl)
   (below_stops _ (by omega) es A base N (w.heap.size + 2) (by omega) (by omega) T p t (by omega) e0.d e0.x (optV e0.d (A p)) hm8 w7.heap.size (w7.heap.size + 1) w8 (by omega) (by omega) d0 d1 d2 d3 HR8.out hv8 (good_no hbx) hlev) KpT.t (KpT.b hv8) (Below.refl _ _) (fun _ => rfl)
   (fun (pre : List (ItemT (told es p t))) W => Below w8.heap.size w8 W ∧ ∀ y ∈ pre, pathB y.1.1 = true)
   (fun c (pre : List (ItemT (told es p t))) W => c = .ret ∧ Boxed W (w.heap.size + 2) 42 (.iface 168 (.pointer (some (ae 8)))) ∧ Below (w.heap.size + 2) w8 W ∧ ∃ y ∈ pre, pathB y.1.1 = false)
   (OwnFrom.and (ownFrom_below (Nat.le_refl _) (Nat.le_refl _)) (ownFrom_pure _ _))
   (fun c => OwnFrom.and (ownFrom_pure _ (fun _ => c = .ret)) (OwnFrom.and (Own.from (boxed_own (w.heap.size + 2) 42 (fun _ => .iface 168 (.pointer (some (ae 8))))) _) (OwnFrom.and (ownFrom_below (by omega) (by omega)) (ownFrom_pure _ _))))
   ⟨Below.refl _ _, fun _ h => by cases h⟩
   (fun z ac _ => ac = { tmps := #[opV k p t x, treeV A, Value.pointer (some ⟨w.heap.size, 0, none⟩), Value.pointer (some ⟨w.heap.size + 1, 0, none⟩), Value.pointer (some ⟨w.heap.size + 2, 0, none⟩), Value.pointer (some ⟨w5.heap.size, 0, none⟩), .bool true, Value.pointer (some ⟨b, 0, none⟩), .nilIface, Value.pointer (some ⟨w6.heap.size, 0, none⟩), .bool false, .string z.1.1, .tuple #[.agg #[.bool e0.d, .string e0.x, .map (optV e0.d (A p))], .bool true], treeV A, Value.pointer (some ⟨w.heap.size, 1, none⟩), .string p, .tuple #[.agg #[.bool e0.d, .string e0.x, .map (optV e0.d (A p))], .bool true], .agg #[.bool e0.d, .string e0.x, .map (optV e0.d (A p))], .bool true, .bool true, .bool false, undef, .tuple #[.agg #[.bool true, .string xx, .map (some (A (upS t)))], .nilIface], treeV A, Value.pointer (some ⟨w.heap.size, 2, none⟩), .string t, .string (upS t), .tuple #[.agg #[.bool true, .string xx, .map (some (A (upS t)))], .nilIface], .agg #[.bool true, .string xx, .map (some (A (upS t)))], .nilIface, .nilIface, .bool false, undef, .tuple #[zeroN, .bool false], .agg #[.bool true, .string ⟨#[]⟩, .map (some (A ⟨#[47]⟩))], Value.pointer (some ⟨w.heap.size, 2, none⟩), .string t, .tuple #[zeroN, .bool false], zeroN, .bool false, .bool false, undef, Value.pointer (some ⟨w.heap.size, 2, none⟩), .string t, Value.pointer (some ⟨w.heap.size, 1, none⟩), .string p, .bool false, undef, .agg #[.bool e0.d, .string e0.x, .map (optV e0.d (A p))], Value.pointer (some ⟨w.heap.size, 2, none⟩), .string t, .func (.func 81) #[] #[.pointer (some ⟨w7.heap.size, 0, none⟩), .pointer (some ⟨w7.heap.size + 1, 0, none⟩)], .string z.1.1, .agg #[.bool z.1.2.d, .string z.1.2.x, .map (optV z.1.2.d (A z.1.2.p))], undef, undef, undef, undef, undef, undef, undef, undef, undef, undef, undef, undef, undef, undef], defers := [] })
   (fun _ _ _ _ _ _ hs _ _ => hs)
   ?assign ?body ?done ?stop
  case assign =>
   rintro l pre x W K hI hK
   gi_wp2
   exact hK _ _ (KeepsFrom.refl _ _) (kpt_of (Below.refl _ _) (Nat.lt_of_lt_of_le hv8 hI.1.size)) hI (by simp)
  case body =>
   rintro l pre x ac W hl2 ⟨r, hr⟩ ⟨hB, hall⟩ rfl hlt2; obtain ⟨⟨s, e⟩, hxm⟩ := x; have hsz := told_size T htz hxm; dsimp only at hsz ⊢; have hBWW := belowT hBW8 hB; have HO := hidF (fun W => pOk_any s (by omega) W); have n8 := (AE.out _ hBWW).room; cases hpo : pathB s with
   | true =>
    rw [hpo] at HO
    gi_wp2_with (refine ⟨trivial, ?_⟩; gi_at_call 42; refine (CallsIn.inRound l (callsIn_wide.2 (HO.out _))).mono ?_; rintro e2 w9 ⟨rfl, hB9⟩)
    refine ⟨keepsBG hB9, kpt_of hB9 (Nat.lt_of_lt_of_le hv8 hB.size), belowT hB hB9, fun y hy => ?_⟩; rcases List.mem_append.1 hy with h | h
    ·
     exact hall y h
    ·
     rw [List.mem_singleton.1 h]; exact hpo
   | false =>
    rw [hpo] at HO
    gi_wp2_with (refine ⟨trivial, ?_⟩; gi_at_call 42; refine (CallsIn.inRound l (callsIn_wide.2 (HO.out _))).mono ?_; rintro e2 w9 ⟨rfl, hB9⟩; have n9 := (AE.out _ (belowT hBWW hB9)).room; have hc9 := (AC.out _ (belowT hBWW hB9)).cell; have hf9 := (AC.out _ (belowT hBWW hB9)).frozen)
    refine ⟨(keepsBG hB9).trans ((KeepsOthers.setCell _ _ _).from _), rfl, (AC.out _ (belowT hBWW hB9)).set _, (((belowT hB hB9).mono (Nat.le_of_lt hv8)).setCell (p := ⟨w.heap.size + 2, 0, none⟩) (Nat.le_refl _) _), ⟨_, List.mem_append_right _ (List.mem_singleton.2 rfl), hpo⟩⟩
  case stop =>
   rintro D c pre W hD hpre ⟨rfl, hbx2, hB, y, hy, hyb⟩ hK
   exfalso
   have : fitE es p t = false := by
    rw [← hfit, List.all_eq_false]; exact ⟨y.1, y.2, by rw [hyb]; decide⟩
   rw [hfi] at this; cases this
  case done =>
   rintro D xs W hD hxs ⟨hB, hall⟩ hK; have m : Mv es p t := ⟨T, hpb, htb, ⟨e0, hl⟩, hdir, hlt, hun, hfi⟩
   have hupf : dirE es (upS p) = true := by
    obtain ⟨h1, h2⟩ := look_mem hl; rw [← h2]; exact T.up e0 h1
   have hBWW := belowT hBW8 hB; have HCu := hidF (cut_any W base N es A T (AR.out _ hBWW) p hpb hp hupf); have HNm := hidF (fun W => iPathName_any t ht W); have hnz := name_len htb; obtain ⟨y0, y1, y2, y3, y4, y5, y6⟩ := AX.out _ hBWW; have hbW := below_cell hB hb7; obtain ⟨z0, z1, z2⟩ := HN8.out; have HZ := hidF (And.intro (below_cell hB z0) (And.intro (below_cell hB z1) (below_cell hB z2))); have HY2 := hidF y2; have HbW := hidF hbW; clear z0 z1 z2 hbW; go_wp2_with (first | (go_at_call 129; refine HCu.out.mono ?_; rintro e w9 ⟨⟨v9, rfl⟩, V, hBV, ht9, hm9⟩) | fail)
   clear y0 y1 y2 y3 y4 y5 y6; have hbz : base ≤ W.heap.size := Nat.le_trans hb (hBw.trans (hBWW.mono hBw.size)).size; have HRW := hidF (AR.out _ hBWW); have HRV := hidF (HRW.out.below hBV); have hT9 : Turn base W w9 := (Turn.of_below hBV hbz).trans (Turn.of_map ht9 (HRV.out.low _ hupf)); have hb9 : base ≤ w9.heap.size := Nat.le_trans hbz hT9.below.size
   have AS3 : Hid (∀ W', Turn base w9 W' → (W'.cell? ⟨b, 2, none⟩ = some (.map (some (A (upS t)))) ∧ W'.cell? ⟨w.heap.size, 2, none⟩ = some (.string t) ∧ W'.cell? ⟨w5.heap.size, 0, none⟩ = some (.bool e0.d) ∧ W'.cell? ⟨w5.heap.size, 1, none⟩ = some (.string e0.x) ∧ W'.cell? ⟨w5.heap.size, 2, none⟩ = some (.map (optV e0.d (A p))))) := fun W' hW =>
    have hW2 := hT9.trans hW
    ⟨hW2.cell HbW.out, hW2.cell HY2.out, hW2.cell HZ.out.1, hW2.cell HZ.out.2.1, hW2.cell HZ.out.2.2⟩
   have HM9 := hidF (cut_maps HRV.out hupf ht9 hm9 hdir)
   go_region_held3 (fun W' => W'.cell? ⟨b, 2, none⟩ = some (.map (some (A (upS t)))) ∧ W'.cell? ⟨w.heap.size, 2, none⟩ = some (.string t) ∧ W'.cell? ⟨w5.heap.size, 0, none⟩ = some (.bool e0.d) ∧ W'.cell? ⟨w5.heap.size, 1, none⟩ = some (.string e0.x) ∧ W'.cell? ⟨w5.heap.size, 2, none⟩ = some (.map (optV e0.d (A p))))
    ((first | exact AS3.out _ ((Turn.of_below (belowT (Below.refl _ _).drew hB10) hb9).trans (Turn.of_map ht11 (HRW.out.low _ hdir))) | exact AS3.out _ (Turn.of_below (belowT (Below.refl _ _).drew hB10) hb9) | exact AS3.out _ (Turn.of_below (Below.refl _ _).drew hb9)))
    (first | (go_at_call 46; refine (HNm.out _).mono ?_; rintro e w10 ⟨rfl, hB10⟩; obtain ⟨w11, hst, hm11, ht11⟩ := (HM9.out.kept ((belowT (Below.refl _ w9).drew hB10).block _ HM9.out.lt)).store (by unfold maxLen; omega) hnz (.agg #[.bool e0.d, .string e0.x, .map (optV e0.d (A p))])) | fail)
   all_goals (
    have hB910 : Below w9.heap.size w9 w10 := belowT (Below.refl _ w9).drew hB10; have hT11 : Turn base W w11 := (hT9.trans (Turn.of_below hB910 hb9)).trans (Turn.of_map ht11 (HRW.out.low _ hdir)); have hfin := mov_fin m HRW.out hl hupf hBV ht9 hm9 hB910 ht11 hm11; have hbx11 : Boxed w11 (w.heap.size + 2) 42 .nilIface := hT11.cells _ _ (AC.out _ hBWW) (fun _ _ h => by cases h); have hK11 : w11.heap[D]? = some (.deferred (some [])) := hT11.cells _ _ hK (fun _ _ h => by cases h); have hc11 := hbx11.cell; have hf11 := hbx11.frozen; have hKs : (w11.setCell ⟨w.heap.size + 2, 0, none⟩ .nilIface).heap[D]? = some (.deferred (some [])) := (Below.heap_setCell w11 ⟨w.heap.size + 2, 0, none⟩ .nilIface D (show D ≠ w.heap.size + 2 by omega)).trans hK11; have hcp : ((w11.setCell ⟨w.heap.size + 2, 0, none⟩ .nilIface).putObj D (.deferred none)).cell? ⟨w.heap.size + 2, 0, none⟩ = some .nilIface := (World.cell?_of_block (World.putObj_heap_other (show w.heap.size + 2 ≠ D by omega))).trans (hbx11.set .nilIface).cell; have hTw : Turn base w w11 := (Turn.of_below (hBw.trans (hBWW.mono hBw.size)) hb).trans hT11; have hszw := hBw.size; have hfT := turn_end (v := .nilIface) hTw hb (show w.heap.size ≤ w.heap.size + 2 by omega) (show w.heap.size ≤ D by omega); have hfR := rep_end (v := .nilIface) hfin hbx11 hK11; have hA0 : movA A p t ⟨#[47]⟩ = A ⟨#[47]⟩ := by unfold movA; rw [root_hit htb]; rfl
    clear hm11 ht11 hfin hT11 hTw hB910; go_wp2
    refine ⟨by simp, .inl ⟨_, _, rfl, run_takeDeferred hKs, ?_⟩⟩; refine ⟨.nilIface, ?_, rfl, hfT, movA A p t, hA0, hfR⟩
    simp [results, Tryz.results140, go_sem, hcp])
 clear hKx
 go_region_held3 (fun W' => W'.cell? ⟨w.heap.size, 2, none⟩ = some (.string t) ∧ W'.cell? ⟨w.heap.size + 1, 0, none⟩ = some (.bool true) ∧ W'.cell? ⟨w.heap.size + 1, 1, none⟩ = some (.string ⟨#[]⟩) ∧ W'.cell? ⟨w.heap.size + 1, 2, none⟩ = some (.map (some (A ⟨#[47]⟩))))
  ((refine AS.out _ ?_; repeat (first | exact Below.refl _ _ | apply belowA | refine belowT ?_ hB4 | refine belowT ?_ hB3 | apply Below.drew | refine set3_below ?_ (by first | exact Nat.le_refl _ | (have h3 := hB3.size; have h4 := hB4.size; simp at h3 h4 ⊢; omega)) _ _ _)))
  (first | (go_at_call 45; refine (HU.out _).mono ?_; rintro e w3 ⟨rfl, hB3⟩; obtain ⟨bc3, bf3⟩ := bcellN hB3; have l3 := hB3.size; (try simp at l3); (try (have z0 := bc3 W1.heap.size 0 (lt_allocD _ _); have z1 := bc3 W1.heap.size 1 (lt_allocD _ _); have z2 := bc3 W1.heap.size 2 (lt_allocD _ _); have z3 := bf3 W1.heap.size 0 (lt_allocD _ _); have z4 := bf3 W1.heap.size 1 (lt_allocD _ _); have z5 := bf3 W1.heap.size 2 (lt_allocD _ _); simp at z0 z1 z2 z3 z4 z5)); clear bc3 bf3) | (go_at_call 44; refine (HDi.out _ (AR1.out _ (by repeat (first | exact Below.refl _ _ | apply belowA | refine belowT ?_ hB3 | apply Below.drew))) (AE1.out _ (by repeat (first | exact Below.refl _ _ | apply belowA | refine belowT ?_ hB3 | apply Below.drew))).two).mono ?_; rintro e w4 ⟨rfl, hB4⟩; obtain ⟨bc4, bf4⟩ := bcellN hB4; have l4 := hB4.size; (try simp at l4); (try (have z0 := bc4 w3.heap.size 0 (lt_alloc _ _); have z1 := bc4 w3.heap.size 1 (lt_alloc _ _); have z2 := bc4 w3.heap.size 2 (lt_alloc _ _); have z3 := bf4 w3.heap.size 0 (lt_alloc _ _); have z4 := bf4 w3.heap.size 1 (lt_alloc _ _); have z5 := bf4 w3.heap.size 2 (lt_alloc _ _); simp at z0 z1 z2 z3 z4 z5)); (try (have v0 := (bc4 W1.heap.size 0 l3).trans z0; have v1 := (bc4 W1.heap.size 1 l3).trans z1; have v2 := (bc4 W1.heap.size 2 l3).trans z2; have v3 := (bf4 W1.heap.size 0 l3).trans z3; have v4 := (bf4 W1.heap.size 1 l3).trans z4; have v5 := (bf4 W1.heap.size 2 l3).trans z5)); clear bc4 bf4))
 all_goals refine HK.out _ _ (by repeat (first | exact Below.refl _ _ | apply belowA | refine belowT ?_ hB4 | refine belowT ?_ hB3 | apply Below.drew | refine set3_below ?_ (by first | exact Nat.le_refl _ | (have h3 := hB3.size; have h4 := hB4.size; simp at h3 h4 ⊢; omega)) _ _ _)) ?_
 all_goals first | exact (set3_cells v0 v1 v2 _ _ _).2.2 | exact (set3_cells z0 z1 z2 _ _ _).2.2 | simp
end Go.Proofs.YtafeddiijemnbaaGreatDoor
namespace Go.Proofs.YtafeddiijemnbaaGreatDoor
open Go.RowKit Go.Shelf Go.Lib
attribute [local go_sem] Oper.semAt_some
structure TdBox (W : World) (b : Nat) (A : ByteArray → Nat) (k : Int) (p t x : ByteArray) : Prop where
 t0 : W.cell? ⟨b, 0, none⟩ = some (.bool true)
 t1 : W.cell? ⟨b, 1, none⟩ = some (.string ⟨#[]⟩)
 t2 : W.cell? ⟨b, 2, none⟩ = some (.map (some (A ⟨#[47]⟩)))
 o0 : W.cell? ⟨b + 1, 0, none⟩ = some (.int .i64 k)
 o1 : W.cell? ⟨b + 1, 1, none⟩ = some (.string p)
 o2 : W.cell? ⟨b + 1, 2, none⟩ = some (.string t)
 o3 : W.cell? ⟨b + 1, 3, none⟩ = some (.string x)
theorem TdBox.below {W W' : World} {b : Nat} {A : ByteArray → Nat} {k : Int} {p t x : ByteArray} (h : TdBox W b A k p t x) (hB : Below W.heap.size W W') : TdBox W' b A k p t x :=
 ⟨below_cell hB h.t0, below_cell hB h.t1, below_cell hB h.t2, below_cell hB h.o0, below_cell hB h.o1, below_cell hB h.o2, below_cell hB h.o3⟩
set_option maxHeartbeats 2000000 in
set_option maxRecDepth 100000 in
theorem do_makeOp (w : World) (base N : Nat) (A : ByteArray → Nat) (ae : Int → Addr) (k : Int) (p t x : ByteArray) (hp : p.size ≤ 16777216) (ht : t.size ≤ 16777216) (hb : base ≤ w.heap.size) (hk : deedT k = 98) (hop : (pathB p && fitB k t x) = true) (c : Int) (es2 : List E)
  (HD : ∀ W, Below w.heap.size w W → Calls Tryz.prog 131 #[opV k p t x, treeV A] W fun r w' => r = .returned (errV ae c) ∧ Turn base W w' ∧ ∃ A', A' ⟨#[47]⟩ = A ⟨#[47]⟩ ∧ Rep w' base (N + 1) es2 A') :
  Calls Tryz.prog 15 #[treeV A, opV k p t x] w fun r w' => r = .returned (errV ae c) ∧ Turn base w w' ∧ ∃ A', A' ⟨#[47]⟩ = A ⟨#[47]⟩ ∧ Rep w' base (N + 1) es2 A' := by
 obtain ⟨W0, hW0⟩ : ∃ W0, W0 = (w.alloc (.cells #[.bool true, .string ⟨#[]⟩, .map (some (A ⟨#[47]⟩))] 38)).alloc (.cells #[.int .i64 k, .string p, .string t, .string x] 25) := ⟨_, rfl⟩
 have hBw : Below w.heap.size w W0 := hW0 ▸ ((Below.refl _ w).alloc (Nat.le_refl _) _).alloc (by simp) _
 have HX : Hid (TdBox W0 w.heap.size A k p t x) := by
  subst hW0
  constructor <;> simp
 have HO := hid (fun W => iOpOk_any W k p t x hp ht); rw [hop] at HO; have HDe := hid (fun W => deedOf_any k p t x W); rw [hk] at HDe; have HDo := hid (fun (W : World) (hW : Below W0.heap.size W0 W) => HD W (hBw.trans (hW.mono hBw.size))); have hm : ∀ W, (method 306 98 (opV k p t x) "loop.example/pargeting/impl.do").run Tryz.prog W = .ok (131, opV k p t x) W := fun _ => by kernel_rfl
 obtain ⟨ev, hev⟩ : ∃ ev, errV ae c = ev := ⟨_, rfl⟩
 rw [hev] at HDo; rw [hev]; clear HD hev; go_enter Tryz.func15, Tryz.ntmps15
 go_wp2_with (first | (go_at_call 32; rw [← hW0]; refine (HO.out _).mono ?_; rintro e w1 ⟨rfl, hB1⟩) | fail)
 clear hW0; have HX1 := hid (HX.out.below hB1); have hb1 : base ≤ w1.heap.size := Nat.le_trans hb (hBw.trans (hB1.mono hBw.size)).size; have AS : Hid (∀ W', Turn base w1 W' → (W'.cell? ⟨w.heap.size, 0, none⟩ = some (.bool true) ∧ W'.cell? ⟨w.heap.size, 1, none⟩ = some (.string ⟨#[]⟩) ∧ W'.cell? ⟨w.heap.size, 2, none⟩ = some (.map (some (A ⟨#[47]⟩))) ∧ W'.cell? ⟨w.heap.size + 1, 0, none⟩ = some (.int .i64 k) ∧ W'.cell? ⟨w.heap.size + 1, 1, none⟩ = some (.string p) ∧ W'.cell? ⟨w.heap.size + 1, 2, none⟩ = some (.string t) ∧ W'.cell? ⟨w.heap.size + 1, 3, none⟩ = some (.string x))) := fun W' hW => ⟨hW.cell HX1.out.t0, hW.cell HX1.out.t1, hW.cell HX1.out.t2, hW.cell HX1.out.o0, hW.cell HX1.out.o1, hW.cell HX1.out.o2, hW.cell HX1.out.o3⟩
 go_region_held3 (fun W' => W'.cell? ⟨w.heap.size, 0, none⟩ = some (.bool true) ∧ W'.cell? ⟨w.heap.size, 1, none⟩ = some (.string ⟨#[]⟩) ∧ W'.cell? ⟨w.heap.size, 2, none⟩ = some (.map (some (A ⟨#[47]⟩))) ∧ W'.cell? ⟨w.heap.size + 1, 0, none⟩ = some (.int .i64 k) ∧ W'.cell? ⟨w.heap.size + 1, 1, none⟩ = some (.string p) ∧ W'.cell? ⟨w.heap.size + 1, 2, none⟩ = some (.string t) ∧ W'.cell? ⟨w.heap.size + 1, 3, none⟩ = some (.string x))
  ((first | exact AS.out _ (Turn.of_below (Below.refl _ _).drew hb1) | exact AS.out _ (Turn.of_below (belowT (Below.refl _ _).drew hB3) hb1) | exact AS.out _ ((Turn.of_below (belowT (Below.refl _ _).drew hB3) hb1).trans ht4)))
  (first | (go_at_call 33; refine (HDe.out _).mono ?_; rintro e w3 ⟨rfl, hB3⟩) | (go_at_call 131; refine (HDo.out _ (belowT hB1 (belowT (Below.refl _ _).drew hB3))).mono ?_; rintro e w4 ⟨rfl, ht4, hr4⟩) | fail)
 all_goals (
  go_wp2
  go_ret
  exact ⟨rfl, (Turn.of_below (hBw.trans ((belowT hB1 (belowT (Below.refl _ _).drew hB3)).mono hBw.size)) hb).trans ht4, hr4⟩)
set_option maxHeartbeats 2000000 in
set_option maxRecDepth 100000 in
theorem do_putOp (w : World) (base N : Nat) (A : ByteArray → Nat) (ae : Int → Addr) (k : Int) (p t x : ByteArray) (hp : p.size ≤ 16777216) (ht : t.size ≤ 16777216) (hb : base ≤ w.heap.size) (hk : deedT k = 99) (hop : (pathB p && fitB k t x) = true) (c : Int) (es2 : List E)
  (HD : ∀ W, Below w.heap.size w W → Calls Tryz.prog 134 #[opV k p t x, treeV A] W fun r w' => r = .returned (errV ae c) ∧ Turn base W w' ∧ ∃ A', A' ⟨#[47]⟩ = A ⟨#[47]⟩ ∧ Rep w' base (N + 1) es2 A') :
  Calls Tryz.prog 15 #[treeV A, opV k p t x] w fun r w' => r = .returned (errV ae c) ∧ Turn base w w' ∧ ∃ A', A' ⟨#[47]⟩ = A ⟨#[47]⟩ ∧ Rep w' base (N + 1) es2 A' := by
 obtain ⟨W0, hW0⟩ : ∃ W0, W0 = (w.alloc (.cells #[.bool true, .string ⟨#[]⟩, .map (some (A ⟨#[47]⟩))] 38)).alloc (.cells #[.int .i64 k, .string p, .string t, .string x] 25) := ⟨_, rfl⟩
 have hBw : Below w.heap.size w W0 := hW0 ▸ ((Below.refl _ w).alloc (Nat.le_refl _) _).alloc (by simp) _
 have HX : Hid (TdBox W0 w.heap.size A k p t x) := by
  subst hW0
  constructor <;> simp
 have HO := hid (fun W => iOpOk_any W k p t x hp ht); rw [hop] at HO; have HDe := hid (fun W => deedOf_any k p t x W); rw [hk] at HDe; have HDo := hid (fun (W : World) (hW : Below W0.heap.size W0 W) => HD W (hBw.trans (hW.mono hBw.size))); have hm : ∀ W, (method 306 99 (opV k p t x) "loop.example/pargeting/impl.do").run Tryz.prog W = .ok (134, opV k p t x) W := fun _ => by kernel_rfl
 obtain ⟨ev, hev⟩ : ∃ ev, errV ae c = ev := ⟨_, rfl⟩
 rw [hev] at HDo; rw [hev]; clear HD hev; go_enter Tryz.func15, Tryz.ntmps15
 go_wp2_with (first | (go_at_call 32; rw [← hW0]; refine (HO.out _).mono ?_; rintro e w1 ⟨rfl, hB1⟩) | fail)
 clear hW0; have HX1 := hid (HX.out.below hB1); have hb1 : base ≤ w1.heap.size := Nat.le_trans hb (hBw.trans (hB1.mono hBw.size)).size; have AS : Hid (∀ W', Turn base w1 W' → (W'.cell? ⟨w.heap.size, 0, none⟩ = some (.bool true) ∧ W'.cell? ⟨w.heap.size, 1, none⟩ = some (.string ⟨#[]⟩) ∧ W'.cell? ⟨w.heap.size, 2, none⟩ = some (.map (some (A ⟨#[47]⟩))) ∧ W'.cell? ⟨w.heap.size + 1, 0, none⟩ = some (.int .i64 k) ∧ W'.cell? ⟨w.heap.size + 1, 1, none⟩ = some (.string p) ∧ W'.cell? ⟨w.heap.size + 1, 2, none⟩ = some (.string t) ∧ W'.cell? ⟨w.heap.size + 1, 3, none⟩ = some (.string x))) := fun W' hW => ⟨hW.cell HX1.out.t0, hW.cell HX1.out.t1, hW.cell HX1.out.t2, hW.cell HX1.out.o0, hW.cell HX1.out.o1, hW.cell HX1.out.o2, hW.cell HX1.out.o3⟩
 go_region_held3 (fun W' => W'.cell? ⟨w.heap.size, 0, none⟩ = some (.bool true) ∧ W'.cell? ⟨w.heap.size, 1, none⟩ = some (.string ⟨#[]⟩) ∧ W'.cell? ⟨w.heap.size, 2, none⟩ = some (.map (some (A ⟨#[47]⟩))) ∧ W'.cell? ⟨w.heap.size + 1, 0, none⟩ = some (.int .i64 k) ∧ W'.cell? ⟨w.heap.size + 1, 1, none⟩ = some (.string p) ∧ W'.cell? ⟨w.heap.size + 1, 2, none⟩ = some (.string t) ∧ W'.cell? ⟨w.heap.size + 1, 3, none⟩ = some (.string x))
  ((first | exact AS.out _ (Turn.of_below (Below.refl _ _).drew hb1) | exact AS.out _ (Turn.of_below (belowT (Below.refl _ _).drew hB3) hb1) | exact AS.out _ ((Turn.of_below (belowT (Below.refl _ _).drew hB3) hb1).trans ht4)))
  (first | (go_at_call 33; refine (HDe.out _).mono ?_; rintro e w3 ⟨rfl, hB3⟩) | (go_at_call 134; refine (HDo.out _ (belowT hB1 (belowT (Below.refl _ _).drew hB3))).mono ?_; rintro e w4 ⟨rfl, ht4, hr4⟩) | fail)
 all_goals (
  go_wp2
  go_ret
  exact ⟨rfl, (Turn.of_below (hBw.trans ((belowT hB1 (belowT (Below.refl _ _).drew hB3)).mono hBw.size)) hb).trans ht4, hr4⟩)
set_option maxHeartbeats 2000000 in
set_option maxRecDepth 100000 in
theorem do_rmOp (w : World) (base N : Nat) (A : ByteArray → Nat) (ae : Int → Addr) (k : Int) (p t x : ByteArray) (hp : p.size ≤ 16777216) (ht : t.size ≤ 16777216) (hb : base ≤ w.heap.size) (hk : deedT k = 100) (hop : (pathB p && fitB k t x) = true) (c : Int) (es2 : List E)
  (HD : ∀ W, Below w.heap.size w W → Calls Tryz.prog 136 #[opV k p t x, treeV A] W fun r w' => r = .returned (errV ae c) ∧ Turn base W w' ∧ ∃ A', A' ⟨#[47]⟩ = A ⟨#[47]⟩ ∧ Rep w' base (N + 1) es2 A') :
  Calls Tryz.prog 15 #[treeV A, opV k p t x] w fun r w' => r = .returned (errV ae c) ∧ Turn base w w' ∧ ∃ A', A' ⟨#[47]⟩ = A ⟨#[47]⟩ ∧ Rep w' base (N + 1) es2 A' := by
 obtain ⟨W0, hW0⟩ : ∃ W0, W0 = (w.alloc (.cells #[.bool true, .string ⟨#[]⟩, .map (some (A ⟨#[47]⟩))] 38)).alloc (.cells #[.int .i64 k, .string p, .string t, .string x] 25) := ⟨_, rfl⟩
 have hBw : Below w.heap.size w W0 := hW0 ▸ ((Below.refl _ w).alloc (Nat.le_refl _) _).alloc (by simp) _
 have HX : Hid (TdBox W0 w.heap.size A k p t x) := by
  subst hW0
  constructor <;> simp
 have HO := hid (fun W => iOpOk_any W k p t x hp ht); rw [hop] at HO; have HDe := hid (fun W => deedOf_any k p t x W); rw [hk] at HDe; have HDo := hid (fun (W : World) (hW : Below W0.heap.size W0 W) => HD W (hBw.trans (hW.mono hBw.size))); have hm : ∀ W, (method 306 100 (opV k p t x) "loop.example/pargeting/impl.do").run Tryz.prog W = .ok (136, opV k p t x) W := fun _ => by kernel_rfl
 obtain ⟨ev, hev⟩ : ∃ ev, errV ae c = ev := ⟨_, rfl⟩
 rw [hev] at HDo; rw [hev]; clear HD hev; go_enter Tryz.func15, Tryz.ntmps15
 go_wp2_with (first | (go_at_call 32; rw [← hW0]; refine (HO.out _).mono ?_; rintro e w1 ⟨rfl, hB1⟩) | fail)
 clear hW0; have HX1 := hid (HX.out.below hB1); have hb1 : base ≤ w1.heap.size := Nat.le_trans hb (hBw.trans (hB1.mono hBw.size)).size; have AS : Hid (∀ W', Turn base w1 W' → (W'.cell? ⟨w.heap.size, 0, none⟩ = some (.bool true) ∧ W'.cell? ⟨w.heap.size, 1, none⟩ = some (.string ⟨#[]⟩) ∧ W'.cell? ⟨w.heap.size, 2, none⟩ = some (.map (some (A ⟨#[47]⟩))) ∧ W'.cell? ⟨w.heap.size + 1, 0, none⟩ = some (.int .i64 k) ∧ W'.cell? ⟨w.heap.size + 1, 1, none⟩ = some (.string p) ∧ W'.cell? ⟨w.heap.size + 1, 2, none⟩ = some (.string t) ∧ W'.cell? ⟨w.heap.size + 1, 3, none⟩ = some (.string x))) := fun W' hW => ⟨hW.cell HX1.out.t0, hW.cell HX1.out.t1, hW.cell HX1.out.t2, hW.cell HX1.out.o0, hW.cell HX1.out.o1, hW.cell HX1.out.o2, hW.cell HX1.out.o3⟩
 go_region_held3 (fun W' => W'.cell? ⟨w.heap.size, 0, none⟩ = some (.bool true) ∧ W'.cell? ⟨w.heap.size, 1, none⟩ = some (.string ⟨#[]⟩) ∧ W'.cell? ⟨w.heap.size, 2, none⟩ = some (.map (some (A ⟨#[47]⟩))) ∧ W'.cell? ⟨w.heap.size + 1, 0, none⟩ = some (.int .i64 k) ∧ W'.cell? ⟨w.heap.size + 1, 1, none⟩ = some (.string p) ∧ W'.cell? ⟨w.heap.size + 1, 2, none⟩ = some (.string t) ∧ W'.cell? ⟨w.heap.size + 1, 3, none⟩ = some (.string x))
  ((first | exact AS.out _ (Turn.of_below (Below.refl _ _).drew hb1) | exact AS.out _ (Turn.of_below (belowT (Below.refl _ _).drew hB3) hb1) | exact AS.out _ ((Turn.of_below (belowT (Below.refl _ _).drew hB3) hb1).trans ht4)))
  (first | (go_at_call 33; refine (HDe.out _).mono ?_; rintro e w3 ⟨rfl, hB3⟩) | (go_at_call 136; refine (HDo.out _ (belowT hB1 (belowT (Below.refl _ _).drew hB3))).mono ?_; rintro e w4 ⟨rfl, ht4, hr4⟩) | fail)
 all_goals (
  go_wp2
  go_ret
  exact ⟨rfl, (Turn.of_below (hBw.trans ((belowT hB1 (belowT (Below.refl _ _).drew hB3)).mono hBw.size)) hb).trans ht4, hr4⟩)
set_option maxHeartbeats 2000000 in
set_option maxRecDepth 100000 in
theorem do_rmdirOp (w : World) (base N : Nat) (A : ByteArray → Nat) (ae : Int → Addr) (k : Int) (p t x : ByteArray) (hp : p.size ≤ 16777216) (ht : t.size ≤ 16777216) (hb : base ≤ w.heap.size) (hk : deedT k = 101) (hop : (pathB p && fitB k t x) = true) (c : Int) (es2 : List E)
  (HD : ∀ W, Below w.heap.size w W → Calls Tryz.prog 138 #[opV k p t x, treeV A] W fun r w' => r = .returned (errV ae c) ∧ Turn base W w' ∧ ∃ A', A' ⟨#[47]⟩ = A ⟨#[47]⟩ ∧ Rep w' base (N + 1) es2 A') :
  Calls Tryz.prog 15 #[treeV A, opV k p t x] w fun r w' => r = .returned (errV ae c) ∧ Turn base w w' ∧ ∃ A', A' ⟨#[47]⟩ = A ⟨#[47]⟩ ∧ Rep w' base (N + 1) es2 A' := by
 obtain ⟨W0, hW0⟩ : ∃ W0, W0 = (w.alloc (.cells #[.bool true, .string ⟨#[]⟩, .map (some (A ⟨#[47]⟩))] 38)).alloc (.cells #[.int .i64 k, .string p, .string t, .string x] 25) := ⟨_, rfl⟩
 have hBw : Below w.heap.size w W0 := hW0 ▸ ((Below.refl _ w).alloc (Nat.le_refl _) _).alloc (by simp) _
 have HX : Hid (TdBox W0 w.heap.size A k p t x) := by
  subst hW0
  constructor <;> simp
 have HO := hid (fun W => iOpOk_any W k p t x hp ht); rw [hop] at HO; have HDe := hid (fun W => deedOf_any k p t x W); rw [hk] at HDe; have HDo := hid (fun (W : World) (hW : Below W0.heap.size W0 W) => HD W (hBw.trans (hW.mono hBw.size))); have hm : ∀ W, (method 306 101 (opV k p t x) "loop.example/pargeting/impl.do").run Tryz.prog W = .ok (138, opV k p t x) W := fun _ => by kernel_rfl
 obtain ⟨ev, hev⟩ : ∃ ev, errV ae c = ev := ⟨_, rfl⟩
 rw [hev] at HDo; rw [hev]; clear HD hev; go_enter Tryz.func15, Tryz.ntmps15
 go_wp2_with (first | (go_at_call 32; rw [← hW0]; refine (HO.out _).mono ?_; rintro e w1 ⟨rfl, hB1⟩) | fail)
 clear hW0; have HX1 := hid (HX.out.below hB1); have hb1 : base ≤ w1.heap.size := Nat.le_trans hb (hBw.trans (hB1.mono hBw.size)).size; have AS : Hid (∀ W', Turn base w1 W' → (W'.cell? ⟨w.heap.size, 0, none⟩ = some (.bool true) ∧ W'.cell? ⟨w.heap.size, 1, none⟩ = some (.string ⟨#[]⟩) ∧ W'.cell? ⟨w.heap.size, 2, none⟩ = some (.map (some (A ⟨#[47]⟩))) ∧ W'.cell? ⟨w.heap.size + 1, 0, none⟩ = some (.int .i64 k) ∧ W'.cell? ⟨w.heap.size + 1, 1, none⟩ = some (.string p) ∧ W'.cell? ⟨w.heap.size + 1, 2, none⟩ = some (.string t) ∧ W'.cell? ⟨w.heap.size + 1, 3, none⟩ = some (.string x))) := fun W' hW => ⟨hW.cell HX1.out.t0, hW.cell HX1.out.t1, hW.cell HX1.out.t2, hW.cell HX1.out.o0, hW.cell HX1.out.o1, hW.cell HX1.out.o2, hW.cell HX1.out.o3⟩
 go_region_held3 (fun W' => W'.cell? ⟨w.heap.size, 0, none⟩ = some (.bool true) ∧ W'.cell? ⟨w.heap.size, 1, none⟩ = some (.string ⟨#[]⟩) ∧ W'.cell? ⟨w.heap.size, 2, none⟩ = some (.map (some (A ⟨#[47]⟩))) ∧ W'.cell? ⟨w.heap.size + 1, 0, none⟩ = some (.int .i64 k) ∧ W'.cell? ⟨w.heap.size + 1, 1, none⟩ = some (.string p) ∧ W'.cell? ⟨w.heap.size + 1, 2, none⟩ = some (.string t) ∧ W'.cell? ⟨w.heap.size + 1, 3, none⟩ = some (.string x))
  ((first | exact AS.out _ (Turn.of_below (Below.refl _ _).drew hb1) | exact AS.out _ (Turn.of_below (belowT (Below.refl _ _).drew hB3) hb1) | exact AS.out _ ((Turn.of_below (belowT (Below.refl _ _).drew hB3) hb1).trans ht4)))
  (first | (go_at_call 33; refine (HDe.out _).mono ?_; rintro e w3 ⟨rfl, hB3⟩) | (go_at_call 138; refine (HDo.out _ (belowT hB1 (belowT (Below.refl _ _).drew hB3))).mono ?_; rintro e w4 ⟨rfl, ht4, hr4⟩) | fail)
 all_goals (
  go_wp2
  go_ret
  exact ⟨rfl, (Turn.of_below (hBw.trans ((belowT hB1 (belowT (Below.refl _ _).drew hB3)).mono hBw.size)) hb).trans ht4, hr4⟩)
set_option maxHeartbeats 2000000 in
set_option maxRecDepth 100000 in
theorem do_moveOp (w : World) (base N : Nat) (A : ByteArray → Nat) (ae : Int → Addr) (k : Int) (p t x : ByteArray) (hp : p.size ≤ 16777216) (ht : t.size ≤ 16777216) (hb : base ≤ w.heap.size) (hk : deedT k = 102) (hop : (pathB p && fitB k t x) = true) (c : Int) (es2 : List E)
  (HD : ∀ W, Below w.heap.size w W → Calls Tryz.prog 140 #[opV k p t x, treeV A] W fun r w' => r = .returned (errV ae c) ∧ Turn base W w' ∧ ∃ A', A' ⟨#[47]⟩ = A ⟨#[47]⟩ ∧ Rep w' base (N + 1) es2 A') :
  Calls Tryz.prog 15 #[treeV A, opV k p t x] w fun r w' => r = .returned (errV ae c) ∧ Turn base w w' ∧ ∃ A', A' ⟨#[47]⟩ = A ⟨#[47]⟩ ∧ Rep w' base (N + 1) es2 A' := by
 obtain ⟨W0, hW0⟩ : ∃ W0, W0 = (w.alloc (.cells #[.bool true, .string ⟨#[]⟩, .map (some (A ⟨#[47]⟩))] 38)).alloc (.cells #[.int .i64 k, .string p, .string t, .string x] 25) := ⟨_, rfl⟩
 have hBw : Below w.heap.size w W0 := hW0 ▸ ((Below.refl _ w).alloc (Nat.le_refl _) _).alloc (by simp) _
 have HX : Hid (TdBox W0 w.heap.size A k p t x) := by
  subst hW0
  constructor <;> simp
 have HO := hid (fun W => iOpOk_any W k p t x hp ht); rw [hop] at HO; have HDe := hid (fun W => deedOf_any k p t x W); rw [hk] at HDe; have HDo := hid (fun (W : World) (hW : Below W0.heap.size W0 W) => HD W (hBw.trans (hW.mono hBw.size))); have hm : ∀ W, (method 306 102 (opV k p t x) "loop.example/pargeting/impl.do").run Tryz.prog W = .ok (140, opV k p t x) W := fun _ => by kernel_rfl
 obtain ⟨ev, hev⟩ : ∃ ev, errV ae c = ev := ⟨_, rfl⟩
 rw [hev] at HDo; rw [hev]; clear HD hev; go_enter Tryz.func15, Tryz.ntmps15
 go_wp2_with (first | (go_at_call 32; rw [← hW0]; refine (HO.out _).mono ?_; rintro e w1 ⟨rfl, hB1⟩) | fail)
 clear hW0; have HX1 := hid (HX.out.below hB1); have hb1 : base ≤ w1.heap.size := Nat.le_trans hb (hBw.trans (hB1.mono hBw.size)).size; have AS : Hid (∀ W', Turn base w1 W' → (W'.cell? ⟨w.heap.size, 0, none⟩ = some (.bool true) ∧ W'.cell? ⟨w.heap.size, 1, none⟩ = some (.string ⟨#[]⟩) ∧ W'.cell? ⟨w.heap.size, 2, none⟩ = some (.map (some (A ⟨#[47]⟩))) ∧ W'.cell? ⟨w.heap.size + 1, 0, none⟩ = some (.int .i64 k) ∧ W'.cell? ⟨w.heap.size + 1, 1, none⟩ = some (.string p) ∧ W'.cell? ⟨w.heap.size + 1, 2, none⟩ = some (.string t) ∧ W'.cell? ⟨w.heap.size + 1, 3, none⟩ = some (.string x))) := fun W' hW => ⟨hW.cell HX1.out.t0, hW.cell HX1.out.t1, hW.cell HX1.out.t2, hW.cell HX1.out.o0, hW.cell HX1.out.o1, hW.cell HX1.out.o2, hW.cell HX1.out.o3⟩
 go_region_held3 (fun W' => W'.cell? ⟨w.heap.size, 0, none⟩ = some (.bool true) ∧ W'.cell? ⟨w.heap.size, 1, none⟩ = some (.string ⟨#[]⟩) ∧ W'.cell? ⟨w.heap.size, 2, none⟩ = some (.map (some (A ⟨#[47]⟩))) ∧ W'.cell? ⟨w.heap.size + 1, 0, none⟩ = some (.int .i64 k) ∧ W'.cell? ⟨w.heap.size + 1, 1, none⟩ = some (.string p) ∧ W'.cell? ⟨w.heap.size + 1, 2, none⟩ = some (.string t) ∧ W'.cell? ⟨w.heap.size + 1, 3, none⟩ = some (.string x))
  ((first | exact AS.out _ (Turn.of_below (Below.refl _ _).drew hb1) | exact AS.out _ (Turn.of_below (belowT (Below.refl _ _).drew hB3) hb1) | exact AS.out _ ((Turn.of_below (belowT (Below.refl _ _).drew hB3) hb1).trans ht4)))
  (first | (go_at_call 33; refine (HDe.out _).mono ?_; rintro e w3 ⟨rfl, hB3⟩) | (go_at_call 140; refine (HDo.out _ (belowT hB1 (belowT (Below.refl _ _).drew hB3))).mono ?_; rintro e w4 ⟨rfl, ht4, hr4⟩) | fail)
 all_goals (
  go_wp2
  go_ret
  exact ⟨rfl, (Turn.of_below (hBw.trans ((belowT hB1 (belowT (Below.refl _ _).drew hB3)).mono hBw.size)) hb).trans ht4, hr4⟩)
set_option maxHeartbeats 2000000 in
theorem do_bad (w : World) (base N : Nat) (es : List E) (A : ByteArray → Nat) (ae : Int → Addr) (R : Rep w base N es A) (hE : Errs8 w ae) (k : Int) (p t x : ByteArray) (hp : p.size ≤ 16777216) (ht : t.size ≤ 16777216) (hb : base ≤ w.heap.size) (hop : (pathB p && fitB k t x) = false) :
  Calls Tryz.prog 15 #[treeV A, opV k p t x] w fun r w' => r = .returned (errV ae 1) ∧ Turn base w w' ∧ ∃ A', A' ⟨#[47]⟩ = A ⟨#[47]⟩ ∧ Rep w' base (N + 1) es A' := by
 obtain ⟨W0, hW0⟩ : ∃ W0, W0 = (w.alloc (.cells #[.bool true, .string ⟨#[]⟩, .map (some (A ⟨#[47]⟩))] 38)).alloc (.cells #[.int .i64 k, .string p, .string t, .string x] 25) := ⟨_, rfl⟩
 have hBw : Below w.heap.size w W0 := hW0 ▸ ((Below.refl _ w).alloc (Nat.le_refl _) _).alloc (by simp) _
 have HX : Hid (TdBox W0 w.heap.size A k p t x) := by
  subst hW0
  constructor <;> simp
 have HO := hid (fun W => iOpOk_any W k p t x hp ht); rw [hop] at HO; rw [errV_no (by decide)]; go_enter Tryz.func15, Tryz.ntmps15
 go_wp2_with (go_at_call 32; rw [← hW0]; refine (HO.out _).mono ?_; rintro e w1 ⟨rfl, hB1⟩; have n1 := ((hE.below hBw).below hB1).bad)
 go_ret
 have hBf := hBw.trans (hB1.mono hBw.size); exact ⟨rfl, Turn.of_below hBf hb, A, rfl, (R.below hBf).more⟩
theorem moveC_none {es : List E} {p t : ByteArray} (hp : pathB p = true) (hl : lookE es p = none) : moveC es p t = 2 := by
 unfold moveC; rw [getE_look (root_not_path hp), hl]; rfl
theorem moveC_up {es : List E} {p t : ByteArray} (hp : pathB p = true) {e : E} (hl : lookE es p = some e) (h : dirC es (upS t) ≠ 0) : moveC es p t = dirC es (upS t) := by
 have hu : upC es t = dirC es (upS t) := rfl; unfold moveC; rw [getE_look (root_not_path hp), hl, hu, if_neg (by simp), if_pos h]
theorem moveC_on {es : List E} {p t : ByteArray} (hp : pathB p = true) (ht : pathB t = true) {e : E} (hl : lookE es p = some e) (h : dirE es (upS t) = true) : moveC es p t = if (lookE es t).isSome = true then 4 else if underI t p = true then 7 else if fitE es p t = true then 0 else 8 := by
 have hu : upC es t = 0 := dirC_dir h; have hun : underL t p = underI t p := by rw [underI_eq, ht, stemOk_path hp]; rfl
 unfold moveC; rw [getE_look (root_not_path hp), hl, hu, if_neg (by simp), if_neg (by simp), getE_look (root_not_path ht), hun]
def endC (es : List E) (k : Int) (p t x : ByteArray) : Int := if (pathB p && fitB k t x) = true then codeC es k p t else 1
theorem fit_kind {k : Int} {t x : ByteArray} (h : fitB k t x = true) : k = 1 ∨ k = 2 ∨ k = 3 ∨ k = 4 ∨ k = 5 := by
 unfold fitB at h; by_cases h1 : k = 1
 ·
  exact .inl h1
 ·
  by_cases h2 : k = 2
  ·
   exact .inr (.inl h2)
  ·
   by_cases h3 : k = 3
   ·
    exact .inr (.inr (.inl h3))
   ·
    by_cases h4 : k = 4
    ·
     exact .inr (.inr (.inr (.inl h4)))
    ·
     by_cases h5 : k = 5
     ·
      exact .inr (.inr (.inr (.inr h5)))
     ·
      rw [if_neg h1, if_neg h2, if_neg h3, if_neg h4, if_neg h5] at h; cases h
theorem do_any (w : World) (base N : Nat) (es : List E) (A : ByteArray → Nat) (ae : Int → Addr) (T : TrE es) (R : Rep w base N es A) (hE : Errs8 w ae) (k : Int) (p t x : ByteArray) (hp : p.size ≤ 16777216) (ht : t.size ≤ 16777216) (hx : x.size ≤ 16777216) (hb : base ≤ w.heap.size) (hN : N < 900) (hes : es.length ≤ 16) :
  Calls Tryz.prog 15 #[treeV A, opV k p t x] w fun r w' => r = .returned (errV ae (endC es k p t x)) ∧ Turn base w w' ∧ ∃ A', A' ⟨#[47]⟩ = A ⟨#[47]⟩ ∧ Rep w' base (N + 1) (if endC es k p t x = 0 then madeE es k p t x else es) A' := by
 cases hop : (pathB p && fitB k t x) with
 | false =>
  have hc : endC es k p t x = 1 := by unfold endC; rw [hop]; rfl
  rw [hc, if_neg (by decide)]; exact do_bad w base N es A ae R hE k p t x hp ht hb hop
 | true =>
  have hc : endC es k p t x = codeC es k p t := by unfold endC; rw [hop]; rfl
  rw [hc]; obtain ⟨hpb, hfb⟩ : pathB p = true ∧ fitB k t x = true := by rwa [Bool.and_eq_true] at hop
  rcases fit_kind hfb with rfl | rfl | rfl | rfl | rfl
  ·
   refine do_makeOp w base N A ae 1 p t x hp ht hb rfl hop _ _ fun W hW => ?_; exact makeDo_any W base N es A ae T (R.below hW) (hE.below hW) 1 p t x hpb hp (Nat.le_trans hb hW.size) hN hes
  ·
   refine do_putOp w base N A ae 2 p t x hp ht hb rfl hop _ _ fun W hW => ?_; exact putDo_any W base N es A ae T (R.below hW) (hE.below hW) 2 p t x hpb hp hx (Nat.le_trans hb hW.size) hN hes
  ·
   refine do_rmOp w base N A ae 3 p t x hp ht hb rfl hop _ _ fun W hW => ?_; exact rmDo_any W base N es A ae T (R.below hW) (hE.below hW) 3 p t x hpb hp (Nat.le_trans hb hW.size)
  ·
   refine do_rmdirOp w base N A ae 4 p t x hp ht hb rfl hop _ _ fun W hW => ?_; exact rmdirDo_any W base N es A ae T (R.below hW) (hE.below hW) 4 p t x hpb hp (Nat.le_trans hb hW.size)
  ·
   have htb : pathB t = true := by
    have : (pathB t && emB x) = true := hfb; rw [Bool.and_eq_true] at this; exact this.1
   refine do_moveOp w base N A ae 5 p t x hp ht hb rfl hop _ _ fun W hW => ?_; have hW' := Nat.le_trans hb hW.size; show Calls Tryz.prog 140 #[opV 5 p t x, treeV A] W fun r w' => r = .returned (errV ae (moveC es p t)) ∧ Turn base W w' ∧ ∃ A', A' ⟨#[47]⟩ = A ⟨#[47]⟩ ∧ Rep w' base (N + 1) (if moveC es p t = 0 then movE es p t else es) A'
   cases hl : lookE es p with
   | none =>
    rw [moveC_none hpb hl, if_neg (by decide)]; exact move_none W base N es A ae T (R.below hW) (hE.below hW) 5 p t x hpb hp hl hW'
   | some e0 =>
    by_cases hc0 : dirC es (upS t) = 0
    ·
     have hdir := dirC_zero hc0; rw [moveC_on hpb htb hl hdir]; cases hlt : lookE es t with
     | some f =>
      rw [if_pos (show (some f).isSome = true from rfl), if_neg (by decide)]; exact move_there W base N es A ae T (R.below hW) (hE.below hW) 5 p t x hpb hp ht e0 hl htb hdir f hlt hW'
     | none =>
      rw [if_neg (show ¬ (none : Option E).isSome = true by simp)]; cases hun : underI t p with
      | true =>
       rw [if_pos rfl, if_neg (by decide)]; exact move_under W base N es A ae T (R.below hW) (hE.below hW) 5 p t x hpb hp ht e0 hl htb hdir hlt hun hW'
      | false =>
       rw [if_neg (by simp)]; cases hfi : fitE es p t with
       | true =>
        rw [if_pos rfl, if_pos rfl]; exact move_fit W base N es A ae T (R.below hW) (hE.below hW) 5 p t x hpb hp ht e0 hl htb hdir hlt hun hN hes hfi hW'
       | false =>
        rw [if_neg (by simp), if_neg (by decide)]; exact move_room W base N es A ae T (R.below hW) (hE.below hW) 5 p t x hpb hp ht e0 hl htb hdir hlt hun hN hes hfi hW'
    ·
     rw [moveC_up hpb hl hc0, if_neg hc0]; exact move_up W base N es A ae T (R.below hW) (hE.below hW) 5 p t x hpb hp ht e0 hl hc0 hW'
end Go.Proofs.YtafeddiijemnbaaGreatDoor
