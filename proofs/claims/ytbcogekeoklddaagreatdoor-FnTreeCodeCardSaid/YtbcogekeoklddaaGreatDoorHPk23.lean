/-
  The walk of the program's own: something is taken out of the directory that it is in.
-/
import Derived.Deep.RegionHeld3
import Derived.Test.YtbcogekeoklddaaGreatDoorHReadyB
import Derived.Test.YtbcogekeoklddaaGreatDoorHPk21
import Derived.Test.YtbcogekeoklddaaGreatDoorHNamesI
import Derived.Test.YtbcogekeoklddaaGreatDoorHPk13
import Derived.RangeFuncLeaves
import Derived.Test.YtbcogekeoklddaaGreatDoorHPk18
namespace Go.Proofs.YtbcogekeoklddaaGreatDoor
open Go.RowKit Go.Shelf Go.Lib

attribute [local go_sem] Oper.semAt_some

set_option maxHeartbeats 4000000 in
set_option maxRecDepth 100000 in
theorem cut_any (w : World) (base N : Nat) (es : List E) (A : ByteArray → Nat) (T : TrE es) (R : Rep w base N es A) (p : ByteArray) (hpb : pathB p = true) (hp : p.size ≤ 16777216) (hdir : dirE es (upS p) = true) :
    Calls Tryz.prog 139 #[treeV A, .string p] w fun r w' => (∃ v, r = .returned v) ∧ ∃ V, Below w.heap.size w V ∧ V.mapTurned w' (A (upS p)) ∧ MapIs w' (A (upS p)) N (fun t => if t = nmS p then none else kidF es A (upS p) t) := by
  obtain ⟨W0, hW0⟩ : ∃ W0, W0 = w.alloc (.cells #[.bool true, .string ⟨#[]⟩, .map (some (A ⟨#[47]⟩))] 61) := ⟨_, rfl⟩
  have hBw : Below w.heap.size w W0 := hW0 ▸ (Below.refl _ w).alloc (Nat.le_refl _) _
  have AS : Hid (∀ W', Below W0.heap.size W0 W' → (W'.cell? ⟨w.heap.size, 0, none⟩ = some (.bool true) ∧ W'.cell? ⟨w.heap.size, 1, none⟩ = some (.string ⟨#[]⟩) ∧ W'.cell? ⟨w.heap.size, 2, none⟩ = some (.map (some (A ⟨#[47]⟩))))) := fun W' hW => by
    subst hW0
    exact box3n hW
  have AR : Hid (∀ W', Below W0.heap.size W0 W' → Rep W' base N es A) := fun W' hW => (R.below hBw).below hW
  have HU := hid (fun W => iPathUp_any p hp W)
  have hus : (upS p).size ≤ 4611686018427387904 := by have := upS_size p; omega
  have HAt := hid (fun (W : World) (hW : Rep W base N es A) => at_any W base N es A T hW (upS p) hus)
  have HN5 := hid (fun W => iPathName_any p hp W)
  have hnz := name_len hpb
  obtain ⟨xx, hxx⟩ := atE_dir (A := A) hdir
  rw [hxx] at HAt
  clear R hxx
  go_enter Tryz.func139, Tryz.ntmps139
  go_wp2_with fail
  rw [← hW0]
  clear hW0
  rename_i Qx Kx hKx
  have HK : Hid (∀ (b : Nat) (W : World), Below W0.heap.size W0 W → W.cell? ⟨b, 2, none⟩ = some (.map (some (A (upS p)))) → Kx { tmps := #[treeV A, .string p, .pointer (some ⟨w.heap.size, 0, none⟩), undef, .pointer (some ⟨b, 0, none⟩), .bool true, .tuple #[.agg #[.bool true, .string xx, .map (some (A (upS p)))], .bool true], treeV A, .string p, .string (upS p), .tuple #[.agg #[.bool true, .string xx, .map (some (A (upS p)))], .bool true], .agg #[.bool true, .string xx, .map (some (A (upS p)))], .bool true, undef, undef, undef, undef], defers := [] } W) := by
    intro b W hBW hb2
    refine hKx _ _ ?_
    go_wp2
    refine wp_region_any (by kernel_rfl) ?_
    change wpAny _ _ _ _ _ _ _ (World.drew _)
    refine wpAny_take (i := 0) (v := ?_) rfl (by kernel_rfl) (by kernel_rfl) (by kernel_rfl) (fun _ _ _ h => h) (Or.inl ⟨by rfl, ?_⟩) ?_
    rotate_left 1
    · intro w; go_simp; first | done | with_reducible rfl
    refine wpAny_take (i := 2) (v := ?_) rfl (by kernel_rfl) (by kernel_rfl) (by kernel_rfl) (fun _ _ _ h => h) (Or.inl ⟨by rfl, ?_⟩) ?_
    rotate_left 1
    · intro w; go_simp; first | done | with_reducible rfl
    refine wpAny_ready (rs := [1, 3]) (by kernel_rfl) (by simp) ?_
    refine AllReady.cons rfl (fun K hK => ?_) ?_
    · go_simp
      refine hK _ _ ?_
      clear hK K
      refine wpAny_ready (rs := [3]) (by kernel_rfl) (by simp) ?_
      refine AllReady.cons rfl (fun K hK => ?_) ?_
      · go_simp
        go_wp2_with (go_at_call 90; refine (HN5.out _).mono ?_; rintro e w7 ⟨rfl, hB7⟩; have hb7 := below_cell hB7 (show W.drew.cell? ⟨b, 2, none⟩ = some (.map (some (A (upS p)))) from hb2))
        obtain ⟨w8, hdl, hm8, ht8⟩ := ((AR.out _ (belowT (hBW.drew) hB7)).kids _ hdir).drop hnz 0
        refine wpAny_ready (rs := [4]) (by kernel_rfl) (by simp) ?_
        refine ready_delete0 _ _ _ _ rfl (by kernel_rfl) rfl hdl ?_
        refine wpAny_done (by kernel_rfl) ?_ _
        go_wp2
        refine bodyPost_end (results_none rfl _ _ _) rfl ⟨⟨_, rfl⟩, w7, hBw.trans ((belowT (hBW.drew) hB7).mono hBw.size), ht8, hm8⟩
      exact AllReady.nil
    refine AllReady.cons rfl (fun K hK => ?_) ?_
    · go_simp
      go_wp2_with (go_at_call 90; refine (HN5.out _).mono ?_; rintro e w7 ⟨rfl, hB7⟩; have hb7 := below_cell hB7 (show W.drew.cell? ⟨b, 2, none⟩ = some (.map (some (A (upS p)))) from hb2))
      refine wpAny_ready (rs := [1]) (by kernel_rfl) (by simp) ?_
      refine AllReady.cons rfl (fun K hK => ?_) ?_
      · go_simp
        refine hK _ _ ?_
        clear hK K
        obtain ⟨w8, hdl, hm8, ht8⟩ := ((AR.out _ (belowT (hBW.drew) hB7)).kids _ hdir).drop hnz 0
        refine wpAny_ready (rs := [4]) (by kernel_rfl) (by simp) ?_
        refine ready_delete0 _ _ _ _ rfl (by kernel_rfl) rfl hdl ?_
        refine wpAny_done (by kernel_rfl) ?_ _
        go_wp2
        refine bodyPost_end (results_none rfl _ _ _) rfl ⟨⟨_, rfl⟩, w7, hBw.trans ((belowT (hBW.drew) hB7).mono hBw.size), ht8, hm8⟩
      exact AllReady.nil
    exact AllReady.nil
  clear hKx
  go_region_held3 (fun W' => W'.cell? ⟨w.heap.size, 0, none⟩ = some (.bool true) ∧ W'.cell? ⟨w.heap.size, 1, none⟩ = some (.string ⟨#[]⟩) ∧ W'.cell? ⟨w.heap.size, 2, none⟩ = some (.map (some (A ⟨#[47]⟩))))
    ((refine AS.out _ ?_; repeat (first | exact Below.refl _ _ | apply belowA | refine belowT ?_ hB4 | refine belowT ?_ hB3 | apply Below.drew | refine set3_below ?_ (by first | exact Nat.le_refl _ | (have h3 := hB3.size; have h4 := hB4.size; simp at h3 h4 ⊢; omega)) _ _ _)))
    (first | (go_at_call 25; refine (HU.out _).mono ?_; rintro e w3 ⟨rfl, hB3⟩; obtain ⟨bc3, bf3⟩ := bcellN hB3; have l3 := hB3.size; (try simp at l3); (try (have z0 := bc3 W0.heap.size 0 (lt_allocD _ _); have z1 := bc3 W0.heap.size 1 (lt_allocD _ _); have z2 := bc3 W0.heap.size 2 (lt_allocD _ _); have z3 := bf3 W0.heap.size 0 (lt_allocD _ _); have z4 := bf3 W0.heap.size 1 (lt_allocD _ _); have z5 := bf3 W0.heap.size 2 (lt_allocD _ _); simp at z0 z1 z2 z3 z4 z5)); clear bc3 bf3) | (go_at_call 38; refine (HAt.out _ (AR.out _ (by repeat (first | exact Below.refl _ _ | apply belowA | refine belowT ?_ hB3 | apply Below.drew)))).mono ?_; rintro e w4 ⟨rfl, hB4⟩; obtain ⟨bc4, bf4⟩ := bcellN hB4; have l4 := hB4.size; (try simp at l4); (try (have z0 := bc4 w3.heap.size 0 (lt_alloc _ _); have z1 := bc4 w3.heap.size 1 (lt_alloc _ _); have z2 := bc4 w3.heap.size 2 (lt_alloc _ _); have z3 := bf4 w3.heap.size 0 (lt_alloc _ _); have z4 := bf4 w3.heap.size 1 (lt_alloc _ _); have z5 := bf4 w3.heap.size 2 (lt_alloc _ _); simp at z0 z1 z2 z3 z4 z5)); (try (have v0 := (bc4 W0.heap.size 0 l3).trans z0; have v1 := (bc4 W0.heap.size 1 l3).trans z1; have v2 := (bc4 W0.heap.size 2 l3).trans z2; have v3 := (bf4 W0.heap.size 0 l3).trans z3; have v4 := (bf4 W0.heap.size 1 l3).trans z4; have v5 := (bf4 W0.heap.size 2 l3).trans z5)); clear bc4 bf4))
  all_goals refine HK.out _ _ (by repeat (first | exact Below.refl _ _ | apply belowA | refine belowT ?_ hB4 | refine belowT ?_ hB3 | apply Below.drew | refine set3_below ?_ (by first | exact Nat.le_refl _ | (have h3 := hB3.size; have h4 := hB4.size; simp at h3 h4 ⊢; omega)) _ _ _)) ?_
  all_goals first | exact (set3_cells v0 v1 v2 _ _ _).2.2 | exact (set3_cells z0 z1 z2 _ _ _).2.2 | simp
end Go.Proofs.YtbcogekeoklddaaGreatDoor

/-
  The walks of the program's own: a file is taken away, a directory is taken away.
-/
namespace Go.Proofs.YtbcogekeoklddaaGreatDoor
open Go.RowKit Go.Shelf Go.Lib Go.Maps

attribute [local go_sem] Oper.semAt_some

/-- How much a directory's map has. -/
theorem kids_size {w : World} {b N : Nat} {es : List E} {A : ByteArray → Nat} {p : ByteArray} (T : TrE es) (hst : stemOk p = true) (h : MapIs w b N (kidF es A p)) :
    ∃ m : Nat, (∀ ty, (Builtin.len_ #[57] ty #[.map (some b)]).run Tryz.prog w = .ok (.int .i64 m) w) ∧ (0 < m ↔ 0 < (kidsE es p).length) := by
  obtain ⟨D, n, hown, _, hD⟩ := h
  refine ⟨Maps.size D, fun ty => hown.len Tryz.underlying57 ty, ?_⟩
  obtain ⟨es', rfl, hko⟩ := hown.keysOf
  have hk := kids_some (A := A) T hst
  constructor
  · intro hm
    cases es' with
    | nil => simp [Maps.size] at hm
    | cons q r =>
      obtain ⟨v, hv⟩ := hko q (List.mem_cons_self ..)
      obtain ⟨y, _, hy, hl⟩ := Maps.keyOf_str Tryz.underlying9 hv
      have hhas : Maps.has (DataW.map (q :: r)) (.string y) = true := by
        rw [has_eq, List.any_eq_true]
        exact ⟨q, List.mem_cons_self .., by rw [hy]; exact WideAt.sameKey_self trivial⟩
      have hs := hD ⟨y.toArray⟩ (by show y.toArray.size ≤ _; simpa using hl)
      have hm2 : (⟨y.toArray⟩ : ByteArray) ∈ kidsE es p := (hk _).2 ⟨by show y.toArray.size ≤ _; simpa using hl, by rw [← hs.1]; simpa using hhas⟩
      exact List.length_pos_of_mem hm2
  · intro hm
    obtain ⟨s, hs⟩ := List.exists_mem_of_length_pos hm
    obtain ⟨h1, h2⟩ := (hk s).1 hs
    have := (hD s h1).1
    rw [h2, has_eq, List.any_eq_true] at this
    obtain ⟨q, hq, _⟩ := this
    simp only [Maps.size]
    exact List.length_pos_of_mem hq

/-! ### The codes -/
theorem offC_none {es : List E} {k : Int} {p : ByteArray} (hp : pathB p = true) (hl : lookE es p = none) : offC es k p = 2 := by
  unfold offC; rw [getE_look (root_not_path hp), hl]; rfl
theorem offC_some {es : List E} {k : Int} {p : ByteArray} (hp : pathB p = true) {f : E} (hl : lookE es p = some f) : offC es k p = if k = 3 ∧ f.d = true then 5 else if k = 4 ∧ f.d = false then 3 else if 0 < (kidsE es p).length then 6 else 0 := by
  unfold offC; rw [getE_look (root_not_path hp), hl]; rfl

set_option maxHeartbeats 4000000 in
set_option maxRecDepth 100000 in
theorem rmDo_any (w : World) (base N : Nat) (es : List E) (A : ByteArray → Nat) (ae : Int → Addr) (T : TrE es) (R : Rep w base N es A) (hE : Errs8 w ae) (k : Int) (p t x : ByteArray) (hpb : pathB p = true)
    (hp : p.size ≤ 16777216) (hb : base ≤ w.heap.size) :
    Calls Tryz.prog 145 #[opV k p t x, treeV A] w fun r w' => r = .returned (errV ae (offC es 3 p)) ∧ Turn base w w' ∧ ∃ A', A' ⟨#[47]⟩ = A ⟨#[47]⟩ ∧ Rep w' base (N + 1) (if offC es 3 p = 0 then offE es p else es) A' := by
  obtain ⟨W0, hW0⟩ : ∃ W0, W0 = (w.alloc (.cells #[.int .i64 k, .string p, .string t, .string x] 124)).alloc (.cells #[.bool true, .string ⟨#[]⟩, .map (some (A ⟨#[47]⟩))] 61) := ⟨_, rfl⟩
  have hBw : Below w.heap.size w W0 := hW0 ▸ ((Below.refl _ w).alloc (Nat.le_refl _) _).alloc (by simp) _
  have HX : Hid (DoBox W0 w.heap.size A k p t x) := by
    subst hW0
    constructor <;> simp
  have AX : Hid (∀ W', Below W0.heap.size W0 W' → DoBox W' w.heap.size A k p t x) := fun W' hW => HX.out.below hW
  have AR : Hid (∀ W', Below W0.heap.size W0 W' → Rep W' base N es A) := fun W' hW => (R.below hBw).below hW
  have AE : Hid (∀ W', Below W0.heap.size W0 W' → Errs8 W' ae) := fun W' hW => (hE.below hBw).below hW
  have HAt := hid (fun (W : World) (hW : Rep W base N es A) => at_any W base N es A T hW p (by omega))
  have HTu : Hid (∀ W', Below W0.heap.size W0 W' → Turn base w W') := fun W' hW => Turn.of_below (hBw.trans (hW.mono hBw.size)) hb
  have HRk : Hid (∀ W', Below W0.heap.size W0 W' → ∃ A', A' ⟨#[47]⟩ = A ⟨#[47]⟩ ∧ Rep W' base (N + 1) es A') := fun W' hW => ⟨A, rfl, (AR.out W' hW).more⟩
  clear hE R
  cases hl : lookE es p with
  | none =>
    rw [atE_none hpb hl] at HAt
    rw [offC_none hpb hl, if_neg (by decide), errV_no (by decide)]
    go_enter Tryz.func145, Tryz.ntmps145
    go_wp2_with (go_at_call 38; rw [← hW0]; refine (HAt.out _ (AR.out _ (Below.refl _ _))).mono ?_; rintro e w5 ⟨rfl, hB5⟩; have n2 := (AE.out _ hB5).two.noneC; have n2' := fun o => cellOn o n2)
    go_ret
    exact ⟨rfl, HTu.out _ (belowA hB5 _), HRk.out _ (belowA hB5 _)⟩
  | some f =>
    rw [atE_some hpb hl] at HAt
    rw [offC_some hpb hl]
    cases hfd : f.d with
    | true =>
      rw [hfd] at HAt
      rw [if_pos ⟨rfl, rfl⟩, if_neg (by decide), errV_no (by decide)]
      go_enter Tryz.func145, Tryz.ntmps145
      go_wp2_with (go_at_call 38; rw [← hW0]; refine (HAt.out _ (AR.out _ (Below.refl _ _))).mono ?_; rintro e w5 ⟨rfl, hB5⟩; have n2 := (AE.out _ hB5).isDir; have n2' := fun o => cellOn o n2)
      go_ret
      exact ⟨rfl, HTu.out _ (belowA hB5 _), HRk.out _ (belowA hB5 _)⟩
    | false =>
      rw [hfd] at HAt
      have hdf : dirE es p = false := by rw [dirE_look, hl, root_not_path hpb]; exact hfd
      have hkn := kids_file T hdf
      have hup : dirE es (upS p) = true := by
        obtain ⟨h1, h2⟩ := look_mem hl
        rw [← h2]; exact T.up f h1
      rw [if_neg (by simp), if_neg (by simp), hkn, if_neg (by simp), if_pos rfl, show errV ae 0 = .nilIface from rfl]
      have HCu := hid (fun (W : World) (hW : Rep W base N es A) => cut_any W base N es A T hW p hpb hp hup)
      go_enter Tryz.func145, Tryz.ntmps145
      go_wp2_with (first | (go_at_call 38; rw [← hW0]; refine (HAt.out _ (AR.out _ (Below.refl _ _))).mono ?_; rintro e w5 ⟨rfl, hB5⟩; obtain ⟨q0, q1, q2, q3, q4, q5, q6⟩ := AX.out _ hB5; have u0 := fun o => cellOn o q4; have u1 := fun o => cellOn o q5; have u2 := fun o => cellOn o q6; have u3 := fun o => cellOn o q1) | (go_at_call 139; refine (HCu.out _ (AR.out _ (belowA hB5 _))).mono ?_; rintro e w6 ⟨⟨v6, rfl⟩, V, hB6, ht6, hm6⟩))
      go_ret
      have hBV := belowT (belowA hB5 _) hB6
      have fin := off_fin T (AR.out _ hBV) (HTu.out _ hBV) hpb hup hm6 ht6
      exact ⟨rfl, fin.1, A, rfl, fin.2.more⟩

set_option maxHeartbeats 4000000 in
set_option maxRecDepth 100000 in
theorem rmdirDo_any (w : World) (base N : Nat) (es : List E) (A : ByteArray → Nat) (ae : Int → Addr) (T : TrE es) (R : Rep w base N es A) (hE : Errs8 w ae) (k : Int) (p t x : ByteArray) (hpb : pathB p = true)
    (hp : p.size ≤ 16777216) (hb : base ≤ w.heap.size) :
    Calls Tryz.prog 147 #[opV k p t x, treeV A] w fun r w' => r = .returned (errV ae (offC es 4 p)) ∧ Turn base w w' ∧ ∃ A', A' ⟨#[47]⟩ = A ⟨#[47]⟩ ∧ Rep w' base (N + 1) (if offC es 4 p = 0 then offE es p else es) A' := by
  obtain ⟨W0, hW0⟩ : ∃ W0, W0 = (w.alloc (.cells #[.int .i64 k, .string p, .string t, .string x] 125)).alloc (.cells #[.bool true, .string ⟨#[]⟩, .map (some (A ⟨#[47]⟩))] 61) := ⟨_, rfl⟩
  have hBw : Below w.heap.size w W0 := hW0 ▸ ((Below.refl _ w).alloc (Nat.le_refl _) _).alloc (by simp) _
  have HX : Hid (DoBox W0 w.heap.size A k p t x) := by
    subst hW0
    constructor <;> simp
  have AX : Hid (∀ W', Below W0.heap.size W0 W' → DoBox W' w.heap.size A k p t x) := fun W' hW => HX.out.below hW
  have AR : Hid (∀ W', Below W0.heap.size W0 W' → Rep W' base N es A) := fun W' hW => (R.below hBw).below hW
  have AE : Hid (∀ W', Below W0.heap.size W0 W' → Errs8 W' ae) := fun W' hW => (hE.below hBw).below hW
  have HDi := hid (fun (W : World) (hW : Rep W base N es A) (hE : Errs2 W ae) => dirAt_any W base N es A ae T hW hE p (by omega))
  have HTu : Hid (∀ W', Below W0.heap.size W0 W' → Turn base w W') := fun W' hW => Turn.of_below (hBw.trans (hW.mono hBw.size)) hb
  have HRk : Hid (∀ W', Below W0.heap.size W0 W' → ∃ A', A' ⟨#[47]⟩ = A ⟨#[47]⟩ ∧ Rep W' base (N + 1) es A') := fun W' hW => ⟨A, rfl, (AR.out W' hW).more⟩
  clear hE R
  by_cases hc0 : dirC es p = 0
  · have hdir := dirC_zero hc0
    obtain ⟨f, hl, hfd⟩ : ∃ f, lookE es p = some f ∧ f.d = true := by
      rcases dir_look hdir with h | h
      · rw [h, root_no_path] at hpb; cases hpb
      · exact h
    obtain ⟨xx, hxx⟩ := atE_dir (A := A) hdir
    have hdv : dirV es A p = .agg #[.bool true, .string xx, .map (some (A p))] := by unfold dirV; rw [if_pos hc0, hxx]
    have hev : errV ae (dirC es p) = .nilIface := by rw [hc0]; rfl
    rw [hdv, hev] at HDi
    rw [offC_some hpb hl, hfd, if_neg (by simp), if_neg (by simp)]
    have hup : dirE es (upS p) = true := by
      obtain ⟨h1, h2⟩ := look_mem hl
      rw [← h2]; exact T.up f h1
    have HCu := hid (fun (W : World) (hW : Rep W base N es A) => cut_any W base N es A T hW p hpb hp hup)
    by_cases hk : 0 < (kidsE es p).length
    · rw [if_pos hk, if_neg (by decide), errV_no (by decide)]
      go_enter Tryz.func147, Tryz.ntmps147
      go_wp2_with (first | (go_at_call 53; rw [← hW0]; refine (HDi.out _ (AR.out _ (Below.refl _ _)) (AE.out _ (Below.refl _ _)).two).mono ?_; rintro e w5 ⟨rfl, hB5⟩; have n2 := (AE.out _ hB5).kept; have n2' := fun o => cellOn o n2; obtain ⟨m, hm1, hm2⟩ := kids_size T (stemOk_path hpb) ((AR.out _ (belowA hB5 (.cells #[.bool true, .string xx, .map (some (A p))] 59))).kids p hdir); have hmp := hm2.2 hk) | fail)
      go_ret
      exact ⟨rfl, HTu.out _ (belowA hB5 _), HRk.out _ (belowA hB5 _)⟩
    · rw [if_neg hk, if_pos rfl, show errV ae 0 = .nilIface from rfl]
      go_enter Tryz.func147, Tryz.ntmps147
      go_wp2_with (first | (go_at_call 53; rw [← hW0]; refine (HDi.out _ (AR.out _ (Below.refl _ _)) (AE.out _ (Below.refl _ _)).two).mono ?_; rintro e w5 ⟨rfl, hB5⟩; obtain ⟨q0, q1, q2, q3, q4, q5, q6⟩ := AX.out _ hB5; have u0 := fun o => cellOn o q4; have u1 := fun o => cellOn o q5; have u2 := fun o => cellOn o q6; have u3 := fun o => cellOn o q1; obtain ⟨m, hm1, hm2⟩ := kids_size T (stemOk_path hpb) ((AR.out _ (belowA hB5 (.cells #[.bool true, .string xx, .map (some (A p))] 59))).kids p hdir); obtain rfl : m = 0 := Nat.eq_zero_of_not_pos (fun h => hk (hm2.1 h))) | (go_at_call 139; refine (HCu.out _ (AR.out _ (belowA hB5 _))).mono ?_; rintro e w6 ⟨⟨v6, rfl⟩, V, hB6, ht6, hm6⟩))
      go_ret
      have hBV := belowT (belowA hB5 _) hB6
      have fin := off_fin T (AR.out _ hBV) (HTu.out _ hBV) hpb hup hm6 ht6
      exact ⟨rfl, fin.1, A, rfl, fin.2.more⟩
  · have hdv : dirV es A p = zeroN := by unfold dirV; rw [if_neg hc0]
    have hcode : offC es 4 p = dirC es p := by
      cases hl : lookE es p with
      | none => rw [offC_none hpb hl]; unfold dirC; rw [getE_look (root_not_path hpb), hl]; rfl
      | some f =>
        have hfd : f.d = false := by
          cases h : f.d with
          | false => rfl
          | true => exact absurd (dirC_dir (look_dir (.inr ⟨f, hl, h⟩))) hc0
        rw [offC_some hpb hl, hfd, if_neg (by simp), if_pos ⟨rfl, rfl⟩]
        unfold dirC; rw [getE_look (root_not_path hpb), hl]; simp [hfd]
    rw [hcode, if_neg hc0, errV_no hc0]
    rw [hdv, errV_no hc0] at HDi
    go_enter Tryz.func147, Tryz.ntmps147
    go_wp2_with (go_at_call 53; rw [← hW0]; refine (HDi.out _ (AR.out _ (Below.refl _ _)) (AE.out _ (Below.refl _ _)).two).mono ?_; rintro e w5 ⟨rfl, hB5⟩)
    go_ret
    exact ⟨rfl, HTu.out _ (belowA hB5 _), HRk.out _ (belowA hB5 _)⟩
end Go.Proofs.YtbcogekeoklddaaGreatDoor

/-
  The walk of the program's own: something is moved; what ends it ahead of the look at what is below.
-/
namespace Go.Proofs.YtbcogekeoklddaaGreatDoor
open Go.RowKit Go.Shelf Go.Lib

attribute [local go_sem] Oper.semAt_some

set_option maxHeartbeats 4000000 in
set_option maxRecDepth 100000 in
theorem move_none (w : World) (base N : Nat) (es : List E) (A : ByteArray → Nat) (ae : Int → Addr) (T : TrE es) (R : Rep w base N es A)
    (hE : Errs8 w ae) (k : Int) (p t x : ByteArray) (hpb : pathB p = true)
    (hp : p.size ≤ 16777216) (hl : lookE es p = none) (hb : base ≤ w.heap.size) :
    Calls Tryz.prog 149 #[opV k p t x, treeV A] w fun r w' => r = .returned (errV ae 2) ∧ Turn base w w' ∧ ∃ A', A' ⟨#[47]⟩ = A ⟨#[47]⟩ ∧ Rep w' base (N + 1) es A' := by
  obtain ⟨W0, hW0⟩ : ∃ W0, W0 = ((w.alloc (.cells #[.int .i64 k, .string p, .string t, .string x] 126)).alloc (.cells #[.bool true, .string ⟨#[]⟩, .map (some (A ⟨#[47]⟩))] 61)).alloc (.cells #[.nilIface] 65) := ⟨_, rfl⟩
  have hBw : Below w.heap.size w W0 := hW0 ▸ (((Below.refl _ w).alloc (Nat.le_refl _) _).alloc (by simp) _).alloc (by simp; omega) _
  have hs0 : W0.heap.size = w.heap.size + 3 := by rw [hW0]; simp
  have HX : Hid (DoBox W0 w.heap.size A k p t x) := by
    obtain ⟨y0, y1, y2, y3⟩ := box4i (w := w) (a := .int .i64 k) (b := .string p) (c := .string t) (d := .string x) (T := 126) (w' := W0) (by rw [hW0]; exact ((Below.refl _ _).alloc (Nat.le_refl _) _).alloc (by simp) _)
    obtain ⟨y4, y5, y6⟩ := box3n (w := w.alloc (.cells #[.int .i64 k, .string p, .string t, .string x] 126)) (a := .bool true) (b := .string ⟨#[]⟩) (c := .map (some (A ⟨#[47]⟩))) (T := 61) (w' := W0) (by rw [hW0]; exact (Below.refl _ _).alloc (Nat.le_refl _) _)
    rw [World.size_alloc] at y4 y5 y6
    exact ⟨y0, y1, y2, y3, y4, y5, y6⟩
  have hcr : W0.heap[w.heap.size + 2]? = some (.cells #[.nilIface] 65 (0, 0)) := by
    have := World.alloc_heap_new ((w.alloc (.cells #[.int .i64 k, .string p, .string t, .string x] 126)).alloc (.cells #[.bool true, .string ⟨#[]⟩, .map (some (A ⟨#[47]⟩))] 61)) (.cells #[.nilIface] 65)
    rw [hW0]; simpa using this
  have AX : Hid (∀ W', Below W0.heap.size W0 W' → DoBox W' w.heap.size A k p t x) := fun W' hW => HX.out.below hW
  have AC : Hid (∀ W', Below W0.heap.size W0 W' → Boxed W' (w.heap.size + 2) 65 .nilIface) := fun W' hW => (hW.block _ (Array.getElem?_eq_some_iff.1 hcr).1).trans hcr
  have AR : Hid (∀ W', Below W0.heap.size W0 W' → Rep W' base N es A) := fun W' hW => (R.below hBw).below hW
  have AE : Hid (∀ W', Below W0.heap.size W0 W' → Errs8 W' ae) := fun W' hW => (hE.below hBw).below hW
  have HAt := hid (fun (W : World) (hW : Rep W base N es A) => at_any W base N es A T hW p (by omega))
  have HTu : Hid (∀ W' v, Below W0.heap.size W0 W' → Turn base w (W'.setCell ⟨w.heap.size + 2, 0, none⟩ v)) := fun W' v hW => Turn.of_below ((hBw.trans (hW.mono hBw.size)).setCell (p := ⟨w.heap.size + 2, 0, none⟩) (by show _ ≤ w.heap.size + 2; omega) v) hb
  have HRk : Hid (∀ W' v, Below W0.heap.size W0 W' → ∃ A', A' ⟨#[47]⟩ = A ⟨#[47]⟩ ∧ Rep (W'.setCell ⟨w.heap.size + 2, 0, none⟩ v) base (N + 1) es A') := fun W' v hW => ⟨A, rfl, (R.below ((hBw.trans (hW.mono hBw.size)).setCell (p := ⟨w.heap.size + 2, 0, none⟩) (by show _ ≤ w.heap.size + 2; omega) v)).more⟩
  clear hcr
  rw [atE_none hpb hl] at HAt
  rw [errV_no (by decide)]
  go_enter Tryz.func149, Tryz.ntmps149
  go_wp2_with (go_at_call 38; rw [← hW0]; refine (HAt.out _ (AR.out _ (Below.refl _ _))).mono ?_; rintro e w5 ⟨rfl, hB5⟩; have n2 := (AE.out _ hB5).two.noneC; have n2' := fun o => cellOn o n2; have hc5 := (AC.out _ (belowA hB5 (.cells #[.bool false, .string ⟨#[]⟩, .map none] 59))).cell; have hf5 := (AC.out _ (belowA hB5 (.cells #[.bool false, .string ⟨#[]⟩, .map none] 59))).frozen)
  have hset := (AC.out _ (belowA hB5 (.cells #[.bool false, .string ⟨#[]⟩, .map none] 59))).set (.iface 171 (.pointer (some (ae 2))))
  have hcc := hset.cell
  exact bodyPost_ret (v := .iface 171 (.pointer (some (ae 2)))) (by simp [results, Tryz.results149, go_sem, hcc]) rfl ⟨rfl, HTu.out _ _ (belowA hB5 _), HRk.out _ _ (belowA hB5 _)⟩

set_option maxHeartbeats 4000000 in
set_option maxRecDepth 100000 in
theorem move_up (w : World) (base N : Nat) (es : List E) (A : ByteArray → Nat) (ae : Int → Addr) (T : TrE es) (R : Rep w base N es A)
    (hE : Errs8 w ae) (k : Int) (p t x : ByteArray) (hpb : pathB p = true)
    (hp : p.size ≤ 16777216) (ht : t.size ≤ 16777216) (e0 : E) (hl : lookE es p = some e0) (hc0 : dirC es (upS t) ≠ 0) (hb : base ≤ w.heap.size) :
    Calls Tryz.prog 149 #[opV k p t x, treeV A] w fun r w' => r = .returned (errV ae (dirC es (upS t))) ∧ Turn base w w' ∧ ∃ A', A' ⟨#[47]⟩ = A ⟨#[47]⟩ ∧ Rep w' base (N + 1) es A' := by
  obtain ⟨W0, hW0⟩ : ∃ W0, W0 = ((w.alloc (.cells #[.int .i64 k, .string p, .string t, .string x] 126)).alloc (.cells #[.bool true, .string ⟨#[]⟩, .map (some (A ⟨#[47]⟩))] 61)).alloc (.cells #[.nilIface] 65) := ⟨_, rfl⟩
  have hBw : Below w.heap.size w W0 := hW0 ▸ (((Below.refl _ w).alloc (Nat.le_refl _) _).alloc (by simp) _).alloc (by simp; omega) _
  have hs0 : W0.heap.size = w.heap.size + 3 := by rw [hW0]; simp
  have HX : Hid (DoBox W0 w.heap.size A k p t x) := by
    obtain ⟨y0, y1, y2, y3⟩ := box4i (w := w) (a := .int .i64 k) (b := .string p) (c := .string t) (d := .string x) (T := 126) (w' := W0) (by rw [hW0]; exact ((Below.refl _ _).alloc (Nat.le_refl _) _).alloc (by simp) _)
    obtain ⟨y4, y5, y6⟩ := box3n (w := w.alloc (.cells #[.int .i64 k, .string p, .string t, .string x] 126)) (a := .bool true) (b := .string ⟨#[]⟩) (c := .map (some (A ⟨#[47]⟩))) (T := 61) (w' := W0) (by rw [hW0]; exact (Below.refl _ _).alloc (Nat.le_refl _) _)
    rw [World.size_alloc] at y4 y5 y6
    exact ⟨y0, y1, y2, y3, y4, y5, y6⟩
  have hcr : W0.heap[w.heap.size + 2]? = some (.cells #[.nilIface] 65 (0, 0)) := by
    have := World.alloc_heap_new ((w.alloc (.cells #[.int .i64 k, .string p, .string t, .string x] 126)).alloc (.cells #[.bool true, .string ⟨#[]⟩, .map (some (A ⟨#[47]⟩))] 61)) (.cells #[.nilIface] 65)
    rw [hW0]; simpa using this
  have AX : Hid (∀ W', Below W0.heap.size W0 W' → DoBox W' w.heap.size A k p t x) := fun W' hW => HX.out.below hW
  have AC : Hid (∀ W', Below W0.heap.size W0 W' → Boxed W' (w.heap.size + 2) 65 .nilIface) := fun W' hW => (hW.block _ (Array.getElem?_eq_some_iff.1 hcr).1).trans hcr
  have AR : Hid (∀ W', Below W0.heap.size W0 W' → Rep W' base N es A) := fun W' hW => (R.below hBw).below hW
  have AE : Hid (∀ W', Below W0.heap.size W0 W' → Errs8 W' ae) := fun W' hW => (hE.below hBw).below hW
  have HAt := hid (fun (W : World) (hW : Rep W base N es A) => at_any W base N es A T hW p (by omega))
  have HTu : Hid (∀ W' v, Below W0.heap.size W0 W' → Turn base w (W'.setCell ⟨w.heap.size + 2, 0, none⟩ v)) := fun W' v hW => Turn.of_below ((hBw.trans (hW.mono hBw.size)).setCell (p := ⟨w.heap.size + 2, 0, none⟩) (by show _ ≤ w.heap.size + 2; omega) v) hb
  have HRk : Hid (∀ W' v, Below W0.heap.size W0 W' → ∃ A', A' ⟨#[47]⟩ = A ⟨#[47]⟩ ∧ Rep (W'.setCell ⟨w.heap.size + 2, 0, none⟩ v) base (N + 1) es A') := fun W' v hW => ⟨A, rfl, (R.below ((hBw.trans (hW.mono hBw.size)).setCell (p := ⟨w.heap.size + 2, 0, none⟩) (by show _ ≤ w.heap.size + 2; omega) v)).more⟩
  clear hcr
  rw [atE_some hpb hl] at HAt
  have hdv : dirV es A (upS t) = zeroN := by unfold dirV; rw [if_neg hc0]
  have HU := hid (fun W => iPathUp_any t ht W)
  have hus : (upS t).size ≤ 4611686018427387904 := by have := upS_size t; omega
  have HDi := hid (fun (W : World) (hW : Rep W base N es A) (hE : Errs2 W ae) => dirAt_any W base N es A ae T hW hE (upS t) hus)
  rw [errV_no hc0]
  rw [hdv, errV_no hc0] at HDi
  clear hE R
  go_enter Tryz.func149, Tryz.ntmps149
  go_wp2_with (first | (go_at_call 38; rw [← hW0]; refine (HAt.out _ (AR.out _ (Below.refl _ _))).mono ?_; rintro e w5 ⟨rfl, hB5⟩) | fail)
  obtain ⟨W1, hW1⟩ : ∃ W1, W1 = w5.alloc (.cells #[.bool e0.d, .string e0.x, .map (optV e0.d (A p))] 59) := ⟨_, rfl⟩
  have hB1 : Below W0.heap.size W0 W1 := by rw [hW1]; exact belowA hB5 _
  rw [← hW1]
  clear hW0 hW1 hs0
  have AS : Hid (∀ W', Below W1.heap.size W1 W' → (W'.cell? ⟨w.heap.size, 2, none⟩ = some (.string t) ∧ W'.cell? ⟨w.heap.size + 1, 0, none⟩ = some (.bool true) ∧ W'.cell? ⟨w.heap.size + 1, 1, none⟩ = some (.string ⟨#[]⟩) ∧ W'.cell? ⟨w.heap.size + 1, 2, none⟩ = some (.map (some (A ⟨#[47]⟩))))) := fun W' hW => by
    have := AX.out _ (belowT hB1 hW)
    exact ⟨this.o2, this.t0, this.t1, this.t2⟩
  have AR1 : Hid (∀ W', Below W1.heap.size W1 W' → Rep W' base N es A) := fun W' hW => AR.out _ (belowT hB1 hW)
  have AE1 : Hid (∀ W', Below W1.heap.size W1 W' → Errs8 W' ae) := fun W' hW => AE.out _ (belowT hB1 hW)
  rename_i Qx Kx hKx
  have HK : Hid (∀ (b : Nat) (W : World), Below W1.heap.size W1 W → Kx { tmps := #[opV k p t x, treeV A, .pointer (some ⟨w.heap.size, 0, none⟩), .pointer (some ⟨w.heap.size + 1, 0, none⟩), .pointer (some ⟨w.heap.size + 2, 0, none⟩), .pointer (some ⟨w5.heap.size, 0, none⟩), .bool true, .pointer (some ⟨b, 0, none⟩), .iface 171 (.pointer (some (ae (dirC es (upS t))))), undef, undef, undef, .tuple #[.agg #[.bool e0.d, .string e0.x, .map (optV e0.d (A p))], .bool true], treeV A, .pointer (some ⟨w.heap.size, 1, none⟩), .string p, .tuple #[.agg #[.bool e0.d, .string e0.x, .map (optV e0.d (A p))], .bool true], .agg #[.bool e0.d, .string e0.x, .map (optV e0.d (A p))], .bool true, .bool true, .bool false, undef, .tuple #[zeroN, .iface 171 (.pointer (some (ae (dirC es (upS t)))))], treeV A, .pointer (some ⟨w.heap.size, 2, none⟩), .string t, .string (upS t), .tuple #[zeroN, .iface 171 (.pointer (some (ae (dirC es (upS t)))))], zeroN, .iface 171 (.pointer (some (ae (dirC es (upS t))))), undef, undef, undef, undef, undef, undef, undef, undef, undef, undef, undef, undef, undef, undef, undef, undef, undef, undef, undef, undef, undef, undef, undef, undef, undef, undef, undef, undef, undef, undef, undef, undef, undef, undef, undef, undef, undef, undef], defers := [] } W) := by
    intro b W hBW
    refine hKx _ _ ?_
    have hc5 := (AC.out _ (belowT hB1 hBW)).cell
    have hf5 := (AC.out _ (belowT hB1 hBW)).frozen
    go_wp2
    have hset := (AC.out _ (belowT hB1 hBW)).set (.iface 171 (.pointer (some (ae (dirC es (upS t))))))
    have hcc := hset.cell
    exact bodyPost_ret (v := .iface 171 (.pointer (some (ae (dirC es (upS t)))))) (by simp [results, Tryz.results149, go_sem, hcc]) rfl ⟨rfl, HTu.out _ _ (belowT hB1 hBW), HRk.out _ _ (belowT hB1 hBW)⟩
  clear hKx
  go_region_held3 (fun W' => W'.cell? ⟨w.heap.size, 2, none⟩ = some (.string t) ∧ W'.cell? ⟨w.heap.size + 1, 0, none⟩ = some (.bool true) ∧ W'.cell? ⟨w.heap.size + 1, 1, none⟩ = some (.string ⟨#[]⟩) ∧ W'.cell? ⟨w.heap.size + 1, 2, none⟩ = some (.map (some (A ⟨#[47]⟩))))
    ((refine AS.out _ ?_; repeat (first | exact Below.refl _ _ | apply belowA | refine belowT ?_ hB4 | refine belowT ?_ hB3 | apply Below.drew | refine set3_below ?_ (by first | exact Nat.le_refl _ | (have h3 := hB3.size; have h4 := hB4.size; simp at h3 h4 ⊢; omega)) _ _ _)))
    (first | (go_at_call 25; refine (HU.out _).mono ?_; rintro e w3 ⟨rfl, hB3⟩; obtain ⟨bc3, bf3⟩ := bcellN hB3; have l3 := hB3.size; (try simp at l3); (try (have z0 := bc3 W1.heap.size 0 (lt_allocD _ _); have z1 := bc3 W1.heap.size 1 (lt_allocD _ _); have z2 := bc3 W1.heap.size 2 (lt_allocD _ _); have z3 := bf3 W1.heap.size 0 (lt_allocD _ _); have z4 := bf3 W1.heap.size 1 (lt_allocD _ _); have z5 := bf3 W1.heap.size 2 (lt_allocD _ _); simp at z0 z1 z2 z3 z4 z5)); clear bc3 bf3) | (go_at_call 53; refine (HDi.out _ (AR1.out _ (by repeat (first | exact Below.refl _ _ | apply belowA | refine belowT ?_ hB3 | apply Below.drew))) (AE1.out _ (by repeat (first | exact Below.refl _ _ | apply belowA | refine belowT ?_ hB3 | apply Below.drew))).two).mono ?_; rintro e w4 ⟨rfl, hB4⟩; obtain ⟨bc4, bf4⟩ := bcellN hB4; have l4 := hB4.size; (try simp at l4); (try (have z0 := bc4 w3.heap.size 0 (lt_alloc _ _); have z1 := bc4 w3.heap.size 1 (lt_alloc _ _); have z2 := bc4 w3.heap.size 2 (lt_alloc _ _); have z3 := bf4 w3.heap.size 0 (lt_alloc _ _); have z4 := bf4 w3.heap.size 1 (lt_alloc _ _); have z5 := bf4 w3.heap.size 2 (lt_alloc _ _); simp at z0 z1 z2 z3 z4 z5)); (try (have v0 := (bc4 W1.heap.size 0 l3).trans z0; have v1 := (bc4 W1.heap.size 1 l3).trans z1; have v2 := (bc4 W1.heap.size 2 l3).trans z2; have v3 := (bf4 W1.heap.size 0 l3).trans z3; have v4 := (bf4 W1.heap.size 1 l3).trans z4; have v5 := (bf4 W1.heap.size 2 l3).trans z5)); clear bc4 bf4))
  all_goals exact HK.out _ _ (by repeat (first | exact Below.refl _ _ | apply belowA | refine belowT ?_ hB4 | refine belowT ?_ hB3 | apply Below.drew | refine set3_below ?_ (by first | exact Nat.le_refl _ | (have h3 := hB3.size; have h4 := hB4.size; simp at h3 h4 ⊢; omega)) _ _ _))

end Go.Proofs.YtbcogekeoklddaaGreatDoor

/-
  The walk of the program's own: something is moved; there is something where it would be, or that is below it.
-/
namespace Go.Proofs.YtbcogekeoklddaaGreatDoor
open Go.RowKit Go.Shelf Go.Lib

attribute [local go_sem] Oper.semAt_some

set_option maxHeartbeats 4000000 in
set_option maxRecDepth 100000 in
theorem move_there (w : World) (base N : Nat) (es : List E) (A : ByteArray → Nat) (ae : Int → Addr) (T : TrE es) (R : Rep w base N es A)
    (hE : Errs8 w ae) (k : Int) (p t x : ByteArray) (hpb : pathB p = true)
    (hp : p.size ≤ 16777216) (ht : t.size ≤ 16777216) (e0 : E) (hl : lookE es p = some e0) (htb : pathB t = true) (hdir : dirE es (upS t) = true) (f : E) (hlt : lookE es t = some f) (hb : base ≤ w.heap.size) :
    Calls Tryz.prog 149 #[opV k p t x, treeV A] w fun r w' => r = .returned (errV ae 4) ∧ Turn base w w' ∧ ∃ A', A' ⟨#[47]⟩ = A ⟨#[47]⟩ ∧ Rep w' base (N + 1) es A' := by
  obtain ⟨W0, hW0⟩ : ∃ W0, W0 = ((w.alloc (.cells #[.int .i64 k, .string p, .string t, .string x] 126)).alloc (.cells #[.bool true, .string ⟨#[]⟩, .map (some (A ⟨#[47]⟩))] 61)).alloc (.cells #[.nilIface] 65) := ⟨_, rfl⟩
  have hBw : Below w.heap.size w W0 := hW0 ▸ (((Below.refl _ w).alloc (Nat.le_refl _) _).alloc (by simp) _).alloc (by simp; omega) _
  have hs0 : W0.heap.size = w.heap.size + 3 := by rw [hW0]; simp
  have HX : Hid (DoBox W0 w.heap.size A k p t x) := by
    obtain ⟨y0, y1, y2, y3⟩ := box4i (w := w) (a := .int .i64 k) (b := .string p) (c := .string t) (d := .string x) (T := 126) (w' := W0) (by rw [hW0]; exact ((Below.refl _ _).alloc (Nat.le_refl _) _).alloc (by simp) _)
    obtain ⟨y4, y5, y6⟩ := box3n (w := w.alloc (.cells #[.int .i64 k, .string p, .string t, .string x] 126)) (a := .bool true) (b := .string ⟨#[]⟩) (c := .map (some (A ⟨#[47]⟩))) (T := 61) (w' := W0) (by rw [hW0]; exact (Below.refl _ _).alloc (Nat.le_refl _) _)
    rw [World.size_alloc] at y4 y5 y6
    exact ⟨y0, y1, y2, y3, y4, y5, y6⟩
  have hcr : W0.heap[w.heap.size + 2]? = some (.cells #[.nilIface] 65 (0, 0)) := by
    have := World.alloc_heap_new ((w.alloc (.cells #[.int .i64 k, .string p, .string t, .string x] 126)).alloc (.cells #[.bool true, .string ⟨#[]⟩, .map (some (A ⟨#[47]⟩))] 61)) (.cells #[.nilIface] 65)
    rw [hW0]; simpa using this
  have AX : Hid (∀ W', Below W0.heap.size W0 W' → DoBox W' w.heap.size A k p t x) := fun W' hW => HX.out.below hW
  have AC : Hid (∀ W', Below W0.heap.size W0 W' → Boxed W' (w.heap.size + 2) 65 .nilIface) := fun W' hW => (hW.block _ (Array.getElem?_eq_some_iff.1 hcr).1).trans hcr
  have AR : Hid (∀ W', Below W0.heap.size W0 W' → Rep W' base N es A) := fun W' hW => (R.below hBw).below hW
  have AE : Hid (∀ W', Below W0.heap.size W0 W' → Errs8 W' ae) := fun W' hW => (hE.below hBw).below hW
  have HAt := hid (fun (W : World) (hW : Rep W base N es A) => at_any W base N es A T hW p (by omega))
  have HTu : Hid (∀ W' v, Below W0.heap.size W0 W' → Turn base w (W'.setCell ⟨w.heap.size + 2, 0, none⟩ v)) := fun W' v hW => Turn.of_below ((hBw.trans (hW.mono hBw.size)).setCell (p := ⟨w.heap.size + 2, 0, none⟩) (by show _ ≤ w.heap.size + 2; omega) v) hb
  have HRk : Hid (∀ W' v, Below W0.heap.size W0 W' → ∃ A', A' ⟨#[47]⟩ = A ⟨#[47]⟩ ∧ Rep (W'.setCell ⟨w.heap.size + 2, 0, none⟩ v) base (N + 1) es A') := fun W' v hW => ⟨A, rfl, (R.below ((hBw.trans (hW.mono hBw.size)).setCell (p := ⟨w.heap.size + 2, 0, none⟩) (by show _ ≤ w.heap.size + 2; omega) v)).more⟩
  clear hcr
  rw [atE_some hpb hl] at HAt
  obtain ⟨xx, hxx⟩ := atE_dir (A := A) hdir
  have hdv : dirV es A (upS t) = .agg #[.bool true, .string xx, .map (some (A (upS t)))] := by unfold dirV; rw [dirC_dir hdir, if_pos rfl, hxx]
  have hev : errV ae (dirC es (upS t)) = .nilIface := by rw [dirC_dir hdir]; rfl
  have HU := hid (fun W => iPathUp_any t ht W)
  have hus : (upS t).size ≤ 4611686018427387904 := by have := upS_size t; omega
  have HDi := hid (fun (W : World) (hW : Rep W base N es A) (hE : Errs2 W ae) => dirAt_any W base N es A ae T hW hE (upS t) hus)
  have HAt2 := hid (fun (W : World) (hW : Rep W base N es A) => at_any W base N es A T hW t (by omega))
  rw [hdv, hev] at HDi
  have HR0 := hid R
  clear hE R
  rw [atE_some htb hlt] at HAt2
  rw [errV_no (by decide)]
  refine (callsIn_wide (n := 6)).1 ?_
  refine callsIn_of_wp_marks Tryz.func149 rfl trivial ?_ rfl
  simp only [Tryz.ntmps149, List.size_toArray, List.length_cons, List.length_nil, Nat.reduceAdd, Nat.reduceSub, Array.replicate_succ, Array.replicate_zero, List.push_toArray, List.append_toArray, List.nil_append, List.cons_append]
  refine wpIn_wide.2 ?_
  go_wp2_with (first | (go_at_call 38; rw [← hW0]; refine (HAt.out _ (AR.out _ (Below.refl _ _))).mono ?_; rintro e w5 ⟨rfl, hB5⟩) | fail)
  obtain ⟨W1, hW1⟩ : ∃ W1, W1 = w5.alloc (.cells #[.bool e0.d, .string e0.x, .map (optV e0.d (A p))] 59) := ⟨_, rfl⟩
  have hB1 : Below W0.heap.size W0 W1 := by rw [hW1]; exact belowA hB5 _
  have c50 : W1.cell? ⟨w5.heap.size, 0, none⟩ = some (.bool e0.d) := by rw [hW1]; simp
  have c51 : W1.cell? ⟨w5.heap.size, 1, none⟩ = some (.string e0.x) := by rw [hW1]; simp
  have c52 : W1.cell? ⟨w5.heap.size, 2, none⟩ = some (.map (optV e0.d (A p))) := by rw [hW1]; simp
  rw [← hW1]
  clear hW0 hW1 HAt
  have hsz1 := hB1.size
  have hs2 : w.heap.size + 2 < W1.heap.size := by omega
  clear hs0 hsz1
  have AS : Hid (∀ W', Below W1.heap.size W1 W' → (W'.cell? ⟨w.heap.size, 2, none⟩ = some (.string t) ∧ W'.cell? ⟨w.heap.size + 1, 0, none⟩ = some (.bool true) ∧ W'.cell? ⟨w.heap.size + 1, 1, none⟩ = some (.string ⟨#[]⟩) ∧ W'.cell? ⟨w.heap.size + 1, 2, none⟩ = some (.map (some (A ⟨#[47]⟩))))) := fun W' hW => by
    have := AX.out _ (belowT hB1 hW)
    exact ⟨this.o2, this.t0, this.t1, this.t2⟩
  have AR1 : Hid (∀ W', Below W1.heap.size W1 W' → Rep W' base N es A) := fun W' hW => AR.out _ (belowT hB1 hW)
  have AE1 : Hid (∀ W', Below W1.heap.size W1 W' → Errs8 W' ae) := fun W' hW => AE.out _ (belowT hB1 hW)
  have AN : Hid (∀ W', Below W1.heap.size W1 W' → W'.cell? ⟨w5.heap.size, 0, none⟩ = some (.bool e0.d) ∧ W'.cell? ⟨w5.heap.size, 1, none⟩ = some (.string e0.x) ∧ W'.cell? ⟨w5.heap.size, 2, none⟩ = some (.map (optV e0.d (A p)))) := fun W' hW => ⟨below_cell hW c50, below_cell hW c51, below_cell hW c52⟩
  clear c50 c51 c52
  rename_i Qx Kx hKx
  have HK : Hid (∀ (b : Nat) (W : World), Below W1.heap.size W1 W → W.cell? ⟨b, 2, none⟩ = some (.map (some (A (upS t)))) → Kx { tmps := #[opV k p t x, treeV A, .pointer (some ⟨w.heap.size, 0, none⟩), .pointer (some ⟨w.heap.size + 1, 0, none⟩), .pointer (some ⟨w.heap.size + 2, 0, none⟩), .pointer (some ⟨w5.heap.size, 0, none⟩), .bool true, .pointer (some ⟨b, 0, none⟩), .nilIface, undef, undef, undef, .tuple #[.agg #[.bool e0.d, .string e0.x, .map (optV e0.d (A p))], .bool true], treeV A, .pointer (some ⟨w.heap.size, 1, none⟩), .string p, .tuple #[.agg #[.bool e0.d, .string e0.x, .map (optV e0.d (A p))], .bool true], .agg #[.bool e0.d, .string e0.x, .map (optV e0.d (A p))], .bool true, .bool true, .bool false, undef, .tuple #[.agg #[.bool true, .string xx, .map (some (A (upS t)))], .nilIface], treeV A, .pointer (some ⟨w.heap.size, 2, none⟩), .string t, .string (upS t), .tuple #[.agg #[.bool true, .string xx, .map (some (A (upS t)))], .nilIface], .agg #[.bool true, .string xx, .map (some (A (upS t)))], .nilIface, undef, undef, undef, undef, undef, undef, undef, undef, undef, undef, undef, undef, undef, undef, undef, undef, undef, undef, undef, undef, undef, undef, undef, undef, undef, undef, undef, undef, undef, undef, undef, undef, undef, undef, undef, undef, undef, undef], defers := [] } W) := by
    intro b W hBW hb2
    refine hKx _ _ ?_
    have hBW0 := belowT hB1 hBW
    obtain ⟨y0, y1, y2, y3, y4, y5, y6⟩ := AX.out _ hBW0
    go_wp2_with (go_at_call 38; refine (HAt2.out _ (AR.out _ hBW0)).mono ?_; rintro e w6 ⟨rfl, hB6⟩; have hBW6 := belowT hBW0 hB6; obtain ⟨q0, q1, q2, q3, q4, q5, q6⟩ := AX.out _ hBW6; have u0 := fun o => cellOn o q1; have u1 := fun o => cellOn o q2; have n4 := (AE.out _ hBW6).there; have n4' := fun o => cellOn o n4; have hc6 := fun o => (AC.out _ (belowA hBW6 o)).cell; have hf6 := fun o => (AC.out _ (belowA hBW6 o)).frozen)
    have hset := (AC.out _ (belowA hBW6 (.cells #[.bool f.d, .string f.x, .map (optV f.d (A t))] 59))).set (.iface 171 (.pointer (some (ae 4))))
    have hcc := hset.cell
    refine ⟨.iface 171 (.pointer (some (ae 4))), ?_, rfl, HTu.out _ _ (belowA hBW6 (.cells #[.bool f.d, .string f.x, .map (optV f.d (A t))] 59)), HRk.out _ _ (belowA hBW6 (.cells #[.bool f.d, .string f.x, .map (optV f.d (A t))] 59))⟩
    simp [results, Tryz.results149, go_sem, hcc]
  clear hKx
  go_region_held3 (fun W' => W'.cell? ⟨w.heap.size, 2, none⟩ = some (.string t) ∧ W'.cell? ⟨w.heap.size + 1, 0, none⟩ = some (.bool true) ∧ W'.cell? ⟨w.heap.size + 1, 1, none⟩ = some (.string ⟨#[]⟩) ∧ W'.cell? ⟨w.heap.size + 1, 2, none⟩ = some (.map (some (A ⟨#[47]⟩))))
    ((refine AS.out _ ?_; repeat (first | exact Below.refl _ _ | apply belowA | refine belowT ?_ hB4 | refine belowT ?_ hB3 | apply Below.drew | refine set3_below ?_ (by first | exact Nat.le_refl _ | (have h3 := hB3.size; have h4 := hB4.size; simp at h3 h4 ⊢; omega)) _ _ _)))
    (first | (go_at_call 25; refine (HU.out _).mono ?_; rintro e w3 ⟨rfl, hB3⟩; obtain ⟨bc3, bf3⟩ := bcellN hB3; have l3 := hB3.size; (try simp at l3); (try (have z0 := bc3 W1.heap.size 0 (lt_allocD _ _); have z1 := bc3 W1.heap.size 1 (lt_allocD _ _); have z2 := bc3 W1.heap.size 2 (lt_allocD _ _); have z3 := bf3 W1.heap.size 0 (lt_allocD _ _); have z4 := bf3 W1.heap.size 1 (lt_allocD _ _); have z5 := bf3 W1.heap.size 2 (lt_allocD _ _); simp at z0 z1 z2 z3 z4 z5)); clear bc3 bf3) | (go_at_call 53; refine (HDi.out _ (AR1.out _ (by repeat (first | exact Below.refl _ _ | apply belowA | refine belowT ?_ hB3 | apply Below.drew))) (AE1.out _ (by repeat (first | exact Below.refl _ _ | apply belowA | refine belowT ?_ hB3 | apply Below.drew))).two).mono ?_; rintro e w4 ⟨rfl, hB4⟩; obtain ⟨bc4, bf4⟩ := bcellN hB4; have l4 := hB4.size; (try simp at l4); (try (have z0 := bc4 w3.heap.size 0 (lt_alloc _ _); have z1 := bc4 w3.heap.size 1 (lt_alloc _ _); have z2 := bc4 w3.heap.size 2 (lt_alloc _ _); have z3 := bf4 w3.heap.size 0 (lt_alloc _ _); have z4 := bf4 w3.heap.size 1 (lt_alloc _ _); have z5 := bf4 w3.heap.size 2 (lt_alloc _ _); simp at z0 z1 z2 z3 z4 z5)); (try (have v0 := (bc4 W1.heap.size 0 l3).trans z0; have v1 := (bc4 W1.heap.size 1 l3).trans z1; have v2 := (bc4 W1.heap.size 2 l3).trans z2; have v3 := (bf4 W1.heap.size 0 l3).trans z3; have v4 := (bf4 W1.heap.size 1 l3).trans z4; have v5 := (bf4 W1.heap.size 2 l3).trans z5)); clear bc4 bf4))
  all_goals refine HK.out _ _ (by repeat (first | exact Below.refl _ _ | apply belowA | refine belowT ?_ hB4 | refine belowT ?_ hB3 | apply Below.drew | refine set3_below ?_ (by first | exact Nat.le_refl _ | (have h3 := hB3.size; have h4 := hB4.size; simp at h3 h4 ⊢; omega)) _ _ _)) ?_
  all_goals first | exact (set3_cells v0 v1 v2 _ _ _).2.2 | exact (set3_cells z0 z1 z2 _ _ _).2.2 | simp

set_option maxHeartbeats 4000000 in
set_option maxRecDepth 100000 in
theorem move_under (w : World) (base N : Nat) (es : List E) (A : ByteArray → Nat) (ae : Int → Addr) (T : TrE es) (R : Rep w base N es A)
    (hE : Errs8 w ae) (k : Int) (p t x : ByteArray) (hpb : pathB p = true)
    (hp : p.size ≤ 16777216) (ht : t.size ≤ 16777216) (e0 : E) (hl : lookE es p = some e0) (htb : pathB t = true) (hdir : dirE es (upS t) = true) (hlt : lookE es t = none) (hun : underI t p = true) (hb : base ≤ w.heap.size) :
    Calls Tryz.prog 149 #[opV k p t x, treeV A] w fun r w' => r = .returned (errV ae 7) ∧ Turn base w w' ∧ ∃ A', A' ⟨#[47]⟩ = A ⟨#[47]⟩ ∧ Rep w' base (N + 1) es A' := by
  obtain ⟨W0, hW0⟩ : ∃ W0, W0 = ((w.alloc (.cells #[.int .i64 k, .string p, .string t, .string x] 126)).alloc (.cells #[.bool true, .string ⟨#[]⟩, .map (some (A ⟨#[47]⟩))] 61)).alloc (.cells #[.nilIface] 65) := ⟨_, rfl⟩
  have hBw : Below w.heap.size w W0 := hW0 ▸ (((Below.refl _ w).alloc (Nat.le_refl _) _).alloc (by simp) _).alloc (by simp; omega) _
  have hs0 : W0.heap.size = w.heap.size + 3 := by rw [hW0]; simp
  have HX : Hid (DoBox W0 w.heap.size A k p t x) := by
    obtain ⟨y0, y1, y2, y3⟩ := box4i (w := w) (a := .int .i64 k) (b := .string p) (c := .string t) (d := .string x) (T := 126) (w' := W0) (by rw [hW0]; exact ((Below.refl _ _).alloc (Nat.le_refl _) _).alloc (by simp) _)
    obtain ⟨y4, y5, y6⟩ := box3n (w := w.alloc (.cells #[.int .i64 k, .string p, .string t, .string x] 126)) (a := .bool true) (b := .string ⟨#[]⟩) (c := .map (some (A ⟨#[47]⟩))) (T := 61) (w' := W0) (by rw [hW0]; exact (Below.refl _ _).alloc (Nat.le_refl _) _)
    rw [World.size_alloc] at y4 y5 y6
    exact ⟨y0, y1, y2, y3, y4, y5, y6⟩
  have hcr : W0.heap[w.heap.size + 2]? = some (.cells #[.nilIface] 65 (0, 0)) := by
    have := World.alloc_heap_new ((w.alloc (.cells #[.int .i64 k, .string p, .string t, .string x] 126)).alloc (.cells #[.bool true, .string ⟨#[]⟩, .map (some (A ⟨#[47]⟩))] 61)) (.cells #[.nilIface] 65)
    rw [hW0]; simpa using this
  have AX : Hid (∀ W', Below W0.heap.size W0 W' → DoBox W' w.heap.size A k p t x) := fun W' hW => HX.out.below hW
  have AC : Hid (∀ W', Below W0.heap.size W0 W' → Boxed W' (w.heap.size + 2) 65 .nilIface) := fun W' hW => (hW.block _ (Array.getElem?_eq_some_iff.1 hcr).1).trans hcr
  have AR : Hid (∀ W', Below W0.heap.size W0 W' → Rep W' base N es A) := fun W' hW => (R.below hBw).below hW
  have AE : Hid (∀ W', Below W0.heap.size W0 W' → Errs8 W' ae) := fun W' hW => (hE.below hBw).below hW
  have HAt := hid (fun (W : World) (hW : Rep W base N es A) => at_any W base N es A T hW p (by omega))
  have HTu : Hid (∀ W' v, Below W0.heap.size W0 W' → Turn base w (W'.setCell ⟨w.heap.size + 2, 0, none⟩ v)) := fun W' v hW => Turn.of_below ((hBw.trans (hW.mono hBw.size)).setCell (p := ⟨w.heap.size + 2, 0, none⟩) (by show _ ≤ w.heap.size + 2; omega) v) hb
  have HRk : Hid (∀ W' v, Below W0.heap.size W0 W' → ∃ A', A' ⟨#[47]⟩ = A ⟨#[47]⟩ ∧ Rep (W'.setCell ⟨w.heap.size + 2, 0, none⟩ v) base (N + 1) es A') := fun W' v hW => ⟨A, rfl, (R.below ((hBw.trans (hW.mono hBw.size)).setCell (p := ⟨w.heap.size + 2, 0, none⟩) (by show _ ≤ w.heap.size + 2; omega) v)).more⟩
  clear hcr
  rw [atE_some hpb hl] at HAt
  obtain ⟨xx, hxx⟩ := atE_dir (A := A) hdir
  have hdv : dirV es A (upS t) = .agg #[.bool true, .string xx, .map (some (A (upS t)))] := by unfold dirV; rw [dirC_dir hdir, if_pos rfl, hxx]
  have hev : errV ae (dirC es (upS t)) = .nilIface := by rw [dirC_dir hdir]; rfl
  have HU := hid (fun W => iPathUp_any t ht W)
  have hus : (upS t).size ≤ 4611686018427387904 := by have := upS_size t; omega
  have HDi := hid (fun (W : World) (hW : Rep W base N es A) (hE : Errs2 W ae) => dirAt_any W base N es A ae T hW hE (upS t) hus)
  have HAt2 := hid (fun (W : World) (hW : Rep W base N es A) => at_any W base N es A T hW t (by omega))
  rw [hdv, hev] at HDi
  have HR0 := hid R
  clear hE R
  rw [atE_none htb hlt] at HAt2
  have HUn := hid (fun W => iPathUnder_any t p ht hp W)
  rw [hun] at HUn
  rw [errV_no (by decide)]
  refine (callsIn_wide (n := 6)).1 ?_
  refine callsIn_of_wp_marks Tryz.func149 rfl trivial ?_ rfl
  simp only [Tryz.ntmps149, List.size_toArray, List.length_cons, List.length_nil, Nat.reduceAdd, Nat.reduceSub, Array.replicate_succ, Array.replicate_zero, List.push_toArray, List.append_toArray, List.nil_append, List.cons_append]
  refine wpIn_wide.2 ?_
  go_wp2_with (first | (go_at_call 38; rw [← hW0]; refine (HAt.out _ (AR.out _ (Below.refl _ _))).mono ?_; rintro e w5 ⟨rfl, hB5⟩) | fail)
  obtain ⟨W1, hW1⟩ : ∃ W1, W1 = w5.alloc (.cells #[.bool e0.d, .string e0.x, .map (optV e0.d (A p))] 59) := ⟨_, rfl⟩
  have hB1 : Below W0.heap.size W0 W1 := by rw [hW1]; exact belowA hB5 _
  have c50 : W1.cell? ⟨w5.heap.size, 0, none⟩ = some (.bool e0.d) := by rw [hW1]; simp
  have c51 : W1.cell? ⟨w5.heap.size, 1, none⟩ = some (.string e0.x) := by rw [hW1]; simp
  have c52 : W1.cell? ⟨w5.heap.size, 2, none⟩ = some (.map (optV e0.d (A p))) := by rw [hW1]; simp
  rw [← hW1]
  clear hW0 hW1 HAt
  have hsz1 := hB1.size
  have hs2 : w.heap.size + 2 < W1.heap.size := by omega
  clear hs0 hsz1
  have AS : Hid (∀ W', Below W1.heap.size W1 W' → (W'.cell? ⟨w.heap.size, 2, none⟩ = some (.string t) ∧ W'.cell? ⟨w.heap.size + 1, 0, none⟩ = some (.bool true) ∧ W'.cell? ⟨w.heap.size + 1, 1, none⟩ = some (.string ⟨#[]⟩) ∧ W'.cell? ⟨w.heap.size + 1, 2, none⟩ = some (.map (some (A ⟨#[47]⟩))))) := fun W' hW => by
    have := AX.out _ (belowT hB1 hW)
    exact ⟨this.o2, this.t0, this.t1, this.t2⟩
  have AR1 : Hid (∀ W', Below W1.heap.size W1 W' → Rep W' base N es A) := fun W' hW => AR.out _ (belowT hB1 hW)
  have AE1 : Hid (∀ W', Below W1.heap.size W1 W' → Errs8 W' ae) := fun W' hW => AE.out _ (belowT hB1 hW)
  have AN : Hid (∀ W', Below W1.heap.size W1 W' → W'.cell? ⟨w5.heap.size, 0, none⟩ = some (.bool e0.d) ∧ W'.cell? ⟨w5.heap.size, 1, none⟩ = some (.string e0.x) ∧ W'.cell? ⟨w5.heap.size, 2, none⟩ = some (.map (optV e0.d (A p)))) := fun W' hW => ⟨below_cell hW c50, below_cell hW c51, below_cell hW c52⟩
  clear c50 c51 c52
  rename_i Qx Kx hKx
  have HK : Hid (∀ (b : Nat) (W : World), Below W1.heap.size W1 W → W.cell? ⟨b, 2, none⟩ = some (.map (some (A (upS t)))) → Kx { tmps := #[opV k p t x, treeV A, .pointer (some ⟨w.heap.size, 0, none⟩), .pointer (some ⟨w.heap.size + 1, 0, none⟩), .pointer (some ⟨w.heap.size + 2, 0, none⟩), .pointer (some ⟨w5.heap.size, 0, none⟩), .bool true, .pointer (some ⟨b, 0, none⟩), .nilIface, undef, undef, undef, .tuple #[.agg #[.bool e0.d, .string e0.x, .map (optV e0.d (A p))], .bool true], treeV A, .pointer (some ⟨w.heap.size, 1, none⟩), .string p, .tuple #[.agg #[.bool e0.d, .string e0.x, .map (optV e0.d (A p))], .bool true], .agg #[.bool e0.d, .string e0.x, .map (optV e0.d (A p))], .bool true, .bool true, .bool false, undef, .tuple #[.agg #[.bool true, .string xx, .map (some (A (upS t)))], .nilIface], treeV A, .pointer (some ⟨w.heap.size, 2, none⟩), .string t, .string (upS t), .tuple #[.agg #[.bool true, .string xx, .map (some (A (upS t)))], .nilIface], .agg #[.bool true, .string xx, .map (some (A (upS t)))], .nilIface, undef, undef, undef, undef, undef, undef, undef, undef, undef, undef, undef, undef, undef, undef, undef, undef, undef, undef, undef, undef, undef, undef, undef, undef, undef, undef, undef, undef, undef, undef, undef, undef, undef, undef, undef, undef, undef, undef], defers := [] } W) := by
    intro b W hBW hb2
    refine hKx _ _ ?_
    have hBW0 := belowT hB1 hBW
    obtain ⟨y0, y1, y2, y3, y4, y5, y6⟩ := AX.out _ hBW0
    go_wp2_with (first | (go_at_call 38; refine (HAt2.out _ (AR.out _ hBW0)).mono ?_; rintro e w6 ⟨rfl, hB6⟩; have hBW6 := belowT hBW0 hB6; obtain ⟨q0, q1, q2, q3, q4, q5, q6⟩ := AX.out _ hBW6; have u0 := fun o => cellOn o q1; have u1 := fun o => cellOn o q2; have n4 := (AE.out _ hBW6).there; have n4' := fun o => cellOn o n4; have hc6 := fun o => (AC.out _ (belowA hBW6 o)).cell; have hf6 := fun o => (AC.out _ (belowA hBW6 o)).frozen) | (go_at_call 15; refine (HUn.out _).mono ?_; rintro e w7 ⟨rfl, hB7⟩; have hBW7 := belowT (belowA hBW6 _) hB7; have n7 := (AE.out _ hBW7).under; have hc7 := (AC.out _ hBW7).cell; have hf7 := (AC.out _ hBW7).frozen; obtain ⟨r0, r1, r2, r3, r4, r5, r6⟩ := AX.out _ hBW7))
    have hset := (AC.out _ (hBW7)).set (.iface 171 (.pointer (some (ae 7))))
    have hcc := hset.cell
    refine ⟨.iface 171 (.pointer (some (ae 7))), ?_, rfl, HTu.out _ _ (hBW7), HRk.out _ _ (hBW7)⟩
    simp [results, Tryz.results149, go_sem, hcc]
  clear hKx
  go_region_held3 (fun W' => W'.cell? ⟨w.heap.size, 2, none⟩ = some (.string t) ∧ W'.cell? ⟨w.heap.size + 1, 0, none⟩ = some (.bool true) ∧ W'.cell? ⟨w.heap.size + 1, 1, none⟩ = some (.string ⟨#[]⟩) ∧ W'.cell? ⟨w.heap.size + 1, 2, none⟩ = some (.map (some (A ⟨#[47]⟩))))
    ((refine AS.out _ ?_; repeat (first | exact Below.refl _ _ | apply belowA | refine belowT ?_ hB4 | refine belowT ?_ hB3 | apply Below.drew | refine set3_below ?_ (by first | exact Nat.le_refl _ | (have h3 := hB3.size; have h4 := hB4.size; simp at h3 h4 ⊢; omega)) _ _ _)))
    (first | (go_at_call 25; refine (HU.out _).mono ?_; rintro e w3 ⟨rfl, hB3⟩; obtain ⟨bc3, bf3⟩ := bcellN hB3; have l3 := hB3.size; (try simp at l3); (try (have z0 := bc3 W1.heap.size 0 (lt_allocD _ _); have z1 := bc3 W1.heap.size 1 (lt_allocD _ _); have z2 := bc3 W1.heap.size 2 (lt_allocD _ _); have z3 := bf3 W1.heap.size 0 (lt_allocD _ _); have z4 := bf3 W1.heap.size 1 (lt_allocD _ _); have z5 := bf3 W1.heap.size 2 (lt_allocD _ _); simp at z0 z1 z2 z3 z4 z5)); clear bc3 bf3) | (go_at_call 53; refine (HDi.out _ (AR1.out _ (by repeat (first | exact Below.refl _ _ | apply belowA | refine belowT ?_ hB3 | apply Below.drew))) (AE1.out _ (by repeat (first | exact Below.refl _ _ | apply belowA | refine belowT ?_ hB3 | apply Below.drew))).two).mono ?_; rintro e w4 ⟨rfl, hB4⟩; obtain ⟨bc4, bf4⟩ := bcellN hB4; have l4 := hB4.size; (try simp at l4); (try (have z0 := bc4 w3.heap.size 0 (lt_alloc _ _); have z1 := bc4 w3.heap.size 1 (lt_alloc _ _); have z2 := bc4 w3.heap.size 2 (lt_alloc _ _); have z3 := bf4 w3.heap.size 0 (lt_alloc _ _); have z4 := bf4 w3.heap.size 1 (lt_alloc _ _); have z5 := bf4 w3.heap.size 2 (lt_alloc _ _); simp at z0 z1 z2 z3 z4 z5)); (try (have v0 := (bc4 W1.heap.size 0 l3).trans z0; have v1 := (bc4 W1.heap.size 1 l3).trans z1; have v2 := (bc4 W1.heap.size 2 l3).trans z2; have v3 := (bf4 W1.heap.size 0 l3).trans z3; have v4 := (bf4 W1.heap.size 1 l3).trans z4; have v5 := (bf4 W1.heap.size 2 l3).trans z5)); clear bc4 bf4))
  all_goals refine HK.out _ _ (by repeat (first | exact Below.refl _ _ | apply belowA | refine belowT ?_ hB4 | refine belowT ?_ hB3 | apply Below.drew | refine set3_below ?_ (by first | exact Nat.le_refl _ | (have h3 := hB3.size; have h4 := hB4.size; simp at h3 h4 ⊢; omega)) _ _ _)) ?_
  all_goals first | exact (set3_cells v0 v1 v2 _ _ _).2.2 | exact (set3_cells z0 z1 z2 _ _ _).2.2 | simp

end Go.Proofs.YtbcogekeoklddaaGreatDoor
