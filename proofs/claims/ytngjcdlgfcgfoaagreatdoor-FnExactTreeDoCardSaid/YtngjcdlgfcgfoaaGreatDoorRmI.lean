/-
  The walks of the program's own: a file is taken away, a directory is taken away.
-/
import Derived.Test.YtngjcdlgfcgfoaaGreatDoorCutI
import Derived.Test.YtngjcdlgfcgfoaaGreatDoorNamesI
namespace Go.Proofs.YtngjcdlgfcgfoaaGreatDoor
open Go.RowKit Go.Shelf Go.Lib Go.Maps

attribute [local go_sem] Oper.semAt_some

/-- How much a directory's map has. -/
theorem kids_size {w : World} {b N : Nat} {es : List E} {A : ByteArray → Nat} {p : ByteArray} (T : TrE es) (hst : stemOk p = true) (h : MapIs w b N (kidF es A p)) :
    ∃ m : Nat, (∀ ty, (Builtin.len_ #[45] ty #[.map (some b)]).run Tryz.prog w = .ok (.int .i64 m) w) ∧ (0 < m ↔ 0 < (kidsE es p).length) := by
  obtain ⟨D, n, hown, _, hD⟩ := h
  refine ⟨Maps.size D, fun ty => hown.len Tryz.underlying45 ty, ?_⟩
  obtain ⟨es', rfl, hko⟩ := hown.keysOf
  have hk := kids_some (A := A) T hst
  constructor
  · intro hm
    cases es' with
    | nil => simp [Maps.size] at hm
    | cons q r =>
      obtain ⟨v, hv⟩ := hko q (List.mem_cons_self ..)
      obtain ⟨y, _, hy, hl⟩ := Maps.keyOf_str Tryz.underlying9 hv
      have hhas : Maps.has (DataW.map (q :: r)) (.string y) = true := by
        rw [has_eq, List.any_eq_true]
        exact ⟨q, List.mem_cons_self .., by rw [hy]; exact WideAt.sameKey_self trivial⟩
      have hs := hD ⟨y.toArray⟩ (by show y.toArray.size ≤ _; simpa using hl)
      have hm2 : (⟨y.toArray⟩ : ByteArray) ∈ kidsE es p := (hk _).2 ⟨by show y.toArray.size ≤ _; simpa using hl, by rw [← hs.1]; simpa using hhas⟩
      exact List.length_pos_of_mem hm2
  · intro hm
    obtain ⟨s, hs⟩ := List.exists_mem_of_length_pos hm
    obtain ⟨h1, h2⟩ := (hk s).1 hs
    have := (hD s h1).1
    rw [h2, has_eq, List.any_eq_true] at this
    obtain ⟨q, hq, _⟩ := this
    simp only [Maps.size]
    exact List.length_pos_of_mem hq

/-! ### The codes -/
theorem offC_none {es : List E} {k : Int} {p : ByteArray} (hp : pathB p = true) (hl : lookE es p = none) : offC es k p = 2 := by
  unfold offC; rw [getE_look (root_not_path hp), hl]; rfl
theorem offC_some {es : List E} {k : Int} {p : ByteArray} (hp : pathB p = true) {f : E} (hl : lookE es p = some f) : offC es k p = if k = 3 ∧ f.d = true then 5 else if k = 4 ∧ f.d = false then 3 else if 0 < (kidsE es p).length then 6 else 0 := by
  unfold offC; rw [getE_look (root_not_path hp), hl]; rfl

set_option maxHeartbeats 4000000 in
set_option maxRecDepth 100000 in
theorem rmDo_any (w : World) (base N : Nat) (es : List E) (A : ByteArray → Nat) (ae : Int → Addr) (T : TrE es) (R : Rep w base N es A) (hE : Errs8 w ae) (k : Int) (p t x : ByteArray) (hpb : pathB p = true)
    (hp : p.size ≤ 16777216) (hb : base ≤ w.heap.size) :
    Calls Tryz.prog 122 #[opV k p t x, treeV A] w fun r w' => r = .returned (errV ae (offC es 3 p)) ∧ Turn base w w' ∧ ∃ A', A' ⟨#[47]⟩ = A ⟨#[47]⟩ ∧ Rep w' base (N + 1) (if offC es 3 p = 0 then offE es p else es) A' := by
  obtain ⟨W0, hW0⟩ : ∃ W0, W0 = (w.alloc (.cells #[.int .i64 k, .string p, .string t, .string x] 93)).alloc (.cells #[.bool true, .string ⟨#[]⟩, .map (some (A ⟨#[47]⟩))] 49) := ⟨_, rfl⟩
  have hBw : Below w.heap.size w W0 := hW0 ▸ ((Below.refl _ w).alloc (Nat.le_refl _) _).alloc (by simp) _
  have HX : Hid (DoBox W0 w.heap.size A k p t x) := by
    subst hW0
    constructor <;> simp
  have AX : Hid (∀ W', Below W0.heap.size W0 W' → DoBox W' w.heap.size A k p t x) := fun W' hW => HX.out.below hW
  have AR : Hid (∀ W', Below W0.heap.size W0 W' → Rep W' base N es A) := fun W' hW => (R.below hBw).below hW
  have AE : Hid (∀ W', Below W0.heap.size W0 W' → Errs8 W' ae) := fun W' hW => (hE.below hBw).below hW
  have HAt := hid (fun (W : World) (hW : Rep W base N es A) => at_any W base N es A T hW p (by omega))
  have HTu : Hid (∀ W', Below W0.heap.size W0 W' → Turn base w W') := fun W' hW => Turn.of_below (hBw.trans (hW.mono hBw.size)) hb
  have HRk : Hid (∀ W', Below W0.heap.size W0 W' → ∃ A', A' ⟨#[47]⟩ = A ⟨#[47]⟩ ∧ Rep W' base (N + 1) es A') := fun W' hW => ⟨A, rfl, (AR.out W' hW).more⟩
  clear hE R
  cases hl : lookE es p with
  | none =>
    rw [atE_none hpb hl] at HAt
    rw [offC_none hpb hl, if_neg (by decide), errV_no (by decide)]
    go_enter Tryz.func122, Tryz.ntmps122
    go_wp2_with (go_at_call 64; rw [← hW0]; refine (HAt.out _ (AR.out _ (Below.refl _ _))).mono ?_; rintro e w5 ⟨rfl, hB5⟩; have n2 := (AE.out _ hB5).two.noneC; have n2' := fun o => cellOn o n2)
    go_ret
    exact ⟨rfl, HTu.out _ (belowA hB5 _), HRk.out _ (belowA hB5 _)⟩
  | some f =>
    rw [atE_some hpb hl] at HAt
    rw [offC_some hpb hl]
    cases hfd : f.d with
    | true =>
      rw [hfd] at HAt
      rw [if_pos ⟨rfl, rfl⟩, if_neg (by decide), errV_no (by decide)]
      go_enter Tryz.func122, Tryz.ntmps122
      go_wp2_with (go_at_call 64; rw [← hW0]; refine (HAt.out _ (AR.out _ (Below.refl _ _))).mono ?_; rintro e w5 ⟨rfl, hB5⟩; have n2 := (AE.out _ hB5).isDir; have n2' := fun o => cellOn o n2)
      go_ret
      exact ⟨rfl, HTu.out _ (belowA hB5 _), HRk.out _ (belowA hB5 _)⟩
    | false =>
      rw [hfd] at HAt
      have hdf : dirE es p = false := by rw [dirE_look, hl, root_not_path hpb]; exact hfd
      have hkn := kids_file T hdf
      have hup : dirE es (upS p) = true := by
        obtain ⟨h1, h2⟩ := look_mem hl
        rw [← h2]; exact T.up f h1
      rw [if_neg (by simp), if_neg (by simp), hkn, if_neg (by simp), if_pos rfl, show errV ae 0 = .nilIface from rfl]
      have HCu := hid (fun (W : World) (hW : Rep W base N es A) => cut_any W base N es A T hW p hpb hp hup)
      go_enter Tryz.func122, Tryz.ntmps122
      go_wp2_with (first | (go_at_call 64; rw [← hW0]; refine (HAt.out _ (AR.out _ (Below.refl _ _))).mono ?_; rintro e w5 ⟨rfl, hB5⟩; obtain ⟨q0, q1, q2, q3, q4, q5, q6⟩ := AX.out _ hB5; have u0 := fun o => cellOn o q4; have u1 := fun o => cellOn o q5; have u2 := fun o => cellOn o q6; have u3 := fun o => cellOn o q1) | (go_at_call 116; refine (HCu.out _ (AR.out _ (belowA hB5 _))).mono ?_; rintro e w6 ⟨⟨v6, rfl⟩, V, hB6, ht6, hm6⟩))
      go_ret
      have hBV := belowT (belowA hB5 _) hB6
      have fin := off_fin T (AR.out _ hBV) (HTu.out _ hBV) hpb hup hm6 ht6
      exact ⟨rfl, fin.1, A, rfl, fin.2.more⟩

set_option maxHeartbeats 4000000 in
set_option maxRecDepth 100000 in
theorem rmdirDo_any (w : World) (base N : Nat) (es : List E) (A : ByteArray → Nat) (ae : Int → Addr) (T : TrE es) (R : Rep w base N es A) (hE : Errs8 w ae) (k : Int) (p t x : ByteArray) (hpb : pathB p = true)
    (hp : p.size ≤ 16777216) (hb : base ≤ w.heap.size) :
    Calls Tryz.prog 124 #[opV k p t x, treeV A] w fun r w' => r = .returned (errV ae (offC es 4 p)) ∧ Turn base w w' ∧ ∃ A', A' ⟨#[47]⟩ = A ⟨#[47]⟩ ∧ Rep w' base (N + 1) (if offC es 4 p = 0 then offE es p else es) A' := by
  obtain ⟨W0, hW0⟩ : ∃ W0, W0 = (w.alloc (.cells #[.int .i64 k, .string p, .string t, .string x] 94)).alloc (.cells #[.bool true, .string ⟨#[]⟩, .map (some (A ⟨#[47]⟩))] 49) := ⟨_, rfl⟩
  have hBw : Below w.heap.size w W0 := hW0 ▸ ((Below.refl _ w).alloc (Nat.le_refl _) _).alloc (by simp) _
  have HX : Hid (DoBox W0 w.heap.size A k p t x) := by
    subst hW0
    constructor <;> simp
  have AX : Hid (∀ W', Below W0.heap.size W0 W' → DoBox W' w.heap.size A k p t x) := fun W' hW => HX.out.below hW
  have AR : Hid (∀ W', Below W0.heap.size W0 W' → Rep W' base N es A) := fun W' hW => (R.below hBw).below hW
  have AE : Hid (∀ W', Below W0.heap.size W0 W' → Errs8 W' ae) := fun W' hW => (hE.below hBw).below hW
  have HDi := hid (fun (W : World) (hW : Rep W base N es A) (hE : Errs2 W ae) => dirAt_any W base N es A ae T hW hE p (by omega))
  have HTu : Hid (∀ W', Below W0.heap.size W0 W' → Turn base w W') := fun W' hW => Turn.of_below (hBw.trans (hW.mono hBw.size)) hb
  have HRk : Hid (∀ W', Below W0.heap.size W0 W' → ∃ A', A' ⟨#[47]⟩ = A ⟨#[47]⟩ ∧ Rep W' base (N + 1) es A') := fun W' hW => ⟨A, rfl, (AR.out W' hW).more⟩
  clear hE R
  by_cases hc0 : dirC es p = 0
  · have hdir := dirC_zero hc0
    obtain ⟨f, hl, hfd⟩ : ∃ f, lookE es p = some f ∧ f.d = true := by
      rcases dir_look hdir with h | h
      · rw [h, root_no_path] at hpb; cases hpb
      · exact h
    obtain ⟨xx, hxx⟩ := atE_dir (A := A) hdir
    have hdv : dirV es A p = .agg #[.bool true, .string xx, .map (some (A p))] := by unfold dirV; rw [if_pos hc0, hxx]
    have hev : errV ae (dirC es p) = .nilIface := by rw [hc0]; rfl
    rw [hdv, hev] at HDi
    rw [offC_some hpb hl, hfd, if_neg (by simp), if_neg (by simp)]
    have hup : dirE es (upS p) = true := by
      obtain ⟨h1, h2⟩ := look_mem hl
      rw [← h2]; exact T.up f h1
    have HCu := hid (fun (W : World) (hW : Rep W base N es A) => cut_any W base N es A T hW p hpb hp hup)
    by_cases hk : 0 < (kidsE es p).length
    · rw [if_pos hk, if_neg (by decide), errV_no (by decide)]
      go_enter Tryz.func124, Tryz.ntmps124
      go_wp2_with (first | (go_at_call 54; rw [← hW0]; refine (HDi.out _ (AR.out _ (Below.refl _ _)) (AE.out _ (Below.refl _ _)).two).mono ?_; rintro e w5 ⟨rfl, hB5⟩; have n2 := (AE.out _ hB5).kept; have n2' := fun o => cellOn o n2; obtain ⟨m, hm1, hm2⟩ := kids_size T (stemOk_path hpb) ((AR.out _ (belowA hB5 (.cells #[.bool true, .string xx, .map (some (A p))] 47))).kids p hdir); have hmp := hm2.2 hk) | fail)
      go_ret
      exact ⟨rfl, HTu.out _ (belowA hB5 _), HRk.out _ (belowA hB5 _)⟩
    · rw [if_neg hk, if_pos rfl, show errV ae 0 = .nilIface from rfl]
      go_enter Tryz.func124, Tryz.ntmps124
      go_wp2_with (first | (go_at_call 54; rw [← hW0]; refine (HDi.out _ (AR.out _ (Below.refl _ _)) (AE.out _ (Below.refl _ _)).two).mono ?_; rintro e w5 ⟨rfl, hB5⟩; obtain ⟨q0, q1, q2, q3, q4, q5, q6⟩ := AX.out _ hB5; have u0 := fun o => cellOn o q4; have u1 := fun o => cellOn o q5; have u2 := fun o => cellOn o q6; have u3 := fun o => cellOn o q1; obtain ⟨m, hm1, hm2⟩ := kids_size T (stemOk_path hpb) ((AR.out _ (belowA hB5 (.cells #[.bool true, .string xx, .map (some (A p))] 47))).kids p hdir); obtain rfl : m = 0 := Nat.eq_zero_of_not_pos (fun h => hk (hm2.1 h))) | (go_at_call 116; refine (HCu.out _ (AR.out _ (belowA hB5 _))).mono ?_; rintro e w6 ⟨⟨v6, rfl⟩, V, hB6, ht6, hm6⟩))
      go_ret
      have hBV := belowT (belowA hB5 _) hB6
      have fin := off_fin T (AR.out _ hBV) (HTu.out _ hBV) hpb hup hm6 ht6
      exact ⟨rfl, fin.1, A, rfl, fin.2.more⟩
  · have hdv : dirV es A p = zeroN := by unfold dirV; rw [if_neg hc0]
    have hcode : offC es 4 p = dirC es p := by
      cases hl : lookE es p with
      | none => rw [offC_none hpb hl]; unfold dirC; rw [getE_look (root_not_path hpb), hl]; rfl
      | some f =>
        have hfd : f.d = false := by
          cases h : f.d with
          | false => rfl
          | true => exact absurd (dirC_dir (look_dir (.inr ⟨f, hl, h⟩))) hc0
        rw [offC_some hpb hl, hfd, if_neg (by simp), if_pos ⟨rfl, rfl⟩]
        unfold dirC; rw [getE_look (root_not_path hpb), hl]; simp [hfd]
    rw [hcode, if_neg hc0, errV_no hc0]
    rw [hdv, errV_no hc0] at HDi
    go_enter Tryz.func124, Tryz.ntmps124
    go_wp2_with (go_at_call 54; rw [← hW0]; refine (HDi.out _ (AR.out _ (Below.refl _ _)) (AE.out _ (Below.refl _ _)).two).mono ?_; rintro e w5 ⟨rfl, hB5⟩)
    go_ret
    exact ⟨rfl, HTu.out _ (belowA hB5 _), HRk.out _ (belowA hB5 _)⟩
end Go.Proofs.YtngjcdlgfcgfoaaGreatDoor
