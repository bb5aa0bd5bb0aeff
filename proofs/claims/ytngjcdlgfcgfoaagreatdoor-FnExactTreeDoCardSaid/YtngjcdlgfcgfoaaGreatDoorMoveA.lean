/-
  The walk of the program's own: something is moved; what ends it ahead of the look at what is below.
-/
import Derived.Deep.RegionHeld3
import Derived.Test.YtngjcdlgfcgfoaaGreatDoorCutI
import Derived.Test.YtngjcdlgfcgfoaaGreatDoorUnderI
namespace Go.Proofs.YtngjcdlgfcgfoaaGreatDoor
open Go.RowKit Go.Shelf Go.Lib

attribute [local go_sem] Oper.semAt_some

set_option maxHeartbeats 4000000 in
set_option maxRecDepth 100000 in
theorem move_none (w : World) (base N : Nat) (es : List E) (A : ByteArray → Nat) (ae : Int → Addr) (T : TrE es) (R : Rep w base N es A)
    (hE : Errs8 w ae) (k : Int) (p t x : ByteArray) (hpb : pathB p = true)
    (hp : p.size ≤ 16777216) (hl : lookE es p = none) (hb : base ≤ w.heap.size) :
    Calls Tryz.prog 126 #[opV k p t x, treeV A] w fun r w' => r = .returned (errV ae 2) ∧ Turn base w w' ∧ ∃ A', A' ⟨#[47]⟩ = A ⟨#[47]⟩ ∧ Rep w' base (N + 1) es A' := by
  obtain ⟨W0, hW0⟩ : ∃ W0, W0 = ((w.alloc (.cells #[.int .i64 k, .string p, .string t, .string x] 95)).alloc (.cells #[.bool true, .string ⟨#[]⟩, .map (some (A ⟨#[47]⟩))] 49)).alloc (.cells #[.nilIface] 53) := ⟨_, rfl⟩
  have hBw : Below w.heap.size w W0 := hW0 ▸ (((Below.refl _ w).alloc (Nat.le_refl _) _).alloc (by simp) _).alloc (by simp; omega) _
  have hs0 : W0.heap.size = w.heap.size + 3 := by rw [hW0]; simp
  have HX : Hid (DoBox W0 w.heap.size A k p t x) := by
    obtain ⟨y0, y1, y2, y3⟩ := box4i (w := w) (a := .int .i64 k) (b := .string p) (c := .string t) (d := .string x) (T := 95) (w' := W0) (by rw [hW0]; exact ((Below.refl _ _).alloc (Nat.le_refl _) _).alloc (by simp) _)
    obtain ⟨y4, y5, y6⟩ := box3n (w := w.alloc (.cells #[.int .i64 k, .string p, .string t, .string x] 95)) (a := .bool true) (b := .string ⟨#[]⟩) (c := .map (some (A ⟨#[47]⟩))) (T := 49) (w' := W0) (by rw [hW0]; exact (Below.refl _ _).alloc (Nat.le_refl _) _)
    rw [World.size_alloc] at y4 y5 y6
    exact ⟨y0, y1, y2, y3, y4, y5, y6⟩
  have hcr : W0.heap[w.heap.size + 2]? = some (.cells #[.nilIface] 53 (0, 0)) := by
    have := World.alloc_heap_new ((w.alloc (.cells #[.int .i64 k, .string p, .string t, .string x] 95)).alloc (.cells #[.bool true, .string ⟨#[]⟩, .map (some (A ⟨#[47]⟩))] 49)) (.cells #[.nilIface] 53)
    rw [hW0]; simpa using this
  have AX : Hid (∀ W', Below W0.heap.size W0 W' → DoBox W' w.heap.size A k p t x) := fun W' hW => HX.out.below hW
  have AC : Hid (∀ W', Below W0.heap.size W0 W' → Boxed W' (w.heap.size + 2) 53 .nilIface) := fun W' hW => (hW.block _ (Array.getElem?_eq_some_iff.1 hcr).1).trans hcr
  have AR : Hid (∀ W', Below W0.heap.size W0 W' → Rep W' base N es A) := fun W' hW => (R.below hBw).below hW
  have AE : Hid (∀ W', Below W0.heap.size W0 W' → Errs8 W' ae) := fun W' hW => (hE.below hBw).below hW
  have HAt := hid (fun (W : World) (hW : Rep W base N es A) => at_any W base N es A T hW p (by omega))
  have HTu : Hid (∀ W' v, Below W0.heap.size W0 W' → Turn base w (W'.setCell ⟨w.heap.size + 2, 0, none⟩ v)) := fun W' v hW => Turn.of_below ((hBw.trans (hW.mono hBw.size)).setCell (p := ⟨w.heap.size + 2, 0, none⟩) (by show _ ≤ w.heap.size + 2; omega) v) hb
  have HRk : Hid (∀ W' v, Below W0.heap.size W0 W' → ∃ A', A' ⟨#[47]⟩ = A ⟨#[47]⟩ ∧ Rep (W'.setCell ⟨w.heap.size + 2, 0, none⟩ v) base (N + 1) es A') := fun W' v hW => ⟨A, rfl, (R.below ((hBw.trans (hW.mono hBw.size)).setCell (p := ⟨w.heap.size + 2, 0, none⟩) (by show _ ≤ w.heap.size + 2; omega) v)).more⟩
  clear hcr
  rw [atE_none hpb hl] at HAt
  rw [errV_no (by decide)]
  go_enter Tryz.func126, Tryz.ntmps126
  go_wp2_with (go_at_call 64; rw [← hW0]; refine (HAt.out _ (AR.out _ (Below.refl _ _))).mono ?_; rintro e w5 ⟨rfl, hB5⟩; have n2 := (AE.out _ hB5).two.noneC; have n2' := fun o => cellOn o n2; have hc5 := (AC.out _ (belowA hB5 (.cells #[.bool false, .string ⟨#[]⟩, .map none] 47))).cell; have hf5 := (AC.out _ (belowA hB5 (.cells #[.bool false, .string ⟨#[]⟩, .map none] 47))).frozen)
  have hset := (AC.out _ (belowA hB5 (.cells #[.bool false, .string ⟨#[]⟩, .map none] 47))).set (.iface 157 (.pointer (some (ae 2))))
  have hcc := hset.cell
  exact bodyPost_ret (v := .iface 157 (.pointer (some (ae 2)))) (by simp [results, Tryz.results126, go_sem, hcc]) rfl ⟨rfl, HTu.out _ _ (belowA hB5 _), HRk.out _ _ (belowA hB5 _)⟩

set_option maxHeartbeats 4000000 in
set_option maxRecDepth 100000 in
theorem move_up (w : World) (base N : Nat) (es : List E) (A : ByteArray → Nat) (ae : Int → Addr) (T : TrE es) (R : Rep w base N es A)
    (hE : Errs8 w ae) (k : Int) (p t x : ByteArray) (hpb : pathB p = true)
    (hp : p.size ≤ 16777216) (ht : t.size ≤ 16777216) (e0 : E) (hl : lookE es p = some e0) (hc0 : dirC es (upS t) ≠ 0) (hb : base ≤ w.heap.size) :
    Calls Tryz.prog 126 #[opV k p t x, treeV A] w fun r w' => r = .returned (errV ae (dirC es (upS t))) ∧ Turn base w w' ∧ ∃ A', A' ⟨#[47]⟩ = A ⟨#[47]⟩ ∧ Rep w' base (N + 1) es A' := by
  obtain ⟨W0, hW0⟩ : ∃ W0, W0 = ((w.alloc (.cells #[.int .i64 k, .string p, .string t, .string x] 95)).alloc (.cells #[.bool true, .string ⟨#[]⟩, .map (some (A ⟨#[47]⟩))] 49)).alloc (.cells #[.nilIface] 53) := ⟨_, rfl⟩
  have hBw : Below w.heap.size w W0 := hW0 ▸ (((Below.refl _ w).alloc (Nat.le_refl _) _).alloc (by simp) _).alloc (by simp; omega) _
  have hs0 : W0.heap.size = w.heap.size + 3 := by rw [hW0]; simp
  have HX : Hid (DoBox W0 w.heap.size A k p t x) := by
    obtain ⟨y0, y1, y2, y3⟩ := box4i (w := w) (a := .int .i64 k) (b := .string p) (c := .string t) (d := .string x) (T := 95) (w' := W0) (by rw [hW0]; exact ((Below.refl _ _).alloc (Nat.le_refl _) _).alloc (by simp) _)
    obtain ⟨y4, y5, y6⟩ := box3n (w := w.alloc (.cells #[.int .i64 k, .string p, .string t, .string x] 95)) (a := .bool true) (b := .string ⟨#[]⟩) (c := .map (some (A ⟨#[47]⟩))) (T := 49) (w' := W0) (by rw [hW0]; exact (Below.refl _ _).alloc (Nat.le_refl _) _)
    rw [World.size_alloc] at y4 y5 y6
    exact ⟨y0, y1, y2, y3, y4, y5, y6⟩
  have hcr : W0.heap[w.heap.size + 2]? = some (.cells #[.nilIface] 53 (0, 0)) := by
    have := World.alloc_heap_new ((w.alloc (.cells #[.int .i64 k, .string p, .string t, .string x] 95)).alloc (.cells #[.bool true, .string ⟨#[]⟩, .map (some (A ⟨#[47]⟩))] 49)) (.cells #[.nilIface] 53)
    rw [hW0]; simpa using this
  have AX : Hid (∀ W', Below W0.heap.size W0 W' → DoBox W' w.heap.size A k p t x) := fun W' hW => HX.out.below hW
  have AC : Hid (∀ W', Below W0.heap.size W0 W' → Boxed W' (w.heap.size + 2) 53 .nilIface) := fun W' hW => (hW.block _ (Array.getElem?_eq_some_iff.1 hcr).1).trans hcr
  have AR : Hid (∀ W', Below W0.heap.size W0 W' → Rep W' base N es A) := fun W' hW => (R.below hBw).below hW
  have AE : Hid (∀ W', Below W0.heap.size W0 W' → Errs8 W' ae) := fun W' hW => (hE.below hBw).below hW
  have HAt := hid (fun (W : World) (hW : Rep W base N es A) => at_any W base N es A T hW p (by omega))
  have HTu : Hid (∀ W' v, Below W0.heap.size W0 W' → Turn base w (W'.setCell ⟨w.heap.size + 2, 0, none⟩ v)) := fun W' v hW => Turn.of_below ((hBw.trans (hW.mono hBw.size)).setCell (p := ⟨w.heap.size + 2, 0, none⟩) (by show _ ≤ w.heap.size + 2; omega) v) hb
  have HRk : Hid (∀ W' v, Below W0.heap.size W0 W' → ∃ A', A' ⟨#[47]⟩ = A ⟨#[47]⟩ ∧ Rep (W'.setCell ⟨w.heap.size + 2, 0, none⟩ v) base (N + 1) es A') := fun W' v hW => ⟨A, rfl, (R.below ((hBw.trans (hW.mono hBw.size)).setCell (p := ⟨w.heap.size + 2, 0, none⟩) (by show _ ≤ w.heap.size + 2; omega) v)).more⟩
  clear hcr
  rw [atE_some hpb hl] at HAt
  have hdv : dirV es A (upS t) = zeroN := by unfold dirV; rw [if_neg hc0]
  have HU := hid (fun W => iPathUp_any t ht W)
  have hus : (upS t).size ≤ 4611686018427387904 := by have := upS_size t; omega
  have HDi := hid (fun (W : World) (hW : Rep W base N es A) (hE : Errs2 W ae) => dirAt_any W base N es A ae T hW hE (upS t) hus)
  rw [errV_no hc0]
  rw [hdv, errV_no hc0] at HDi
  clear hE R
  go_enter Tryz.func126, Tryz.ntmps126
  go_wp2_with (first | (go_at_call 64; rw [← hW0]; refine (HAt.out _ (AR.out _ (Below.refl _ _))).mono ?_; rintro e w5 ⟨rfl, hB5⟩) | fail)
  obtain ⟨W1, hW1⟩ : ∃ W1, W1 = w5.alloc (.cells #[.bool e0.d, .string e0.x, .map (optV e0.d (A p))] 47) := ⟨_, rfl⟩
  have hB1 : Below W0.heap.size W0 W1 := by rw [hW1]; exact belowA hB5 _
  rw [← hW1]
  clear hW0 hW1 hs0
  have AS : Hid (∀ W', Below W1.heap.size W1 W' → (W'.cell? ⟨w.heap.size, 2, none⟩ = some (.string t) ∧ W'.cell? ⟨w.heap.size + 1, 0, none⟩ = some (.bool true) ∧ W'.cell? ⟨w.heap.size + 1, 1, none⟩ = some (.string ⟨#[]⟩) ∧ W'.cell? ⟨w.heap.size + 1, 2, none⟩ = some (.map (some (A ⟨#[47]⟩))))) := fun W' hW => by
    have := AX.out _ (belowT hB1 hW)
    exact ⟨this.o2, this.t0, this.t1, this.t2⟩
  have AR1 : Hid (∀ W', Below W1.heap.size W1 W' → Rep W' base N es A) := fun W' hW => AR.out _ (belowT hB1 hW)
  have AE1 : Hid (∀ W', Below W1.heap.size W1 W' → Errs8 W' ae) := fun W' hW => AE.out _ (belowT hB1 hW)
  rename_i Qx Kx hKx
  have HK : Hid (∀ (b : Nat) (W : World), Below W1.heap.size W1 W → Kx { tmps := #[opV k p t x, treeV A, .pointer (some ⟨w.heap.size, 0, none⟩), .pointer (some ⟨w.heap.size + 1, 0, none⟩), .pointer (some ⟨w.heap.size + 2, 0, none⟩), .pointer (some ⟨w5.heap.size, 0, none⟩), .bool true, .pointer (some ⟨b, 0, none⟩), .iface 157 (.pointer (some (ae (dirC es (upS t))))), undef, undef, undef, .tuple #[.agg #[.bool e0.d, .string e0.x, .map (optV e0.d (A p))], .bool true], treeV A, .pointer (some ⟨w.heap.size, 1, none⟩), .string p, .tuple #[.agg #[.bool e0.d, .string e0.x, .map (optV e0.d (A p))], .bool true], .agg #[.bool e0.d, .string e0.x, .map (optV e0.d (A p))], .bool true, .bool true, .bool false, undef, .tuple #[zeroN, .iface 157 (.pointer (some (ae (dirC es (upS t)))))], treeV A, .pointer (some ⟨w.heap.size, 2, none⟩), .string t, .string (upS t), .tuple #[zeroN, .iface 157 (.pointer (some (ae (dirC es (upS t)))))], zeroN, .iface 157 (.pointer (some (ae (dirC es (upS t))))), undef, undef, undef, undef, undef, undef, undef, undef, undef, undef, undef, undef, undef, undef, undef, undef, undef, undef, undef, undef, undef, undef, undef, undef, undef, undef, undef, undef, undef, undef, undef, undef, undef, undef, undef, undef, undef, undef], defers := [] } W) := by
    intro b W hBW
    refine hKx _ _ ?_
    have hc5 := (AC.out _ (belowT hB1 hBW)).cell
    have hf5 := (AC.out _ (belowT hB1 hBW)).frozen
    go_wp2
    have hset := (AC.out _ (belowT hB1 hBW)).set (.iface 157 (.pointer (some (ae (dirC es (upS t))))))
    have hcc := hset.cell
    exact bodyPost_ret (v := .iface 157 (.pointer (some (ae (dirC es (upS t)))))) (by simp [results, Tryz.results126, go_sem, hcc]) rfl ⟨rfl, HTu.out _ _ (belowT hB1 hBW), HRk.out _ _ (belowT hB1 hBW)⟩
  clear hKx
  go_region_held3 (fun W' => W'.cell? ⟨w.heap.size, 2, none⟩ = some (.string t) ∧ W'.cell? ⟨w.heap.size + 1, 0, none⟩ = some (.bool true) ∧ W'.cell? ⟨w.heap.size + 1, 1, none⟩ = some (.string ⟨#[]⟩) ∧ W'.cell? ⟨w.heap.size + 1, 2, none⟩ = some (.map (some (A ⟨#[47]⟩))))
    ((refine AS.out _ ?_; repeat (first | exact Below.refl _ _ | apply belowA | refine belowT ?_ hB4 | refine belowT ?_ hB3 | apply Below.drew | refine set3_below ?_ (by first | exact Nat.le_refl _ | (have h3 := hB3.size; have h4 := hB4.size; simp at h3 h4 ⊢; omega)) _ _ _)))
    (first | (go_at_call 55; refine (HU.out _).mono ?_; rintro e w3 ⟨rfl, hB3⟩; obtain ⟨bc3, bf3⟩ := bcellN hB3; have l3 := hB3.size; (try simp at l3); (try (have z0 := bc3 W1.heap.size 0 (lt_allocD _ _); have z1 := bc3 W1.heap.size 1 (lt_allocD _ _); have z2 := bc3 W1.heap.size 2 (lt_allocD _ _); have z3 := bf3 W1.heap.size 0 (lt_allocD _ _); have z4 := bf3 W1.heap.size 1 (lt_allocD _ _); have z5 := bf3 W1.heap.size 2 (lt_allocD _ _); simp at z0 z1 z2 z3 z4 z5)); clear bc3 bf3) | (go_at_call 54; refine (HDi.out _ (AR1.out _ (by repeat (first | exact Below.refl _ _ | apply belowA | refine belowT ?_ hB3 | apply Below.drew))) (AE1.out _ (by repeat (first | exact Below.refl _ _ | apply belowA | refine belowT ?_ hB3 | apply Below.drew))).two).mono ?_; rintro e w4 ⟨rfl, hB4⟩; obtain ⟨bc4, bf4⟩ := bcellN hB4; have l4 := hB4.size; (try simp at l4); (try (have z0 := bc4 w3.heap.size 0 (lt_alloc _ _); have z1 := bc4 w3.heap.size 1 (lt_alloc _ _); have z2 := bc4 w3.heap.size 2 (lt_alloc _ _); have z3 := bf4 w3.heap.size 0 (lt_alloc _ _); have z4 := bf4 w3.heap.size 1 (lt_alloc _ _); have z5 := bf4 w3.heap.size 2 (lt_alloc _ _); simp at z0 z1 z2 z3 z4 z5)); (try (have v0 := (bc4 W1.heap.size 0 l3).trans z0; have v1 := (bc4 W1.heap.size 1 l3).trans z1; have v2 := (bc4 W1.heap.size 2 l3).trans z2; have v3 := (bf4 W1.heap.size 0 l3).trans z3; have v4 := (bf4 W1.heap.size 1 l3).trans z4; have v5 := (bf4 W1.heap.size 2 l3).trans z5)); clear bc4 bf4))
  all_goals exact HK.out _ _ (by repeat (first | exact Below.refl _ _ | apply belowA | refine belowT ?_ hB4 | refine belowT ?_ hB3 | apply Below.drew | refine set3_below ?_ (by first | exact Nat.le_refl _ | (have h3 := hB3.size; have h4 := hB4.size; simp at h3 h4 ⊢; omega)) _ _ _))

end Go.Proofs.YtngjcdlgfcgfoaaGreatDoor
