/-
  The walk of the program's own: something is done to a tree.
-/
import Derived.Deep.RegionHeld3
import Derived.Test.YtbcogekeoklddaaGreatDoorHPk21
import Derived.Test.YtbcogekeoklddaaGreatDoorHPk23
import Derived.Test.YtbcogekeoklddaaGreatDoorHMoveD
namespace Go.Proofs.YtbcogekeoklddaaGreatDoor
open Go.RowKit Go.Shelf Go.Lib

attribute [local go_sem] Oper.semAt_some

/-- The two boxes of do: the tree, and what is done. -/
structure TdBox (W : World) (b : Nat) (A : ByteArray → Nat) (k : Int) (p t x : ByteArray) : Prop where
  t0 : W.cell? ⟨b, 0, none⟩ = some (.bool true)
  t1 : W.cell? ⟨b, 1, none⟩ = some (.string ⟨#[]⟩)
  t2 : W.cell? ⟨b, 2, none⟩ = some (.map (some (A ⟨#[47]⟩)))
  o0 : W.cell? ⟨b + 1, 0, none⟩ = some (.int .i64 k)
  o1 : W.cell? ⟨b + 1, 1, none⟩ = some (.string p)
  o2 : W.cell? ⟨b + 1, 2, none⟩ = some (.string t)
  o3 : W.cell? ⟨b + 1, 3, none⟩ = some (.string x)
theorem TdBox.below {W W' : World} {b : Nat} {A : ByteArray → Nat} {k : Int} {p t x : ByteArray} (h : TdBox W b A k p t x) (hB : Below W.heap.size W W') : TdBox W' b A k p t x :=
  ⟨below_cell hB h.t0, below_cell hB h.t1, below_cell hB h.t2, below_cell hB h.o0, below_cell hB h.o1, below_cell hB h.o2, below_cell hB h.o3⟩

set_option maxHeartbeats 2000000 in
set_option maxRecDepth 100000 in
theorem do_makeOp (w : World) (base N : Nat) (A : ByteArray → Nat) (ae : Int → Addr) (k : Int) (p t x : ByteArray) (hp : p.size ≤ 16777216) (ht : t.size ≤ 16777216) (hb : base ≤ w.heap.size) (hk : deedT k = 122) (hop : (pathB p && fitB k t x) = true) (c : Int) (es2 : List E)
    (HD : ∀ W, Below w.heap.size w W → Calls Tryz.prog 140 #[opV k p t x, treeV A] W fun r w' => r = .returned (errV ae c) ∧ Turn base W w' ∧ ∃ A', A' ⟨#[47]⟩ = A ⟨#[47]⟩ ∧ Rep w' base (N + 1) es2 A') :
    Calls Tryz.prog 31 #[treeV A, opV k p t x] w fun r w' => r = .returned (errV ae c) ∧ Turn base w w' ∧ ∃ A', A' ⟨#[47]⟩ = A ⟨#[47]⟩ ∧ Rep w' base (N + 1) es2 A' := by
  obtain ⟨W0, hW0⟩ : ∃ W0, W0 = (w.alloc (.cells #[.bool true, .string ⟨#[]⟩, .map (some (A ⟨#[47]⟩))] 61)).alloc (.cells #[.int .i64 k, .string p, .string t, .string x] 25) := ⟨_, rfl⟩
  have hBw : Below w.heap.size w W0 := hW0 ▸ ((Below.refl _ w).alloc (Nat.le_refl _) _).alloc (by simp) _
  have HX : Hid (TdBox W0 w.heap.size A k p t x) := by
    subst hW0
    constructor <;> simp
  have HO := hid (fun W => iOpOk_any W k p t x hp ht)
  rw [hop] at HO
  have HDe := hid (fun W => deedOf_any k p t x W)
  rw [hk] at HDe
  have HDo := hid (fun (W : World) (hW : Below W0.heap.size W0 W) => HD W (hBw.trans (hW.mono hBw.size)))
  have hm : ∀ W, (method 306 122 (opV k p t x) "loop.example/pargeting/impl.do").run Tryz.prog W = .ok (140, opV k p t x) W := fun _ => by kernel_rfl
  obtain ⟨ev, hev⟩ : ∃ ev, errV ae c = ev := ⟨_, rfl⟩
  rw [hev] at HDo
  rw [hev]
  clear HD hev
  go_enter Tryz.func31, Tryz.ntmps31
  go_wp2_with (first | (go_at_call 24; rw [← hW0]; refine (HO.out _).mono ?_; rintro e w1 ⟨rfl, hB1⟩) | fail)
  clear hW0
  have HX1 := hid (HX.out.below hB1)
  have hb1 : base ≤ w1.heap.size := Nat.le_trans hb (hBw.trans (hB1.mono hBw.size)).size
  have AS : Hid (∀ W', Turn base w1 W' → (W'.cell? ⟨w.heap.size, 0, none⟩ = some (.bool true) ∧ W'.cell? ⟨w.heap.size, 1, none⟩ = some (.string ⟨#[]⟩) ∧ W'.cell? ⟨w.heap.size, 2, none⟩ = some (.map (some (A ⟨#[47]⟩))) ∧ W'.cell? ⟨w.heap.size + 1, 0, none⟩ = some (.int .i64 k) ∧ W'.cell? ⟨w.heap.size + 1, 1, none⟩ = some (.string p) ∧ W'.cell? ⟨w.heap.size + 1, 2, none⟩ = some (.string t) ∧ W'.cell? ⟨w.heap.size + 1, 3, none⟩ = some (.string x))) := fun W' hW => ⟨hW.cell HX1.out.t0, hW.cell HX1.out.t1, hW.cell HX1.out.t2, hW.cell HX1.out.o0, hW.cell HX1.out.o1, hW.cell HX1.out.o2, hW.cell HX1.out.o3⟩
  go_region_held3 (fun W' => W'.cell? ⟨w.heap.size, 0, none⟩ = some (.bool true) ∧ W'.cell? ⟨w.heap.size, 1, none⟩ = some (.string ⟨#[]⟩) ∧ W'.cell? ⟨w.heap.size, 2, none⟩ = some (.map (some (A ⟨#[47]⟩))) ∧ W'.cell? ⟨w.heap.size + 1, 0, none⟩ = some (.int .i64 k) ∧ W'.cell? ⟨w.heap.size + 1, 1, none⟩ = some (.string p) ∧ W'.cell? ⟨w.heap.size + 1, 2, none⟩ = some (.string t) ∧ W'.cell? ⟨w.heap.size + 1, 3, none⟩ = some (.string x))
    ((first | exact AS.out _ (Turn.of_below (Below.refl _ _).drew hb1) | exact AS.out _ (Turn.of_below (belowT (Below.refl _ _).drew hB3) hb1) | exact AS.out _ ((Turn.of_below (belowT (Below.refl _ _).drew hB3) hb1).trans ht4)))
    (first | (go_at_call 58; refine (HDe.out _).mono ?_; rintro e w3 ⟨rfl, hB3⟩) | (go_at_call 140; refine (HDo.out _ (belowT hB1 (belowT (Below.refl _ _).drew hB3))).mono ?_; rintro e w4 ⟨rfl, ht4, hr4⟩) | fail)
  all_goals (
    go_wp2
    go_ret
    exact ⟨rfl, (Turn.of_below (hBw.trans ((belowT hB1 (belowT (Below.refl _ _).drew hB3)).mono hBw.size)) hb).trans ht4, hr4⟩)

set_option maxHeartbeats 2000000 in
set_option maxRecDepth 100000 in
theorem do_putOp (w : World) (base N : Nat) (A : ByteArray → Nat) (ae : Int → Addr) (k : Int) (p t x : ByteArray) (hp : p.size ≤ 16777216) (ht : t.size ≤ 16777216) (hb : base ≤ w.heap.size) (hk : deedT k = 123) (hop : (pathB p && fitB k t x) = true) (c : Int) (es2 : List E)
    (HD : ∀ W, Below w.heap.size w W → Calls Tryz.prog 143 #[opV k p t x, treeV A] W fun r w' => r = .returned (errV ae c) ∧ Turn base W w' ∧ ∃ A', A' ⟨#[47]⟩ = A ⟨#[47]⟩ ∧ Rep w' base (N + 1) es2 A') :
    Calls Tryz.prog 31 #[treeV A, opV k p t x] w fun r w' => r = .returned (errV ae c) ∧ Turn base w w' ∧ ∃ A', A' ⟨#[47]⟩ = A ⟨#[47]⟩ ∧ Rep w' base (N + 1) es2 A' := by
  obtain ⟨W0, hW0⟩ : ∃ W0, W0 = (w.alloc (.cells #[.bool true, .string ⟨#[]⟩, .map (some (A ⟨#[47]⟩))] 61)).alloc (.cells #[.int .i64 k, .string p, .string t, .string x] 25) := ⟨_, rfl⟩
  have hBw : Below w.heap.size w W0 := hW0 ▸ ((Below.refl _ w).alloc (Nat.le_refl _) _).alloc (by simp) _
  have HX : Hid (TdBox W0 w.heap.size A k p t x) := by
    subst hW0
    constructor <;> simp
  have HO := hid (fun W => iOpOk_any W k p t x hp ht)
  rw [hop] at HO
  have HDe := hid (fun W => deedOf_any k p t x W)
  rw [hk] at HDe
  have HDo := hid (fun (W : World) (hW : Below W0.heap.size W0 W) => HD W (hBw.trans (hW.mono hBw.size)))
  have hm : ∀ W, (method 306 123 (opV k p t x) "loop.example/pargeting/impl.do").run Tryz.prog W = .ok (143, opV k p t x) W := fun _ => by kernel_rfl
  obtain ⟨ev, hev⟩ : ∃ ev, errV ae c = ev := ⟨_, rfl⟩
  rw [hev] at HDo
  rw [hev]
  clear HD hev
  go_enter Tryz.func31, Tryz.ntmps31
  go_wp2_with (first | (go_at_call 24; rw [← hW0]; refine (HO.out _).mono ?_; rintro e w1 ⟨rfl, hB1⟩) | fail)
  clear hW0
  have HX1 := hid (HX.out.below hB1)
  have hb1 : base ≤ w1.heap.size := Nat.le_trans hb (hBw.trans (hB1.mono hBw.size)).size
  have AS : Hid (∀ W', Turn base w1 W' → (W'.cell? ⟨w.heap.size, 0, none⟩ = some (.bool true) ∧ W'.cell? ⟨w.heap.size, 1, none⟩ = some (.string ⟨#[]⟩) ∧ W'.cell? ⟨w.heap.size, 2, none⟩ = some (.map (some (A ⟨#[47]⟩))) ∧ W'.cell? ⟨w.heap.size + 1, 0, none⟩ = some (.int .i64 k) ∧ W'.cell? ⟨w.heap.size + 1, 1, none⟩ = some (.string p) ∧ W'.cell? ⟨w.heap.size + 1, 2, none⟩ = some (.string t) ∧ W'.cell? ⟨w.heap.size + 1, 3, none⟩ = some (.string x))) := fun W' hW => ⟨hW.cell HX1.out.t0, hW.cell HX1.out.t1, hW.cell HX1.out.t2, hW.cell HX1.out.o0, hW.cell HX1.out.o1, hW.cell HX1.out.o2, hW.cell HX1.out.o3⟩
  go_region_held3 (fun W' => W'.cell? ⟨w.heap.size, 0, none⟩ = some (.bool true) ∧ W'.cell? ⟨w.heap.size, 1, none⟩ = some (.string ⟨#[]⟩) ∧ W'.cell? ⟨w.heap.size, 2, none⟩ = some (.map (some (A ⟨#[47]⟩))) ∧ W'.cell? ⟨w.heap.size + 1, 0, none⟩ = some (.int .i64 k) ∧ W'.cell? ⟨w.heap.size + 1, 1, none⟩ = some (.string p) ∧ W'.cell? ⟨w.heap.size + 1, 2, none⟩ = some (.string t) ∧ W'.cell? ⟨w.heap.size + 1, 3, none⟩ = some (.string x))
    ((first | exact AS.out _ (Turn.of_below (Below.refl _ _).drew hb1) | exact AS.out _ (Turn.of_below (belowT (Below.refl _ _).drew hB3) hb1) | exact AS.out _ ((Turn.of_below (belowT (Below.refl _ _).drew hB3) hb1).trans ht4)))
    (first | (go_at_call 58; refine (HDe.out _).mono ?_; rintro e w3 ⟨rfl, hB3⟩) | (go_at_call 143; refine (HDo.out _ (belowT hB1 (belowT (Below.refl _ _).drew hB3))).mono ?_; rintro e w4 ⟨rfl, ht4, hr4⟩) | fail)
  all_goals (
    go_wp2
    go_ret
    exact ⟨rfl, (Turn.of_below (hBw.trans ((belowT hB1 (belowT (Below.refl _ _).drew hB3)).mono hBw.size)) hb).trans ht4, hr4⟩)

set_option maxHeartbeats 2000000 in
set_option maxRecDepth 100000 in
theorem do_rmOp (w : World) (base N : Nat) (A : ByteArray → Nat) (ae : Int → Addr) (k : Int) (p t x : ByteArray) (hp : p.size ≤ 16777216) (ht : t.size ≤ 16777216) (hb : base ≤ w.heap.size) (hk : deedT k = 124) (hop : (pathB p && fitB k t x) = true) (c : Int) (es2 : List E)
    (HD : ∀ W, Below w.heap.size w W → Calls Tryz.prog 145 #[opV k p t x, treeV A] W fun r w' => r = .returned (errV ae c) ∧ Turn base W w' ∧ ∃ A', A' ⟨#[47]⟩ = A ⟨#[47]⟩ ∧ Rep w' base (N + 1) es2 A') :
    Calls Tryz.prog 31 #[treeV A, opV k p t x] w fun r w' => r = .returned (errV ae c) ∧ Turn base w w' ∧ ∃ A', A' ⟨#[47]⟩ = A ⟨#[47]⟩ ∧ Rep w' base (N + 1) es2 A' := by
  obtain ⟨W0, hW0⟩ : ∃ W0, W0 = (w.alloc (.cells #[.bool true, .string ⟨#[]⟩, .map (some (A ⟨#[47]⟩))] 61)).alloc (.cells #[.int .i64 k, .string p, .string t, .string x] 25) := ⟨_, rfl⟩
  have hBw : Below w.heap.size w W0 := hW0 ▸ ((Below.refl _ w).alloc (Nat.le_refl _) _).alloc (by simp) _
  have HX : Hid (TdBox W0 w.heap.size A k p t x) := by
    subst hW0
    constructor <;> simp
  have HO := hid (fun W => iOpOk_any W k p t x hp ht)
  rw [hop] at HO
  have HDe := hid (fun W => deedOf_any k p t x W)
  rw [hk] at HDe
  have HDo := hid (fun (W : World) (hW : Below W0.heap.size W0 W) => HD W (hBw.trans (hW.mono hBw.size)))
  have hm : ∀ W, (method 306 124 (opV k p t x) "loop.example/pargeting/impl.do").run Tryz.prog W = .ok (145, opV k p t x) W := fun _ => by kernel_rfl
  obtain ⟨ev, hev⟩ : ∃ ev, errV ae c = ev := ⟨_, rfl⟩
  rw [hev] at HDo
  rw [hev]
  clear HD hev
  go_enter Tryz.func31, Tryz.ntmps31
  go_wp2_with (first | (go_at_call 24; rw [← hW0]; refine (HO.out _).mono ?_; rintro e w1 ⟨rfl, hB1⟩) | fail)
  clear hW0
  have HX1 := hid (HX.out.below hB1)
  have hb1 : base ≤ w1.heap.size := Nat.le_trans hb (hBw.trans (hB1.mono hBw.size)).size
  have AS : Hid (∀ W', Turn base w1 W' → (W'.cell? ⟨w.heap.size, 0, none⟩ = some (.bool true) ∧ W'.cell? ⟨w.heap.size, 1, none⟩ = some (.string ⟨#[]⟩) ∧ W'.cell? ⟨w.heap.size, 2, none⟩ = some (.map (some (A ⟨#[47]⟩))) ∧ W'.cell? ⟨w.heap.size + 1, 0, none⟩ = some (.int .i64 k) ∧ W'.cell? ⟨w.heap.size + 1, 1, none⟩ = some (.string p) ∧ W'.cell? ⟨w.heap.size + 1, 2, none⟩ = some (.string t) ∧ W'.cell? ⟨w.heap.size + 1, 3, none⟩ = some (.string x))) := fun W' hW => ⟨hW.cell HX1.out.t0, hW.cell HX1.out.t1, hW.cell HX1.out.t2, hW.cell HX1.out.o0, hW.cell HX1.out.o1, hW.cell HX1.out.o2, hW.cell HX1.out.o3⟩
  go_region_held3 (fun W' => W'.cell? ⟨w.heap.size, 0, none⟩ = some (.bool true) ∧ W'.cell? ⟨w.heap.size, 1, none⟩ = some (.string ⟨#[]⟩) ∧ W'.cell? ⟨w.heap.size, 2, none⟩ = some (.map (some (A ⟨#[47]⟩))) ∧ W'.cell? ⟨w.heap.size + 1, 0, none⟩ = some (.int .i64 k) ∧ W'.cell? ⟨w.heap.size + 1, 1, none⟩ = some (.string p) ∧ W'.cell? ⟨w.heap.size + 1, 2, none⟩ = some (.string t) ∧ W'.cell? ⟨w.heap.size + 1, 3, none⟩ = some (.string x))
    ((first | exact AS.out _ (Turn.of_below (Below.refl _ _).drew hb1) | exact AS.out _ (Turn.of_below (belowT (Below.refl _ _).drew hB3) hb1) | exact AS.out _ ((Turn.of_below (belowT (Below.refl _ _).drew hB3) hb1).trans ht4)))
    (first | (go_at_call 58; refine (HDe.out _).mono ?_; rintro e w3 ⟨rfl, hB3⟩) | (go_at_call 145; refine (HDo.out _ (belowT hB1 (belowT (Below.refl _ _).drew hB3))).mono ?_; rintro e w4 ⟨rfl, ht4, hr4⟩) | fail)
  all_goals (
    go_wp2
    go_ret
    exact ⟨rfl, (Turn.of_below (hBw.trans ((belowT hB1 (belowT (Below.refl _ _).drew hB3)).mono hBw.size)) hb).trans ht4, hr4⟩)

set_option maxHeartbeats 2000000 in
set_option maxRecDepth 100000 in
theorem do_rmdirOp (w : World) (base N : Nat) (A : ByteArray → Nat) (ae : Int → Addr) (k : Int) (p t x : ByteArray) (hp : p.size ≤ 16777216) (ht : t.size ≤ 16777216) (hb : base ≤ w.heap.size) (hk : deedT k = 125) (hop : (pathB p && fitB k t x) = true) (c : Int) (es2 : List E)
    (HD : ∀ W, Below w.heap.size w W → Calls Tryz.prog 147 #[opV k p t x, treeV A] W fun r w' => r = .returned (errV ae c) ∧ Turn base W w' ∧ ∃ A', A' ⟨#[47]⟩ = A ⟨#[47]⟩ ∧ Rep w' base (N + 1) es2 A') :
    Calls Tryz.prog 31 #[treeV A, opV k p t x] w fun r w' => r = .returned (errV ae c) ∧ Turn base w w' ∧ ∃ A', A' ⟨#[47]⟩ = A ⟨#[47]⟩ ∧ Rep w' base (N + 1) es2 A' := by
  obtain ⟨W0, hW0⟩ : ∃ W0, W0 = (w.alloc (.cells #[.bool true, .string ⟨#[]⟩, .map (some (A ⟨#[47]⟩))] 61)).alloc (.cells #[.int .i64 k, .string p, .string t, .string x] 25) := ⟨_, rfl⟩
  have hBw : Below w.heap.size w W0 := hW0 ▸ ((Below.refl _ w).alloc (Nat.le_refl _) _).alloc (by simp) _
  have HX : Hid (TdBox W0 w.heap.size A k p t x) := by
    subst hW0
    constructor <;> simp
  have HO := hid (fun W => iOpOk_any W k p t x hp ht)
  rw [hop] at HO
  have HDe := hid (fun W => deedOf_any k p t x W)
  rw [hk] at HDe
  have HDo := hid (fun (W : World) (hW : Below W0.heap.size W0 W) => HD W (hBw.trans (hW.mono hBw.size)))
  have hm : ∀ W, (method 306 125 (opV k p t x) "loop.example/pargeting/impl.do").run Tryz.prog W = .ok (147, opV k p t x) W := fun _ => by kernel_rfl
  obtain ⟨ev, hev⟩ : ∃ ev, errV ae c = ev := ⟨_, rfl⟩
  rw [hev] at HDo
  rw [hev]
  clear HD hev
  go_enter Tryz.func31, Tryz.ntmps31
  go_wp2_with (first | (go_at_call 24; rw [← hW0]; refine (HO.out _).mono ?_; rintro e w1 ⟨rfl, hB1⟩) | fail)
  clear hW0
  have HX1 := hid (HX.out.below hB1)
  have hb1 : base ≤ w1.heap.size := Nat.le_trans hb (hBw.trans (hB1.mono hBw.size)).size
  have AS : Hid (∀ W', Turn base w1 W' → (W'.cell? ⟨w.heap.size, 0, none⟩ = some (.bool true) ∧ W'.cell? ⟨w.heap.size, 1, none⟩ = some (.string ⟨#[]⟩) ∧ W'.cell? ⟨w.heap.size, 2, none⟩ = some (.map (some (A ⟨#[47]⟩))) ∧ W'.cell? ⟨w.heap.size + 1, 0, none⟩ = some (.int .i64 k) ∧ W'.cell? ⟨w.heap.size + 1, 1, none⟩ = some (.string p) ∧ W'.cell? ⟨w.heap.size + 1, 2, none⟩ = some (.string t) ∧ W'.cell? ⟨w.heap.size + 1, 3, none⟩ = some (.string x))) := fun W' hW => ⟨hW.cell HX1.out.t0, hW.cell HX1.out.t1, hW.cell HX1.out.t2, hW.cell HX1.out.o0, hW.cell HX1.out.o1, hW.cell HX1.out.o2, hW.cell HX1.out.o3⟩
  go_region_held3 (fun W' => W'.cell? ⟨w.heap.size, 0, none⟩ = some (.bool true) ∧ W'.cell? ⟨w.heap.size, 1, none⟩ = some (.string ⟨#[]⟩) ∧ W'.cell? ⟨w.heap.size, 2, none⟩ = some (.map (some (A ⟨#[47]⟩))) ∧ W'.cell? ⟨w.heap.size + 1, 0, none⟩ = some (.int .i64 k) ∧ W'.cell? ⟨w.heap.size + 1, 1, none⟩ = some (.string p) ∧ W'.cell? ⟨w.heap.size + 1, 2, none⟩ = some (.string t) ∧ W'.cell? ⟨w.heap.size + 1, 3, none⟩ = some (.string x))
    ((first | exact AS.out _ (Turn.of_below (Below.refl _ _).drew hb1) | exact AS.out _ (Turn.of_below (belowT (Below.refl _ _).drew hB3) hb1) | exact AS.out _ ((Turn.of_below (belowT (Below.refl _ _).drew hB3) hb1).trans ht4)))
    (first | (go_at_call 58; refine (HDe.out _).mono ?_; rintro e w3 ⟨rfl, hB3⟩) | (go_at_call 147; refine (HDo.out _ (belowT hB1 (belowT (Below.refl _ _).drew hB3))).mono ?_; rintro e w4 ⟨rfl, ht4, hr4⟩) | fail)
  all_goals (
    go_wp2
    go_ret
    exact ⟨rfl, (Turn.of_below (hBw.trans ((belowT hB1 (belowT (Below.refl _ _).drew hB3)).mono hBw.size)) hb).trans ht4, hr4⟩)

set_option maxHeartbeats 2000000 in
set_option maxRecDepth 100000 in
theorem do_moveOp (w : World) (base N : Nat) (A : ByteArray → Nat) (ae : Int → Addr) (k : Int) (p t x : ByteArray) (hp : p.size ≤ 16777216) (ht : t.size ≤ 16777216) (hb : base ≤ w.heap.size) (hk : deedT k = 126) (hop : (pathB p && fitB k t x) = true) (c : Int) (es2 : List E)
    (HD : ∀ W, Below w.heap.size w W → Calls Tryz.prog 149 #[opV k p t x, treeV A] W fun r w' => r = .returned (errV ae c) ∧ Turn base W w' ∧ ∃ A', A' ⟨#[47]⟩ = A ⟨#[47]⟩ ∧ Rep w' base (N + 1) es2 A') :
    Calls Tryz.prog 31 #[treeV A, opV k p t x] w fun r w' => r = .returned (errV ae c) ∧ Turn base w w' ∧ ∃ A', A' ⟨#[47]⟩ = A ⟨#[47]⟩ ∧ Rep w' base (N + 1) es2 A' := by
  obtain ⟨W0, hW0⟩ : ∃ W0, W0 = (w.alloc (.cells #[.bool true, .string ⟨#[]⟩, .map (some (A ⟨#[47]⟩))] 61)).alloc (.cells #[.int .i64 k, .string p, .string t, .string x] 25) := ⟨_, rfl⟩
  have hBw : Below w.heap.size w W0 := hW0 ▸ ((Below.refl _ w).alloc (Nat.le_refl _) _).alloc (by simp) _
  have HX : Hid (TdBox W0 w.heap.size A k p t x) := by
    subst hW0
    constructor <;> simp
  have HO := hid (fun W => iOpOk_any W k p t x hp ht)
  rw [hop] at HO
  have HDe := hid (fun W => deedOf_any k p t x W)
  rw [hk] at HDe
  have HDo := hid (fun (W : World) (hW : Below W0.heap.size W0 W) => HD W (hBw.trans (hW.mono hBw.size)))
  have hm : ∀ W, (method 306 126 (opV k p t x) "loop.example/pargeting/impl.do").run Tryz.prog W = .ok (149, opV k p t x) W := fun _ => by kernel_rfl
  obtain ⟨ev, hev⟩ : ∃ ev, errV ae c = ev := ⟨_, rfl⟩
  rw [hev] at HDo
  rw [hev]
  clear HD hev
  go_enter Tryz.func31, Tryz.ntmps31
  go_wp2_with (first | (go_at_call 24; rw [← hW0]; refine (HO.out _).mono ?_; rintro e w1 ⟨rfl, hB1⟩) | fail)
  clear hW0
  have HX1 := hid (HX.out.below hB1)
  have hb1 : base ≤ w1.heap.size := Nat.le_trans hb (hBw.trans (hB1.mono hBw.size)).size
  have AS : Hid (∀ W', Turn base w1 W' → (W'.cell? ⟨w.heap.size, 0, none⟩ = some (.bool true) ∧ W'.cell? ⟨w.heap.size, 1, none⟩ = some (.string ⟨#[]⟩) ∧ W'.cell? ⟨w.heap.size, 2, none⟩ = some (.map (some (A ⟨#[47]⟩))) ∧ W'.cell? ⟨w.heap.size + 1, 0, none⟩ = some (.int .i64 k) ∧ W'.cell? ⟨w.heap.size + 1, 1, none⟩ = some (.string p) ∧ W'.cell? ⟨w.heap.size + 1, 2, none⟩ = some (.string t) ∧ W'.cell? ⟨w.heap.size + 1, 3, none⟩ = some (.string x))) := fun W' hW => ⟨hW.cell HX1.out.t0, hW.cell HX1.out.t1, hW.cell HX1.out.t2, hW.cell HX1.out.o0, hW.cell HX1.out.o1, hW.cell HX1.out.o2, hW.cell HX1.out.o3⟩
  go_region_held3 (fun W' => W'.cell? ⟨w.heap.size, 0, none⟩ = some (.bool true) ∧ W'.cell? ⟨w.heap.size, 1, none⟩ = some (.string ⟨#[]⟩) ∧ W'.cell? ⟨w.heap.size, 2, none⟩ = some (.map (some (A ⟨#[47]⟩))) ∧ W'.cell? ⟨w.heap.size + 1, 0, none⟩ = some (.int .i64 k) ∧ W'.cell? ⟨w.heap.size + 1, 1, none⟩ = some (.string p) ∧ W'.cell? ⟨w.heap.size + 1, 2, none⟩ = some (.string t) ∧ W'.cell? ⟨w.heap.size + 1, 3, none⟩ = some (.string x))
    ((first | exact AS.out _ (Turn.of_below (Below.refl _ _).drew hb1) | exact AS.out _ (Turn.of_below (belowT (Below.refl _ _).drew hB3) hb1) | exact AS.out _ ((Turn.of_below (belowT (Below.refl _ _).drew hB3) hb1).trans ht4)))
    (first | (go_at_call 58; refine (HDe.out _).mono ?_; rintro e w3 ⟨rfl, hB3⟩) | (go_at_call 149; refine (HDo.out _ (belowT hB1 (belowT (Below.refl _ _).drew hB3))).mono ?_; rintro e w4 ⟨rfl, ht4, hr4⟩) | fail)
  all_goals (
    go_wp2
    go_ret
    exact ⟨rfl, (Turn.of_below (hBw.trans ((belowT hB1 (belowT (Below.refl _ _).drew hB3)).mono hBw.size)) hb).trans ht4, hr4⟩)

set_option maxHeartbeats 2000000 in
theorem do_bad (w : World) (base N : Nat) (es : List E) (A : ByteArray → Nat) (ae : Int → Addr) (R : Rep w base N es A) (hE : Errs8 w ae) (k : Int) (p t x : ByteArray) (hp : p.size ≤ 16777216) (ht : t.size ≤ 16777216) (hb : base ≤ w.heap.size) (hop : (pathB p && fitB k t x) = false) :
    Calls Tryz.prog 31 #[treeV A, opV k p t x] w fun r w' => r = .returned (errV ae 1) ∧ Turn base w w' ∧ ∃ A', A' ⟨#[47]⟩ = A ⟨#[47]⟩ ∧ Rep w' base (N + 1) es A' := by
  obtain ⟨W0, hW0⟩ : ∃ W0, W0 = (w.alloc (.cells #[.bool true, .string ⟨#[]⟩, .map (some (A ⟨#[47]⟩))] 61)).alloc (.cells #[.int .i64 k, .string p, .string t, .string x] 25) := ⟨_, rfl⟩
  have hBw : Below w.heap.size w W0 := hW0 ▸ ((Below.refl _ w).alloc (Nat.le_refl _) _).alloc (by simp) _
  have HX : Hid (TdBox W0 w.heap.size A k p t x) := by
    subst hW0
    constructor <;> simp
  have HO := hid (fun W => iOpOk_any W k p t x hp ht)
  rw [hop] at HO
  rw [errV_no (by decide)]
  go_enter Tryz.func31, Tryz.ntmps31
  go_wp2_with (go_at_call 24; rw [← hW0]; refine (HO.out _).mono ?_; rintro e w1 ⟨rfl, hB1⟩; have n1 := ((hE.below hBw).below hB1).bad)
  go_ret
  have hBf := hBw.trans (hB1.mono hBw.size)
  exact ⟨rfl, Turn.of_below hBf hb, A, rfl, (R.below hBf).more⟩

theorem moveC_none {es : List E} {p t : ByteArray} (hp : pathB p = true) (hl : lookE es p = none) : moveC es p t = 2 := by
  unfold moveC; rw [getE_look (root_not_path hp), hl]; rfl
theorem moveC_up {es : List E} {p t : ByteArray} (hp : pathB p = true) {e : E} (hl : lookE es p = some e) (h : dirC es (upS t) ≠ 0) : moveC es p t = dirC es (upS t) := by
  have hu : upC es t = dirC es (upS t) := rfl
  unfold moveC; rw [getE_look (root_not_path hp), hl, hu, if_neg (by simp), if_pos h]
theorem moveC_on {es : List E} {p t : ByteArray} (hp : pathB p = true) (ht : pathB t = true) {e : E} (hl : lookE es p = some e) (h : dirE es (upS t) = true) : moveC es p t = if (lookE es t).isSome = true then 4 else if underI t p = true then 7 else if fitE es p t = true then 0 else 8 := by
  have hu : upC es t = 0 := dirC_dir h
  have hun : underL t p = underI t p := by rw [underI_eq, ht, stemOk_path hp]; rfl
  unfold moveC; rw [getE_look (root_not_path hp), hl, hu, if_neg (by simp), if_neg (by simp), getE_look (root_not_path ht), hun]
/-- How it ends. -/
def endC (es : List E) (k : Int) (p t x : ByteArray) : Int := if (pathB p && fitB k t x) = true then codeC es k p t else 1
theorem fit_kind {k : Int} {t x : ByteArray} (h : fitB k t x = true) : k = 1 ∨ k = 2 ∨ k = 3 ∨ k = 4 ∨ k = 5 := by
  unfold fitB at h
  by_cases h1 : k = 1
  · exact .inl h1
  · by_cases h2 : k = 2
    · exact .inr (.inl h2)
    · by_cases h3 : k = 3
      · exact .inr (.inr (.inl h3))
      · by_cases h4 : k = 4
        · exact .inr (.inr (.inr (.inl h4)))
        · by_cases h5 : k = 5
          · exact .inr (.inr (.inr (.inr h5)))
          · rw [if_neg h1, if_neg h2, if_neg h3, if_neg h4, if_neg h5] at h; cases h
theorem rep_more' {w : World} {base N : Nat} {es fs : List E} {A : ByteArray → Nat} (h : ∃ A', A' ⟨#[47]⟩ = A ⟨#[47]⟩ ∧ Rep w base N es A') (e : es = fs) : ∃ A', A' ⟨#[47]⟩ = A ⟨#[47]⟩ ∧ Rep w base N fs A' := e ▸ h

theorem do_any (w : World) (base N : Nat) (es : List E) (A : ByteArray → Nat) (ae : Int → Addr) (T : TrE es) (R : Rep w base N es A) (hE : Errs8 w ae) (k : Int) (p t x : ByteArray) (hp : p.size ≤ 16777216) (ht : t.size ≤ 16777216) (hx : x.size ≤ 16777216) (hb : base ≤ w.heap.size) (hN : N < 900) (hes : es.length ≤ 16) :
    Calls Tryz.prog 31 #[treeV A, opV k p t x] w fun r w' => r = .returned (errV ae (endC es k p t x)) ∧ Turn base w w' ∧ ∃ A', A' ⟨#[47]⟩ = A ⟨#[47]⟩ ∧ Rep w' base (N + 1) (if endC es k p t x = 0 then madeE es k p t x else es) A' := by
  cases hop : (pathB p && fitB k t x) with
  | false =>
    have hc : endC es k p t x = 1 := by unfold endC; rw [hop]; rfl
    rw [hc, if_neg (by decide)]
    exact do_bad w base N es A ae R hE k p t x hp ht hb hop
  | true =>
    have hc : endC es k p t x = codeC es k p t := by unfold endC; rw [hop]; rfl
    rw [hc]
    obtain ⟨hpb, hfb⟩ : pathB p = true ∧ fitB k t x = true := by rwa [Bool.and_eq_true] at hop
    rcases fit_kind hfb with rfl | rfl | rfl | rfl | rfl
    · refine do_makeOp w base N A ae 1 p t x hp ht hb rfl hop _ _ fun W hW => ?_
      exact makeDo_any W base N es A ae T (R.below hW) (hE.below hW) 1 p t x hpb hp (Nat.le_trans hb hW.size) hN hes
    · refine do_putOp w base N A ae 2 p t x hp ht hb rfl hop _ _ fun W hW => ?_
      exact putDo_any W base N es A ae T (R.below hW) (hE.below hW) 2 p t x hpb hp hx (Nat.le_trans hb hW.size) hN hes
    · refine do_rmOp w base N A ae 3 p t x hp ht hb rfl hop _ _ fun W hW => ?_
      exact rmDo_any W base N es A ae T (R.below hW) (hE.below hW) 3 p t x hpb hp (Nat.le_trans hb hW.size)
    · refine do_rmdirOp w base N A ae 4 p t x hp ht hb rfl hop _ _ fun W hW => ?_
      exact rmdirDo_any W base N es A ae T (R.below hW) (hE.below hW) 4 p t x hpb hp (Nat.le_trans hb hW.size)
    · have htb : pathB t = true := by
        have : (pathB t && emB x) = true := hfb
        rw [Bool.and_eq_true] at this; exact this.1
      refine do_moveOp w base N A ae 5 p t x hp ht hb rfl hop _ _ fun W hW => ?_
      have hW' := Nat.le_trans hb hW.size
      show Calls Tryz.prog 149 #[opV 5 p t x, treeV A] W fun r w' => r = .returned (errV ae (moveC es p t)) ∧ Turn base W w' ∧ ∃ A', A' ⟨#[47]⟩ = A ⟨#[47]⟩ ∧ Rep w' base (N + 1) (if moveC es p t = 0 then movE es p t else es) A'
      cases hl : lookE es p with
      | none =>
        rw [moveC_none hpb hl, if_neg (by decide)]
        exact move_none W base N es A ae T (R.below hW) (hE.below hW) 5 p t x hpb hp hl hW'
      | some e0 =>
        by_cases hc0 : dirC es (upS t) = 0
        · have hdir := dirC_zero hc0
          rw [moveC_on hpb htb hl hdir]
          cases hlt : lookE es t with
          | some f =>
            rw [if_pos (show (some f).isSome = true from rfl), if_neg (by decide)]
            exact move_there W base N es A ae T (R.below hW) (hE.below hW) 5 p t x hpb hp ht e0 hl htb hdir f hlt hW'
          | none =>
            rw [if_neg (show ¬ (none : Option E).isSome = true by simp)]
            cases hun : underI t p with
            | true =>
              rw [if_pos rfl, if_neg (by decide)]
              exact move_under W base N es A ae T (R.below hW) (hE.below hW) 5 p t x hpb hp ht e0 hl htb hdir hlt hun hW'
            | false =>
              rw [if_neg (by simp)]
              cases hfi : fitE es p t with
              | true =>
                rw [if_pos rfl, if_pos rfl]
                exact move_fit W base N es A ae T (R.below hW) (hE.below hW) 5 p t x hpb hp ht e0 hl htb hdir hlt hun hN hes hfi hW'
              | false =>
                rw [if_neg (by simp), if_neg (by decide)]
                exact move_room W base N es A ae T (R.below hW) (hE.below hW) 5 p t x hpb hp ht e0 hl htb hdir hlt hun hN hes hfi hW'
        · rw [moveC_up hpb hl hc0, if_neg hc0]
          exact move_up W base N es A ae T (R.below hW) (hE.below hW) 5 p t x hpb hp ht e0 hl hc0 hW'
end Go.Proofs.YtbcogekeoklddaaGreatDoor
