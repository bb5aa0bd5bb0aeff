import Derived.Test.YtafeddiijemnbaaGreatDoorHPk19
import Derived.Test.YtafeddiijemnbaaGreatDoorHPk07
import Derived.Test.YtafeddiijemnbaaGreatDoorHPk02
import Derived.Test.YtafeddiijemnbaaGreatDoorHPk23
import Derived.Test.YtafeddiijemnbaaGreatDoorHCodeI
import Derived.Test.YtafeddiijemnbaaGreatDoorHPk06
import Derived.Deep.RegionHeld3
namespace Go.Proofs.YtafeddiijemnbaaGreatDoor
open Go.RowKit Go.Shelf Go.Lib
structure DoBox (W : World) (b : Nat) (A : ByteArray → Nat) (k : Int) (p t x : ByteArray) : Prop where
 o0 : W.cell? ⟨b, 0, none⟩ = some (.int .i64 k)
 o1 : W.cell? ⟨b, 1, none⟩ = some (.string p)
 o2 : W.cell? ⟨b, 2, none⟩ = some (.string t)
 o3 : W.cell? ⟨b, 3, none⟩ = some (.string x)
 t0 : W.cell? ⟨b + 1, 0, none⟩ = some (.bool true)
 t1 : W.cell? ⟨b + 1, 1, none⟩ = some (.string ⟨#[]⟩)
 t2 : W.cell? ⟨b + 1, 2, none⟩ = some (.map (some (A ⟨#[47]⟩)))
theorem DoBox.below {W W' : World} {b : Nat} {A : ByteArray → Nat} {k : Int} {p t x : ByteArray} (h : DoBox W b A k p t x) (hB : Below W.heap.size W W') : DoBox W' b A k p t x :=
 ⟨below_cell hB h.o0, below_cell hB h.o1, below_cell hB h.o2, below_cell hB h.o3, below_cell hB h.t0, below_cell hB h.t1, below_cell hB h.t2⟩
theorem Rep.more {w : World} {base N : Nat} {es : List E} {A : ByteArray → Nat} (h : Rep w base N es A) : Rep w base (N + 1) es A :=
 ⟨fun p hp => (h.kids p hp).mono (Nat.le_succ N), h.low, h.apart⟩
theorem put_fin {w V V' : World} {base N a : Nat} {es : List E} {A : ByteArray → Nat} {e : E} (T : TrE es) (R : Rep V base N es A) (hV : Turn base w V) (hp : pathB e.p = true) (hup : dirE es (upS e.p) = true) (hold : dirE es e.p = false)
  (hm : MapIs V' (A (upS e.p)) (N + 1) (fun t => if t = nmS e.p then some (nodeV e a) else kidF es A (upS e.p) t)) (ht : V.mapTurned V' (A (upS e.p)))
  (hd : e.d = true → MapIs V a 0 (fun _ => none) ∧ base ≤ a ∧ ∀ p, dirE es p = true → A p ≠ a) :
  Turn base w V' ∧ ∃ A', A' ⟨#[47]⟩ = A ⟨#[47]⟩ ∧ Rep V' base (N + 1) (putE es e) A' := by
 have hroot : e.p ≠ ⟨#[47]⟩ := fun q => by rw [q, root_no_path] at hp; cases hp
 refine ⟨hV.trans (Turn.of_map ht (R.low _ hup)), _, ?_, R.put T hp hup hold (put_look T.sort e) hm (fun p hpd hne => ?_) (fun h => ?_)⟩
 ·
  rw [if_neg (fun q => hroot q.symm)]
 ·
  exact ht.grown.block _ (R.kids p hpd).lt (fun q => hne (R.apart _ _ hpd hup (Option.some.inj q)))
 ·
  obtain ⟨h1, h2, h3⟩ := hd h; exact ⟨h1.kept (ht.grown.block _ h1.lt (fun q => h3 _ hup (Option.some.inj q).symm)), h2, h3⟩
theorem off_fin {w V V' : World} {base N : Nat} {es : List E} {A : ByteArray → Nat} {s : ByteArray} (T : TrE es) (R : Rep V base N es A) (hV : Turn base w V) (hp : pathB s = true) (hup : dirE es (upS s) = true)
  (hm : MapIs V' (A (upS s)) N (fun t => if t = nmS s then none else kidF es A (upS s) t)) (ht : V.mapTurned V' (A (upS s))) :
  Turn base w V' ∧ Rep V' base N (offE es s) A :=
 ⟨hV.trans (Turn.of_map ht (R.low _ hup)), R.off T hp hm (fun p hpd hne => ht.grown.block _ (R.kids p hpd).lt (fun q => hne (R.apart _ _ hpd hup (Option.some.inj q))))⟩
theorem name_len {p : ByteArray} (h : pathB p = true) : (nmS p).size ≤ maxLen := by
 have := (up_facts h).2.2.1; unfold nameB at this; rw [Bool.and_eq_true] at this; have := (of_decide_eq_true this.1).2; unfold maxLen; omega
/-! ### The codes -/
theorem newC_up {es : List E} {p : ByteArray} (h : dirC es (upS p) ≠ 0) : newC es p = dirC es (upS p) := by
 have hu : upC es p = dirC es (upS p) := rfl; unfold newC; rw [hu, if_pos h]
theorem newC_there {es : List E} {p : ByteArray} (h : dirE es (upS p) = true) (hp : pathB p = true) {f : E} (hl : lookE es p = some f) : newC es p = 4 := by
 have hu : upC es p = 0 := dirC_dir h; unfold newC; rw [hu, if_neg (by simp), getE_look (root_not_path hp), hl]; rfl
theorem newC_none {es : List E} {p : ByteArray} (h : dirE es (upS p) = true) (hp : pathB p = true) (hl : lookE es p = none) : newC es p = if 16 ≤ es.length then 8 else 0 := by
 have hu : upC es p = 0 := dirC_dir h; unfold newC; rw [hu, if_neg (by simp), getE_look (root_not_path hp), hl]; rfl
theorem dirC_in {es : List E} {s : ByteArray} (h : dirC es s ≠ 0) : dirC es s = 2 ∨ dirC es s = 3 := by
 unfold dirC at h ⊢
 split
 ·
  exact .inl rfl
 ·
  rename_i h1
  rw [if_neg h1] at h
  split
  ·
   exact .inr rfl
  ·
   rename_i h2; rw [if_neg h2] at h; exact absurd rfl h
theorem putC_up {es : List E} {p : ByteArray} (h : dirC es (upS p) ≠ 0) : putC es p = dirC es (upS p) := by
 unfold putC; rw [newC_up h, if_neg (by rcases dirC_in h with e | e <;> rw [e] <;> decide)]
theorem putC_there {es : List E} {p : ByteArray} (h : dirE es (upS p) = true) (hp : pathB p = true) {f : E} (hl : lookE es p = some f) : putC es p = if f.d = true then 5 else 0 := by
 unfold putC; rw [newC_there h hp hl, if_pos rfl, getE_look (root_not_path hp), hl]; rfl
theorem putC_none {es : List E} {p : ByteArray} (h : dirE es (upS p) = true) (hp : pathB p = true) (hl : lookE es p = none) : putC es p = if 16 ≤ es.length then 8 else 0 := by
 unfold putC; rw [newC_none h hp hl]; by_cases h16 : 16 ≤ es.length
 ·
  rw [if_pos h16, if_neg (by decide)]
 ·
  rw [if_neg h16, if_neg (by decide)]
attribute [local go_sem] Oper.semAt_some
set_option maxHeartbeats 4000000 in
set_option maxRecDepth 100000 in
theorem makeDo_any (w : World) (base N : Nat) (es : List E) (A : ByteArray → Nat) (ae : Int → Addr) (T : TrE es) (R : Rep w base N es A) (hE : Errs8 w ae) (k : Int) (p t x : ByteArray) (hpb : pathB p = true)
  (hp : p.size ≤ 16777216)  (hb : base ≤ w.heap.size) (hN : N < 900) (hes : es.length ≤ 16) :
  Calls Tryz.prog 131 #[opV k p t x, treeV A] w fun r w' => r = .returned (errV ae (newC es p)) ∧ Turn base w w' ∧ ∃ A', A' ⟨#[47]⟩ = A ⟨#[47]⟩ ∧ Rep w' base (N + 1) (if newC es p = 0 then putE es ⟨p, true, ⟨#[]⟩⟩ else es) A' := by
 obtain ⟨W0, hW0⟩ : ∃ W0, W0 = (w.alloc (.cells #[.int .i64 k, .string p, .string t, .string x] 98)).alloc (.cells #[.bool true, .string ⟨#[]⟩, .map (some (A ⟨#[47]⟩))] 38) := ⟨_, rfl⟩
 have hBw : Below w.heap.size w W0 := hW0 ▸ ((Below.refl _ w).alloc (Nat.le_refl _) _).alloc (by simp) _; have hs0 : W0.heap.size = w.heap.size + 2 := by rw [hW0]; simp
 have HX : Hid (DoBox W0 w.heap.size A k p t x) := by
  subst hW0
  constructor <;> simp
 have hbW0 : base ≤ W0.heap.size := by omega
 have AX : Hid (∀ W', Below W0.heap.size W0 W' → DoBox W' w.heap.size A k p t x) := fun W' hW => HX.out.below hW
 have AS : Hid (∀ W', Below W0.heap.size W0 W' → (W'.cell? ⟨w.heap.size, 1, none⟩ = some (.string p) ∧ W'.cell? ⟨w.heap.size + 1, 0, none⟩ = some (.bool true) ∧ W'.cell? ⟨w.heap.size + 1, 1, none⟩ = some (.string ⟨#[]⟩) ∧ W'.cell? ⟨w.heap.size + 1, 2, none⟩ = some (.map (some (A ⟨#[47]⟩))))) := fun W' hW => by
  have := HX.out.below hW; exact ⟨this.o1, this.t0, this.t1, this.t2⟩
 have AR : Hid (∀ W', Below W0.heap.size W0 W' → Rep W' base N es A) := fun W' hW => (R.below hBw).below hW; have AE : Hid (∀ W', Below W0.heap.size W0 W' → Errs8 W' ae) := fun W' hW => (hE.below hBw).below hW; have HU := hid (fun W => iPathUp_any p hp W); have hus : (upS p).size ≤ 4611686018427387904 := by have := upS_size p; omega
 have HDi := hid (fun (W : World) (hW : Rep W base N es A) (hE : Errs2 W ae) => dirAt_any W base N es A ae T hW hE (upS p) hus); have HAt := hid (fun (W : World) (hW : Rep W base N es A) => at_any W base N es A T hW p (by omega)); have HFu := hid (fun (W : World) (hW : Rep W base N es A) => full_any W base N es A T hW (by omega) (by omega)); have HN5 := hid (fun W => iPathName_any p hp W)
 have hnz : (nmS p).size ≤ maxLen := by
  have := (up_facts hpb).2.2.1; unfold nameB at this; rw [Bool.and_eq_true] at this; have := (of_decide_eq_true this.1).2; unfold maxLen; omega
 have hroot := path_not_root hpb; have hTu : ∀ W', Below W0.heap.size W0 W' → Turn base w W' := fun W' hW => Turn.of_below (hBw.trans (hW.mono hBw.size)) hb; have HTu := hid hTu; have HRk : Hid (∀ W', Below W0.heap.size W0 W' → ∃ A', A' ⟨#[47]⟩ = A ⟨#[47]⟩ ∧ Rep W' base (N + 1) es A') := fun W' hW => ⟨A, rfl, (AR.out W' hW).more⟩; clear hE R hTu hs0; cases hdir : dirE es (upS p) with
 | false =>
  have hc0 : dirC es (upS p) ≠ 0 := fun h => by rw [dirC_zero h] at hdir; cases hdir
  have hdv : dirV es A (upS p) = zeroN := by unfold dirV; rw [if_neg hc0]
  rw [newC_up hc0, if_neg hc0, errV_no hc0]; rw [hdv, errV_no hc0] at HDi; go_enter Tryz.func131, Tryz.ntmps131
  go_wp2_with fail
  rw [← hW0]; clear hW0
  rename_i Qx Kx hKx
  have HK : Hid (∀ (b : Nat) (W : World), Below W0.heap.size W0 W → Kx { tmps := #[opV k p t x, treeV A, .pointer (some ⟨w.heap.size, 0, none⟩), .pointer (some ⟨w.heap.size + 1, 0, none⟩), .nilIface, .pointer (some ⟨b, 0, none⟩), .iface 168 (.pointer (some (ae (dirC es (upS p))))), undef, undef, .tuple #[zeroN, .iface 168 (.pointer (some (ae (dirC es (upS p)))))], treeV A, .pointer (some ⟨w.heap.size, 1, none⟩), .string p, .string (upS p), .tuple #[zeroN, .iface 168 (.pointer (some (ae (dirC es (upS p)))))], zeroN, .iface 168 (.pointer (some (ae (dirC es (upS p))))), undef, undef, undef, undef, undef, undef, undef, undef, undef, undef, undef, undef, undef, undef, undef, undef, undef, undef, undef, undef, undef], defers := [] } W) := by
   intro b W hBW; refine hKx _ _ ?_; go_wp2
   go_ret
   exact ⟨rfl, HTu.out _ hBW, HRk.out _ hBW⟩
  clear hKx
  go_region_held3 (fun W' => W'.cell? ⟨w.heap.size, 1, none⟩ = some (.string p) ∧ W'.cell? ⟨w.heap.size + 1, 0, none⟩ = some (.bool true) ∧ W'.cell? ⟨w.heap.size + 1, 1, none⟩ = some (.string ⟨#[]⟩) ∧ W'.cell? ⟨w.heap.size + 1, 2, none⟩ = some (.map (some (A ⟨#[47]⟩))))
   ((refine AS.out _ ?_; repeat (first | exact Below.refl _ _ | apply belowA | refine belowT ?_ hB4 | refine belowT ?_ hB3 | apply Below.drew | refine set3_below ?_ (by first | exact Nat.le_refl _ | (have h3 := hB3.size; have h4 := hB4.size; simp at h3 h4 ⊢; omega)) _ _ _)))
   (first | (go_at_call 45; refine (HU.out _).mono ?_; rintro e w3 ⟨rfl, hB3⟩; obtain ⟨bc3, bf3⟩ := bcellN hB3; have l3 := hB3.size; (try simp at l3); (try (have z0 := bc3 W0.heap.size 0 (lt_allocD _ _); have z1 := bc3 W0.heap.size 1 (lt_allocD _ _); have z2 := bc3 W0.heap.size 2 (lt_allocD _ _); have z3 := bf3 W0.heap.size 0 (lt_allocD _ _); have z4 := bf3 W0.heap.size 1 (lt_allocD _ _); have z5 := bf3 W0.heap.size 2 (lt_allocD _ _); simp at z0 z1 z2 z3 z4 z5)); clear bc3 bf3) | (go_at_call 44; refine (HDi.out _ (AR.out _ (by repeat (first | exact Below.refl _ _ | apply belowA | refine belowT ?_ hB3 | apply Below.drew))) (AE.out _ (by repeat (first | exact Below.refl _ _ | apply belowA | refine belowT ?_ hB3 | apply Below.drew))).two).mono ?_; rintro e w4 ⟨rfl, hB4⟩; obtain ⟨bc4, bf4⟩ := bcellN hB4; have l4 := hB4.size; (try simp at l4); (try (have z0 := bc4 w3.heap.size 0 (lt_alloc _ _); have z1 := bc4 w3.heap.size 1 (lt_alloc _ _); have z2 := bc4 w3.heap.size 2 (lt_alloc _ _); have z3 := bf4 w3.heap.size 0 (lt_alloc _ _); have z4 := bf4 w3.heap.size 1 (lt_alloc _ _); have z5 := bf4 w3.heap.size 2 (lt_alloc _ _); simp at z0 z1 z2 z3 z4 z5)); (try (have v0 := (bc4 W0.heap.size 0 l3).trans z0; have v1 := (bc4 W0.heap.size 1 l3).trans z1; have v2 := (bc4 W0.heap.size 2 l3).trans z2; have v3 := (bf4 W0.heap.size 0 l3).trans z3; have v4 := (bf4 W0.heap.size 1 l3).trans z4; have v5 := (bf4 W0.heap.size 2 l3).trans z5)); clear bc4 bf4))
  all_goals exact HK.out _ _ (by repeat (first | exact Below.refl _ _ | apply belowA | refine belowT ?_ hB4 | refine belowT ?_ hB3 | apply Below.drew | refine set3_below ?_ (by first | exact Nat.le_refl _ | (have h3 := hB3.size; have h4 := hB4.size; simp at h3 h4 ⊢; omega)) _ _ _))
 | true =>
  obtain ⟨xx, hxx⟩ := atE_dir (A := A) hdir; have hdv : dirV es A (upS p) = .agg #[.bool true, .string xx, .map (some (A (upS p)))] := by unfold dirV; rw [dirC_dir hdir, if_pos rfl, hxx]
  have hev : errV ae (dirC es (upS p)) = .nilIface := by rw [dirC_dir hdir]; rfl
  rw [hdv, hev] at HDi; cases hl : lookE es p with
  | some f =>
   rw [atE_some hpb hl] at HAt; rw [newC_there hdir hpb hl, if_neg (by decide), errV_no (by decide)]; go_enter Tryz.func131, Tryz.ntmps131
   go_wp2_with fail
   rw [← hW0]; clear hW0
   rename_i Qx Kx hKx
   have HK : Hid (∀ (b : Nat) (W : World), Below W0.heap.size W0 W → W.cell? ⟨b, 2, none⟩ = some (.map (some (A (upS p)))) → Kx { tmps := #[opV k p t x, treeV A, .pointer (some ⟨w.heap.size, 0, none⟩), .pointer (some ⟨w.heap.size + 1, 0, none⟩), .nilIface, .pointer (some ⟨b, 0, none⟩), .nilIface, undef, undef, .tuple #[.agg #[.bool true, .string xx, .map (some (A (upS p)))], .nilIface], treeV A, .pointer (some ⟨w.heap.size, 1, none⟩), .string p, .string (upS p), .tuple #[.agg #[.bool true, .string xx, .map (some (A (upS p)))], .nilIface], .agg #[.bool true, .string xx, .map (some (A (upS p)))], .nilIface, undef, undef, undef, undef, undef, undef, undef, undef, undef, undef, undef, undef, undef, undef, undef, undef, undef, undef, undef, undef, undef], defers := [] } W) := by
    intro b W hBW hb2; refine hKx _ _ ?_; obtain ⟨y0, y1, y2, y3, y4, y5, y6⟩ := AX.out _ hBW; go_wp2_with (go_at_call 51; refine (HAt.out _ (AR.out _ hBW)).mono ?_; rintro e w5 ⟨rfl, hB5⟩; have hBW5 := belowT hBW hB5; obtain ⟨q0, q1, q2, q3, q4, q5, q6⟩ := AX.out _ hBW5; have n4 := (AE.out _ hBW5).there; have n4' := fun o => cellOn o n4; have n5 := (AE.out _ hBW5).isDir; have n5' := fun o => cellOn o n5; have u0 := fun o => cellOn o q4; have u1 := fun o => cellOn o q5; have u2 := fun o => cellOn o q6; have u3 := fun o => cellOn o q1)
    go_ret
    exact ⟨rfl, HTu.out _ (belowA hBW5 _), HRk.out _ (belowA hBW5 _)⟩
   clear hKx
   go_region_held3 (fun W' => W'.cell? ⟨w.heap.size, 1, none⟩ = some (.string p) ∧ W'.cell? ⟨w.heap.size + 1, 0, none⟩ = some (.bool true) ∧ W'.cell? ⟨w.heap.size + 1, 1, none⟩ = some (.string ⟨#[]⟩) ∧ W'.cell? ⟨w.heap.size + 1, 2, none⟩ = some (.map (some (A ⟨#[47]⟩))))
    ((refine AS.out _ ?_; repeat (first | exact Below.refl _ _ | apply belowA | refine belowT ?_ hB4 | refine belowT ?_ hB3 | apply Below.drew | refine set3_below ?_ (by first | exact Nat.le_refl _ | (have h3 := hB3.size; have h4 := hB4.size; simp at h3 h4 ⊢; omega)) _ _ _)))
    (first | (go_at_call 45; refine (HU.out _).mono ?_; rintro e w3 ⟨rfl, hB3⟩; obtain ⟨bc3, bf3⟩ := bcellN hB3; have l3 := hB3.size; (try simp at l3); (try (have z0 := bc3 W0.heap.size 0 (lt_allocD _ _); have z1 := bc3 W0.heap.size 1 (lt_allocD _ _); have z2 := bc3 W0.heap.size 2 (lt_allocD _ _); have z3 := bf3 W0.heap.size 0 (lt_allocD _ _); have z4 := bf3 W0.heap.size 1 (lt_allocD _ _); have z5 := bf3 W0.heap.size 2 (lt_allocD _ _); simp at z0 z1 z2 z3 z4 z5)); clear bc3 bf3) | (go_at_call 44; refine (HDi.out _ (AR.out _ (by repeat (first | exact Below.refl _ _ | apply belowA | refine belowT ?_ hB3 | apply Below.drew))) (AE.out _ (by repeat (first | exact Below.refl _ _ | apply belowA | refine belowT ?_ hB3 | apply Below.drew))).two).mono ?_; rintro e w4 ⟨rfl, hB4⟩; obtain ⟨bc4, bf4⟩ := bcellN hB4; have l4 := hB4.size; (try simp at l4); (try (have z0 := bc4 w3.heap.size 0 (lt_alloc _ _); have z1 := bc4 w3.heap.size 1 (lt_alloc _ _); have z2 := bc4 w3.heap.size 2 (lt_alloc _ _); have z3 := bf4 w3.heap.size 0 (lt_alloc _ _); have z4 := bf4 w3.heap.size 1 (lt_alloc _ _); have z5 := bf4 w3.heap.size 2 (lt_alloc _ _); simp at z0 z1 z2 z3 z4 z5)); (try (have v0 := (bc4 W0.heap.size 0 l3).trans z0; have v1 := (bc4 W0.heap.size 1 l3).trans z1; have v2 := (bc4 W0.heap.size 2 l3).trans z2; have v3 := (bf4 W0.heap.size 0 l3).trans z3; have v4 := (bf4 W0.heap.size 1 l3).trans z4; have v5 := (bf4 W0.heap.size 2 l3).trans z5)); clear bc4 bf4))
   all_goals refine HK.out _ _ (by repeat (first | exact Below.refl _ _ | apply belowA | refine belowT ?_ hB4 | refine belowT ?_ hB3 | apply Below.drew | refine set3_below ?_ (by first | exact Nat.le_refl _ | (have h3 := hB3.size; have h4 := hB4.size; simp at h3 h4 ⊢; omega)) _ _ _)) ?_
   all_goals first | exact (set3_cells v0 v1 v2 _ _ _).2.2 | exact (set3_cells z0 z1 z2 _ _ _).2.2 | simp
  | none =>
   rw [atE_none hpb hl] at HAt; have hold : dirE es p = false := dir_isRoot hpb hl; rw [newC_none hdir hpb hl]; by_cases h16 : 16 ≤ es.length
   ·
    rw [if_pos h16, if_neg (by decide), errV_no (by decide)]; rw [decide_eq_true h16] at HFu; go_enter Tryz.func131, Tryz.ntmps131
    go_wp2_with fail
    rw [← hW0]; clear hW0
    rename_i Qx Kx hKx
    have HK : Hid (∀ (b : Nat) (W : World), Below W0.heap.size W0 W → W.cell? ⟨b, 2, none⟩ = some (.map (some (A (upS p)))) → Kx { tmps := #[opV k p t x, treeV A, .pointer (some ⟨w.heap.size, 0, none⟩), .pointer (some ⟨w.heap.size + 1, 0, none⟩), .nilIface, .pointer (some ⟨b, 0, none⟩), .nilIface, undef, undef, .tuple #[.agg #[.bool true, .string xx, .map (some (A (upS p)))], .nilIface], treeV A, .pointer (some ⟨w.heap.size, 1, none⟩), .string p, .string (upS p), .tuple #[.agg #[.bool true, .string xx, .map (some (A (upS p)))], .nilIface], .agg #[.bool true, .string xx, .map (some (A (upS p)))], .nilIface, undef, undef, undef, undef, undef, undef, undef, undef, undef, undef, undef, undef, undef, undef, undef, undef, undef, undef, undef, undef, undef], defers := [] } W) := by
     intro b W hBW hb2; refine hKx _ _ ?_; obtain ⟨y0, y1, y2, y3, y4, y5, y6⟩ := AX.out _ hBW; go_wp2_with (first | (go_at_call 51; refine (HAt.out _ (AR.out _ hBW)).mono ?_; rintro e w5 ⟨rfl, hB5⟩; have hBW5 := belowT hBW hB5; obtain ⟨q0, q1, q2, q3, q4, q5, q6⟩ := AX.out _ hBW5; have n4 := (AE.out _ hBW5).there; have n4' := fun o => cellOn o n4; have n5 := (AE.out _ hBW5).isDir; have n5' := fun o => cellOn o n5; have u0 := fun o => cellOn o q4; have u1 := fun o => cellOn o q5; have u2 := fun o => cellOn o q6; have u3 := fun o => cellOn o q1) | (go_at_call 133; refine (HFu.out _ (AR.out _ (belowA hBW5 _))).mono ?_; rintro e w6 ⟨rfl, hB6⟩; have hBW6 := belowT (belowA hBW5 _) hB6; have n8 := (AE.out _ hBW6).room))
     go_ret
     exact ⟨rfl, HTu.out _ hBW6, HRk.out _ hBW6⟩
    clear hKx
    go_region_held3 (fun W' => W'.cell? ⟨w.heap.size, 1, none⟩ = some (.string p) ∧ W'.cell? ⟨w.heap.size + 1, 0, none⟩ = some (.bool true) ∧ W'.cell? ⟨w.heap.size + 1, 1, none⟩ = some (.string ⟨#[]⟩) ∧ W'.cell? ⟨w.heap.size + 1, 2, none⟩ = some (.map (some (A ⟨#[47]⟩))))
     ((refine AS.out _ ?_; repeat (first | exact Below.refl _ _ | apply belowA | refine belowT ?_ hB4 | refine belowT ?_ hB3 | apply Below.drew | refine set3_below ?_ (by first | exact Nat.le_refl _ | (have h3 := hB3.size; have h4 := hB4.size; simp at h3 h4 ⊢; omega)) _ _ _)))
     (first | (go_at_call 45; refine (HU.out _).mono ?_; rintro e w3 ⟨rfl, hB3⟩; obtain ⟨bc3, bf3⟩ := bcellN hB3; have l3 := hB3.size; (try simp at l3); (try (have z0 := bc3 W0.heap.size 0 (lt_allocD _ _); have z1 := bc3 W0.heap.size 1 (lt_allocD _ _); have z2 := bc3 W0.heap.size 2 (lt_allocD _ _); have z3 := bf3 W0.heap.size 0 (lt_allocD _ _); have z4 := bf3 W0.heap.size 1 (lt_allocD _ _); have z5 := bf3 W0.heap.size 2 (lt_allocD _ _); simp at z0 z1 z2 z3 z4 z5)); clear bc3 bf3) | (go_at_call 44; refine (HDi.out _ (AR.out _ (by repeat (first | exact Below.refl _ _ | apply belowA | refine belowT ?_ hB3 | apply Below.drew))) (AE.out _ (by repeat (first | exact Below.refl _ _ | apply belowA | refine belowT ?_ hB3 | apply Below.drew))).two).mono ?_; rintro e w4 ⟨rfl, hB4⟩; obtain ⟨bc4, bf4⟩ := bcellN hB4; have l4 := hB4.size; (try simp at l4); (try (have z0 := bc4 w3.heap.size 0 (lt_alloc _ _); have z1 := bc4 w3.heap.size 1 (lt_alloc _ _); have z2 := bc4 w3.heap.size 2 (lt_alloc _ _); have z3 := bf4 w3.heap.size 0 (lt_alloc _ _); have z4 := bf4 w3.heap.size 1 (lt_alloc _ _); have z5 := bf4 w3.heap.size 2 (lt_alloc _ _); simp at z0 z1 z2 z3 z4 z5)); (try (have v0 := (bc4 W0.heap.size 0 l3).trans z0; have v1 := (bc4 W0.heap.size 1 l3).trans z1; have v2 := (bc4 W0.heap.size 2 l3).trans z2; have v3 := (bf4 W0.heap.size 0 l3).trans z3; have v4 := (bf4 W0.heap.size 1 l3).trans z4; have v5 := (bf4 W0.heap.size 2 l3).trans z5)); clear bc4 bf4))
    all_goals refine HK.out _ _ (by repeat (first | exact Below.refl _ _ | apply belowA | refine belowT ?_ hB4 | refine belowT ?_ hB3 | apply Below.drew | refine set3_below ?_ (by first | exact Nat.le_refl _ | (have h3 := hB3.size; have h4 := hB4.size; simp at h3 h4 ⊢; omega)) _ _ _)) ?_
    all_goals first | exact (set3_cells v0 v1 v2 _ _ _).2.2 | exact (set3_cells z0 z1 z2 _ _ _).2.2 | simp
   ·
    rw [if_neg h16, if_pos rfl, show errV ae 0 = .nilIface from rfl]; rw [decide_eq_false h16] at HFu; go_enter Tryz.func131, Tryz.ntmps131
    go_wp2_with fail
    rw [← hW0]; clear hW0
    rename_i Qx Kx hKx
    have HK : Hid (∀ (b : Nat) (W : World), Below W0.heap.size W0 W → W.cell? ⟨b, 2, none⟩ = some (.map (some (A (upS p)))) → Kx { tmps := #[opV k p t x, treeV A, .pointer (some ⟨w.heap.size, 0, none⟩), .pointer (some ⟨w.heap.size + 1, 0, none⟩), .nilIface, .pointer (some ⟨b, 0, none⟩), .nilIface, undef, undef, .tuple #[.agg #[.bool true, .string xx, .map (some (A (upS p)))], .nilIface], treeV A, .pointer (some ⟨w.heap.size, 1, none⟩), .string p, .string (upS p), .tuple #[.agg #[.bool true, .string xx, .map (some (A (upS p)))], .nilIface], .agg #[.bool true, .string xx, .map (some (A (upS p)))], .nilIface, undef, undef, undef, undef, undef, undef, undef, undef, undef, undef, undef, undef, undef, undef, undef, undef, undef, undef, undef, undef, undef], defers := [] } W) := by
     intro b W hBW hb2; refine hKx _ _ ?_; obtain ⟨y0, y1, y2, y3, y4, y5, y6⟩ := AX.out _ hBW; go_wp2_with (first | (go_at_call 51; refine (HAt.out _ (AR.out _ hBW)).mono ?_; rintro e w5 ⟨rfl, hB5⟩; have hBW5 := belowT hBW hB5; obtain ⟨q0, q1, q2, q3, q4, q5, q6⟩ := AX.out _ hBW5; have n4 := (AE.out _ hBW5).there; have n4' := fun o => cellOn o n4; have n5 := (AE.out _ hBW5).isDir; have n5' := fun o => cellOn o n5; have u0 := fun o => cellOn o q4; have u1 := fun o => cellOn o q5; have u2 := fun o => cellOn o q6; have u3 := fun o => cellOn o q1) | (go_at_call 133; refine (HFu.out _ (AR.out _ (belowA hBW5 _))).mono ?_; rintro e w6 ⟨rfl, hB6⟩; have hBW6 := belowT (belowA hBW5 _) hB6; have n8 := (AE.out _ hBW6).room))
     have hbm : w6.cell? ⟨b, 2, none⟩ = some (.map (some (A (upS p)))) := below_cell hB6 (cellOn _ (below_cell hB5 hb2)); have hbW : base ≤ w6.heap.size := Nat.le_trans hbW0 (hBW6).size; have AS2 : Hid (∀ W', Turn base w6 W' → (W'.cell? ⟨b, 2, none⟩ = some (.map (some (A (upS p)))) ∧ W'.cell? ⟨w.heap.size, 1, none⟩ = some (.string p))) := fun W' hW => ⟨hW.cell hbm, hW.cell (AX.out _ hBW6).o1⟩
     go_region_held3 (fun W' => W'.cell? ⟨b, 2, none⟩ = some (.map (some (A (upS p)))) ∧ W'.cell? ⟨w.heap.size, 1, none⟩ = some (.string p))
      ((first | exact AS2.out _ ((Turn.of_below (belowT (belowT (Below.refl _ _).drew hB7) hB8) hbW).trans (Turn.of_map ht9 ((AR.out _ hBW6).low _ hdir))) | exact AS2.out _ (Turn.of_below (belowT (belowT (Below.refl _ _).drew hB7) hB8) hbW) | exact AS2.out _ (Turn.of_below (belowT (Below.refl _ _).drew hB7) hbW) | exact AS2.out _ (Turn.of_below (Below.refl _ _).drew hbW)))
      (first | (go_at_call 46; refine (HN5.out _).mono ?_; rintro e w7 ⟨rfl, hB7⟩) | (go_at_call 23; refine (newDir_any _).mono ?_; rintro e w8 ⟨rfl, hM8, hB8⟩; obtain ⟨w9, hst, hm9, ht9⟩ := ((AR.out _ (belowT (belowT (hBW6).drew hB7) hB8)).kids _ hdir).store (by unfold maxLen; omega) hnz (.agg #[.bool true, .string ⟨#[]⟩, .map (some (w7.heap.size + 1))])))
     have RW8 := AR.out _ (belowT (belowT (hBW6).drew hB7) hB8); have hszW : w.heap.size ≤ w7.heap.size := Nat.le_trans hBw.size (Nat.le_trans (hBW6).size hB7.size)
     have fin := put_fin (e := ⟨p, true, ⟨#[]⟩⟩) (a := w7.heap.size + 1) T RW8 (HTu.out _ (belowT (belowT (hBW6).drew hB7) hB8)) hpb hdir hold hm9 ht9 (fun _ => ⟨hM8, by omega, fun q hq h => by
      have := ((AR.out _ (belowT (hBW6).drew hB7)).kids q hq).lt; omega⟩)
     go_wp2
     go_ret
     exact ⟨rfl, fin.1, fin.2⟩
    clear hKx
    go_region_held3 (fun W' => W'.cell? ⟨w.heap.size, 1, none⟩ = some (.string p) ∧ W'.cell? ⟨w.heap.size + 1, 0, none⟩ = some (.bool true) ∧ W'.cell? ⟨w.heap.size + 1, 1, none⟩ = some (.string ⟨#[]⟩) ∧ W'.cell? ⟨w.heap.size + 1, 2, none⟩ = some (.map (some (A ⟨#[47]⟩))))
     ((refine AS.out _ ?_; repeat (first | exact Below.refl _ _ | apply belowA | refine belowT ?_ hB4 | refine belowT ?_ hB3 | apply Below.drew | refine set3_below ?_ (by first | exact Nat.le_refl _ | (have h3 := hB3.size; have h4 := hB4.size; simp at h3 h4 ⊢; omega)) _ _ _)))
     (first | (go_at_call 45; refine (HU.out _).mono ?_; rintro e w3 ⟨rfl, hB3⟩; obtain ⟨bc3, bf3⟩ := bcellN hB3; have l3 := hB3.size; (try simp at l3); (try (have z0 := bc3 W0.heap.size 0 (lt_allocD _ _); have z1 := bc3 W0.heap.size 1 (lt_allocD _ _); have z2 := bc3 W0.heap.size 2 (lt_allocD _ _); have z3 := bf3 W0.heap.size 0 (lt_allocD _ _); have z4 := bf3 W0.heap.size 1 (lt_allocD _ _); have z5 := bf3 W0.heap.size 2 (lt_allocD _ _); simp at z0 z1 z2 z3 z4 z5)); clear bc3 bf3) | (go_at_call 44; refine (HDi.out _ (AR.out _ (by repeat (first | exact Below.refl _ _ | apply belowA | refine belowT ?_ hB3 | apply Below.drew))) (AE.out _ (by repeat (first | exact Below.refl _ _ | apply belowA | refine belowT ?_ hB3 | apply Below.drew))).two).mono ?_; rintro e w4 ⟨rfl, hB4⟩; obtain ⟨bc4, bf4⟩ := bcellN hB4; have l4 := hB4.size; (try simp at l4); (try (have z0 := bc4 w3.heap.size 0 (lt_alloc _ _); have z1 := bc4 w3.heap.size 1 (lt_alloc _ _); have z2 := bc4 w3.heap.size 2 (lt_alloc _ _); have z3 := bf4 w3.heap.size 0 (lt_alloc _ _); have z4 := bf4 w3.heap.size 1 (lt_alloc _ _); have z5 := bf4 w3.heap.size 2 (lt_alloc _ _); simp at z0 z1 z2 z3 z4 z5)); (try (have v0 := (bc4 W0.heap.size 0 l3).trans z0; have v1 := (bc4 W0.heap.size 1 l3).trans z1; have v2 := (bc4 W0.heap.size 2 l3).trans z2; have v3 := (bf4 W0.heap.size 0 l3).trans z3; have v4 := (bf4 W0.heap.size 1 l3).trans z4; have v5 := (bf4 W0.heap.size 2 l3).trans z5)); clear bc4 bf4))
    all_goals refine HK.out _ _ (by repeat (first | exact Below.refl _ _ | apply belowA | refine belowT ?_ hB4 | refine belowT ?_ hB3 | apply Below.drew | refine set3_below ?_ (by first | exact Nat.le_refl _ | (have h3 := hB3.size; have h4 := hB4.size; simp at h3 h4 ⊢; omega)) _ _ _)) ?_
    all_goals first | exact (set3_cells v0 v1 v2 _ _ _).2.2 | exact (set3_cells z0 z1 z2 _ _ _).2.2 | simp
end Go.Proofs.YtafeddiijemnbaaGreatDoor
namespace Go.Proofs.YtafeddiijemnbaaGreatDoor
open Go.RowKit Go.Shelf Go.Lib
attribute [local go_sem] Oper.semAt_some
set_option maxHeartbeats 4000000 in
set_option maxRecDepth 100000 in
theorem putDo_any (w : World) (base N : Nat) (es : List E) (A : ByteArray → Nat) (ae : Int → Addr) (T : TrE es) (R : Rep w base N es A) (hE : Errs8 w ae) (k : Int) (p t x : ByteArray) (hpb : pathB p = true)
  (hp : p.size ≤ 16777216) (hx : x.size ≤ 16777216) (hb : base ≤ w.heap.size) (hN : N < 900) (hes : es.length ≤ 16) :
  Calls Tryz.prog 134 #[opV k p t x, treeV A] w fun r w' => r = .returned (errV ae (putC es p)) ∧ Turn base w w' ∧ ∃ A', A' ⟨#[47]⟩ = A ⟨#[47]⟩ ∧ Rep w' base (N + 1) (if putC es p = 0 then putE es ⟨p, false, x⟩ else es) A' := by
 obtain ⟨W0, hW0⟩ : ∃ W0, W0 = (w.alloc (.cells #[.int .i64 k, .string p, .string t, .string x] 99)).alloc (.cells #[.bool true, .string ⟨#[]⟩, .map (some (A ⟨#[47]⟩))] 38) := ⟨_, rfl⟩
 have hBw : Below w.heap.size w W0 := hW0 ▸ ((Below.refl _ w).alloc (Nat.le_refl _) _).alloc (by simp) _; have hs0 : W0.heap.size = w.heap.size + 2 := by rw [hW0]; simp
 have HX : Hid (DoBox W0 w.heap.size A k p t x) := by
  subst hW0
  constructor <;> simp
 have hbW0 : base ≤ W0.heap.size := by omega
 have AX : Hid (∀ W', Below W0.heap.size W0 W' → DoBox W' w.heap.size A k p t x) := fun W' hW => HX.out.below hW
 have AS : Hid (∀ W', Below W0.heap.size W0 W' → (W'.cell? ⟨w.heap.size, 1, none⟩ = some (.string p) ∧ W'.cell? ⟨w.heap.size + 1, 0, none⟩ = some (.bool true) ∧ W'.cell? ⟨w.heap.size + 1, 1, none⟩ = some (.string ⟨#[]⟩) ∧ W'.cell? ⟨w.heap.size + 1, 2, none⟩ = some (.map (some (A ⟨#[47]⟩))))) := fun W' hW => by
  have := HX.out.below hW; exact ⟨this.o1, this.t0, this.t1, this.t2⟩
 have AR : Hid (∀ W', Below W0.heap.size W0 W' → Rep W' base N es A) := fun W' hW => (R.below hBw).below hW; have AE : Hid (∀ W', Below W0.heap.size W0 W' → Errs8 W' ae) := fun W' hW => (hE.below hBw).below hW; have HU := hid (fun W => iPathUp_any p hp W); have hus : (upS p).size ≤ 4611686018427387904 := by have := upS_size p; omega
 have HDi := hid (fun (W : World) (hW : Rep W base N es A) (hE : Errs2 W ae) => dirAt_any W base N es A ae T hW hE (upS p) hus); have HAt := hid (fun (W : World) (hW : Rep W base N es A) => at_any W base N es A T hW p (by omega)); have HFu := hid (fun (W : World) (hW : Rep W base N es A) => full_any W base N es A T hW (by omega) (by omega)); have HN5 := hid (fun W => iPathName_any p hp W)
 have hnz : (nmS p).size ≤ maxLen := by
  have := (up_facts hpb).2.2.1; unfold nameB at this; rw [Bool.and_eq_true] at this; have := (of_decide_eq_true this.1).2; unfold maxLen; omega
 have hroot := path_not_root hpb; have hTu : ∀ W', Below W0.heap.size W0 W' → Turn base w W' := fun W' hW => Turn.of_below (hBw.trans (hW.mono hBw.size)) hb; have HTu := hid hTu; have HRk : Hid (∀ W', Below W0.heap.size W0 W' → ∃ A', A' ⟨#[47]⟩ = A ⟨#[47]⟩ ∧ Rep W' base (N + 1) es A') := fun W' hW => ⟨A, rfl, (AR.out W' hW).more⟩; clear hE R hTu hs0; have HF6 := hid (fun W => newFile_any x (by omega) W); cases hdir : dirE es (upS p) with
 | false =>
  have hc0 : dirC es (upS p) ≠ 0 := fun h => by rw [dirC_zero h] at hdir; cases hdir
  have hdv : dirV es A (upS p) = zeroN := by unfold dirV; rw [if_neg hc0]
  rw [putC_up hc0, if_neg hc0, errV_no hc0]; rw [hdv, errV_no hc0] at HDi; go_enter Tryz.func134, Tryz.ntmps134
  go_wp2_with fail
  rw [← hW0]; clear hW0
  rename_i Qx Kx hKx
  have HK : Hid (∀ (b : Nat) (W : World), Below W0.heap.size W0 W → Kx { tmps := #[opV k p t x, treeV A, .pointer (some ⟨w.heap.size, 0, none⟩), .pointer (some ⟨w.heap.size + 1, 0, none⟩), .nilIface, .pointer (some ⟨b, 0, none⟩), .iface 168 (.pointer (some (ae (dirC es (upS p))))), undef, undef, .tuple #[zeroN, .iface 168 (.pointer (some (ae (dirC es (upS p)))))], treeV A, .pointer (some ⟨w.heap.size, 1, none⟩), .string p, .string (upS p), .tuple #[zeroN, .iface 168 (.pointer (some (ae (dirC es (upS p)))))], zeroN, .iface 168 (.pointer (some (ae (dirC es (upS p))))), undef, undef, undef, undef, undef, undef, undef, undef, undef, undef, undef, undef, undef, undef, undef, undef, undef, undef, undef, undef, undef, undef, undef, undef, undef, undef, undef, undef], defers := [] } W) := by
   intro b W hBW; refine hKx _ _ ?_; go_wp2
   go_ret
   exact ⟨rfl, HTu.out _ hBW, HRk.out _ hBW⟩
  clear hKx
  go_region_held3 (fun W' => W'.cell? ⟨w.heap.size, 1, none⟩ = some (.string p) ∧ W'.cell? ⟨w.heap.size + 1, 0, none⟩ = some (.bool true) ∧ W'.cell? ⟨w.heap.size + 1, 1, none⟩ = some (.string ⟨#[]⟩) ∧ W'.cell? ⟨w.heap.size + 1, 2, none⟩ = some (.map (some (A ⟨#[47]⟩))))
   ((refine AS.out _ ?_; repeat (first | exact Below.refl _ _ | apply belowA | refine belowT ?_ hB4 | refine belowT ?_ hB3 | apply Below.drew | refine set3_below ?_ (by first | exact Nat.le_refl _ | (have h3 := hB3.size; have h4 := hB4.size; simp at h3 h4 ⊢; omega)) _ _ _)))
   (first | (go_at_call 45; refine (HU.out _).mono ?_; rintro e w3 ⟨rfl, hB3⟩; obtain ⟨bc3, bf3⟩ := bcellN hB3; have l3 := hB3.size; (try simp at l3); (try (have z0 := bc3 W0.heap.size 0 (lt_allocD _ _); have z1 := bc3 W0.heap.size 1 (lt_allocD _ _); have z2 := bc3 W0.heap.size 2 (lt_allocD _ _); have z3 := bf3 W0.heap.size 0 (lt_allocD _ _); have z4 := bf3 W0.heap.size 1 (lt_allocD _ _); have z5 := bf3 W0.heap.size 2 (lt_allocD _ _); simp at z0 z1 z2 z3 z4 z5)); clear bc3 bf3) | (go_at_call 44; refine (HDi.out _ (AR.out _ (by repeat (first | exact Below.refl _ _ | apply belowA | refine belowT ?_ hB3 | apply Below.drew))) (AE.out _ (by repeat (first | exact Below.refl _ _ | apply belowA | refine belowT ?_ hB3 | apply Below.drew))).two).mono ?_; rintro e w4 ⟨rfl, hB4⟩; obtain ⟨bc4, bf4⟩ := bcellN hB4; have l4 := hB4.size; (try simp at l4); (try (have z0 := bc4 w3.heap.size 0 (lt_alloc _ _); have z1 := bc4 w3.heap.size 1 (lt_alloc _ _); have z2 := bc4 w3.heap.size 2 (lt_alloc _ _); have z3 := bf4 w3.heap.size 0 (lt_alloc _ _); have z4 := bf4 w3.heap.size 1 (lt_alloc _ _); have z5 := bf4 w3.heap.size 2 (lt_alloc _ _); simp at z0 z1 z2 z3 z4 z5)); (try (have v0 := (bc4 W0.heap.size 0 l3).trans z0; have v1 := (bc4 W0.heap.size 1 l3).trans z1; have v2 := (bc4 W0.heap.size 2 l3).trans z2; have v3 := (bf4 W0.heap.size 0 l3).trans z3; have v4 := (bf4 W0.heap.size 1 l3).trans z4; have v5 := (bf4 W0.heap.size 2 l3).trans z5)); clear bc4 bf4))
  all_goals exact HK.out _ _ (by repeat (first | exact Below.refl _ _ | apply belowA | refine belowT ?_ hB4 | refine belowT ?_ hB3 | apply Below.drew | refine set3_below ?_ (by first | exact Nat.le_refl _ | (have h3 := hB3.size; have h4 := hB4.size; simp at h3 h4 ⊢; omega)) _ _ _))
 | true =>
  obtain ⟨xx, hxx⟩ := atE_dir (A := A) hdir; have hdv : dirV es A (upS p) = .agg #[.bool true, .string xx, .map (some (A (upS p)))] := by unfold dirV; rw [dirC_dir hdir, if_pos rfl, hxx]
  have hev : errV ae (dirC es (upS p)) = .nilIface := by rw [dirC_dir hdir]; rfl
  rw [hdv, hev] at HDi; cases hl : lookE es p with
  | some f =>
   rw [atE_some hpb hl] at HAt; rw [putC_there hdir hpb hl]; cases hfd : f.d with
   | true =>
    rw [hfd] at HAt; rw [if_pos rfl, if_neg (by decide), errV_no (by decide)]; go_enter Tryz.func134, Tryz.ntmps134
    go_wp2_with fail
    rw [← hW0]; clear hW0
    rename_i Qx Kx hKx
    have HK : Hid (∀ (b : Nat) (W : World), Below W0.heap.size W0 W → W.cell? ⟨b, 2, none⟩ = some (.map (some (A (upS p)))) → Kx { tmps := #[opV k p t x, treeV A, .pointer (some ⟨w.heap.size, 0, none⟩), .pointer (some ⟨w.heap.size + 1, 0, none⟩), .nilIface, .pointer (some ⟨b, 0, none⟩), .nilIface, undef, undef, .tuple #[.agg #[.bool true, .string xx, .map (some (A (upS p)))], .nilIface], treeV A, .pointer (some ⟨w.heap.size, 1, none⟩), .string p, .string (upS p), .tuple #[.agg #[.bool true, .string xx, .map (some (A (upS p)))], .nilIface], .agg #[.bool true, .string xx, .map (some (A (upS p)))], .nilIface, undef, undef, undef, undef, undef, undef, undef, undef, undef, undef, undef, undef, undef, undef, undef, undef, undef, undef, undef, undef, undef, undef, undef, undef, undef, undef, undef, undef], defers := [] } W) := by
     intro b W hBW hb2; refine hKx _ _ ?_; obtain ⟨y0, y1, y2, y3, y4, y5, y6⟩ := AX.out _ hBW; go_wp2_with (go_at_call 51; refine (HAt.out _ (AR.out _ hBW)).mono ?_; rintro e w5 ⟨rfl, hB5⟩; have hBW5 := belowT hBW hB5; obtain ⟨q0, q1, q2, q3, q4, q5, q6⟩ := AX.out _ hBW5; have n4 := (AE.out _ hBW5).there; have n4' := fun o => cellOn o n4; have n5 := (AE.out _ hBW5).isDir; have n5' := fun o => cellOn o n5; have u0 := fun o => cellOn o q4; have u1 := fun o => cellOn o q5; have u2 := fun o => cellOn o q6; have u3 := fun o => cellOn o q1)
     go_ret
     exact ⟨rfl, HTu.out _ (belowA hBW5 _), HRk.out _ (belowA hBW5 _)⟩
    clear hKx
    go_region_held3 (fun W' => W'.cell? ⟨w.heap.size, 1, none⟩ = some (.string p) ∧ W'.cell? ⟨w.heap.size + 1, 0, none⟩ = some (.bool true) ∧ W'.cell? ⟨w.heap.size + 1, 1, none⟩ = some (.string ⟨#[]⟩) ∧ W'.cell? ⟨w.heap.size + 1, 2, none⟩ = some (.map (some (A ⟨#[47]⟩))))
     ((refine AS.out _ ?_; repeat (first | exact Below.refl _ _ | apply belowA | refine belowT ?_ hB4 | refine belowT ?_ hB3 | apply Below.drew | refine set3_below ?_ (by first | exact Nat.le_refl _ | (have h3 := hB3.size; have h4 := hB4.size; simp at h3 h4 ⊢; omega)) _ _ _)))
     (first | (go_at_call 45; refine (HU.out _).mono ?_; rintro e w3 ⟨rfl, hB3⟩; obtain ⟨bc3, bf3⟩ := bcellN hB3; have l3 := hB3.size; (try simp at l3); (try (have z0 := bc3 W0.heap.size 0 (lt_allocD _ _); have z1 := bc3 W0.heap.size 1 (lt_allocD _ _); have z2 := bc3 W0.heap.size 2 (lt_allocD _ _); have z3 := bf3 W0.heap.size 0 (lt_allocD _ _); have z4 := bf3 W0.heap.size 1 (lt_allocD _ _); have z5 := bf3 W0.heap.size 2 (lt_allocD _ _); simp at z0 z1 z2 z3 z4 z5)); clear bc3 bf3) | (go_at_call 44; refine (HDi.out _ (AR.out _ (by repeat (first | exact Below.refl _ _ | apply belowA | refine belowT ?_ hB3 | apply Below.drew))) (AE.out _ (by repeat (first | exact Below.refl _ _ | apply belowA | refine belowT ?_ hB3 | apply Below.drew))).two).mono ?_; rintro e w4 ⟨rfl, hB4⟩; obtain ⟨bc4, bf4⟩ := bcellN hB4; have l4 := hB4.size; (try simp at l4); (try (have z0 := bc4 w3.heap.size 0 (lt_alloc _ _); have z1 := bc4 w3.heap.size 1 (lt_alloc _ _); have z2 := bc4 w3.heap.size 2 (lt_alloc _ _); have z3 := bf4 w3.heap.size 0 (lt_alloc _ _); have z4 := bf4 w3.heap.size 1 (lt_alloc _ _); have z5 := bf4 w3.heap.size 2 (lt_alloc _ _); simp at z0 z1 z2 z3 z4 z5)); (try (have v0 := (bc4 W0.heap.size 0 l3).trans z0; have v1 := (bc4 W0.heap.size 1 l3).trans z1; have v2 := (bc4 W0.heap.size 2 l3).trans z2; have v3 := (bf4 W0.heap.size 0 l3).trans z3; have v4 := (bf4 W0.heap.size 1 l3).trans z4; have v5 := (bf4 W0.heap.size 2 l3).trans z5)); clear bc4 bf4))
    all_goals refine HK.out _ _ (by repeat (first | exact Below.refl _ _ | apply belowA | refine belowT ?_ hB4 | refine belowT ?_ hB3 | apply Below.drew | refine set3_below ?_ (by first | exact Nat.le_refl _ | (have h3 := hB3.size; have h4 := hB4.size; simp at h3 h4 ⊢; omega)) _ _ _)) ?_
    all_goals first | exact (set3_cells v0 v1 v2 _ _ _).2.2 | exact (set3_cells z0 z1 z2 _ _ _).2.2 | simp
   | false =>
    rw [hfd] at HAt; rw [if_neg (by decide), if_pos rfl]; have hold : dirE es p = false := by rw [dirE_look, hl, root_not_path hpb]; exact hfd
    rw [show errV ae 0 = .nilIface from rfl]; go_enter Tryz.func134, Tryz.ntmps134
    go_wp2_with fail
    rw [← hW0]; clear hW0
    rename_i Qx Kx hKx
    have HK : Hid (∀ (b : Nat) (W : World), Below W0.heap.size W0 W → W.cell? ⟨b, 2, none⟩ = some (.map (some (A (upS p)))) → Kx { tmps := #[opV k p t x, treeV A, .pointer (some ⟨w.heap.size, 0, none⟩), .pointer (some ⟨w.heap.size + 1, 0, none⟩), .nilIface, .pointer (some ⟨b, 0, none⟩), .nilIface, undef, undef, .tuple #[.agg #[.bool true, .string xx, .map (some (A (upS p)))], .nilIface], treeV A, .pointer (some ⟨w.heap.size, 1, none⟩), .string p, .string (upS p), .tuple #[.agg #[.bool true, .string xx, .map (some (A (upS p)))], .nilIface], .agg #[.bool true, .string xx, .map (some (A (upS p)))], .nilIface, undef, undef, undef, undef, undef, undef, undef, undef, undef, undef, undef, undef, undef, undef, undef, undef, undef, undef, undef, undef, undef, undef, undef, undef, undef, undef, undef, undef], defers := [] } W) := by
     intro b W hBW hb2; refine hKx _ _ ?_; obtain ⟨y0, y1, y2, y3, y4, y5, y6⟩ := AX.out _ hBW; go_wp2_with (go_at_call 51; refine (HAt.out _ (AR.out _ hBW)).mono ?_; rintro e w5 ⟨rfl, hB5⟩; have hBW5 := belowT hBW hB5; obtain ⟨q0, q1, q2, q3, q4, q5, q6⟩ := AX.out _ hBW5; have n4 := (AE.out _ hBW5).there; have n4' := fun o => cellOn o n4; have n5 := (AE.out _ hBW5).isDir; have n5' := fun o => cellOn o n5; have u0 := fun o => cellOn o q4; have u1 := fun o => cellOn o q5; have u2 := fun o => cellOn o q6; have u3 := fun o => cellOn o q1)
     obtain ⟨Wa, hWa⟩ : ∃ Wa, Wa = w5.alloc (.cells #[.bool false, .string f.x, .map (optV false (A p))] 36) := ⟨_, rfl⟩
     rw [← hWa]; have hBWa : Below W0.heap.size W0 Wa := by rw [hWa]; exact belowA hBW5 _
     have hbm : Wa.cell? ⟨b, 2, none⟩ = some (.map (some (A (upS p)))) := by rw [hWa]; exact cellOn _ (below_cell hB5 hb2)
     clear hWa; have hbW : base ≤ Wa.heap.size := Nat.le_trans hbW0 (hBWa).size; have AS2 : Hid (∀ W', Turn base Wa W' → (W'.cell? ⟨b, 2, none⟩ = some (.map (some (A (upS p)))) ∧ W'.cell? ⟨w.heap.size, 1, none⟩ = some (.string p) ∧ W'.cell? ⟨w.heap.size, 3, none⟩ = some (.string x))) := fun W' hW => ⟨hW.cell hbm, hW.cell (AX.out _ hBWa).o1, hW.cell (AX.out _ hBWa).o3⟩
     go_region_held3 (fun W' => W'.cell? ⟨b, 2, none⟩ = some (.map (some (A (upS p)))) ∧ W'.cell? ⟨w.heap.size, 1, none⟩ = some (.string p) ∧ W'.cell? ⟨w.heap.size, 3, none⟩ = some (.string x))
      ((first | exact AS2.out _ ((Turn.of_below (belowT (belowT (Below.refl _ _).drew hB7) hB8) hbW).trans (Turn.of_map ht9 ((AR.out _ hBWa).low _ hdir))) | exact AS2.out _ (Turn.of_below (belowT (belowT (Below.refl _ _).drew hB7) hB8) hbW) | exact AS2.out _ (Turn.of_below (belowT (Below.refl _ _).drew hB7) hbW) | exact AS2.out _ (Turn.of_below (Below.refl _ _).drew hbW)))
      (first | (go_at_call 46; refine (HN5.out _).mono ?_; rintro e w7 ⟨rfl, hB7⟩) | (go_at_call 47; refine (HF6.out _).mono ?_; rintro e w8 ⟨rfl, hB8⟩; obtain ⟨w9, hst, hm9, ht9⟩ := ((AR.out _ (belowT (belowT (hBWa).drew hB7) hB8)).kids _ hdir).store (by unfold maxLen; omega) hnz (.agg #[.bool false, .string x, .map none])))
     have RW8 := AR.out _ (belowT (belowT (hBWa).drew hB7) hB8); have fin := put_fin (e := ⟨p, false, x⟩) (a := 0) T RW8 (HTu.out _ (belowT (belowT (hBWa).drew hB7) hB8)) hpb hdir hold hm9 ht9 (fun h => by cases h); go_wp2
     go_ret
     exact ⟨rfl, fin.1, fin.2⟩
    clear hKx
    go_region_held3 (fun W' => W'.cell? ⟨w.heap.size, 1, none⟩ = some (.string p) ∧ W'.cell? ⟨w.heap.size + 1, 0, none⟩ = some (.bool true) ∧ W'.cell? ⟨w.heap.size + 1, 1, none⟩ = some (.string ⟨#[]⟩) ∧ W'.cell? ⟨w.heap.size + 1, 2, none⟩ = some (.map (some (A ⟨#[47]⟩))))
     ((refine AS.out _ ?_; repeat (first | exact Below.refl _ _ | apply belowA | refine belowT ?_ hB4 | refine belowT ?_ hB3 | apply Below.drew | refine set3_below ?_ (by first | exact Nat.le_refl _ | (have h3 := hB3.size; have h4 := hB4.size; simp at h3 h4 ⊢; omega)) _ _ _)))
     (first | (go_at_call 45; refine (HU.out _).mono ?_; rintro e w3 ⟨rfl, hB3⟩; obtain ⟨bc3, bf3⟩ := bcellN hB3; have l3 := hB3.size; (try simp at l3); (try (have z0 := bc3 W0.heap.size 0 (lt_allocD _ _); have z1 := bc3 W0.heap.size 1 (lt_allocD _ _); have z2 := bc3 W0.heap.size 2 (lt_allocD _ _); have z3 := bf3 W0.heap.size 0 (lt_allocD _ _); have z4 := bf3 W0.heap.size 1 (lt_allocD _ _); have z5 := bf3 W0.heap.size 2 (lt_allocD _ _); simp at z0 z1 z2 z3 z4 z5)); clear bc3 bf3) | (go_at_call 44; refine (HDi.out _ (AR.out _ (by repeat (first | exact Below.refl _ _ | apply belowA | refine belowT ?_ hB3 | apply Below.drew))) (AE.out _ (by repeat (first | exact Below.refl _ _ | apply belowA | refine belowT ?_ hB3 | apply Below.drew))).two).mono ?_; rintro e w4 ⟨rfl, hB4⟩; obtain ⟨bc4, bf4⟩ := bcellN hB4; have l4 := hB4.size; (try simp at l4); (try (have z0 := bc4 w3.heap.size 0 (lt_alloc _ _); have z1 := bc4 w3.heap.size 1 (lt_alloc _ _); have z2 := bc4 w3.heap.size 2 (lt_alloc _ _); have z3 := bf4 w3.heap.size 0 (lt_alloc _ _); have z4 := bf4 w3.heap.size 1 (lt_alloc _ _); have z5 := bf4 w3.heap.size 2 (lt_alloc _ _); simp at z0 z1 z2 z3 z4 z5)); (try (have v0 := (bc4 W0.heap.size 0 l3).trans z0; have v1 := (bc4 W0.heap.size 1 l3).trans z1; have v2 := (bc4 W0.heap.size 2 l3).trans z2; have v3 := (bf4 W0.heap.size 0 l3).trans z3; have v4 := (bf4 W0.heap.size 1 l3).trans z4; have v5 := (bf4 W0.heap.size 2 l3).trans z5)); clear bc4 bf4))
    all_goals refine HK.out _ _ (by repeat (first | exact Below.refl _ _ | apply belowA | refine belowT ?_ hB4 | refine belowT ?_ hB3 | apply Below.drew | refine set3_below ?_ (by first | exact Nat.le_refl _ | (have h3 := hB3.size; have h4 := hB4.size; simp at h3 h4 ⊢; omega)) _ _ _)) ?_
    all_goals first | exact (set3_cells v0 v1 v2 _ _ _).2.2 | exact (set3_cells z0 z1 z2 _ _ _).2.2 | simp
  | none =>
   rw [atE_none hpb hl] at HAt; have hold : dirE es p = false := dir_isRoot hpb hl; rw [putC_none hdir hpb hl]; by_cases h16 : 16 ≤ es.length
   ·
    rw [if_pos h16, if_neg (by decide), errV_no (by decide)]; rw [decide_eq_true h16] at HFu; go_enter Tryz.func134, Tryz.ntmps134
    go_wp2_with fail
    rw [← hW0]; clear hW0
    rename_i Qx Kx hKx
    have HK : Hid (∀ (b : Nat) (W : World), Below W0.heap.size W0 W → W.cell? ⟨b, 2, none⟩ = some (.map (some (A (upS p)))) → Kx { tmps := #[opV k p t x, treeV A, .pointer (some ⟨w.heap.size, 0, none⟩), .pointer (some ⟨w.heap.size + 1, 0, none⟩), .nilIface, .pointer (some ⟨b, 0, none⟩), .nilIface, undef, undef, .tuple #[.agg #[.bool true, .string xx, .map (some (A (upS p)))], .nilIface], treeV A, .pointer (some ⟨w.heap.size, 1, none⟩), .string p, .string (upS p), .tuple #[.agg #[.bool true, .string xx, .map (some (A (upS p)))], .nilIface], .agg #[.bool true, .string xx, .map (some (A (upS p)))], .nilIface, undef, undef, undef, undef, undef, undef, undef, undef, undef, undef, undef, undef, undef, undef, undef, undef, undef, undef, undef, undef, undef, undef, undef, undef, undef, undef, undef, undef], defers := [] } W) := by
     intro b W hBW hb2; refine hKx _ _ ?_; obtain ⟨y0, y1, y2, y3, y4, y5, y6⟩ := AX.out _ hBW; go_wp2_with (first | (go_at_call 51; refine (HAt.out _ (AR.out _ hBW)).mono ?_; rintro e w5 ⟨rfl, hB5⟩; have hBW5 := belowT hBW hB5; obtain ⟨q0, q1, q2, q3, q4, q5, q6⟩ := AX.out _ hBW5; have n4 := (AE.out _ hBW5).there; have n4' := fun o => cellOn o n4; have n5 := (AE.out _ hBW5).isDir; have n5' := fun o => cellOn o n5; have u0 := fun o => cellOn o q4; have u1 := fun o => cellOn o q5; have u2 := fun o => cellOn o q6; have u3 := fun o => cellOn o q1) | (go_at_call 133; refine (HFu.out _ (AR.out _ (belowA hBW5 _))).mono ?_; rintro e w6 ⟨rfl, hB6⟩; have hBW6 := belowT (belowA hBW5 _) hB6; have n8 := (AE.out _ hBW6).room))
     go_ret
     exact ⟨rfl, HTu.out _ hBW6, HRk.out _ hBW6⟩
    clear hKx
    go_region_held3 (fun W' => W'.cell? ⟨w.heap.size, 1, none⟩ = some (.string p) ∧ W'.cell? ⟨w.heap.size + 1, 0, none⟩ = some (.bool true) ∧ W'.cell? ⟨w.heap.size + 1, 1, none⟩ = some (.string ⟨#[]⟩) ∧ W'.cell? ⟨w.heap.size + 1, 2, none⟩ = some (.map (some (A ⟨#[47]⟩))))
     ((refine AS.out _ ?_; repeat (first | exact Below.refl _ _ | apply belowA | refine belowT ?_ hB4 | refine belowT ?_ hB3 | apply Below.drew | refine set3_below ?_ (by first | exact Nat.le_refl _ | (have h3 := hB3.size; have h4 := hB4.size; simp at h3 h4 ⊢; omega)) _ _ _)))
     (first | (go_at_call 45; refine (HU.out _).mono ?_; rintro e w3 ⟨rfl, hB3⟩; obtain ⟨bc3, bf3⟩ := bcellN hB3; have l3 := hB3.size; (try simp at l3); (try (have z0 := bc3 W0.heap.size 0 (lt_allocD _ _); have z1 := bc3 W0.heap.size 1 (lt_allocD _ _); have z2 := bc3 W0.heap.size 2 (lt_allocD _ _); have z3 := bf3 W0.heap.size 0 (lt_allocD _ _); have z4 := bf3 W0.heap.size 1 (lt_allocD _ _); have z5 := bf3 W0.heap.size 2 (lt_allocD _ _); simp at z0 z1 z2 z3 z4 z5)); clear bc3 bf3) | (go_at_call 44; refine (HDi.out _ (AR.out _ (by repeat (first | exact Below.refl _ _ | apply belowA | refine belowT ?_ hB3 | apply Below.drew))) (AE.out _ (by repeat (first | exact Below.refl _ _ | apply belowA | refine belowT ?_ hB3 | apply Below.drew))).two).mono ?_; rintro e w4 ⟨rfl, hB4⟩; obtain ⟨bc4, bf4⟩ := bcellN hB4; have l4 := hB4.size; (try simp at l4); (try (have z0 := bc4 w3.heap.size 0 (lt_alloc _ _); have z1 := bc4 w3.heap.size 1 (lt_alloc _ _); have z2 := bc4 w3.heap.size 2 (lt_alloc _ _); have z3 := bf4 w3.heap.size 0 (lt_alloc _ _); have z4 := bf4 w3.heap.size 1 (lt_alloc _ _); have z5 := bf4 w3.heap.size 2 (lt_alloc _ _); simp at z0 z1 z2 z3 z4 z5)); (try (have v0 := (bc4 W0.heap.size 0 l3).trans z0; have v1 := (bc4 W0.heap.size 1 l3).trans z1; have v2 := (bc4 W0.heap.size 2 l3).trans z2; have v3 := (bf4 W0.heap.size 0 l3).trans z3; have v4 := (bf4 W0.heap.size 1 l3).trans z4; have v5 := (bf4 W0.heap.size 2 l3).trans z5)); clear bc4 bf4))
    all_goals refine HK.out _ _ (by repeat (first | exact Below.refl _ _ | apply belowA | refine belowT ?_ hB4 | refine belowT ?_ hB3 | apply Below.drew | refine set3_below ?_ (by first | exact Nat.le_refl _ | (have h3 := hB3.size; have h4 := hB4.size; simp at h3 h4 ⊢; omega)) _ _ _)) ?_
    all_goals first | exact (set3_cells v0 v1 v2 _ _ _).2.2 | exact (set3_cells z0 z1 z2 _ _ _).2.2 | simp
   ·
    rw [if_neg h16, if_pos rfl, show errV ae 0 = .nilIface from rfl]; rw [decide_eq_false h16] at HFu; go_enter Tryz.func134, Tryz.ntmps134
    go_wp2_with fail
    rw [← hW0]; clear hW0
    rename_i Qx Kx hKx
    have HK : Hid (∀ (b : Nat) (W : World), Below W0.heap.size W0 W → W.cell? ⟨b, 2, none⟩ = some (.map (some (A (upS p)))) → Kx { tmps := #[opV k p t x, treeV A, .pointer (some ⟨w.heap.size, 0, none⟩), .pointer (some ⟨w.heap.size + 1, 0, none⟩), .nilIface, .pointer (some ⟨b, 0, none⟩), .nilIface, undef, undef, .tuple #[.agg #[.bool true, .string xx, .map (some (A (upS p)))], .nilIface], treeV A, .pointer (some ⟨w.heap.size, 1, none⟩), .string p, .string (upS p), .tuple #[.agg #[.bool true, .string xx, .map (some (A (upS p)))], .nilIface], .agg #[.bool true, .string xx, .map (some (A (upS p)))], .nilIface, undef, undef, undef, undef, undef, undef, undef, undef, undef, undef, undef, undef, undef, undef, undef, undef, undef, undef, undef, undef, undef, undef, undef, undef, undef, undef, undef, undef], defers := [] } W) := by
     intro b W hBW hb2; refine hKx _ _ ?_; obtain ⟨y0, y1, y2, y3, y4, y5, y6⟩ := AX.out _ hBW; go_wp2_with (first | (go_at_call 51; refine (HAt.out _ (AR.out _ hBW)).mono ?_; rintro e w5 ⟨rfl, hB5⟩; have hBW5 := belowT hBW hB5; obtain ⟨q0, q1, q2, q3, q4, q5, q6⟩ := AX.out _ hBW5; have n4 := (AE.out _ hBW5).there; have n4' := fun o => cellOn o n4; have n5 := (AE.out _ hBW5).isDir; have n5' := fun o => cellOn o n5; have u0 := fun o => cellOn o q4; have u1 := fun o => cellOn o q5; have u2 := fun o => cellOn o q6; have u3 := fun o => cellOn o q1) | (go_at_call 133; refine (HFu.out _ (AR.out _ (belowA hBW5 _))).mono ?_; rintro e w6 ⟨rfl, hB6⟩; have hBW6 := belowT (belowA hBW5 _) hB6; have n8 := (AE.out _ hBW6).room))
     have hbm : w6.cell? ⟨b, 2, none⟩ = some (.map (some (A (upS p)))) := below_cell hB6 (cellOn _ (below_cell hB5 hb2)); have hbW : base ≤ w6.heap.size := Nat.le_trans hbW0 (hBW6).size; have AS2 : Hid (∀ W', Turn base w6 W' → (W'.cell? ⟨b, 2, none⟩ = some (.map (some (A (upS p)))) ∧ W'.cell? ⟨w.heap.size, 1, none⟩ = some (.string p) ∧ W'.cell? ⟨w.heap.size, 3, none⟩ = some (.string x))) := fun W' hW => ⟨hW.cell hbm, hW.cell (AX.out _ hBW6).o1, hW.cell (AX.out _ hBW6).o3⟩
     go_region_held3 (fun W' => W'.cell? ⟨b, 2, none⟩ = some (.map (some (A (upS p)))) ∧ W'.cell? ⟨w.heap.size, 1, none⟩ = some (.string p) ∧ W'.cell? ⟨w.heap.size, 3, none⟩ = some (.string x))
      ((first | exact AS2.out _ ((Turn.of_below (belowT (belowT (Below.refl _ _).drew hB7) hB8) hbW).trans (Turn.of_map ht9 ((AR.out _ hBW6).low _ hdir))) | exact AS2.out _ (Turn.of_below (belowT (belowT (Below.refl _ _).drew hB7) hB8) hbW) | exact AS2.out _ (Turn.of_below (belowT (Below.refl _ _).drew hB7) hbW) | exact AS2.out _ (Turn.of_below (Below.refl _ _).drew hbW)))
      (first | (go_at_call 46; refine (HN5.out _).mono ?_; rintro e w7 ⟨rfl, hB7⟩) | (go_at_call 47; refine (HF6.out _).mono ?_; rintro e w8 ⟨rfl, hB8⟩; obtain ⟨w9, hst, hm9, ht9⟩ := ((AR.out _ (belowT (belowT (hBW6).drew hB7) hB8)).kids _ hdir).store (by unfold maxLen; omega) hnz (.agg #[.bool false, .string x, .map none])))
     have RW8 := AR.out _ (belowT (belowT (hBW6).drew hB7) hB8); have fin := put_fin (e := ⟨p, false, x⟩) (a := 0) T RW8 (HTu.out _ (belowT (belowT (hBW6).drew hB7) hB8)) hpb hdir hold hm9 ht9 (fun h => by cases h); go_wp2
     go_ret
     exact ⟨rfl, fin.1, fin.2⟩
    clear hKx
    go_region_held3 (fun W' => W'.cell? ⟨w.heap.size, 1, none⟩ = some (.string p) ∧ W'.cell? ⟨w.heap.size + 1, 0, none⟩ = some (.bool true) ∧ W'.cell? ⟨w.heap.size + 1, 1, none⟩ = some (.string ⟨#[]⟩) ∧ W'.cell? ⟨w.heap.size + 1, 2, none⟩ = some (.map (some (A ⟨#[47]⟩))))
     ((refine AS.out _ ?_; repeat (first | exact Below.refl _ _ | apply belowA | refine belowT ?_ hB4 | refine belowT ?_ hB3 | apply Below.drew | refine set3_below ?_ (by first | exact Nat.le_refl _ | (have h3 := hB3.size; have h4 := hB4.size; simp at h3 h4 ⊢; omega)) _ _ _)))
     (first | (go_at_call 45; refine (HU.out _).mono ?_; rintro e w3 ⟨rfl, hB3⟩; obtain ⟨bc3, bf3⟩ := bcellN hB3; have l3 := hB3.size; (try simp at l3); (try (have z0 := bc3 W0.heap.size 0 (lt_allocD _ _); have z1 := bc3 W0.heap.size 1 (lt_allocD _ _); have z2 := bc3 W0.heap.size 2 (lt_allocD _ _); have z3 := bf3 W0.heap.size 0 (lt_allocD _ _); have z4 := bf3 W0.heap.size 1 (lt_allocD _ _); have z5 := bf3 W0.heap.size 2 (lt_allocD _ _); simp at z0 z1 z2 z3 z4 z5)); clear bc3 bf3) | (go_at_call 44; refine (HDi.out _ (AR.out _ (by repeat (first | exact Below.refl _ _ | apply belowA | refine belowT ?_ hB3 | apply Below.drew))) (AE.out _ (by repeat (first | exact Below.refl _ _ | apply belowA | refine belowT ?_ hB3 | apply Below.drew))).two).mono ?_; rintro e w4 ⟨rfl, hB4⟩; obtain ⟨bc4, bf4⟩ := bcellN hB4; have l4 := hB4.size; (try simp at l4); (try (have z0 := bc4 w3.heap.size 0 (lt_alloc _ _); have z1 := bc4 w3.heap.size 1 (lt_alloc _ _); have z2 := bc4 w3.heap.size 2 (lt_alloc _ _); have z3 := bf4 w3.heap.size 0 (lt_alloc _ _); have z4 := bf4 w3.heap.size 1 (lt_alloc _ _); have z5 := bf4 w3.heap.size 2 (lt_alloc _ _); simp at z0 z1 z2 z3 z4 z5)); (try (have v0 := (bc4 W0.heap.size 0 l3).trans z0; have v1 := (bc4 W0.heap.size 1 l3).trans z1; have v2 := (bc4 W0.heap.size 2 l3).trans z2; have v3 := (bf4 W0.heap.size 0 l3).trans z3; have v4 := (bf4 W0.heap.size 1 l3).trans z4; have v5 := (bf4 W0.heap.size 2 l3).trans z5)); clear bc4 bf4))
    all_goals refine HK.out _ _ (by repeat (first | exact Below.refl _ _ | apply belowA | refine belowT ?_ hB4 | refine belowT ?_ hB3 | apply Below.drew | refine set3_below ?_ (by first | exact Nat.le_refl _ | (have h3 := hB3.size; have h4 := hB4.size; simp at h3 h4 ⊢; omega)) _ _ _)) ?_
    all_goals first | exact (set3_cells v0 v1 v2 _ _ _).2.2 | exact (set3_cells z0 z1 z2 _ _ _).2.2 | simp
end Go.Proofs.YtafeddiijemnbaaGreatDoor
