/-
  The walk of the program's own: something is moved: the look at what is below it, and the move.
-/
import Derived.Test.YtbcogekeoklddaaGreatDoorHPk23
import Derived.Test.YtbcogekeoklddaaGreatDoorHPk18
namespace Go.Proofs.YtbcogekeoklddaaGreatDoor
open Go.RowKit Go.Shelf Go.Lib Go.Maps

attribute [local go_sem] Oper.semAt_some

theorem pts_no {W : World} {vb : Nat} {t : TypeId} (h : Boxed W vb t .nilIface) (g : Nat) : ¬ pts W vb g := by
  rintro ⟨o, n, cap, e⟩
  rw [h.cell] at e; cases e
theorem good_no {W : World} {vb : Nat} {t : TypeId} (h : Boxed W vb t .nilIface) : Good vb W := fun g q => absurd q (pts_no h g)
theorem keepsBG {w w' : World} {B : Nat} (hb : Below w.heap.size w w') : KeepsFrom B w w' := ⟨hb.size, fun k _ _ h _ => (hb.block k (Array.getElem?_eq_some_iff.1 h).1).trans h⟩
/-- A variable's cell and a list of what is deferred lie apart from what was there ahead. -/
theorem turn_end {base n D : Nat} {w X : World} {v : Value} (h : Turn base w X) (hb : base ≤ w.heap.size) (hn : w.heap.size ≤ n) (hD : w.heap.size ≤ D) : Turn base w ((X.setCell ⟨n, 0, none⟩ v).putObj D (.deferred none)) :=
  ⟨(h.below.setCell (p := ⟨n, 0, none⟩) (by show base ≤ n; omega) v).trans (below_putF (by omega) _), fun k o h1 h2 => by
    have hk := (Array.getElem?_eq_some_iff.1 h1).1
    rw [World.putObj_heap_other (by omega), Below.heap_setCell X ⟨n, 0, none⟩ v k (by show k ≠ n; omega)]
    exact h.cells k o h1 h2⟩
theorem rep_end {base N n D : Nat} {X : World} {es : List E} {A : ByteArray → Nat} {v u : Value} {T : TypeId} (R : Rep X base N es A) (hn : Boxed X n T u) (hD : X.heap[D]? = some (.deferred (some []))) : Rep ((X.setCell ⟨n, 0, none⟩ v).putObj D (.deferred none)) base N es A :=
  R.keep fun b _ ⟨o, c, hb⟩ => by
    have e1 : b ≠ D := fun q => by rw [q, hD] at hb; cases hb
    have e2 : b ≠ n := fun q => by rw [q, show X.heap[n]? = _ from hn] at hb; cases hb
    rw [World.putObj_heap_other e1, Below.heap_setCell X ⟨n, 0, none⟩ v b e2]

set_option maxHeartbeats 4000000 in
set_option maxRecDepth 100000 in
theorem move_room (w : World) (base N : Nat) (es : List E) (A : ByteArray → Nat) (ae : Int → Addr) (T : TrE es) (R : Rep w base N es A)
    (hE : Errs8 w ae) (k : Int) (p t x : ByteArray) (hpb : pathB p = true)
    (hp : p.size ≤ 16777216) (ht : t.size ≤ 16777216) (e0 : E) (hl : lookE es p = some e0) (htb : pathB t = true) (hdir : dirE es (upS t) = true) (hlt : lookE es t = none) (hun : underI t p = false) (hN : N < 900) (hes : es.length ≤ 16) (hfi : fitE es p t = false) (hb : base ≤ w.heap.size) :
    Calls Tryz.prog 149 #[opV k p t x, treeV A] w fun r w' => r = .returned (errV ae 8) ∧ Turn base w w' ∧ ∃ A', A' ⟨#[47]⟩ = A ⟨#[47]⟩ ∧ Rep w' base (N + 1) es A' := by
  obtain ⟨W0, hW0⟩ : ∃ W0, W0 = ((w.alloc (.cells #[.int .i64 k, .string p, .string t, .string x] 126)).alloc (.cells #[.bool true, .string ⟨#[]⟩, .map (some (A ⟨#[47]⟩))] 61)).alloc (.cells #[.nilIface] 65) := ⟨_, rfl⟩
  have hBw : Below w.heap.size w W0 := hW0 ▸ (((Below.refl _ w).alloc (Nat.le_refl _) _).alloc (by simp) _).alloc (by simp; omega) _
  have hs0 : W0.heap.size = w.heap.size + 3 := by rw [hW0]; simp
  have HX : Hid (DoBox W0 w.heap.size A k p t x) := by
    obtain ⟨y0, y1, y2, y3⟩ := box4i (w := w) (a := .int .i64 k) (b := .string p) (c := .string t) (d := .string x) (T := 126) (w' := W0) (by rw [hW0]; exact ((Below.refl _ _).alloc (Nat.le_refl _) _).alloc (by simp) _)
    obtain ⟨y4, y5, y6⟩ := box3n (w := w.alloc (.cells #[.int .i64 k, .string p, .string t, .string x] 126)) (a := .bool true) (b := .string ⟨#[]⟩) (c := .map (some (A ⟨#[47]⟩))) (T := 61) (w' := W0) (by rw [hW0]; exact (Below.refl _ _).alloc (Nat.le_refl _) _)
    rw [World.size_alloc] at y4 y5 y6
    exact ⟨y0, y1, y2, y3, y4, y5, y6⟩
  have hcr : W0.heap[w.heap.size + 2]? = some (.cells #[.nilIface] 65 (0, 0)) := by
    have := World.alloc_heap_new ((w.alloc (.cells #[.int .i64 k, .string p, .string t, .string x] 126)).alloc (.cells #[.bool true, .string ⟨#[]⟩, .map (some (A ⟨#[47]⟩))] 61)) (.cells #[.nilIface] 65)
    rw [hW0]; simpa using this
  have AX : Hid (∀ W', Below W0.heap.size W0 W' → DoBox W' w.heap.size A k p t x) := fun W' hW => HX.out.below hW
  have AC : Hid (∀ W', Below W0.heap.size W0 W' → Boxed W' (w.heap.size + 2) 65 .nilIface) := fun W' hW => (hW.block _ (Array.getElem?_eq_some_iff.1 hcr).1).trans hcr
  have AR : Hid (∀ W', Below W0.heap.size W0 W' → Rep W' base N es A) := fun W' hW => (R.below hBw).below hW
  have AE : Hid (∀ W', Below W0.heap.size W0 W' → Errs8 W' ae) := fun W' hW => (hE.below hBw).below hW
  have HAt := hid (fun (W : World) (hW : Rep W base N es A) => at_any W base N es A T hW p (by omega))
  have HTu : Hid (∀ W' v, Below W0.heap.size W0 W' → Turn base w (W'.setCell ⟨w.heap.size + 2, 0, none⟩ v)) := fun W' v hW => Turn.of_below ((hBw.trans (hW.mono hBw.size)).setCell (p := ⟨w.heap.size + 2, 0, none⟩) (by show _ ≤ w.heap.size + 2; omega) v) hb
  have HRk : Hid (∀ W' v, Below W0.heap.size W0 W' → ∃ A', A' ⟨#[47]⟩ = A ⟨#[47]⟩ ∧ Rep (W'.setCell ⟨w.heap.size + 2, 0, none⟩ v) base (N + 1) es A') := fun W' v hW => ⟨A, rfl, (R.below ((hBw.trans (hW.mono hBw.size)).setCell (p := ⟨w.heap.size + 2, 0, none⟩) (by show _ ≤ w.heap.size + 2; omega) v)).more⟩
  clear hcr
  rw [atE_some hpb hl] at HAt
  obtain ⟨xx, hxx⟩ := atE_dir (A := A) hdir
  have hdv : dirV es A (upS t) = .agg #[.bool true, .string xx, .map (some (A (upS t)))] := by unfold dirV; rw [dirC_dir hdir, if_pos rfl, hxx]
  have hev : errV ae (dirC es (upS t)) = .nilIface := by rw [dirC_dir hdir]; rfl
  have HU := hid (fun W => iPathUp_any t ht W)
  have hus : (upS t).size ≤ 4611686018427387904 := by have := upS_size t; omega
  have HDi := hid (fun (W : World) (hW : Rep W base N es A) (hE : Errs2 W ae) => dirAt_any W base N es A ae T hW hE (upS t) hus)
  have HAt2 := hid (fun (W : World) (hW : Rep W base N es A) => at_any W base N es A T hW t (by omega))
  rw [hdv, hev] at HDi
  have HR0 := hid R
  clear hE R
  rw [atE_none htb hlt] at HAt2
  have HUn := hid (fun W => iPathUnder_any t p ht hp W)
  rw [hun] at HUn
  refine (callsIn_wide (n := 6)).1 ?_
  refine callsIn_of_wp_marks Tryz.func149 rfl trivial ?_ rfl
  simp only [Tryz.ntmps149, List.size_toArray, List.length_cons, List.length_nil, Nat.reduceAdd, Nat.reduceSub, Array.replicate_succ, Array.replicate_zero, List.push_toArray, List.append_toArray, List.nil_append, List.cons_append]
  refine wpIn_wide.2 ?_
  go_wp2_with (first | (go_at_call 38; rw [← hW0]; refine (HAt.out _ (AR.out _ (Below.refl _ _))).mono ?_; rintro e w5 ⟨rfl, hB5⟩) | fail)
  obtain ⟨W1, hW1⟩ : ∃ W1, W1 = w5.alloc (.cells #[.bool e0.d, .string e0.x, .map (optV e0.d (A p))] 59) := ⟨_, rfl⟩
  have hB1 : Below W0.heap.size W0 W1 := by rw [hW1]; exact belowA hB5 _
  have c50 : W1.cell? ⟨w5.heap.size, 0, none⟩ = some (.bool e0.d) := by rw [hW1]; simp
  have c51 : W1.cell? ⟨w5.heap.size, 1, none⟩ = some (.string e0.x) := by rw [hW1]; simp
  have c52 : W1.cell? ⟨w5.heap.size, 2, none⟩ = some (.map (optV e0.d (A p))) := by rw [hW1]; simp
  rw [← hW1]
  clear hW0 hW1 HAt
  have hsz1 := hB1.size
  have hs2 : w.heap.size + 2 < W1.heap.size := by omega
  clear hs0 hsz1
  have AS : Hid (∀ W', Below W1.heap.size W1 W' → (W'.cell? ⟨w.heap.size, 2, none⟩ = some (.string t) ∧ W'.cell? ⟨w.heap.size + 1, 0, none⟩ = some (.bool true) ∧ W'.cell? ⟨w.heap.size + 1, 1, none⟩ = some (.string ⟨#[]⟩) ∧ W'.cell? ⟨w.heap.size + 1, 2, none⟩ = some (.map (some (A ⟨#[47]⟩))))) := fun W' hW => by
    have := AX.out _ (belowT hB1 hW)
    exact ⟨this.o2, this.t0, this.t1, this.t2⟩
  have AR1 : Hid (∀ W', Below W1.heap.size W1 W' → Rep W' base N es A) := fun W' hW => AR.out _ (belowT hB1 hW)
  have AE1 : Hid (∀ W', Below W1.heap.size W1 W' → Errs8 W' ae) := fun W' hW => AE.out _ (belowT hB1 hW)
  have AN : Hid (∀ W', Below W1.heap.size W1 W' → W'.cell? ⟨w5.heap.size, 0, none⟩ = some (.bool e0.d) ∧ W'.cell? ⟨w5.heap.size, 1, none⟩ = some (.string e0.x) ∧ W'.cell? ⟨w5.heap.size, 2, none⟩ = some (.map (optV e0.d (A p)))) := fun W' hW => ⟨below_cell hW c50, below_cell hW c51, below_cell hW c52⟩
  clear c50 c51 c52
  rename_i Qx Kx hKx
  have HK : Hid (∀ (b : Nat) (W : World), Below W1.heap.size W1 W → W.cell? ⟨b, 2, none⟩ = some (.map (some (A (upS t)))) → Kx { tmps := #[opV k p t x, treeV A, .pointer (some ⟨w.heap.size, 0, none⟩), .pointer (some ⟨w.heap.size + 1, 0, none⟩), .pointer (some ⟨w.heap.size + 2, 0, none⟩), .pointer (some ⟨w5.heap.size, 0, none⟩), .bool true, .pointer (some ⟨b, 0, none⟩), .nilIface, undef, undef, undef, .tuple #[.agg #[.bool e0.d, .string e0.x, .map (optV e0.d (A p))], .bool true], treeV A, .pointer (some ⟨w.heap.size, 1, none⟩), .string p, .tuple #[.agg #[.bool e0.d, .string e0.x, .map (optV e0.d (A p))], .bool true], .agg #[.bool e0.d, .string e0.x, .map (optV e0.d (A p))], .bool true, .bool true, .bool false, undef, .tuple #[.agg #[.bool true, .string xx, .map (some (A (upS t)))], .nilIface], treeV A, .pointer (some ⟨w.heap.size, 2, none⟩), .string t, .string (upS t), .tuple #[.agg #[.bool true, .string xx, .map (some (A (upS t)))], .nilIface], .agg #[.bool true, .string xx, .map (some (A (upS t)))], .nilIface, undef, undef, undef, undef, undef, undef, undef, undef, undef, undef, undef, undef, undef, undef, undef, undef, undef, undef, undef, undef, undef, undef, undef, undef, undef, undef, undef, undef, undef, undef, undef, undef, undef, undef, undef, undef, undef, undef], defers := [] } W) := by
    intro b W hBW hb2
    refine hKx _ _ ?_
    have hBW0 := belowT hB1 hBW
    obtain ⟨y0, y1, y2, y3, y4, y5, y6⟩ := AX.out _ hBW0
    go_wp2_with (first | (go_at_call 38; refine (HAt2.out _ (AR.out _ hBW0)).mono ?_; rintro e w6 ⟨rfl, hB6⟩; have hBW6 := belowT hBW0 hB6; obtain ⟨q0, q1, q2, q3, q4, q5, q6⟩ := AX.out _ hBW6; have u0 := fun o => cellOn o q1; have u1 := fun o => cellOn o q2; have n4 := (AE.out _ hBW6).there; have n4' := fun o => cellOn o n4; have hc6 := fun o => (AC.out _ (belowA hBW6 o)).cell; have hf6 := fun o => (AC.out _ (belowA hBW6 o)).frozen) | (go_at_call 15; refine (HUn.out _).mono ?_; rintro e w7 ⟨rfl, hB7⟩; have hBW7 := belowT (belowA hBW6 _) hB7; have n7 := (AE.out _ hBW7).under; have hc7 := (AC.out _ hBW7).cell; have hf7 := (AC.out _ hBW7).frozen; obtain ⟨r0, r1, r2, r3, r4, r5, r6⟩ := AX.out _ hBW7; obtain ⟨s0, s1, s2⟩ := AN.out _ (belowT (belowA (belowT hBW hB6) _) hB7)) | (go_at_call 75; refine (below_any _ _ _ _ _).mono ?_; rintro e w8 ⟨rfl, hB8, hs8, d0, d1, d2, d3⟩))
    have hBW8 := belowT hBW7 hB8
    have hbx := AC.out _ hBW8
    have hs7 := hBW7.size
    have hs07 := (hB1.trans (hBW.mono hB1.size)).size
    have hv8 : w.heap.size + 2 < w8.heap.size := Nat.lt_of_lt_of_le hs2 (Nat.le_trans hBW.size (Nat.le_trans hB6.size (Nat.le_trans (by simp) (Nat.le_trans hB7.size hB8.size))))
    have hm8 : (dirE es p = true ∧ optV e0.d (A p) = some (A p)) ∨ (optV e0.d (A p) = none ∧ told es p t = []) := by
      cases hd : e0.d with
      | true => exact .inl ⟨look_dir (.inr ⟨e0, hl, hd⟩), rfl⟩
      | false => exact .inr ⟨rfl, told_file T hl hd t⟩
    have htz := path_size htb
    have hlev := lev_path hpb
    have hfit := told_fit T hpb htb
    have hb7 : w8.cell? ⟨b, 2, none⟩ = some (.map (some (A (upS t)))) := below_cell hB8 (below_cell hB7 (cellOn _ (below_cell hB6 hb2)))
    have HN8 := hidF (AN.out _ (belowT (belowT (belowA (belowT hBW hB6) _) hB7) hB8))
    have HX8 := hidF (AX.out _ hBW8)
    have HR8 := hidF (AR.out _ hBW8)
    clear q0 q1 q2 q3 q4 q5 q6 u0 u1 n4 n4' hc6 hf6 n7 hc7 hf7 r0 r1 r2 r3 r4 r5 r6 s0 s1 s2 y0 y1 y2 y3 y4 y5 y6
    refine (wpIn_wide (n := 6)).1 ?_
    refine wpIn_rangeFunc_ownH rfl (by omega) (gf := 97) (lb := #[.pointer (some ⟨w7.heap.size, 0, none⟩), .pointer (some ⟨w7.heap.size + 1, 0, none⟩)]) rfl trivial (enters_of Tryz.func97 (by kernel_rfl) rfl)
      (below_stops _ (by omega) es A base N (w.heap.size + 2) (by omega) (by omega) T p t (by omega) e0.d e0.x (optV e0.d (A p)) hm8 w7.heap.size (w7.heap.size + 1) w8 (by omega) (by omega) d0 d1 d2 d3 HR8.out hv8 (good_no hbx) hlev) KpT.t (KpT.b hv8) (Below.refl _ _) (fun _ => rfl)
      (fun (pre : List (ItemT (told es p t))) W => Below w8.heap.size w8 W ∧ ∀ y ∈ pre, pathB y.1.1 = true)
      (fun c (pre : List (ItemT (told es p t))) W => c = .ret ∧ Boxed W (w.heap.size + 2) 65 (.iface 171 (.pointer (some (ae 8)))) ∧ Below (w.heap.size + 2) w8 W ∧ ∃ y ∈ pre, pathB y.1.1 = false)
      (OwnFrom.and (ownFrom_below (Nat.le_refl _) (Nat.le_refl _)) (ownFrom_pure _ _))
      (fun c => OwnFrom.and (ownFrom_pure _ (fun _ => c = .ret)) (OwnFrom.and (Own.from (boxed_own (w.heap.size + 2) 65 (fun _ => .iface 171 (.pointer (some (ae 8))))) _) (OwnFrom.and (ownFrom_below (by omega) (by omega)) (ownFrom_pure _ _))))
      ⟨Below.refl _ _, fun _ h => by cases h⟩
      (fun z ac _ => ac = { tmps := #[opV k p t x, treeV A, Value.pointer (some ⟨w.heap.size, 0, none⟩), Value.pointer (some ⟨w.heap.size + 1, 0, none⟩), Value.pointer (some ⟨w.heap.size + 2, 0, none⟩), Value.pointer (some ⟨w5.heap.size, 0, none⟩), .bool true, Value.pointer (some ⟨b, 0, none⟩), .nilIface, Value.pointer (some ⟨w6.heap.size, 0, none⟩), .bool false, .string z.1.1, .tuple #[.agg #[.bool e0.d, .string e0.x, .map (optV e0.d (A p))], .bool true], treeV A, Value.pointer (some ⟨w.heap.size, 1, none⟩), .string p, .tuple #[.agg #[.bool e0.d, .string e0.x, .map (optV e0.d (A p))], .bool true], .agg #[.bool e0.d, .string e0.x, .map (optV e0.d (A p))], .bool true, .bool true, .bool false, undef, .tuple #[.agg #[.bool true, .string xx, .map (some (A (upS t)))], .nilIface], treeV A, Value.pointer (some ⟨w.heap.size, 2, none⟩), .string t, .string (upS t), .tuple #[.agg #[.bool true, .string xx, .map (some (A (upS t)))], .nilIface], .agg #[.bool true, .string xx, .map (some (A (upS t)))], .nilIface, .nilIface, .bool false, undef, .tuple #[zeroN, .bool false], .agg #[.bool true, .string ⟨#[]⟩, .map (some (A ⟨#[47]⟩))], Value.pointer (some ⟨w.heap.size, 2, none⟩), .string t, .tuple #[zeroN, .bool false], zeroN, .bool false, .bool false, undef, Value.pointer (some ⟨w.heap.size, 2, none⟩), .string t, Value.pointer (some ⟨w.heap.size, 1, none⟩), .string p, .bool false, undef, .agg #[.bool e0.d, .string e0.x, .map (optV e0.d (A p))], Value.pointer (some ⟨w.heap.size, 2, none⟩), .string t, .func (.func 97) #[] #[.pointer (some ⟨w7.heap.size, 0, none⟩), .pointer (some ⟨w7.heap.size + 1, 0, none⟩)], .string z.1.1, .agg #[.bool z.1.2.d, .string z.1.2.x, .map (optV z.1.2.d (A z.1.2.p))], undef, undef, undef, undef, undef, undef, undef, undef, undef, undef, undef, undef, undef, undef], defers := [] })
      (fun _ _ _ _ _ _ hs _ _ => hs)
      ?assign ?body ?done ?stop
    case assign =>
      rintro l pre x W K hI hK
      gi_wp2
      exact hK _ _ (KeepsFrom.refl _ _) (kpt_of (Below.refl _ _) (Nat.lt_of_lt_of_le hv8 hI.1.size)) hI (by simp)
    case body =>
      rintro l pre x ac W hl2 ⟨r, hr⟩ ⟨hB, hall⟩ rfl hlt2
      obtain ⟨⟨s, e⟩, hxm⟩ := x
      have hsz := told_size T htz hxm
      dsimp only at hsz ⊢
      have hBWW := belowT hBW8 hB
      have HO := hidF (fun W => pOk_any s (by omega) W)
      have n8 := (AE.out _ hBWW).room
      cases hpo : pathB s with
      | true =>
        rw [hpo] at HO
        gi_wp2_with (refine ⟨trivial, ?_⟩; gi_at_call 22; refine (CallsIn.inRound l (callsIn_wide.2 (HO.out _))).mono ?_; rintro e2 w9 ⟨rfl, hB9⟩)
        refine ⟨keepsBG hB9, kpt_of hB9 (Nat.lt_of_lt_of_le hv8 hB.size), belowT hB hB9, fun y hy => ?_⟩
        rcases List.mem_append.1 hy with h | h
        · exact hall y h
        · rw [List.mem_singleton.1 h]; exact hpo
      | false =>
        rw [hpo] at HO
        gi_wp2_with (refine ⟨trivial, ?_⟩; gi_at_call 22; refine (CallsIn.inRound l (callsIn_wide.2 (HO.out _))).mono ?_; rintro e2 w9 ⟨rfl, hB9⟩; have n9 := (AE.out _ (belowT hBWW hB9)).room; have hc9 := (AC.out _ (belowT hBWW hB9)).cell; have hf9 := (AC.out _ (belowT hBWW hB9)).frozen)
        refine ⟨(keepsBG hB9).trans ((KeepsOthers.setCell _ _ _).from _), rfl, (AC.out _ (belowT hBWW hB9)).set _, (((belowT hB hB9).mono (Nat.le_of_lt hv8)).setCell (p := ⟨w.heap.size + 2, 0, none⟩) (Nat.le_refl _) _), ⟨_, List.mem_append_right _ (List.mem_singleton.2 rfl), hpo⟩⟩
    case stop =>
      rintro D c pre W hD hpre ⟨rfl, hbx2, hB, y, hy, hyb⟩ hK
      have hBs : Below w.heap.size w W := hBw.trans ((hBW8.mono hBw.size).trans (hB.mono (by omega)))
      have hcc := hbx2.cell
      have hcp : (W.putObj D (.deferred none)).cell? ⟨w.heap.size + 2, 0, none⟩ = some (.iface 171 (.pointer (some (ae 8)))) := (World.cell?_of_block (World.putObj_heap_other (show w.heap.size + 2 ≠ D by omega))).trans hcc
      gi_wp2
      refine ⟨by simp, .inl ⟨_, _, rfl, run_takeDeferred hK, ?_⟩⟩
      have hBf : Below w.heap.size w (W.putObj D (.deferred none)) := hBs.trans (below_putF (by omega) _)
      refine ⟨.iface 171 (.pointer (some (ae 8))), ?_, rfl, Turn.of_below hBf hb, A, rfl, (HR0.out.below hBf).more⟩
      simp [results, Tryz.results149, go_sem, hcp]
    case done =>
      rintro D xs W hD hxs ⟨hB, hall⟩ hK
      exfalso
      have : fitE es p t = true := by
        rw [← hfit, List.all_eq_true, ← hxs]
        intro y hy
        obtain ⟨z, hz, rfl⟩ := List.mem_map.1 hy
        exact hall z hz
      rw [hfi] at this; cases this
  clear hKx
  go_region_held3 (fun W' => W'.cell? ⟨w.heap.size, 2, none⟩ = some (.string t) ∧ W'.cell? ⟨w.heap.size + 1, 0, none⟩ = some (.bool true) ∧ W'.cell? ⟨w.heap.size + 1, 1, none⟩ = some (.string ⟨#[]⟩) ∧ W'.cell? ⟨w.heap.size + 1, 2, none⟩ = some (.map (some (A ⟨#[47]⟩))))
    ((refine AS.out _ ?_; repeat (first | exact Below.refl _ _ | apply belowA | refine belowT ?_ hB4 | refine belowT ?_ hB3 | apply Below.drew | refine set3_below ?_ (by first | exact Nat.le_refl _ | (have h3 := hB3.size; have h4 := hB4.size; simp at h3 h4 ⊢; omega)) _ _ _)))
    (first | (go_at_call 25; refine (HU.out _).mono ?_; rintro e w3 ⟨rfl, hB3⟩; obtain ⟨bc3, bf3⟩ := bcellN hB3; have l3 := hB3.size; (try simp at l3); (try (have z0 := bc3 W1.heap.size 0 (lt_allocD _ _); have z1 := bc3 W1.heap.size 1 (lt_allocD _ _); have z2 := bc3 W1.heap.size 2 (lt_allocD _ _); have z3 := bf3 W1.heap.size 0 (lt_allocD _ _); have z4 := bf3 W1.heap.size 1 (lt_allocD _ _); have z5 := bf3 W1.heap.size 2 (lt_allocD _ _); simp at z0 z1 z2 z3 z4 z5)); clear bc3 bf3) | (go_at_call 53; refine (HDi.out _ (AR1.out _ (by repeat (first | exact Below.refl _ _ | apply belowA | refine belowT ?_ hB3 | apply Below.drew))) (AE1.out _ (by repeat (first | exact Below.refl _ _ | apply belowA | refine belowT ?_ hB3 | apply Below.drew))).two).mono ?_; rintro e w4 ⟨rfl, hB4⟩; obtain ⟨bc4, bf4⟩ := bcellN hB4; have l4 := hB4.size; (try simp at l4); (try (have z0 := bc4 w3.heap.size 0 (lt_alloc _ _); have z1 := bc4 w3.heap.size 1 (lt_alloc _ _); have z2 := bc4 w3.heap.size 2 (lt_alloc _ _); have z3 := bf4 w3.heap.size 0 (lt_alloc _ _); have z4 := bf4 w3.heap.size 1 (lt_alloc _ _); have z5 := bf4 w3.heap.size 2 (lt_alloc _ _); simp at z0 z1 z2 z3 z4 z5)); (try (have v0 := (bc4 W1.heap.size 0 l3).trans z0; have v1 := (bc4 W1.heap.size 1 l3).trans z1; have v2 := (bc4 W1.heap.size 2 l3).trans z2; have v3 := (bf4 W1.heap.size 0 l3).trans z3; have v4 := (bf4 W1.heap.size 1 l3).trans z4; have v5 := (bf4 W1.heap.size 2 l3).trans z5)); clear bc4 bf4))
  all_goals refine HK.out _ _ (by repeat (first | exact Below.refl _ _ | apply belowA | refine belowT ?_ hB4 | refine belowT ?_ hB3 | apply Below.drew | refine set3_below ?_ (by first | exact Nat.le_refl _ | (have h3 := hB3.size; have h4 := hB4.size; simp at h3 h4 ⊢; omega)) _ _ _)) ?_
  all_goals first | exact (set3_cells v0 v1 v2 _ _ _).2.2 | exact (set3_cells z0 z1 z2 _ _ _).2.2 | simp

end Go.Proofs.YtbcogekeoklddaaGreatDoor
