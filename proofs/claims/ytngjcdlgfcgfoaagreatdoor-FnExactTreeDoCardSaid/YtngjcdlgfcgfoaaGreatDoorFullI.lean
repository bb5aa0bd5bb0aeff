/-
  The walk of the program's own: whether a tree is full.
-/
import Derived.Test.YtngjcdlgfcgfoaaGreatDoorCollI
namespace Go.Proofs.YtngjcdlgfcgfoaaGreatDoor
open Go.RowKit Go.Shelf Go.Lib Go.Maps

attribute [local go_sem] Oper.semAt_some

theorem hidF {p : Prop} (h : p) : Hid p := h
theorem lev_rootF : 0 ≤ levS ⟨#[47]⟩ := by decide
/-- A variable that holds no list points nowhere. -/
theorem pts_int {W : World} {vb : Nat} {t : TypeId} {k : IntKind} {i : Int} (h : Boxed W vb t (.int k i)) (g : Nat) : ¬ pts W vb g := by
  rintro ⟨o, n, cap, e⟩
  rw [h.cell] at e; cases e
theorem good_int {W : World} {vb : Nat} {t : TypeId} {k : IntKind} {i : Int} (h : Boxed W vb t (.int k i)) : Good vb W := fun g q => absurd q (pts_int h g)
theorem KpT.int {W : World} {vb : Nat} {t : TypeId} {k : IntKind} {i : Int} (h : Boxed W vb t (.int k i)) (j : Int) : KpT vb W (W.setCell ⟨vb, 0, none⟩ (.int k j)) :=
  ⟨KeepsWalks.setCell _ _ _, fun b _ h1 _ h3 _ => (Below.heap_setCell W ⟨vb, 0, none⟩ _ b h3).trans h1, fun g q => absurd q (pts_int (h.set _) g), fun _ => good_int (h.set _)⟩
theorem below_putF {n D : Nat} {W : World} (h : n ≤ D) (o : Obj) : Below n W (W.putObj D o) := ⟨rfl, rfl, rfl, by simp, fun k hk => World.putObj_heap_other (by omega)⟩

set_option maxHeartbeats 2000000 in
set_option maxRecDepth 100000 in
theorem full_any (w : World) (base N : Nat) (es : List E) (A : ByteArray → Nat) (T : TrE es) (R : Rep w base N es A) (hN : N ≤ 1000) (hes : es.length ≤ 1000) :
    Calls Tryz.prog 119 #[treeV A] w fun r w' => r = .returned (.bool (decide (16 ≤ es.length))) ∧ Below w.heap.size w w' := by
  obtain ⟨W0, hW0⟩ : ∃ W0, W0 = w.alloc (.cells #[.bool true, .string ⟨#[]⟩, .map (some (A ⟨#[47]⟩))] 49) := ⟨_, rfl⟩
  have hB0 : Below w.heap.size w W0 := hW0 ▸ (Below.refl _ w).alloc (Nat.le_refl _) _
  have hs0 : W0.heap.size = w.heap.size + 1 := by rw [hW0]; simp
  refine (callsIn_wide (n := 6)).1 ?_
  refine callsIn_of_wp_marks Tryz.func119 rfl trivial ?_ rfl
  simp only [Tryz.ntmps119, List.size_toArray, List.length_cons, List.length_nil, Nat.reduceAdd, Nat.reduceSub, Array.replicate_succ, Array.replicate_zero, List.push_toArray, List.append_toArray, List.nil_append, List.cons_append]
  gi_wp2_with fail
  rw [← hW0]
  refine ⟨trivial, ?_⟩
  refine (callsIn_wide.2 (all_any A _)).mono ?_
  rintro e w3 ⟨b, hb1, hb2, rfl, hB3, d0, d1, d2, d3⟩
  have hbx : Boxed w3 (w.heap.size + 1) 3 (.int .i64 0) := by rw [← hs0]; exact (hB3.block _ (by simp)).trans (World.alloc_heap_new W0 _)
  have hs3 := hB3.size
  simp only [World.size_alloc] at hb1 hs3
  have hB3' : Below W0.heap.size W0 w3 := ((Below.refl _ W0).alloc (Nat.le_refl _) _).trans (hB3.mono (by simp))
  have HB3 := hidF hB3'
  have HR := hidF ((R.below hB0).below hB3')
  clear hB3 hW0 R hB3'
  gi_wp2
  have hvb : w.heap.size + 1 < w3.heap.size := by omega
  have htl : (told es ⟨#[47]⟩ ⟨#[]⟩).length = es.length := by rw [told_all T, List.length_map]
  refine wpIn_rangeFunc_ownH rfl (by omega) (gf := 68) (lb := #[.pointer (some ⟨b, 0, none⟩), .pointer (some ⟨b + 1, 0, none⟩)]) rfl trivial (enters_of Tryz.func68 (by kernel_rfl) rfl)
    (below_stops _ (by omega) es A base N (w.heap.size + 1) hN hes T ⟨#[47]⟩ ⟨#[]⟩ (by decide) true ⟨#[]⟩ (some (A ⟨#[47]⟩)) (.inl ⟨look_dir (.inl rfl), rfl⟩) b (b + 1) w3 (by omega) (by omega) d0 d1 d2 d3 HR.out hvb (good_int hbx) lev_rootF) KpT.t (KpT.b hvb) (Below.refl _ _) (fun _ => rfl)
    (fun (pre : List (ItemT (told es ⟨#[47]⟩ ⟨#[]⟩))) W => Boxed W (w.heap.size + 1) 3 (.int .i64 (pre.length : Int)) ∧ Below (w.heap.size + 1) W0 W)
    (fun _ _ _ => False)
    (OwnFrom.and (Own.from (boxed_own (w.heap.size + 1) 3 (fun (pre : List (ItemT (told es ⟨#[47]⟩ ⟨#[]⟩))) => Value.int .i64 (pre.length : Int))) _) (ownFrom_below (by omega) (by omega)))
    (fun _ _ _ _ _ hs _ _ => hs)
    ⟨hbx, HB3.out.mono (by omega)⟩
    (fun x ac _ => ac = { tmps := #[treeV A, .pointer (some ⟨w.heap.size, 0, none⟩), .bool false, .pointer (some ⟨w.heap.size + 1, 0, none⟩), .agg #[.bool true, .string ⟨#[]⟩, .map (some (A ⟨#[47]⟩))], .func (.func 68) #[] #[.pointer (some ⟨b, 0, none⟩), .pointer (some ⟨b + 1, 0, none⟩)], .string x.1.1, .agg #[.bool x.1.2.d, .string x.1.2.x, .map (optV x.1.2.d (A x.1.2.p))], undef, undef, undef, undef], defers := [] })
    (fun _ _ _ _ _ _ hs _ _ => hs)
    ?assign ?body ?done ?stop
  case assign =>
    rintro l pre x W K hI hK
    gi_wp2
    exact hK _ _ (KeepsFrom.refl _ _) (kpt_of (Below.refl _ _) hI.1.lt) hI (by simp [encsT])
  case body =>
    rintro l pre x ac W hl ⟨r, hr⟩ ⟨hv, hB⟩ rfl hlt
    have hc := hv.cell
    have hf := hv.frozen
    have HV := hidF hv
    clear hv
    gi_wp2
    refine ⟨(KeepsOthers.setCell _ _ _).from _, KpT.int HV.out _, ?_, hB.setCell (p := ⟨w.heap.size + 1, 0, none⟩) (Nat.le_refl _) _⟩
    have := HV.out.set (Value.int .i64 ((pre.length : Int) + 1))
    rw [List.length_append, List.length_singleton]
    exact this
  case done =>
    rintro D xs W hD hxs ⟨hv, hB⟩ hK
    have hlen : xs.length = es.length := by
      have := congrArg List.length hxs
      rw [List.length_map, htl] at this; exact this
    rw [hlen] at hv
    have hc := hv.cell
    have hBf : Below w.heap.size w (W.putObj D (.deferred none)) := (hB0.trans (hB.mono (by omega))).trans (below_putF (by omega) _)
    gi_wp2
    refine ⟨by simp, .inl ⟨_, _, rfl, run_takeDeferred hK, ?_⟩⟩
    refine ⟨_, results_tmp rfl _ _ _, ?_, hBf⟩
    have hd : decide ((16 : Int) ≤ (es.length : Int)) = decide (16 ≤ es.length) := by rw [decide_eq_decide]; omega
    rw [← hd]; rfl
  case stop =>
    rintro D c pre W _ _ h _
    exact h.elim
end Go.Proofs.YtngjcdlgfcgfoaaGreatDoor
