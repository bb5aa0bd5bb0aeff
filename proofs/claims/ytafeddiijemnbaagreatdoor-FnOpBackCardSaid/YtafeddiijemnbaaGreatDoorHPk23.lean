import Derived.RangeFuncBox
import Derived.RangeFuncNested
import Derived.OwnWalkIn
import Derived.Maps.OwnIn
import Derived.Maps.AppendAt
import Derived.Test.YtafeddiijemnbaaGreatDoorHPk22
namespace Go.Proofs.YtafeddiijemnbaaGreatDoor
open Go.RowKit Go.Shelf Go.Lib Go.Maps
theorem pts_of {W : World} {vb g : Nat} {t : TypeId} {v : Value} (h : Boxed W vb t v) : pts W vb g → v.ownBlock = some g := by
 rintro ⟨o, n, cap, e⟩; rw [h.cell] at e
 injection e with e
 rw [e]; rfl
theorem pts_row {W : World} {vb g base n : Nat} {t e : TypeId} {size : Nat} {v : Value} {xs : List Value} (h : Boxed W vb t v) (hr : W.ownsRow base e size v n xs) (hg : v.ownBlock = some g) : pts W vb g := by
 rcases hr.2 with ⟨rfl, _⟩ | ⟨g', cap, cur, rfl, _⟩
 ·
  simp [Value.ownBlock] at hg
 ·
  obtain rfl : g' = g := by simpa [Value.ownBlock] using hg
  exact ⟨0, n, cap, h.cell⟩
theorem good_row {W : World} {vb base n : Nat} {t e : TypeId} {size : Nat} {v : Value} {xs : List Value} (h : Boxed W vb t v) (hr : W.ownsRow base e size v n xs) : Good vb W := fun g hg => by
 have := pts_of h hg; rcases hr.2 with ⟨rfl, _⟩ | ⟨g', cap, cur, rfl, _, hh, _⟩
 ·
  simp [Value.ownBlock] at this
 ·
  obtain rfl : g' = g := by simpa [Value.ownBlock] using this
  exact (Array.getElem?_eq_some_iff.1 hh).1
theorem KpT.appended {W w1 : World} {vb n₀ : Nat} {t e : TypeId} {size : Nat} {v v' : Value} {k m : Nat} {xs ys : List Value} {tmp : Obj}
  (hv : Boxed W vb t v) (hte : t ≠ e) (hrow : W.ownsRow n₀ e size v k xs) (hn₀ : n₀ ≤ W.heap.size) (hB : n₀ ≤ vb)
  (hown' : w1.ownsRow n₀ e size v' m ys) (hgrow : (W.alloc tmp).grownBy w1 v.ownBlock) (hat : v'.ownBlock = v.ownBlock ∨ v'.ownBlock = some (W.alloc tmp).heap.size) :
  KpT vb W (w1.setCell ⟨vb, 0, none⟩ v') := by
 obtain ⟨_, hv2, hr2, hk2, _⟩ := hv.appended hte hrow hn₀ hB hown' hgrow; refine ⟨hk2.walks, fun b o h1 _ h3 h4 => ?_, fun g hg => ?_, fun _ => good_row hv2 hr2⟩
 ·
  have hlt := (Array.getElem?_eq_some_iff.1 h1).1; rw [Below.heap_setCell w1 ⟨vb, 0, none⟩ v' b h3]; rw [hgrow.block b (by simp; omega) (fun q => h4 (pts_row hv hrow q.symm)), Below.heap_alloc W tmp b hlt]; exact h1
 ·
  have := pts_of hv2 hg; rcases hat with h | h
  ·
   rw [h] at this; exact .inl (pts_row hv hrow this)
  ·
   rw [h] at this
   right
   simp at this; omega
attribute [local go_sem] Oper.semAt_some
theorem hidF {p : Prop} (h : p) : Hid p := h
theorem lev_rootF : 0 ≤ levS ⟨#[47]⟩ := by decide
theorem pts_int {W : World} {vb : Nat} {t : TypeId} {k : IntKind} {i : Int} (h : Boxed W vb t (.int k i)) (g : Nat) : ¬ pts W vb g := by
 rintro ⟨o, n, cap, e⟩; rw [h.cell] at e; cases e
theorem good_int {W : World} {vb : Nat} {t : TypeId} {k : IntKind} {i : Int} (h : Boxed W vb t (.int k i)) : Good vb W := fun g q => absurd q (pts_int h g)
theorem KpT.int {W : World} {vb : Nat} {t : TypeId} {k : IntKind} {i : Int} (h : Boxed W vb t (.int k i)) (j : Int) : KpT vb W (W.setCell ⟨vb, 0, none⟩ (.int k j)) :=
 ⟨KeepsWalks.setCell _ _ _, fun b _ h1 _ h3 _ => (Below.heap_setCell W ⟨vb, 0, none⟩ _ b h3).trans h1, fun g q => absurd q (pts_int (h.set _) g), fun _ => good_int (h.set _)⟩
theorem below_putF {n D : Nat} {W : World} (h : n ≤ D) (o : Obj) : Below n W (W.putObj D o) := ⟨rfl, rfl, rfl, by simp, fun k hk => World.putObj_heap_other (by omega)⟩
set_option maxHeartbeats 2000000 in
set_option maxRecDepth 100000 in
theorem full_any (w : World) (base N : Nat) (es : List E) (A : ByteArray → Nat) (T : TrE es) (R : Rep w base N es A) (hN : N ≤ 1000) (hes : es.length ≤ 1000) :
  Calls Tryz.prog 133 #[treeV A] w fun r w' => r = .returned (.bool (decide (16 ≤ es.length))) ∧ Below w.heap.size w w' := by
 obtain ⟨W0, hW0⟩ : ∃ W0, W0 = w.alloc (.cells #[.bool true, .string ⟨#[]⟩, .map (some (A ⟨#[47]⟩))] 38) := ⟨_, rfl⟩
 have hB0 : Below w.heap.size w W0 := hW0 ▸ (Below.refl _ w).alloc (Nat.le_refl _) _; have hs0 : W0.heap.size = w.heap.size + 1 := by rw [hW0]; simp
 refine (callsIn_wide (n := 6)).1 ?_; refine callsIn_of_wp_marks Tryz.func133 rfl trivial ?_ rfl; simp only [Tryz.ntmps133, List.size_toArray, List.length_cons, List.length_nil, Nat.reduceAdd, Nat.reduceSub, Array.replicate_succ, Array.replicate_zero, List.push_toArray, List.append_toArray, List.nil_append, List.cons_append]
 gi_wp2_with fail
 rw [← hW0]; refine ⟨trivial, ?_⟩; refine (callsIn_wide.2 (all_any A _)).mono ?_; rintro e w3 ⟨b, hb1, hb2, rfl, hB3, d0, d1, d2, d3⟩; have hbx : Boxed w3 (w.heap.size + 1) 3 (.int .i64 0) := by rw [← hs0]; exact (hB3.block _ (by simp)).trans (World.alloc_heap_new W0 _)
 have hs3 := hB3.size; simp only [World.size_alloc] at hb1 hs3; have hB3' : Below W0.heap.size W0 w3 := ((Below.refl _ W0).alloc (Nat.le_refl _) _).trans (hB3.mono (by simp)); have HB3 := hidF hB3'; have HR := hidF ((R.below hB0).below hB3'); clear hB3 hW0 R hB3'
 gi_wp2
 have hvb : w.heap.size + 1 < w3.heap.size := by omega
 have htl : (told es ⟨#[47]⟩ ⟨#[]⟩).length = es.length := by rw [told_all T, List.length_map]
 refine wpIn_rangeFunc_ownH rfl (by omega) (gf := 81) (lb := #[.pointer (some ⟨b, 0, none⟩), .pointer (some ⟨b + 1, 0, none⟩)]) rfl trivial (enters_of Tryz.func81 (by kernel_rfl) rfl)
  (below_stops _ (by omega) es A base N (w.heap.size + 1) hN hes T ⟨#[47]⟩ ⟨#[]⟩ (by decide) true ⟨#[]⟩ (some (A ⟨#[47]⟩)) (.inl ⟨look_dir (.inl rfl), rfl⟩) b (b + 1) w3 (by omega) (by omega) d0 d1 d2 d3 HR.out hvb (good_int hbx) lev_rootF) KpT.t (KpT.b hvb) (Below.refl _ _) (fun _ => rfl)
  (fun (pre : List (ItemT (told es ⟨#[47]⟩ ⟨#[]⟩))) W => Boxed W (w.heap.size + 1) 3 (.int .i64 (pre.length : Int)) ∧ Below (w.heap.size + 1) W0 W)
  (fun _ _ _ => False)
  (OwnFrom.and (Own.from (boxed_own (w.heap.size + 1) 3 (fun (pre : List (ItemT (told es ⟨#[47]⟩ ⟨#[]⟩))) => Value.int .i64 (pre.length : Int))) _) (ownFrom_below (by omega) (by omega)))
  (fun _ _ _ _ _ hs _ _ => hs)
  ⟨hbx, HB3.out.mono (by omega)⟩
  (fun x ac _ => ac = { tmps := #[treeV A, .pointer (some ⟨w.heap.size, 0, none⟩), .bool false, .pointer (some ⟨w.heap.size + 1, 0, none⟩), .agg #[.bool true, .string ⟨#[]⟩, .map (some (A ⟨#[47]⟩))], .func (.func 81) #[] #[.pointer (some ⟨b, 0, none⟩), .pointer (some ⟨b + 1, 0, none⟩)], .string x.1.1, .agg #[.bool x.1.2.d, .string x.1.2.x, .map (optV x.1.2.d (A x.1.2.p))], undef, undef, undef, undef], defers := [] })
  (fun _ _ _ _ _ _ hs _ _ => hs)
  ?assign ?body ?done ?stop
 case assign =>
  rintro l pre x W K hI hK
  gi_wp2
  exact hK _ _ (KeepsFrom.refl _ _) (kpt_of (Below.refl _ _) hI.1.lt) hI (by simp [encsT])
 case body =>
  rintro l pre x ac W hl ⟨r, hr⟩ ⟨hv, hB⟩ rfl hlt; have hc := hv.cell; have hf := hv.frozen; have HV := hidF hv; clear hv
  gi_wp2
  refine ⟨(KeepsOthers.setCell _ _ _).from _, KpT.int HV.out _, ?_, hB.setCell (p := ⟨w.heap.size + 1, 0, none⟩) (Nat.le_refl _) _⟩; have := HV.out.set (Value.int .i64 ((pre.length : Int) + 1)); rw [List.length_append, List.length_singleton]; exact this
 case done =>
  rintro D xs W hD hxs ⟨hv, hB⟩ hK
  have hlen : xs.length = es.length := by
   have := congrArg List.length hxs; rw [List.length_map, htl] at this; exact this
  rw [hlen] at hv; have hc := hv.cell; have hBf : Below w.heap.size w (W.putObj D (.deferred none)) := (hB0.trans (hB.mono (by omega))).trans (below_putF (by omega) _)
  gi_wp2
  refine ⟨by simp, .inl ⟨_, _, rfl, run_takeDeferred hK, ?_⟩⟩; refine ⟨_, results_tmp rfl _ _ _, ?_, hBf⟩; have hd : decide ((16 : Int) ≤ (es.length : Int)) = decide (16 ≤ es.length) := by rw [decide_eq_decide]; omega
  rw [← hd]; rfl
 case stop =>
  rintro D c pre W _ _ h _; exact h.elim
end Go.Proofs.YtafeddiijemnbaaGreatDoor
