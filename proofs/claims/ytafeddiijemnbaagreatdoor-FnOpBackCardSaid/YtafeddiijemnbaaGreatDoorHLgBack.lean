import Derived.Test.YtafeddiijemnbaaGreatDoorHLgStp
import Derived.Test.YtafeddiijemnbaaGreatDoorHPk30
import Derived.Test.YtafeddiijemnbaaGreatDoorHTreeDoI
import Derived.Test.YtafeddiijemnbaaGreatDoorHRdOpI
namespace Go.Proofs.YtafeddiijemnbaaGreatDoor
open Go.RowKit Go.Shelf Go.Lib
attribute [local go_sem] Oper.semAt_some
attribute [local go_sem] run_store_fn
set_option maxHeartbeats 4000000 in
set_option maxRecDepth 100000 in
theorem iOpBack_any (w : World) (a : Option Addr) (g o cap : Nat) (es : List E) (k : Int) (p t x : ByteArray) (ae : Int → Addr) (hErr : Errs8 w ae) (hl : es.length ≤ 16777216) (hp : p.size ≤ 16777216) (ht : t.size ≤ 16777216) (hx : x.size ≤ 16777216) (hz : ∀ e ∈ es, e.p.size ≤ 16777216 ∧ e.x.size ≤ 16777216) (ha : 0 < es.length → a = some ⟨g, o, none⟩) (hE : Ents w g o es) :
  Calls Tryz.prog 5 #[.slice a es.length cap, opV k p t x] w fun r w' => r = .returned (.tuple #[opV (bkO es ⟨k, p, t, x⟩).k (bkO es ⟨k, p, t, x⟩).p (bkO es ⟨k, p, t, x⟩).t (bkO es ⟨k, p, t, x⟩).x, .bool (bkB es ⟨k, p, t, x⟩)]) ∧ Below w.heap.size w w' := by
 obtain ⟨V, hV⟩ : ∃ V, w.alloc (.cells #[.int .i64 k, .string p, .string t, .string x] 25) = V := ⟨_, rfl⟩
 obtain ⟨W0, hW0⟩ : ∃ W0, V.alloc (.cells #[.int .i64 0, .string ⟨#[]⟩, .string ⟨#[]⟩, .string ⟨#[]⟩] 25) = W0 := ⟨_, rfl⟩
 have hVs : V.heap.size = w.heap.size + 1 := by rw [← hV]; simp
 have hVb : Below w.heap.size w V := by rw [← hV]; exact (Below.refl _ w).alloc (Nat.le_refl _) _
 have hb1 : Below V.heap.size V W0 := by rw [← hW0]; exact (Below.refl _ V).alloc (Nat.le_refl _) _
 have hBw : Below w.heap.size w W0 := hVb.trans (hb1.mono hVb.size); have hz0 : W0.heap.size = w.heap.size + 2 := by rw [← hW0]; simp [hVs]
 have hO : W0.heap[w.heap.size]? = some (Obj.cells #[.int .i64 k, .string p, .string t, .string x] 25 (0, 0)) := by
  rw [← hW0]; exact ((((Below.refl _ V).alloc (Nat.le_refl _) _).block _ (by omega)).trans (by rw [← hV]; exact heap_alloc_new w _))
 have hR : W0.heap[w.heap.size + 1]? = some (Obj.cells #[.int .i64 0, .string ⟨#[]⟩, .string ⟨#[]⟩, .string ⟨#[]⟩] 25 (0, 0)) := by
  rw [← hW0, ← hVs]; exact heap_alloc_new V _
 have HO := hidE hO; have HRs := hidE hR; have HT := hidE (treeOf_any W0 a g o cap es ae (hErr.below hBw).two hl hz ha (hE.below hBw)); have HEr := hidE (hErr.below hBw); have HB := hidE hBw; have HZs := hidE (bk_sz (es := es) (o := ⟨k, p, t, x⟩) (m := 16777216) hz hp ht); clear hErr hz ha hE hVb hb1 hBw hO hR
 have hdo : doC es ⟨k, p, t, x⟩ = if treeE es = true then endC es k p t x else 1 := by
  unfold doC endC; rw [fit_op]; cases treeE es <;> rfl
 have hzero : ∀ (Wq : World) (hq : Below W0.heap.size W0 Wq), Wq.heap[w.heap.size + 1]? = some (Obj.cells #[.int .i64 0, .string ⟨#[]⟩, .string ⟨#[]⟩, .string ⟨#[]⟩] 25 (0, 0)) := fun Wq hq => (hq.block _ (by omega)).trans HRs.out; cases htr : treeE es with
 | false =>
  have hc1 : doC es ⟨k, p, t, x⟩ = 1 := by rw [hdo, htr]; rfl
  have hb0 : bkB es ⟨k, p, t, x⟩ = false := by unfold bkB; rw [hc1]; rfl
  have ho0 : bkO es ⟨k, p, t, x⟩ = ⟨0, ⟨#[]⟩, ⟨#[]⟩, ⟨#[]⟩⟩ := by unfold bkO; rw [hc1]; rfl
  rw [hb0, ho0]; rw [htr] at HT; go_enter Tryz.func5, Tryz.ntmps5
  go_wp2_with fail
  clear hV hW0; refine HT.out.mono ?_; rintro e w1 ⟨A, rfl, hB1, -⟩; obtain ⟨W1, hW1⟩ : ∃ W1, w1.alloc (.cells #[.bool true, .string ⟨#[]⟩, .map (some (A ⟨#[47]⟩))] 38) = W1 := ⟨_, rfl⟩
  have hB2 : Below W0.heap.size W0 W1 := by rw [← hW1]; exact belowA hB1 _
  have hr := hzero W1 hB2; obtain ⟨⟨r0, r0'⟩, r1, r2, r3⟩ := set4_rules hr; have r1a := fun u => (r1 u).1; have r1b := fun u => (r1 u).2; have r2a := fun u x => (r2 u x).1; have r2b := fun u x => (r2 u x).2; have r3a := fun u x y => (r3 u x y).1; have r3b := fun u x y => (r3 u x y).2; obtain ⟨hon, hrow⟩ := set4_is hr (.int .i64 0) (.string ⟨#[]⟩) (.string ⟨#[]⟩) (.string ⟨#[]⟩); have z0 := cell4 hrow 0; have z1 := cell4 hrow 1; have z2 := cell4 hrow 2; have z3 := cell4 hrow 3; have hBf := hon.below (HB.out.trans (hB2.mono HB.out.size)) (by omega); clear r1 r2 r3; go_wp2
  exact bodyPost_ret (v := .tuple #[opV 0 ⟨#[]⟩ ⟨#[]⟩ ⟨#[]⟩, .bool false]) (by unfold opV; simp [results, Tryz.results5, go_sem, z0, z1, z2, z3]) rfl ⟨rfl, hBf⟩
 | true =>
  obtain ⟨T, hes⟩ := treeE_tr htr; obtain ⟨r0, r8⟩ := end_range es k p t x; obtain ⟨c, hc⟩ : ∃ c, endC es k p t x = c := ⟨_, rfl⟩
  rw [htr, if_pos rfl, hc] at hdo; have HSt := hidE (fun (W : World) (A : ByteArray → Nat) (R : Rep W W0.heap.size 16 es A) (hE : Errs8 W ae) (hb : W0.heap.size ≤ W.heap.size) => step_any W W0.heap.size 16 es A ae T R hE k p t x hp ht hx hb (by omega) hes c hc _ rfl); rw [htr] at HT; have hBk : bkB es ⟨k, p, t, x⟩ = decide (c = 0) := by unfold bkB; rw [hdo]
  have hOk : bkO es ⟨k, p, t, x⟩ = if c = 0 then bkE es ⟨k, p, t, x⟩ else ⟨0, ⟨#[]⟩, ⟨#[]⟩, ⟨#[]⟩⟩ := by unfold bkO; rw [hdo]
  rw [hBk, hOk]; clear hBk hOk hdo hc; obtain ⟨ob, hob⟩ : ∃ ob, bkE es ⟨k, p, t, x⟩ = ob := ⟨_, rfl⟩
  rw [hob] at HSt HZs ⊢; clear hob
  have hform : ∃ q, errV ae c = q ∧ ((c = 0 ∧ q = .nilIface) ∨ (c ≠ 0 ∧ ∃ T u, q = .iface T u)) := by
   refine ⟨_, rfl, ?_⟩; unfold errV; by_cases h : c = 0
   ·
    left; exact ⟨h, if_pos h⟩
   ·
    right; exact ⟨h, _, _, if_neg h⟩
  obtain ⟨ev, hev, hform⟩ := hform; rw [hev] at HSt; clear hev; obtain ⟨oo, hoo⟩ : ∃ oo : O, (if c = 0 then ob else ⟨0, ⟨#[]⟩, ⟨#[]⟩, ⟨#[]⟩⟩) = oo := ⟨_, rfl⟩
  obtain ⟨bb, hbb⟩ : ∃ bb, decide (c = 0) = bb := ⟨_, rfl⟩
  rw [hoo, hbb]; go_enter Tryz.func5, Tryz.ntmps5
  go_wp2_with fail
  clear hV hW0; refine HT.out.mono ?_; rintro e w1 ⟨A, rfl, hB1, hR⟩; obtain ⟨W1, hW1⟩ : ∃ W1, w1.alloc (.cells #[.bool true, .string ⟨#[]⟩, .map (some (A ⟨#[47]⟩))] 38) = W1 := ⟨_, rfl⟩
  have hB2 : Below W0.heap.size W0 W1 := by rw [← hW1]; exact belowA hB1 _
  have HR1 : Hid (Rep W1 W0.heap.size 16 es A) := by rw [← hW1]; exact (hR trivial).below ((Below.refl _ w1).alloc (Nat.le_refl _) _)
  have hs1 : W1.heap.size = w1.heap.size + 1 := by rw [← hW1]; simp
  have hT1 : W1.heap[w1.heap.size]? = some (Obj.cells #[.bool true, .string ⟨#[]⟩, .map (some (A ⟨#[47]⟩))] 38 (0, 0)) := by rw [← hW1]; exact heap_alloc_new w1 _
  have hO1 : W1.heap[w.heap.size]? = some (Obj.cells #[.int .i64 k, .string p, .string t, .string x] 25 (0, 0)) := (hB2.block _ (by omega)).trans HO.out; have j0 := cell4 hT1 0; have j1 := cell4 hT1 1; have j2 := cell4 hT1 2; have j3 := cell4 hO1 0; have j4 := cell4 hO1 1; have j5 := cell4 hO1 2; have j6 := cell4 hO1 3; clear hR; go_wp2_with fail
  refine (HSt.out W1 A HR1.out (HEr.out.below hB2) hB2.size).mono ?_; rintro e w2 ⟨fi, fp, rfl, ht2, -, hU⟩; clear j0 j1 j2 j3 j4 j5 j6; have HU := hidE hU; have hR2 : w2.heap[w.heap.size + 1]? = some (Obj.cells #[.int .i64 0, .string ⟨#[]⟩, .string ⟨#[]⟩, .string ⟨#[]⟩] 25 (0, 0)) := (ht2.cells _ _ (hzero W1 hB2) (fun _ _ q => by cases q))
  have HR2 := hidE hR2; have hBt : Below W0.heap.size W0 w2 := hB2.trans (ht2.below); clear hU hR2; rcases hform with ⟨h0, rfl⟩ | ⟨h0, eT, eu, rfl⟩
  ·
   subst h0; obtain rfl : ob = oo := (if_pos rfl).symm.trans hoo; obtain rfl : true = bb := hbb; obtain ⟨W3, hW3⟩ : ∃ W3, w2.alloc (.cells #[.int .i64 k, .string p, .string t, .string x, .nilIface, .func (.func fi) #[] fp] 45) = W3 := ⟨_, rfl⟩
   have hs3 : W3.heap.size = w2.heap.size + 1 := by rw [← hW3]; simp
   have h3 : W3.heap[w2.heap.size]? = some (Obj.cells #[.int .i64 k, .string p, .string t, .string x, .nilIface, .func (.func fi) #[] fp] 45 (0, 0)) := by rw [← hW3]; exact heap_alloc_new w2 _
   have hB3 : Below w2.heap.size w2 W3 := by rw [← hW3]; exact (Below.refl _ w2).alloc (Nat.le_refl _) _
   have y4 := cell4 h3 4; have y5 := cell4 h3 5; obtain ⟨ui, ups, bs, ue, eg, -, hun⟩ := (HU.out rfl).below (by exact ((Below.refl _ w2).alloc (Nat.le_refl _) _ : Below w2.heap.size w2 (w2.alloc (.cells #[.int .i64 k, .string p, .string t, .string x, .nilIface, .func (.func fi) #[] fp] 45))) |> fun q => hW3 ▸ q)
   injection ue with ue1 _ ue2
   injection ue1 with ue1
   subst ue1 ue2; have HUn := hidE (hun W3 (fun _ _ => rfl)); have hff : ∀ f, Fence.wide.fn f := fun _ => trivial; have hrZ := (hB3.block _ (Array.getElem?_eq_some_iff.1 HR2.out).1).trans HR2.out; have HFo := hidE (fun (W : World) => freshOp_any ob.k ob.p ob.t ob.x W (Nat.le_succ_of_le HZs.out.1) (Nat.le_succ_of_le HZs.out.2.1) (Nat.le_succ_of_le HZs.out.2.2)); go_wp2_with (refine HUn.out.mono ?_; rintro e w4 ⟨rfl, hB4⟩)
   clear y4 y5 h3; have HB4 := hidE hB4; have hs4 := hB4.size; have hrY := (hB4.block _ (Array.getElem?_eq_some_iff.1 hrZ).1).trans hrZ; have HrY := hidE hrY; clear hrY hrZ hB4 hun; refine (HFo.out w4).mono ?_; rintro e w5 ⟨rfl, hB5⟩; have hr := (hB5.block _ (Array.getElem?_eq_some_iff.1 HrY.out).1).trans HrY.out; obtain ⟨⟨q0, q0'⟩, q1, q2, q3⟩ := set4_rules hr; have q1a := fun u => (q1 u).1; have q1b := fun u => (q1 u).2; have q2a := fun u x => (q2 u x).1; have q2b := fun u x => (q2 u x).2; have q3a := fun u x y => (q3 u x y).1; have q3b := fun u x y => (q3 u x y).2; obtain ⟨hon, hrow⟩ := set4_is hr (.int .i64 ob.k) (.string ob.p) (.string ob.t) (.string ob.x); have z0 := cell4 hrow 0; have z1 := cell4 hrow 1; have z2 := cell4 hrow 2; have z3 := cell4 hrow 3; have hB03 := hBt.trans (hB3.mono hBt.size); have hB04 := hB03.trans (HB4.out.mono hB03.size); have hB05 := hB04.trans (hB5.mono hB04.size); have hBf := hon.below (HB.out.trans (hB05.mono HB.out.size)) (by omega); clear q1 q2 q3; go_wp2
   exact bodyPost_ret (v := .tuple #[opV ob.k ob.p ob.t ob.x, .bool true]) (by unfold opV; simp [results, Tryz.results5, go_sem, z0, z1, z2, z3]) rfl ⟨rfl, hBf⟩
  ·
   obtain rfl : (⟨0, ⟨#[]⟩, ⟨#[]⟩, ⟨#[]⟩⟩ : O) = oo := (if_neg h0).symm.trans hoo; obtain rfl : false = bb := (decide_eq_false h0).symm.trans hbb; obtain ⟨W3, hW3⟩ : ∃ W3, w2.alloc (.cells #[.int .i64 k, .string p, .string t, .string x, .iface eT eu, .func (.func fi) #[] fp] 45) = W3 := ⟨_, rfl⟩
   have h3 : W3.heap[w2.heap.size]? = some (Obj.cells #[.int .i64 k, .string p, .string t, .string x, .iface eT eu, .func (.func fi) #[] fp] 45 (0, 0)) := by rw [← hW3]; exact heap_alloc_new w2 _
   have hB3 : Below w2.heap.size w2 W3 := by rw [← hW3]; exact (Below.refl _ w2).alloc (Nat.le_refl _) _
   have y4 := cell4 h3 4; have hr := (hB3.block _ (Array.getElem?_eq_some_iff.1 HR2.out).1).trans HR2.out; obtain ⟨⟨q0, q0'⟩, q1, q2, q3⟩ := set4_rules hr; have q1a := fun u => (q1 u).1; have q1b := fun u => (q1 u).2; have q2a := fun u x => (q2 u x).1; have q2b := fun u x => (q2 u x).2; have q3a := fun u x y => (q3 u x y).1; have q3b := fun u x y => (q3 u x y).2; obtain ⟨hon, hrow⟩ := set4_is hr (.int .i64 0) (.string ⟨#[]⟩) (.string ⟨#[]⟩) (.string ⟨#[]⟩); have z0 := cell4 hrow 0; have z1 := cell4 hrow 1; have z2 := cell4 hrow 2; have z3 := cell4 hrow 3; have hBf := hon.below (HB.out.trans ((hBt.trans (hB3.mono hBt.size)).mono HB.out.size)) (by omega); clear q1 q2 q3; go_wp2
   exact bodyPost_ret (v := .tuple #[opV 0 ⟨#[]⟩ ⟨#[]⟩ ⟨#[]⟩, .bool false]) (by unfold opV; simp [results, Tryz.results5, go_sem, z0, z1, z2, z3]) rfl ⟨rfl, hBf⟩
end Go.Proofs.YtafeddiijemnbaaGreatDoor
