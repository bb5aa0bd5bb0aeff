import Derived.Test.YtafeddiijemnbaaGreatDoorHLgSp
import Derived.Test.YtafeddiijemnbaaGreatDoorHPk17
import Derived.Test.YtafeddiijemnbaaGreatDoorHPk38
namespace Go.Proofs.YtafeddiijemnbaaGreatDoor
open Go.RowKit Go.Shelf Go.Lib
set_option maxHeartbeats 4000000 in
set_option maxRecDepth 100000 in
theorem sOpBack_any (w : World) (a : Option Addr) (g o cap : Nat) (es : List E) (k : Int) (p t x : ByteArray) (hl : es.length ≤ 1048576) (hcap : es.length ≤ cap) (hp : p.size ≤ 16777216) (ht : t.size ≤ 16777216) (hx : x.size ≤ 16777216) (hz : ∀ e ∈ es, e.p.size ≤ 16777216 ∧ e.x.size ≤ 16777216) (ha : 0 < es.length → a = some ⟨g, o, none⟩) (hE : Ents w g o es) :
  Calls Tryz.prog 6 #[.slice a es.length cap, .agg #[.int .i64 k, .string p, .string t, .string x]] w fun r w' => r = .returned (.tuple #[opV (bkO es ⟨k, p, t, x⟩).k (bkO es ⟨k, p, t, x⟩).p (bkO es ⟨k, p, t, x⟩).t (bkO es ⟨k, p, t, x⟩).x, .bool (bkB es ⟨k, p, t, x⟩)]) ∧ Below w.heap.size w w' := by
 obtain ⟨V, hV⟩ : ∃ V, w.alloc (.cells #[.int .i64 k, .string p, .string t, .string x] 25) = V := ⟨_, rfl⟩
 obtain ⟨W0, hW0⟩ : ∃ W0, V.alloc (.cells #[.int .i64 0, .string ⟨#[]⟩, .string ⟨#[]⟩, .string ⟨#[]⟩] 25) = W0 := ⟨_, rfl⟩
 have hVs : V.heap.size = w.heap.size + 1 := by rw [← hV]; simp
 have hVb : Below w.heap.size w V := by rw [← hV]; exact (Below.refl _ w).alloc (Nat.le_refl _) _
 have hb1 : Below V.heap.size V W0 := by rw [← hW0]; exact (Below.refl _ V).alloc (Nat.le_refl _) _
 have hBw : Below w.heap.size w W0 := hVb.trans (hb1.mono hVb.size); have hz0 : W0.heap.size = w.heap.size + 2 := by rw [← hW0]; simp [hVs]
 have hO : W0.heap[w.heap.size]? = some (Obj.cells #[.int .i64 k, .string p, .string t, .string x] 25 (0, 0)) := by
  rw [← hW0]; exact ((((Below.refl _ V).alloc (Nat.le_refl _) _).block _ (by omega)).trans (by rw [← hV]; exact heap_alloc_new w _))
 have hR : W0.heap[w.heap.size + 1]? = some (Obj.cells #[.int .i64 0, .string ⟨#[]⟩, .string ⟨#[]⟩, .string ⟨#[]⟩] 25 (0, 0)) := by
  rw [← hW0, ← hVs]; exact heap_alloc_new V _
 have HO := hidE hO; have HRs := hidE hR; have HG := hidE (sTreeDo_any W0 a g o cap es k p t x hl hcap hp ht hx hz ha (hE.below hBw)); have HK := hidE (fun (W : World) (h : Below W0.heap.size W0 W) => sBack_any W a g o cap es k p t x (by omega) ha ((hE.below hBw).below h)); have HB := hidE hBw; have j0 := cell4 hO 0; have j1 := cell4 hO 1; have j2 := cell4 hO 2; have j3 := cell4 hO 3; clear hE hO hR hVb hb1 hBw; obtain ⟨ob, hob⟩ : ∃ ob, bkE es ⟨k, p, t, x⟩ = ob := ⟨_, rfl⟩
 obtain ⟨oo, hoo⟩ : ∃ ob, bkO es ⟨k, p, t, x⟩ = ob := ⟨_, rfl⟩
 obtain ⟨bb, hbb⟩ : ∃ ob, bkB es ⟨k, p, t, x⟩ = ob := ⟨_, rfl⟩
 obtain ⟨c, hc⟩ : ∃ c, doC es ⟨k, p, t, x⟩ = c := ⟨_, rfl⟩
 unfold bkO at hoo; unfold bkB at hbb; rw [hob, hc] at hoo; rw [hc] at hbb; rw [hob] at HK; rw [hc] at HG; rw [show bkO es ⟨k, p, t, x⟩ = oo from by unfold bkO; rw [hob, hc]; exact hoo, show bkB es ⟨k, p, t, x⟩ = bb from by unfold bkB; rw [hc]; exact hbb]; clear hob hc; go_enter Tryz.func6, Tryz.ntmps6
 go_wp2_with fail
 clear hV hW0; refine HG.out.mono ?_; rintro e w1 ⟨v, rfl, hown, hB1⟩; have hw1 := hB1.size; have hO1 := (hB1.block _ (Array.getElem?_eq_some_iff.1 HO.out).1).trans HO.out; have hr := (hB1.block _ (Array.getElem?_eq_some_iff.1 HRs.out).1).trans HRs.out; obtain ⟨av, gv, capv, rfl, -, -, -, -⟩ := row_entsE hown; clear hown j0 j1 j2 j3; have j0 := cell4 hO1 0; have j1 := cell4 hO1 1; have j2 := cell4 hO1 2; have j3 := cell4 hO1 3; by_cases h0 : c = 0
 ·
  subst h0; obtain rfl : ob = oo := (if_pos rfl).symm.trans hoo; obtain rfl : true = bb := hbb; have HrY := hidE hr; have HB1 := hidE hB1; clear hr hO1 hB1; go_wp2_with fail
  refine (HK.out w1 HB1.out).mono ?_; rintro e w2 ⟨rfl, hB2⟩; have hr := (hB2.block _ (Array.getElem?_eq_some_iff.1 HrY.out).1).trans HrY.out; obtain ⟨⟨q0, q0'⟩, q1, q2, q3⟩ := set4_rules hr; have q1a := fun u => (q1 u).1; have q1b := fun u => (q1 u).2; have q2a := fun u x => (q2 u x).1; have q2b := fun u x => (q2 u x).2; have q3a := fun u x y => (q3 u x y).1; have q3b := fun u x y => (q3 u x y).2; obtain ⟨hon, hrow⟩ := set4_is hr (.int .i64 ob.k) (.string ob.p) (.string ob.t) (.string ob.x); have z0 := cell4 hrow 0; have z1 := cell4 hrow 1; have z2 := cell4 hrow 2; have z3 := cell4 hrow 3; have hB02 := HB1.out.trans (hB2.mono hw1); have hBf := hon.below (HB.out.trans (hB02.mono HB.out.size)) (by omega); clear q1 q2 q3; go_wp2
  exact bodyPost_ret (v := .tuple #[opV ob.k ob.p ob.t ob.x, .bool true]) (by unfold opV; simp [results, Tryz.results6, go_sem, z0, z1, z2, z3]) rfl ⟨rfl, hBf⟩
 ·
  obtain rfl : (⟨0, ⟨#[]⟩, ⟨#[]⟩, ⟨#[]⟩⟩ : O) = oo := (if_neg h0).symm.trans hoo; obtain rfl : false = bb := (decide_eq_false h0).symm.trans hbb; have f0 : (c != 0) = true := by simp [h0]
  obtain ⟨⟨q0, q0'⟩, q1, q2, q3⟩ := set4_rules hr; have q1a := fun u => (q1 u).1; have q1b := fun u => (q1 u).2; have q2a := fun u x => (q2 u x).1; have q2b := fun u x => (q2 u x).2; have q3a := fun u x y => (q3 u x y).1; have q3b := fun u x y => (q3 u x y).2; obtain ⟨hon, hrow⟩ := set4_is hr (.int .i64 0) (.string ⟨#[]⟩) (.string ⟨#[]⟩) (.string ⟨#[]⟩); have z0 := cell4 hrow 0; have z1 := cell4 hrow 1; have z2 := cell4 hrow 2; have z3 := cell4 hrow 3; have hBf := hon.below (HB.out.trans (hB1.mono HB.out.size)) (by omega); clear q1 q2 q3; go_wp2
  exact bodyPost_ret (v := .tuple #[opV 0 ⟨#[]⟩ ⟨#[]⟩ ⟨#[]⟩, .bool false]) (by unfold opV; simp [results, Tryz.results6, go_sem, z0, z1, z2, z3]) rfl ⟨rfl, hBf⟩
end Go.Proofs.YtafeddiijemnbaaGreatDoor
