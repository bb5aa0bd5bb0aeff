import Derived.Test.YtafeddiijemnbaaGreatDoorHPk30
import Derived.Test.YtafeddiijemnbaaGreatDoorHPk17
import Derived.Test.YtafeddiijemnbaaGreatDoorHRdLines
namespace Go.Proofs.YtafeddiijemnbaaGreatDoor
open Go.RowKit Go.Shelf Go.Lib
set_option maxHeartbeats 4000000 in
set_option maxRecDepth 100000 in
theorem sBack_any (w : World) (a : Option Addr) (g o cap : Nat) (es : List E) (k : Int) (p t x : ByteArray) (hl : es.length ≤ 16777216) (ha : 0 < es.length → a = some ⟨g, o, none⟩) (hE : Ents w g o es) :
  Calls Tryz.prog 14 #[.slice a es.length cap, .agg #[.int .i64 k, .string p, .string t, .string x]] w fun r w' => r = .returned (opV (bkE es ⟨k, p, t, x⟩).k (bkE es ⟨k, p, t, x⟩).p (bkE es ⟨k, p, t, x⟩).t (bkE es ⟨k, p, t, x⟩).x) ∧ Below w.heap.size w w' := by
 obtain ⟨V, hV⟩ : ∃ V, w.alloc (.cells #[.int .i64 k, .string p, .string t, .string x] 25) = V := ⟨_, rfl⟩
 obtain ⟨W0, hW0⟩ : ∃ W0, V.alloc (.cells #[.int .i64 0, .string ⟨#[]⟩, .string ⟨#[]⟩, .string ⟨#[]⟩] 25) = W0 := ⟨_, rfl⟩
 have hVs : V.heap.size = w.heap.size + 1 := by rw [← hV]; simp
 have hVb : Below w.heap.size w V := by rw [← hV]; exact (Below.refl _ w).alloc (Nat.le_refl _) _
 have hb1 : Below V.heap.size V W0 := by rw [← hW0]; exact (Below.refl _ V).alloc (Nat.le_refl _) _
 have hBw : Below w.heap.size w W0 := hVb.trans (hb1.mono hVb.size); have hz0 : W0.heap.size = w.heap.size + 2 := by rw [← hW0]; simp [hVs]
 have hO : W0.heap[w.heap.size]? = some (Obj.cells #[.int .i64 k, .string p, .string t, .string x] 25 (0, 0)) := by
  rw [← hW0]; exact ((((Below.refl _ V).alloc (Nat.le_refl _) _).block _ (by omega)).trans (by rw [← hV]; exact heap_alloc_new w _))
 have hR : W0.heap[w.heap.size + 1]? = some (Obj.cells #[.int .i64 0, .string ⟨#[]⟩, .string ⟨#[]⟩, .string ⟨#[]⟩] 25 (0, 0)) := by
  rw [← hW0, ← hVs]; exact heap_alloc_new V _
 have HO := hidE hO; have HRs := hidE hR; have HG := hidE (l2Get_any W0 a g o cap es p hl ha (hE.below hBw)); have HB := hidE hBw; have j1 := cell4 hO 1; clear hE hO hR hVb hb1 hBw; obtain ⟨ob, hob⟩ : ∃ ob, bkE es ⟨k, p, t, x⟩ = ob := ⟨_, rfl⟩
 rw [hob]; have HOb := hidE hob; clear hob; obtain ⟨⟨ep, ed, ex⟩, he⟩ : ∃ e, (getE es p).1 = e := ⟨_, rfl⟩
 obtain ⟨had, hhad⟩ : ∃ b, (getE es p).2 = b := ⟨_, rfl⟩
 rw [he, hhad] at HG; have HGe := hidE he; have HGh := hidE hhad; clear he hhad; go_enter Tryz.func14, Tryz.ntmps14
 go_wp2_with fail
 clear hV hW0; refine HG.out.mono ?_; rintro e w1 ⟨rfl, hB1⟩; unfold encE; obtain ⟨W1, hW1⟩ : ∃ W1, w1.alloc (.cells #[.string ep, .bool ed, .string ex] 53) = W1 := ⟨_, rfl⟩
 have hs1 : W1.heap.size = w1.heap.size + 1 := by rw [← hW1]; simp
 have hB2 : Below W0.heap.size W0 W1 := by rw [← hW1]; exact hB1.alloc hB1.size _
 have hh1 : W1.heap[w1.heap.size]? = some (Obj.cells #[.string ep, .bool ed, .string ex] 53 (0, 0)) := by rw [← hW1]; exact heap_alloc_new w1 _
 have hw1 := hB1.size; have hO1 := (hB2.block _ (Array.getElem?_eq_some_iff.1 HO.out).1).trans HO.out; have hr := (hB2.block _ (Array.getElem?_eq_some_iff.1 HRs.out).1).trans HRs.out; have y2 := cell4 hh1 2; have m0 := cell4 hO1 0; have m1 := cell4 hO1 1; have m2 := cell4 hO1 2; have m3 := cell4 hO1 3; obtain ⟨⟨q0, q0'⟩, q1, q2, q3⟩ := set4_rules hr; have q1a := fun u => (q1 u).1; have q1b := fun u => (q1 u).2; have q2a := fun u x => (q2 u x).1; have q2b := fun u x => (q2 u x).2; have q3a := fun u x y => (q3 u x y).1; have q3b := fun u x y => (q3 u x y).2; have HSet := hidE (fun (k' : Int) (p' t' x' : ByteArray) => set4_is hr (.int .i64 k') (.string p') (.string t') (.string x')); have HBf := hidE (fun (W : World) (h : OnlyB (w.heap.size + 1) W1 W) => h.below (HB.out.trans (hB2.mono HB.out.size)) (by omega)); clear q1 q2 q3 hO1 hr hh1 hB1; by_cases h5 : k = 5
 ·
  subst h5; obtain rfl : (⟨5, t, p, ⟨#[]⟩⟩ : O) = ob := by rw [← HOb.out]; unfold bkE; simp []
  obtain ⟨hon, hrow⟩ := HSet.out (5) (t) (p) (⟨#[]⟩); have hBf := HBf.out _ hon; have z0 := cell4 hrow 0; have z1 := cell4 hrow 1; have z2 := cell4 hrow 2; have z3 := cell4 hrow 3; go_wp2
  exact bodyPost_ret (v := opV (5) (t) (p) (⟨#[]⟩)) (by unfold opV; simp [results, Tryz.results14, go_sem, z0, z1, z2, z3]) rfl ⟨rfl, hBf⟩
 ·
  have f5 : (k == 5) = false := by simp [h5]
  by_cases h1 : k = 1
  ·
   subst h1; obtain rfl : (⟨4, p, ⟨#[]⟩, ⟨#[]⟩⟩ : O) = ob := by rw [← HOb.out]; unfold bkE; simp []
   obtain ⟨hon, hrow⟩ := HSet.out (4) (p) (⟨#[]⟩) (⟨#[]⟩); have hBf := HBf.out _ hon; have z0 := cell4 hrow 0; have z1 := cell4 hrow 1; have z2 := cell4 hrow 2; have z3 := cell4 hrow 3; go_wp2
   exact bodyPost_ret (v := opV (4) (p) (⟨#[]⟩) (⟨#[]⟩)) (by unfold opV; simp [results, Tryz.results14, go_sem, z0, z1, z2, z3]) rfl ⟨rfl, hBf⟩
  ·
   have f1 : (k == 1) = false := by simp [h1]
   by_cases h4 : k = 4
   ·
    subst h4; obtain rfl : (⟨1, p, ⟨#[]⟩, ⟨#[]⟩⟩ : O) = ob := by rw [← HOb.out]; unfold bkE; simp []
    obtain ⟨hon, hrow⟩ := HSet.out (1) (p) (⟨#[]⟩) (⟨#[]⟩); have hBf := HBf.out _ hon; have z0 := cell4 hrow 0; have z1 := cell4 hrow 1; have z2 := cell4 hrow 2; have z3 := cell4 hrow 3; go_wp2
    exact bodyPost_ret (v := opV (1) (p) (⟨#[]⟩) (⟨#[]⟩)) (by unfold opV; simp [results, Tryz.results14, go_sem, z0, z1, z2, z3]) rfl ⟨rfl, hBf⟩
   ·
    have f4 : (k == 4) = false := by simp [h4]
    cases had with
    | true =>
     obtain rfl : (⟨2, p, ⟨#[]⟩, ex⟩ : O) = ob := by rw [← HOb.out]; unfold bkE; simp [h5, h1, h4, HGe.out, HGh.out]
     obtain ⟨hon, hrow⟩ := HSet.out (2) (p) (⟨#[]⟩) (ex); have hBf := HBf.out _ hon; have z0 := cell4 hrow 0; have z1 := cell4 hrow 1; have z2 := cell4 hrow 2; have z3 := cell4 hrow 3; go_wp2
     exact bodyPost_ret (v := opV (2) (p) (⟨#[]⟩) (ex)) (by unfold opV; simp [results, Tryz.results14, go_sem, z0, z1, z2, z3]) rfl ⟨rfl, hBf⟩
    | false =>
     obtain rfl : (⟨3, p, ⟨#[]⟩, ⟨#[]⟩⟩ : O) = ob := by rw [← HOb.out]; unfold bkE; simp [h5, h1, h4, HGh.out]
     obtain ⟨hon, hrow⟩ := HSet.out (3) (p) (⟨#[]⟩) (⟨#[]⟩); have hBf := HBf.out _ hon; have z0 := cell4 hrow 0; have z1 := cell4 hrow 1; have z2 := cell4 hrow 2; have z3 := cell4 hrow 3; go_wp2
     exact bodyPost_ret (v := opV (3) (p) (⟨#[]⟩) (⟨#[]⟩)) (by unfold opV; simp [results, Tryz.results14, go_sem, z0, z1, z2, z3]) rfl ⟨rfl, hBf⟩
end Go.Proofs.YtafeddiijemnbaaGreatDoor
