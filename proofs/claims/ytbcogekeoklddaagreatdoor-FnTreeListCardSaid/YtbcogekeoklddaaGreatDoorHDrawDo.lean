/-
  The walk of the model's draw of a tree and of what is done, whatever the code.
-/
import Derived.Test.YtbcogekeoklddaaGreatDoorHDrawBent
namespace Go.Proofs.YtbcogekeoklddaaGreatDoor
open Go.RowKit Go.Lib

theorem small_tree {es : List E} (h : treeE es = true) : Small 16 es := ⟨(tree_sizes h).1, (tree_sizes h).2⟩

theorem B3' {a b c : World} (h : Below a.heap.size a b) (k : Below b.heap.size b c) : Below a.heap.size a c := h.trans (k.mono h.size)
theorem Bx.below {W W' : World} {b n : Nat} {k : Int} {p t x : ByteArray} (h : Bx W b k p t x) (hB : Below n W W') (hb : b < n) : Bx W' b k p t x := by
  have hh := hB.block b hb
  exact ⟨(World.cell?_of_block (w := W) (a := ⟨b, 0, none⟩) hh).trans h.c0, (World.cell?_of_block (w := W) (a := ⟨b, 1, none⟩) hh).trans h.c1, (World.cell?_of_block (w := W) (a := ⟨b, 2, none⟩) hh).trans h.c2, (World.cell?_of_block (w := W) (a := ⟨b, 3, none⟩) hh).trans h.c3,
    (World.frozen?_of_block (w := W) (a := ⟨b, 0, none⟩) hh).trans h.f0, (World.frozen?_of_block (w := W) (a := ⟨b, 1, none⟩) hh).trans h.f1, (World.frozen?_of_block (w := W) (a := ⟨b, 2, none⟩) hh).trans h.f2, (World.frozen?_of_block (w := W) (a := ⟨b, 3, none⟩) hh).trans h.f3⟩
theorem Bx.bel {W W' : World} {b : Nat} {k : Int} {p t x : ByteArray} (h : Bx W b k p t x) (hB : Below W.heap.size W W') : Bx W' b k p t x := h.below hB (cell_ltR h.c0)
theorem fin4B {w W : World} {b n : Nat} {k k' : Int} {p t x p' t' x' : ByteArray} {C : World → Prop} (h : Bx W b k p t x) (hB : Below n w W) (hb : n ≤ b)
    (H : ∀ Wf, Bx Wf b k' p' t' x' → Below n w Wf → Kept b W Wf → C Wf) : C ((((W.setCell ⟨b, 0, none⟩ (.int .i64 k')).setCell ⟨b, 1, none⟩ (.string p')).setCell ⟨b, 2, none⟩ (.string t')).setCell ⟨b, 3, none⟩ (.string x')) :=
  H _ ((((h.set0 k').set1 p').set2 t').set3 x')
    ((((hB.setCell (p := ⟨b, 0, none⟩) hb _).setCell (p := ⟨b, 1, none⟩) hb _).setCell (p := ⟨b, 2, none⟩) hb _).setCell (p := ⟨b, 3, none⟩) hb _)
    ((((Kept.setCell W 0 _).trans (Kept.setCell _ 1 _)).trans (Kept.setCell _ 2 _)).trans (Kept.setCell _ 3 _))

set_option maxHeartbeats 1000000 in
set_option maxRecDepth 100000 in
theorem DrawTreeDo_any (w : World) (a : Option Addr) (len cap : Nat) (hl : len ≤ 1048576) (h : Cod w a len cap) :
    Calls Tryz.prog 9 #[.slice a len cap] w fun e w' => ∃ (v : Value) (es : List E) (k : Int) (p t x : ByteArray), e = .returned (.tuple #[v, .agg #[.int .i64 k, .string p, .string t, .string x]]) ∧ LieB w' w.heap.size v es ∧ Small 17 es ∧ p.size ≤ 16 ∧ okS t = true ∧ x.size ≤ 16 ∧ Below w.heap.size w w' := by
  obtain ⟨W0, hW0⟩ : ∃ W0, W0 = w.alloc (.cells #[.int .i64 0, .string ⟨#[]⟩, .string ⟨#[]⟩, .string ⟨#[]⟩] 25) := ⟨_, rfl⟩
  have hs0 : W0.heap.size = w.heap.size + 1 := by rw [hW0]; simp
  have HY0 : Hid (Bx W0 w.heap.size 0 ⟨#[]⟩ ⟨#[]⟩ ⟨#[]⟩) := by rw [hW0]; exact Bx.new w 0 ⟨#[]⟩ ⟨#[]⟩ ⟨#[]⟩ 25
  have HB0 : Hid (Below w.heap.size w W0) := by rw [hW0]; exact (Below.refl _ w).alloc (Nat.le_refl _) _
  have HC := hidR (h.below HB0.out)
  have HS0 := hidR hs0
  clear h hs0
  go_enter Tryz.func9, Tryz.ntmps9
  go_wp2_with fail
  rw [← hW0]
  clear hW0
  refine (l10Open_any _ a len cap hl HC.out).mono ?_
  rintro e w1 ⟨rfl, hR1, hB1⟩
  have HR1 := hidR hR1
  have HB1 := hidR hB1
  have hr := hR1.lt
  clear hR1 hB1 HC
  go_wp2_with fail
  refine (l2Tree_any _ W0.heap.size 0 (by omega) HR1.out).mono ?_
  rintro e w2 ⟨v2, es2, q2, rfl, ht2, ho2, hq2, hR2, hK2⟩
  have HR2 := hidR hR2
  have HB2 := hidR (HB1.out.trans (hK2.below (Nat.le_refl _) (Nat.le_of_lt hr)))
  have HL2 := hidR ho2.lieB
  have HS2 := hidR (small_tree ht2)
  have hw2 : w1.heap.size ≤ w2.heap.size := hK2.2.2.2.1
  clear hR2 hK2 ho2 ht2 HR1 HB1
  go_wp2_with fail
  refine (l2Bent_any _ W0.heap.size q2 w1.heap.size 16 v2 es2 (by omega) hr hw2 HL2.out HS2.out (by decide) HR2.out).mono ?_
  rintro e w3 ⟨v3, es3, q3, rfl, hL3, hS3, hq3, hR3, hK3⟩
  obtain ⟨a3, g3, o3, cap3, rfl, ha3, hE3, hc3, hg3⟩ := hL3
  have HR3 := hidR hR3
  have HB3 := hidR (HB2.out.trans (hK3.below (Nat.le_refl _) (by omega)))
  have HS3 := hidR hS3
  have HE3 := hidR hE3
  have HA3 := hidR ha3
  have HG3 := hidR hg3
  have hw3 : w2.heap.size ≤ w3.heap.size := hK3.2.2.2.1
  clear hR3 hK3 hS3 hE3 ha3 hg3 HR2 HB2 HL2 HS2
  go_wp2_with fail
  refine (l2Op_any _ W0.heap.size q3 a3 g3 o3 cap3 es3 (by omega) (by have := HS3.out.1; omega) HA3.out HE3.out (fun e he => (HS3.out.2 e he).1) (fun h => by have := HG3.out h; omega) HR3.out).mono ?_
  rintro e w4 ⟨k, p, t, x, q4, rfl, z1, z2, z3, hq4, hR4, hK4⟩
  have HB4 := hidR (HB3.out.trans (hK4.below (Nat.le_refl _) (by omega)))
  have HE4 := hidR (HE3.out.kept hK4 (fun h => by have := HG3.out h; omega))
  have HZ := hidR z2
  clear hR4 hK4 HR3 HB3 HE3 z2
  obtain ⟨y0, y1, y2, y3, f0, f1, f2, f3⟩ := HY0.out.below HB4.out (by have := HS0.out; omega)
  go_wp2
  refine fin4B (C := bodyPost Tryz.prog Tryz.f9 _ _ _) (HY0.out.below HB4.out (by have := HS0.out; omega)) (B3' HB0.out HB4.out) (Nat.le_refl _) ?_
  intro Wf hf hBf hKf
  have hs0 := HS0.out
  have hE5 := HE4.out.kept hKf (fun h => by have := HG3.out h; omega)
  obtain ⟨s0, s1, s2, s3, -, -, -, -⟩ := hf
  exact bodyPost_ret (v := .tuple #[.slice a3 es3.length cap3, .agg #[.int .i64 k, .string p, .string t, .string x]]) (by simp [results, Tryz.results9, go_sem, s0, s1, s2, s3]) rfl ⟨_, es3, k, p, t, x, rfl, ⟨a3, g3, o3, cap3, rfl, HA3.out, hE5, hc3, fun h => by have := HG3.out h; omega⟩, HS3.out, z1, HZ.out, z3, hBf⟩
end Go.Proofs.YtbcogekeoklddaaGreatDoor
