/-
  The walks of the program's allTrees and toldOf.
-/
import Derived.Test.YtenlibefdefjmaaDoorHMgRow
import Derived.Test.YtenlibefdefjmaaDoorHImplOk
import Derived.Test.YtenlibefdefjmaaDoorHImplGet
namespace Go.Proofs.YtenlibefdefjmaaDoor.Mg
open Go.RowKit Go.Lib

theorem Row.iOk {w : World} {v : Value} {es : List E} (h : Row w v es) (ae : Int → Addr) (hErr : Errs2 w ae) : Calls Tryd.prog 19 #[v] w fun r w' => r = .returned (.bool (treeE es)) ∧ Below w.heap.size w w' := by
  obtain ⟨a, g, o, cap, rfl, h1, h2, h3, h4, h5⟩ := h
  exact iTreeOk_any w a g o cap es ae hErr h1 h3 h4 h5
theorem Row.iGet {w : World} {v : Value} {es : List E} (h : Row w v es) (ae : Int → Addr) (hErr : Errs2 w ae) (s : ByteArray) (hs : s.size ≤ 16777216) : Calls Tryd.prog 20 #[v, .string s] w fun r w' => r = .returned (.tuple #[encE (tgetE es s).1, .bool (tgetE es s).2]) ∧ Below w.heap.size w w' := by
  obtain ⟨a, g, o, cap, rfl, h1, h2, h3, h4, h5⟩ := h
  exact iTreeGet_any w a g o cap es s ae hErr h1 hs h3 h4 h5

/-- What a path tells, as the program writes it. -/
def encT (x : E × Bool) : Value := .agg #[.string x.1.p, .bool x.1.d, .string x.1.x, .bool x.2]

set_option maxHeartbeats 1000000 in
set_option maxRecDepth 100000 in
theorem toldOf_any (w : World) (v : Value) (t : List E) (s : ByteArray) (ae : Int → Addr) (hErr : Errs2 w ae) (hs : s.size ≤ 16777216) (h : Row w v t) :
    Calls Tryd.prog 15 #[v, .string s] w fun r w' => r = .returned (encT (tgetE t s)) ∧ Below w.heap.size w w' := by
  obtain ⟨W0, hW0⟩ : ∃ W0, w.alloc (.cells #[.string ⟨#[]⟩, .bool false, .string ⟨#[]⟩, .bool false] 39) = W0 := ⟨_, rfl⟩
  have hb0 : Below w.heap.size w W0 := by rw [← hW0]; exact (Below.refl _ w).alloc (Nat.le_refl _) _
  have hz0 : W0.heap.size = w.heap.size + 1 := by rw [← hW0]; simp
  have HW0 := hidE hW0
  have HB := hidE hb0
  have HG := hidE ((h.below hb0).iGet ae (hErr.below hb0) s hs)
  clear h hb0 hErr
  obtain ⟨⟨⟨p, d, x⟩, b⟩, hx⟩ : ∃ x, tgetE t s = x := ⟨_, rfl⟩
  rw [hx] at HG ⊢
  clear hx
  unfold encT
  go_enter Tryd.func15, Tryd.ntmps15
  go_wp2_with fail
  refine HG.out.mono ?_
  rintro e w1 ⟨rfl, hB1⟩
  have hz1 := hB1.size
  obtain ⟨V1, hV1⟩ : ∃ V1, w1.alloc (.cells #[.string p, .bool d, .string x] 25) = V1 := ⟨_, rfl⟩
  have HV1 := hidE hV1
  have hA1 : Below w1.heap.size w1 V1 := by rw [← hV1]; exact (Below.refl _ w1).alloc (Nat.le_refl _) _
  have hC1 := B3G hB1 hA1
  obtain ⟨hc, hf⟩ := bcellE hC1
  obtain ⟨⟨x0, x1, x2⟩, -⟩ := box3c (W := V1) (by rw [HV1.out]; exact Below.refl _ _)
  have k0 : V1.cell? ⟨w.heap.size, 0, none⟩ = some (.string ⟨#[]⟩) := by rw [hc _ _ (by omega), ← HW0.out]; simp
  have k1 : V1.cell? ⟨w.heap.size, 1, none⟩ = some (.bool false) := by rw [hc _ _ (by omega), ← HW0.out]; simp
  have k2 : V1.cell? ⟨w.heap.size, 2, none⟩ = some (.string ⟨#[]⟩) := by rw [hc _ _ (by omega), ← HW0.out]; simp
  have k3 : V1.cell? ⟨w.heap.size, 3, none⟩ = some (.bool false) := by rw [hc _ _ (by omega), ← HW0.out]; simp
  have f0 : V1.frozen? ⟨w.heap.size, 0, none⟩ = false := by rw [hf _ _ (by omega), ← HW0.out]; simp
  have f1 : V1.frozen? ⟨w.heap.size, 1, none⟩ = false := by rw [hf _ _ (by omega), ← HW0.out]; simp
  have f2 : V1.frozen? ⟨w.heap.size, 2, none⟩ = false := by rw [hf _ _ (by omega), ← HW0.out]; simp
  have f3 : V1.frozen? ⟨w.heap.size, 3, none⟩ = false := by rw [hf _ _ (by omega), ← HW0.out]; simp
  have HBV := hidE (B3G HB.out hC1)
  clear hc hf hC1 hA1 hB1 HB hz1 hz0
  go_wp2
  exact bodyPost_ret (v := .agg #[.string p, .bool d, .string x, .bool b]) (by simp [results, Tryd.results15, go_sem, k0, k1, k2, k3]) rfl ⟨rfl, (((HBV.out.setCell (p := ⟨w.heap.size, _, none⟩) (Nat.le_refl _) _).setCell (p := ⟨w.heap.size, _, none⟩) (Nat.le_refl _) _).setCell (p := ⟨w.heap.size, _, none⟩) (Nat.le_refl _) _).setCell (p := ⟨w.heap.size, _, none⟩) (Nat.le_refl _) _⟩
end Go.Proofs.YtenlibefdefjmaaDoor.Mg
