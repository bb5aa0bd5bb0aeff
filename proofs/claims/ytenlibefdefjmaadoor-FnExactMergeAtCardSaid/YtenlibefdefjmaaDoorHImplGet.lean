/-
  The walk of the program's own TreeGet.
-/
import Derived.Test.YtenlibefdefjmaaDoorHEntI
namespace Go.Proofs.YtenlibefdefjmaaDoor
open Go.RowKit Go.Shelf Go.Lib

attribute [local go_sem] Oper.semAt_some

set_option maxHeartbeats 1000000 in
set_option maxRecDepth 100000 in
theorem iTreeGet_any (w : World) (a : Option Addr) (g o cap : Nat) (es : List E) (s : ByteArray) (ae : Int → Addr) (hErr : Errs2 w ae) (hl : es.length ≤ 16777216) (hs : s.size ≤ 16777216) (hz : ∀ e ∈ es, e.p.size ≤ 16777216 ∧ e.x.size ≤ 16777216) (ha : 0 < es.length → a = some ⟨g, o, none⟩) (hE : Ents w g o es) :
    Calls Tryd.prog 20 #[.slice a es.length cap, .string s] w fun r w' => r = .returned (.tuple #[encE (tgetE es s).1, .bool (tgetE es s).2]) ∧ Below w.heap.size w w' := by
  have W0 : Below w.heap.size w (w.alloc (.cells #[.string ⟨#[]⟩, .bool false, .string ⟨#[]⟩] 25)) := (Below.refl _ w).alloc (Nat.le_refl _) _
  have HT := hidE (treeOf_any _ a g o cap es ae (hErr.below W0) hl hz ha (hE.below W0))
  clear hErr hz ha hE
  cases ht : treeE es with
  | false =>
    have hg : tgetE es s = (noneE, false) := by unfold tgetE; rw [ht]; rfl
    rw [hg]
    rw [ht] at HT
    go_enter Tryd.func20, Tryd.ntmps20
    go_wp2_with (go_at_call 26; refine HT.out.mono ?_; rintro e w1 ⟨A, rfl, hB1, -⟩; obtain ⟨⟨k0, k1, k2⟩, a0, a1, a2, b0, b1, b2⟩ := boxOn (b := w.heap.size) (p := .string ⟨#[]⟩) (q := .bool false) (r := .string ⟨#[]⟩) hB1 (by simp) (box3one w _ _ _ _))
    have hBw : Below w.heap.size w w1 := W0.trans (hB1.mono (by simp))
    refine atSet3 (C := bodyPost Tryd.prog Tryd.f20 _ _ _) (a0 _) (a1 _) (a2 _) (hBw.alloc hBw.size _) (Nat.le_refl _) ?_
    intro Wf s0 s1 s2 hBf
    exact bodyPost_ret (v := .tuple #[encE noneE, .bool false]) (by simp [results, Tryd.results20, go_sem, s0, s1, s2, noneE]) rfl ⟨rfl, hBf⟩
  | true =>
    have T := (treeE_tr ht).1
    rw [ht] at HT
    rcases tget_at (s := s) ht with ⟨e1, e2⟩ | ⟨d, x, e1, e2⟩
    · rw [e2]
      go_enter Tryd.func20, Tryd.ntmps20
      go_wp2_with fail
      refine HT.out.mono ?_
      rintro e w1 ⟨A, rfl, hB1, hR⟩
      have hR := hR (by first | exact ht | exact trivial | rfl)
      obtain ⟨⟨k0, k1, k2⟩, a0, a1, a2, b0, b1, b2⟩ := boxOn (b := w.heap.size) (p := .string ⟨#[]⟩) (q := .bool false) (r := .string ⟨#[]⟩) hB1 (by simp) (box3one w _ _ _ _)
      have hBw : Below w.heap.size w w1 := W0.trans (hB1.mono (by simp))
      have hBt : Below w1.heap.size w1 (w1.alloc (.cells #[.bool true, .string ⟨#[]⟩, .map (some (A ⟨#[47]⟩))] 61)) := (Below.refl _ w1).alloc (Nat.le_refl _) _
      have HA := hidE (at_any _ _ _ es A T (hR.below hBt) s (by omega))
      rw [e1 A] at HA
      go_wp2_with (go_at_call 27; refine HA.out.mono ?_; rintro e w2 ⟨rfl, hB2⟩; obtain ⟨-, a0', a1', a2', b0', b1', b2', -⟩ := boxKept hB2 ⟨a0 _, a1 _, a2 _⟩ ⟨b0 _, b1 _, b2 _⟩)
      have hBw2 : Below w.heap.size w w2 := (hBw.trans (hBt.mono hBw.size)).trans (hB2.mono (Nat.le_trans hBw.size hBt.size))
      refine atSet3 (C := bodyPost Tryd.prog Tryd.f20 _ _ _) (a0' _) (a1' _) (a2' _) (hBw2.alloc hBw2.size _) (Nat.le_refl _) ?_
      intro Wf s0 s1 s2 hBf
      exact bodyPost_ret (v := .tuple #[encE noneE, .bool false]) (by simp [results, Tryd.results20, go_sem, s0, s1, s2, noneE]) rfl ⟨rfl, hBf⟩
    · rw [e2]
      go_enter Tryd.func20, Tryd.ntmps20
      go_wp2_with fail
      refine HT.out.mono ?_
      rintro e w1 ⟨A, rfl, hB1, hR⟩
      have hR := hR (by first | exact ht | exact trivial | rfl)
      obtain ⟨⟨k0, k1, k2⟩, a0, a1, a2, b0, b1, b2⟩ := boxOn (b := w.heap.size) (p := .string ⟨#[]⟩) (q := .bool false) (r := .string ⟨#[]⟩) hB1 (by simp) (box3one w _ _ _ _)
      have hBw : Below w.heap.size w w1 := W0.trans (hB1.mono (by simp))
      have hBt : Below w1.heap.size w1 (w1.alloc (.cells #[.bool true, .string ⟨#[]⟩, .map (some (A ⟨#[47]⟩))] 61)) := (Below.refl _ w1).alloc (Nat.le_refl _) _
      have HA := hidE (at_any _ _ _ es A T (hR.below hBt) s (by omega))
      obtain ⟨m, hm⟩ := e1 A
      rw [hm] at HA
      go_wp2_with (go_at_call 27; refine HA.out.mono ?_; rintro e w2 ⟨rfl, hB2⟩; obtain ⟨-, a0', a1', a2', b0', b1', b2', -⟩ := boxKept hB2 ⟨a0 _, a1 _, a2 _⟩ ⟨b0 _, b1 _, b2 _⟩)
      have hBw2 : Below w.heap.size w w2 := (hBw.trans (hBt.mono hBw.size)).trans (hB2.mono (Nat.le_trans hBw.size hBt.size))
      obtain ⟨W2, hW2⟩ : ∃ W2, W2 = w2.alloc (.cells #[.bool d, .string x, .map m] 59) := ⟨_, rfl⟩
      have n0 : W2.cell? ⟨w2.heap.size, 0, none⟩ = some (.bool d) := by rw [hW2]; simp
      have n1 : W2.cell? ⟨w2.heap.size, 1, none⟩ = some (.string x) := by rw [hW2]; simp
      have n2 : W2.cell? ⟨w2.heap.size, 2, none⟩ = some (.map m) := by rw [hW2]; simp
      have hBW : Below w.heap.size w W2 := by rw [hW2]; exact hBw2.alloc hBw2.size _
      have r0 : W2.cell? ⟨w.heap.size, 0, none⟩ = some (.string ⟨#[]⟩) := by rw [hW2]; exact a0' _
      have r1 : W2.cell? ⟨w.heap.size, 1, none⟩ = some (.bool false) := by rw [hW2]; exact a1' _
      have r2 : W2.cell? ⟨w.heap.size, 2, none⟩ = some (.string ⟨#[]⟩) := by rw [hW2]; exact a2' _
      have q0 : W2.frozen? ⟨w.heap.size, 0, none⟩ = false := by rw [hW2]; exact b0' _
      have q1 : W2.frozen? ⟨w.heap.size, 1, none⟩ = false := by rw [hW2]; exact b1' _
      have q2 : W2.frozen? ⟨w.heap.size, 2, none⟩ = false := by rw [hW2]; exact b2' _
      rw [← hW2]
      clear a0 a1 a2 b0 b1 b2 a0' a1' a2' b0' b1' b2' k0 k1 k2 hW2
      have hne : w2.heap.size ≠ w.heap.size := by
        have h1 := hB1.size
        have h2 := hB2.size
        simp at h1 h2; omega
      have AS : Hid (∀ W', Below W2.heap.size W2 W' → W'.cell? ⟨w2.heap.size, 0, none⟩ = some (.bool d) ∧ W'.cell? ⟨w2.heap.size, 1, none⟩ = some (.string x) ∧ W'.cell? ⟨w2.heap.size, 2, none⟩ = some (.map m)) := fun W' hW => ⟨below_cell hW n0, below_cell hW n1, below_cell hW n2⟩
      have HC := hidE (fun W => strClone_any s (by omega) W)
      go_region_held3 (fun W' => W'.cell? ⟨w2.heap.size, 0, none⟩ = some (.bool d) ∧ W'.cell? ⟨w2.heap.size, 1, none⟩ = some (.string x) ∧ W'.cell? ⟨w2.heap.size, 2, none⟩ = some (.map m))
        ((first | exact AS.out _ (belowT (belowT (Below.refl _ _).drew hB3) hB4) | exact AS.out _ (belowT (Below.refl _ _).drew hB3) | exact AS.out _ (Below.refl _ _).drew | (have hh := AS.out _ (belowT (belowT (Below.refl _ _).drew hB3) hB4); exact ⟨(set3_other _ _ _ _ _ _ _ hne).trans hh.1, (set3_other _ _ _ _ _ _ _ hne).trans hh.2.1, (set3_other _ _ _ _ _ _ _ hne).trans hh.2.2⟩)))
        (first | (go_at_call 29; refine (HC.out _).mono ?_; rintro e w3 ⟨rfl, hB3⟩) | (go_at_call 28; refine (ent_any _ _ _ _ _).mono ?_; rintro e w4 ⟨rfl, hB4⟩; obtain ⟨⟨c0, c1, c2⟩, -, -, -, -, -, -, f0, f1, f2⟩ := boxKept (belowT (belowT (Below.refl _ _).drew hB3) hB4) ⟨r0, r1, r2⟩ ⟨q0, q1, q2⟩))
      go_wp2
      refine atSet3 (C := bodyPost Tryd.prog Tryd.f20 _ _ _) c0 c1 c2 (hBW.trans ((belowT (belowT (Below.refl _ _).drew hB3) hB4).mono hBW.size)) (Nat.le_refl _) ?_
      intro Wf s0 s1 s2 hBf
      exact bodyPost_ret (v := .tuple #[encE ⟨s, d, x⟩, .bool true]) (by simp [results, Tryd.results20, go_sem, s0, s1, s2]) rfl ⟨rfl, hBf⟩
end Go.Proofs.YtenlibefdefjmaaDoor
