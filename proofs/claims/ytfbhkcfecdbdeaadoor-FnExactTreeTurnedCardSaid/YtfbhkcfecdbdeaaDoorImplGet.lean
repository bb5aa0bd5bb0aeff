/-
  The walks of the program's own TreeOk and TreeGet.
-/
import Derived.Test.YtfbhkcfecdbdeaaDoorTreeOf
namespace Go.Proofs.YtfbhkcfecdbdeaaDoor
open Go.RowKit Go.Shelf Go.Lib

attribute [local go_sem] Oper.semAt_some

theorem strClone_any (s : ByteArray) (hs : s.size ≤ 281474976710656) (w : World) :
    Calls Tryd.prog 33 #[.string s] w fun e w' => e = .returned (.string s) ∧ Below w.heap.size w w' := by
  go_enter Tryd.func33, Tryd.ntmps33
  go_wp2_with (go_at_call 51; refine (sClone_any _ _ hs).mono ?_; rintro e w' ⟨rfl, hB⟩)
  go_ret
  exact ⟨rfl, hB⟩

theorem ent_any (d : Bool) (x : ByteArray) (m : Option Nat) (s : ByteArray) (w : World) :
    Calls Tryd.prog 32 #[.agg #[.bool d, .string x, .map m], .string s] w fun e w' => e = .returned (.agg #[.string s, .bool d, .string x]) ∧ Below w.heap.size w w' := by
  go_enter Tryd.func32, Tryd.ntmps32
  go_wp2
  exact bodyPost_ret (v := .agg #[.string s, .bool d, .string x]) (by simp [results, Tryd.results32, go_sem]) rfl ⟨rfl, ((Below.refl _ w).alloc (Nat.le_refl _) _).alloc (by simp) _⟩

theorem iTreeOk_any (w : World) (a : Option Addr) (g o cap : Nat) (es : List E) (ae : Int → Addr) (hErr : Errs2 w ae) (hl : es.length ≤ 16777216) (hz : ∀ e ∈ es, e.p.size ≤ 16777216 ∧ e.x.size ≤ 16777216) (ha : 0 < es.length → a = some ⟨g, o, none⟩) (hE : Ents w g o es) :
    Calls Tryd.prog 10 #[.slice a es.length cap] w fun r w' => r = .returned (.bool (treeE es)) ∧ Below w.heap.size w w' := by
  have HT := hidE (treeOf_any w a g o cap es ae hErr hl hz ha hE)
  clear hErr hz ha hE
  go_enter Tryd.func10, Tryd.ntmps10
  go_wp2_with (go_at_call 29; refine HT.out.mono ?_; rintro e w1 ⟨A, rfl, hB1, -⟩)
  go_ret
  exact ⟨rfl, hB1.alloc hB1.size _⟩

theorem tget_at {es : List E} {s : ByteArray} (h : treeE es = true) :
    ((∀ A, atE es A s = (zeroN, false)) ∧ tgetE es s = (noneE, false)) ∨ ∃ d x, (∀ A, ∃ m, atE es A s = (.agg #[.bool d, .string x, .map m], true)) ∧ tgetE es s = (⟨s, d, x⟩, true) := by
  unfold tgetE
  rw [if_pos h]
  by_cases hr : isRoot s = true
  · right
    have hs := (isRoot_iff s).1 hr
    refine ⟨true, ⟨#[]⟩, fun A => ⟨some (A ⟨#[47]⟩), by unfold atE; rw [if_pos hr]⟩, ?_⟩
    rw [getE_root hr, hs]; rfl
  · have hr' : isRoot s = false := by simpa using hr
    rw [getE_look hr']
    cases hl : lookE es s with
    | none => left; exact ⟨fun A => by unfold atE; rw [hr', hl]; rfl, rfl⟩
    | some e =>
      right
      obtain ⟨_, h2⟩ := look_mem hl
      exact ⟨e.d, e.x, fun A => ⟨optV e.d (A s), by unfold atE; rw [hr', hl]; rfl⟩, by rw [← h2]; rfl⟩
/-- A box of three cells, carried over what leaves it. -/
theorem boxKept {W w1 : World} (hB : Below W.heap.size W w1) {b : Nat} {p q r : Value} (h : W.cell? ⟨b, 0, none⟩ = some p ∧ W.cell? ⟨b, 1, none⟩ = some q ∧ W.cell? ⟨b, 2, none⟩ = some r)
    (f : W.frozen? ⟨b, 0, none⟩ = false ∧ W.frozen? ⟨b, 1, none⟩ = false ∧ W.frozen? ⟨b, 2, none⟩ = false) :
    (w1.cell? ⟨b, 0, none⟩ = some p ∧ w1.cell? ⟨b, 1, none⟩ = some q ∧ w1.cell? ⟨b, 2, none⟩ = some r) ∧
    (∀ o, (w1.alloc o).cell? ⟨b, 0, none⟩ = some p) ∧ (∀ o, (w1.alloc o).cell? ⟨b, 1, none⟩ = some q) ∧ (∀ o, (w1.alloc o).cell? ⟨b, 2, none⟩ = some r) ∧
    (∀ o, (w1.alloc o).frozen? ⟨b, 0, none⟩ = false) ∧ (∀ o, (w1.alloc o).frozen? ⟨b, 1, none⟩ = false) ∧ (∀ o, (w1.alloc o).frozen? ⟨b, 2, none⟩ = false) ∧
    (w1.frozen? ⟨b, 0, none⟩ = false ∧ w1.frozen? ⟨b, 1, none⟩ = false ∧ w1.frozen? ⟨b, 2, none⟩ = false) := by
  have c0 := below_cell hB h.1
  have c1 := below_cell hB h.2.1
  have c2 := below_cell hB h.2.2
  have f0 := below_frozen hB h.1 f.1
  have f1 := below_frozen hB h.2.1 f.2.1
  have f2 := below_frozen hB h.2.2 f.2.2
  exact ⟨⟨c0, c1, c2⟩, fun o => cellOn o c0, fun o => cellOn o c1, fun o => cellOn o c2, fun o => frozenOn o c0 f0, fun o => frozenOn o c1 f1, fun o => frozenOn o c2 f2, f0, f1, f2⟩

set_option maxHeartbeats 1000000 in
set_option maxRecDepth 100000 in
theorem iTreeGet_any (w : World) (a : Option Addr) (g o cap : Nat) (es : List E) (s : ByteArray) (ae : Int → Addr) (hErr : Errs2 w ae) (hl : es.length ≤ 16777216) (hs : s.size ≤ 16777216) (hz : ∀ e ∈ es, e.p.size ≤ 16777216 ∧ e.x.size ≤ 16777216) (ha : 0 < es.length → a = some ⟨g, o, none⟩) (hE : Ents w g o es) :
    Calls Tryd.prog 13 #[.slice a es.length cap, .string s] w fun r w' => r = .returned (.tuple #[encE (tgetE es s).1, .bool (tgetE es s).2]) ∧ Below w.heap.size w w' := by
  have W0 : Below w.heap.size w (w.alloc (.cells #[.string ⟨#[]⟩, .bool false, .string ⟨#[]⟩] 30)) := (Below.refl _ w).alloc (Nat.le_refl _) _
  have HT := hidE (treeOf_any _ a g o cap es ae (hErr.below W0) hl hz ha (hE.below W0))
  clear hErr hz ha hE
  cases ht : treeE es with
  | false =>
    have hg : tgetE es s = (noneE, false) := by unfold tgetE; rw [ht]; rfl
    rw [hg]
    rw [ht] at HT
    go_enter Tryd.func13, Tryd.ntmps13
    go_wp2_with (go_at_call 29; refine HT.out.mono ?_; rintro e w1 ⟨A, rfl, hB1, -⟩; obtain ⟨⟨k0, k1, k2⟩, a0, a1, a2, b0, b1, b2⟩ := boxOn (b := w.heap.size) (p := .string ⟨#[]⟩) (q := .bool false) (r := .string ⟨#[]⟩) hB1 (by simp) (box3one w _ _ _ _))
    have hBw : Below w.heap.size w w1 := W0.trans (hB1.mono (by simp))
    refine atSet3 (C := bodyPost Tryd.prog Tryd.f13 _ _ _) (a0 _) (a1 _) (a2 _) (hBw.alloc hBw.size _) (Nat.le_refl _) ?_
    intro Wf s0 s1 s2 hBf
    exact bodyPost_ret (v := .tuple #[encE noneE, .bool false]) (by simp [results, Tryd.results13, go_sem, s0, s1, s2, noneE]) rfl ⟨rfl, hBf⟩
  | true =>
    have T := (treeE_tr ht).1
    rw [ht] at HT
    rcases tget_at (s := s) ht with ⟨e1, e2⟩ | ⟨d, x, e1, e2⟩
    · rw [e2]
      go_enter Tryd.func13, Tryd.ntmps13
      go_wp2_with fail
      refine HT.out.mono ?_
      rintro e w1 ⟨A, rfl, hB1, hR⟩
      have hR := hR (by first | exact ht | exact trivial | rfl)
      obtain ⟨⟨k0, k1, k2⟩, a0, a1, a2, b0, b1, b2⟩ := boxOn (b := w.heap.size) (p := .string ⟨#[]⟩) (q := .bool false) (r := .string ⟨#[]⟩) hB1 (by simp) (box3one w _ _ _ _)
      have hBw : Below w.heap.size w w1 := W0.trans (hB1.mono (by simp))
      have hBt : Below w1.heap.size w1 (w1.alloc (.cells #[.bool true, .string ⟨#[]⟩, .map (some (A ⟨#[47]⟩))] 53)) := (Below.refl _ w1).alloc (Nat.le_refl _) _
      have HA := hidE (at_any _ _ _ es A T (hR.below hBt) s (by omega))
      rw [e1 A] at HA
      go_wp2_with (go_at_call 31; refine HA.out.mono ?_; rintro e w2 ⟨rfl, hB2⟩; obtain ⟨-, a0', a1', a2', b0', b1', b2', -⟩ := boxKept hB2 ⟨a0 _, a1 _, a2 _⟩ ⟨b0 _, b1 _, b2 _⟩)
      have hBw2 : Below w.heap.size w w2 := (hBw.trans (hBt.mono hBw.size)).trans (hB2.mono (Nat.le_trans hBw.size hBt.size))
      refine atSet3 (C := bodyPost Tryd.prog Tryd.f13 _ _ _) (a0' _) (a1' _) (a2' _) (hBw2.alloc hBw2.size _) (Nat.le_refl _) ?_
      intro Wf s0 s1 s2 hBf
      exact bodyPost_ret (v := .tuple #[encE noneE, .bool false]) (by simp [results, Tryd.results13, go_sem, s0, s1, s2, noneE]) rfl ⟨rfl, hBf⟩
    · rw [e2]
      go_enter Tryd.func13, Tryd.ntmps13
      go_wp2_with fail
      refine HT.out.mono ?_
      rintro e w1 ⟨A, rfl, hB1, hR⟩
      have hR := hR (by first | exact ht | exact trivial | rfl)
      obtain ⟨⟨k0, k1, k2⟩, a0, a1, a2, b0, b1, b2⟩ := boxOn (b := w.heap.size) (p := .string ⟨#[]⟩) (q := .bool false) (r := .string ⟨#[]⟩) hB1 (by simp) (box3one w _ _ _ _)
      have hBw : Below w.heap.size w w1 := W0.trans (hB1.mono (by simp))
      have hBt : Below w1.heap.size w1 (w1.alloc (.cells #[.bool true, .string ⟨#[]⟩, .map (some (A ⟨#[47]⟩))] 53)) := (Below.refl _ w1).alloc (Nat.le_refl _) _
      have HA := hidE (at_any _ _ _ es A T (hR.below hBt) s (by omega))
      obtain ⟨m, hm⟩ := e1 A
      rw [hm] at HA
      go_wp2_with (go_at_call 31; refine HA.out.mono ?_; rintro e w2 ⟨rfl, hB2⟩; obtain ⟨-, a0', a1', a2', b0', b1', b2', -⟩ := boxKept hB2 ⟨a0 _, a1 _, a2 _⟩ ⟨b0 _, b1 _, b2 _⟩)
      have hBw2 : Below w.heap.size w w2 := (hBw.trans (hBt.mono hBw.size)).trans (hB2.mono (Nat.le_trans hBw.size hBt.size))
      obtain ⟨W2, hW2⟩ : ∃ W2, W2 = w2.alloc (.cells #[.bool d, .string x, .map m] 51) := ⟨_, rfl⟩
      have n0 : W2.cell? ⟨w2.heap.size, 0, none⟩ = some (.bool d) := by rw [hW2]; simp
      have n1 : W2.cell? ⟨w2.heap.size, 1, none⟩ = some (.string x) := by rw [hW2]; simp
      have n2 : W2.cell? ⟨w2.heap.size, 2, none⟩ = some (.map m) := by rw [hW2]; simp
      have hBW : Below w.heap.size w W2 := by rw [hW2]; exact hBw2.alloc hBw2.size _
      have r0 : W2.cell? ⟨w.heap.size, 0, none⟩ = some (.string ⟨#[]⟩) := by rw [hW2]; exact a0' _
      have r1 : W2.cell? ⟨w.heap.size, 1, none⟩ = some (.bool false) := by rw [hW2]; exact a1' _
      have r2 : W2.cell? ⟨w.heap.size, 2, none⟩ = some (.string ⟨#[]⟩) := by rw [hW2]; exact a2' _
      have q0 : W2.frozen? ⟨w.heap.size, 0, none⟩ = false := by rw [hW2]; exact b0' _
      have q1 : W2.frozen? ⟨w.heap.size, 1, none⟩ = false := by rw [hW2]; exact b1' _
      have q2 : W2.frozen? ⟨w.heap.size, 2, none⟩ = false := by rw [hW2]; exact b2' _
      rw [← hW2]
      clear a0 a1 a2 b0 b1 b2 a0' a1' a2' b0' b1' b2' k0 k1 k2 hW2
      have hne : w2.heap.size ≠ w.heap.size := by
        have h1 := hB1.size
        have h2 := hB2.size
        simp at h1 h2; omega
      have AS : Hid (∀ W', Below W2.heap.size W2 W' → W'.cell? ⟨w2.heap.size, 0, none⟩ = some (.bool d) ∧ W'.cell? ⟨w2.heap.size, 1, none⟩ = some (.string x) ∧ W'.cell? ⟨w2.heap.size, 2, none⟩ = some (.map m)) := fun W' hW => ⟨below_cell hW n0, below_cell hW n1, below_cell hW n2⟩
      have HC := hidE (fun W => strClone_any s (by omega) W)
      go_region_held3 (fun W' => W'.cell? ⟨w2.heap.size, 0, none⟩ = some (.bool d) ∧ W'.cell? ⟨w2.heap.size, 1, none⟩ = some (.string x) ∧ W'.cell? ⟨w2.heap.size, 2, none⟩ = some (.map m))
        ((first | exact AS.out _ (belowT (belowT (Below.refl _ _).drew hB3) hB4) | exact AS.out _ (belowT (Below.refl _ _).drew hB3) | exact AS.out _ (Below.refl _ _).drew | (have hh := AS.out _ (belowT (belowT (Below.refl _ _).drew hB3) hB4); exact ⟨(set3_other _ _ _ _ _ _ _ hne).trans hh.1, (set3_other _ _ _ _ _ _ _ hne).trans hh.2.1, (set3_other _ _ _ _ _ _ _ hne).trans hh.2.2⟩)))
        (first | (go_at_call 33; refine (HC.out _).mono ?_; rintro e w3 ⟨rfl, hB3⟩) | (go_at_call 32; refine (ent_any _ _ _ _ _).mono ?_; rintro e w4 ⟨rfl, hB4⟩; obtain ⟨⟨c0, c1, c2⟩, -, -, -, -, -, -, f0, f1, f2⟩ := boxKept (belowT (belowT (Below.refl _ _).drew hB3) hB4) ⟨r0, r1, r2⟩ ⟨q0, q1, q2⟩))
      go_wp2
      refine atSet3 (C := bodyPost Tryd.prog Tryd.f13 _ _ _) c0 c1 c2 (hBW.trans ((belowT (belowT (Below.refl _ _).drew hB3) hB4).mono hBW.size)) (Nat.le_refl _) ?_
      intro Wf s0 s1 s2 hBf
      exact bodyPost_ret (v := .tuple #[encE ⟨s, d, x⟩, .bool true]) (by simp [results, Tryd.results13, go_sem, s0, s1, s2]) rfl ⟨rfl, hBf⟩
end Go.Proofs.YtfbhkcfecdbdeaaDoor
