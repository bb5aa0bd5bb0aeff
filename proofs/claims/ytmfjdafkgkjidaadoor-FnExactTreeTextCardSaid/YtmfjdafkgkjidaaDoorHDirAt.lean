/-
  The walks of the program's own: a new file, and the directory at a path of a tree.
-/
import Derived.Test.YtmfjdafkgkjidaaDoorHAt
namespace Go.Proofs.YtmfjdafkgkjidaaDoor
open Go.RowKit Go.Shelf Go.Lib

attribute [local go_sem] Oper.semAt_some

theorem newFile_any (x : ByteArray) (hx : x.size ≤ 281474976710656) (w : World) :
    Calls Tryd.prog 72 #[.string x] w fun e w' => e = .returned (.agg #[.bool false, .string x, .map none]) ∧ Below w.heap.size w w' := by
  go_enter Tryd.func72, Tryd.ntmps72
  go_wp2_with (first | (go_at_call 85; refine (sClone_any _ _ hx).mono ?_; rintro e w1 ⟨rfl, hB1⟩; obtain ⟨bc, bf⟩ := bcellN hB1) | go_in)
  have k0 := bc w.heap.size 0 (by simp)
  have k1 := bc w.heap.size 1 (by simp)
  have k2 := bc w.heap.size 2 (by simp)
  simp at k0 k1 k2
  obtain ⟨s0, s1, s2⟩ := set3_cells k0 k1 k2 (.bool false) (.string x) (.map none)
  have hBw : Below w.heap.size w w1 := ((Below.refl _ w).alloc (Nat.le_refl _) _).trans (hB1.mono (by simp))
  exact bodyPost_ret (v := .agg #[.bool false, .string x, .map none]) (by simp [results, Tryd.results72, go_sem, s0, s1, s2]) rfl ⟨rfl, set3_below hBw (Nat.le_refl _) _ _ _⟩

/-- How it ends to look for a directory. -/
def dirC (es : List E) (s : ByteArray) : Int := if (getE es s).2 = false then 2 else if (getE es s).1.d = false then 3 else 0
/-- What is told with a code. -/
def errV (ae : Int → Addr) (c : Int) : Value := if c = 0 then .nilIface else .iface 146 (.pointer (some (ae c)))
/-- The two variables that looking for a directory tells. -/
structure Errs2 (w : World) (ae : Int → Addr) : Prop where
  noneC : w.cell? ⟨2, 0, none⟩ = some (.iface 146 (.pointer (some (ae 2))))
  fileC : w.cell? ⟨3, 0, none⟩ = some (.iface 146 (.pointer (some (ae 3))))
theorem Errs2.below {w w' : World} {ae : Int → Addr} (h : Errs2 w ae) (hb : Below w.heap.size w w') : Errs2 w' ae := ⟨below_cell hb h.noneC, below_cell hb h.fileC⟩

/-- The three cells of a box, and that they may be written. -/
theorem boxOn {W w1 : World} (hB : Below W.heap.size W w1) {b : Nat} (hb : b < W.heap.size) {p q r : Value} (h : ∀ j u, #[p, q, r][j]? = some u → W.cell? ⟨b, j, none⟩ = some u ∧ W.frozen? ⟨b, j, none⟩ = false) :
    (w1.cell? ⟨b, 0, none⟩ = some p ∧ w1.cell? ⟨b, 1, none⟩ = some q ∧ w1.cell? ⟨b, 2, none⟩ = some r) ∧
    (∀ o, (w1.alloc o).cell? ⟨b, 0, none⟩ = some p) ∧ (∀ o, (w1.alloc o).cell? ⟨b, 1, none⟩ = some q) ∧ (∀ o, (w1.alloc o).cell? ⟨b, 2, none⟩ = some r) ∧
    (∀ o, (w1.alloc o).frozen? ⟨b, 0, none⟩ = false) ∧ (∀ o, (w1.alloc o).frozen? ⟨b, 1, none⟩ = false) ∧ (∀ o, (w1.alloc o).frozen? ⟨b, 2, none⟩ = false) := by
  have c0 := (hB.cell (p := ⟨b, 0, none⟩) hb).trans (h 0 p rfl).1
  have c1 := (hB.cell (p := ⟨b, 1, none⟩) hb).trans (h 1 q rfl).1
  have c2 := (hB.cell (p := ⟨b, 2, none⟩) hb).trans (h 2 r rfl).1
  have f0 := (hB.frozen (p := ⟨b, 0, none⟩) hb).trans (h 0 p rfl).2
  have f1 := (hB.frozen (p := ⟨b, 1, none⟩) hb).trans (h 1 q rfl).2
  have f2 := (hB.frozen (p := ⟨b, 2, none⟩) hb).trans (h 2 r rfl).2
  exact ⟨⟨c0, c1, c2⟩, fun o => cellOn o c0, fun o => cellOn o c1, fun o => cellOn o c2, fun o => frozenOn o c0 f0, fun o => frozenOn o c1 f1, fun o => frozenOn o c2 f2⟩

theorem box3one (w : World) (T : TypeId) (p q r : Value) : ∀ j u, #[p, q, r][j]? = some u → (w.alloc (.cells #[p, q, r] T)).cell? ⟨w.heap.size, j, none⟩ = some u ∧ (w.alloc (.cells #[p, q, r] T)).frozen? ⟨w.heap.size, j, none⟩ = false := by
  intro j u
  match j with
  | 0 => simp
  | 1 => simp
  | 2 => simp
  | _ + 3 => simp
theorem box3in (w : World) (o : Obj) (T : TypeId) (p q r : Value) : ∀ j u, #[p, q, r][j]? = some u → ((w.alloc o).alloc (.cells #[p, q, r] T)).cell? ⟨w.heap.size + 1, j, none⟩ = some u ∧ ((w.alloc o).alloc (.cells #[p, q, r] T)).frozen? ⟨w.heap.size + 1, j, none⟩ = false := by
  intro j u
  match j with
  | 0 => simp
  | 1 => simp
  | 2 => simp
  | _ + 3 => simp

def dirV (es : List E) (A : ByteArray → Nat) (s : ByteArray) : Value := if dirC es s = 0 then (atE es A s).1 else zeroN

theorem dirC_dir {es : List E} {s : ByteArray} (h : dirE es s = true) : dirC es s = 0 := by
  unfold dirC
  by_cases hr : isRoot s = true
  · rw [getE_root hr]; rfl
  · have hr' : isRoot s = false := by simpa using hr
    rw [getE_look hr']
    rcases dir_look h with e | ⟨e, h1, h2⟩
    · exact absurd ((isRoot_iff s).2 e) hr
    · rw [h1]
      simp [h2]
theorem dirC_zero {es : List E} {s : ByteArray} (h : dirC es s = 0) : dirE es s = true := by
  unfold dirC at h
  by_cases hr : isRoot s = true
  · exact look_dir (.inl ((isRoot_iff s).1 hr))
  · have hr' : isRoot s = false := by simpa using hr
    rw [getE_look hr'] at h
    cases hl : lookE es s with
    | none => rw [hl] at h; simp at h
    | some e =>
      rw [hl] at h
      refine look_dir (.inr ⟨e, hl, ?_⟩)
      cases hd : e.d with
      | true => rfl
      | false => simp [hd] at h
theorem atE_dir {es : List E} {A : ByteArray → Nat} {s : ByteArray} (h : dirE es s = true) : ∃ x, atE es A s = (.agg #[.bool true, .string x, .map (some (A s))], true) := by
  unfold atE
  by_cases hr : isRoot s = true
  · rw [if_pos hr]
    have := (isRoot_iff s).1 hr
    exact ⟨⟨#[]⟩, by rw [this]⟩
  · rw [if_neg hr]
    rcases dir_look h with e | ⟨e, h1, h2⟩
    · exact absurd ((isRoot_iff s).2 e) hr
    · rw [h1]
      exact ⟨e.x, by show (nodeV e (A s), true) = _; unfold nodeV; rw [h2]; rfl⟩

set_option maxHeartbeats 1000000 in
set_option maxRecDepth 100000 in
theorem dirAt_any (w : World) (base N : Nat) (es : List E) (A : ByteArray → Nat) (ae : Int → Addr) (T : TrE es) (R : Rep w base N es A) (hE : Errs2 w ae) (s : ByteArray) (hs : s.size ≤ 4611686018427387904) :
    Calls Tryd.prog 69 #[treeV A, .string s] w fun e w' => e = .returned (.tuple #[dirV es A s, errV ae (dirC es s)]) ∧ Below w.heap.size w w' := by
  have HA := hid (fun (W : World) (hW : Rep W base N es A) => at_any W base N es A T hW s hs)
  have W0 : Below w.heap.size w ((w.alloc (.cells #[.bool true, .string ⟨#[]⟩, .map (some (A ⟨#[47]⟩))] 79)).alloc (.cells #[.bool false, .string ⟨#[]⟩, .map none] 77)) := ((Below.refl _ w).alloc (Nat.le_refl _) _).alloc (by simp) _
  have q1 : ¬ 2 = w.heap.size + 1 := by have := cell_lt hE.noneC; omega
  have q2 : ¬ 3 = w.heap.size + 1 := by have := cell_lt hE.fileC; omega
  simp at q1 q2
  have HR := hid (R.below W0)
  have HEr := hid (hE.below W0)
  clear hE R
  by_cases hd : dirE es s = true
  · obtain ⟨x, hx⟩ := atE_dir (A := A) hd
    have hv : dirV es A s = .agg #[.bool true, .string x, .map (some (A s))] := by unfold dirV; rw [dirC_dir hd, if_pos rfl, hx]
    rw [hv, dirC_dir hd]
    rw [hx] at HA
    go_enter Tryd.func69, Tryd.ntmps69
    go_wp2_with (first | (go_at_call 82; refine (HA.out _ HR.out).mono ?_; rintro e w1 ⟨rfl, hB1⟩; obtain ⟨⟨k0, k1, k2⟩, a0, a1, a2, b0, b1, b2⟩ := boxOn (b := w.heap.size + 1) (p := .bool false) (q := .string ⟨#[]⟩) (r := .map none) hB1 (by simp) (box3in w _ _ _ _ _); have HE2 := HEr.out.below hB1; have n2 := HE2.noneC; have n3 := HE2.fileC; have n2' := fun o => cellOn o n2; have n3' := fun o => cellOn o n3) | fail)
    have hBw : Below w.heap.size w w1 := W0.trans (hB1.mono (by simp; omega))
    refine atSet3 (C := bodyPost Tryd.prog Tryd.f69 _ _ _) (a0 _) (a1 _) (a2 _) (hBw.alloc hBw.size _) (Nat.le_succ _) ?_
    intro Wf s0 s1 s2 hBf
    exact bodyPost_ret (v := .tuple #[.agg #[.bool true, .string x, .map (some (A s))], .nilIface]) (by simp [results, Tryd.results69, go_sem, s0, s1, s2]) rfl ⟨by unfold errV; rfl, hBf⟩
  · have hd' : dirE es s = false := by simpa using hd
    have hr : isRoot s = false := by
      rw [dirE_look, Bool.or_eq_false_iff] at hd'; exact hd'.1
    cases hl : lookE es s with
    | none =>
      have hc : dirC es s = 2 := by unfold dirC; rw [getE_look hr, hl]; rfl
      have hx : atE es A s = (zeroN, false) := by unfold atE; rw [hr, hl]; rfl
      have hv : dirV es A s = zeroN := by unfold dirV; rw [hc]; rfl
      rw [hv, hc]
      rw [hx] at HA
      go_enter Tryd.func69, Tryd.ntmps69
      go_wp2_with (first | (go_at_call 82; refine (HA.out _ HR.out).mono ?_; rintro e w1 ⟨rfl, hB1⟩; obtain ⟨⟨k0, k1, k2⟩, a0, a1, a2, b0, b1, b2⟩ := boxOn (b := w.heap.size + 1) (p := .bool false) (q := .string ⟨#[]⟩) (r := .map none) hB1 (by simp) (box3in w _ _ _ _ _); have HE2 := HEr.out.below hB1; have n2 := HE2.noneC; have n3 := HE2.fileC; have n2' := fun o => cellOn o n2; have n3' := fun o => cellOn o n3) | fail)
      have hBw : Below w.heap.size w w1 := W0.trans (hB1.mono (by simp; omega))
      go_region
      go_wp2
      refine atSet3 (C := fun X => bodyPost Tryd.prog Tryd.f69 _ _ _ X.drew) (a0 _) (a1 _) (a2 _) (hBw.alloc hBw.size _) (Nat.le_succ _) ?_
      intro Wf s0 s1 s2 hBf
      exact bodyPost_ret (v := .tuple #[zeroN, .iface 146 (.pointer (some (ae 2)))]) (by simp [results, Tryd.results69, go_sem, s0, s1, s2]) rfl ⟨by unfold errV; rfl, hBf.drew⟩
    | some f =>
      have hd2 : f.d = false := by
        rw [dirE_look, hl, Bool.or_eq_false_iff] at hd'; exact hd'.2
      have hc : dirC es s = 3 := by unfold dirC; rw [getE_look hr, hl]; simp [hd2]
      have hx : atE es A s = (.agg #[.bool false, .string f.x, .map none], true) := by unfold atE; rw [hr, hl]; show (nodeV f (A s), true) = _; unfold nodeV; rw [hd2]; rfl
      have hv : dirV es A s = zeroN := by unfold dirV; rw [hc]; rfl
      rw [hv, hc]
      rw [hx] at HA
      go_enter Tryd.func69, Tryd.ntmps69
      go_wp2_with (first | (go_at_call 82; refine (HA.out _ HR.out).mono ?_; rintro e w1 ⟨rfl, hB1⟩; obtain ⟨⟨k0, k1, k2⟩, a0, a1, a2, b0, b1, b2⟩ := boxOn (b := w.heap.size + 1) (p := .bool false) (q := .string ⟨#[]⟩) (r := .map none) hB1 (by simp) (box3in w _ _ _ _ _); have HE2 := HEr.out.below hB1; have n2 := HE2.noneC; have n3 := HE2.fileC; have n2' := fun o => cellOn o n2; have n3' := fun o => cellOn o n3) | fail)
      have hBw : Below w.heap.size w w1 := W0.trans (hB1.mono (by simp; omega))
      go_region
      go_wp2
      refine atSet3 (C := fun X => bodyPost Tryd.prog Tryd.f69 _ _ _ X.drew) (a0 _) (a1 _) (a2 _) (hBw.alloc hBw.size _) (Nat.le_succ _) ?_
      intro Wf s0 s1 s2 hBf
      exact bodyPost_ret (v := .tuple #[zeroN, .iface 146 (.pointer (some (ae 3)))]) (by simp [results, Tryd.results69, go_sem, s0, s1, s2]) rfl ⟨by unfold errV; rfl, hBf.drew⟩
end Go.Proofs.YtmfjdafkgkjidaaDoor
