/-
  Plain facts on what is made of a list of entries: what is put in, taken out, moved; where two differ.
-/
import Derived.Test.YtnbcflbcmcjhdaaGreatDoorHPk10
namespace Go.Proofs.YtnbcflbcmcjhdaaGreatDoor

abbrev Rise (es : List E) : Prop := es.Pairwise (fun a b => less a.p b.p)
theorem ltP_iff {e x : E} : ltP e x = true ↔ less x.p e.p := Iff.rfl
theorem put_cons_lt {e x : E} {r : List E} (h : less x.p e.p) : putE (x :: r) e = x :: putE r e := by
  have h' : ltP e x = true := h
  unfold putE; simp [h']
theorem put_cons_eq {e x : E} {r : List E} (h : x.p = e.p) : putE (x :: r) e = e :: r := by
  have h' : ltP e x = false := by
    cases hl : ltP e x with
    | false => rfl
    | true => have := ltP_iff.1 hl; rw [h] at this; exact absurd this (less_irrefl _)
  unfold putE; simp [h', restE, h]
theorem put_cons_gt {e x : E} {r : List E} (h : less e.p x.p) : putE (x :: r) e = e :: x :: r := by
  have h' : ltP e x = false := by
    cases hl : ltP e x with
    | false => rfl
    | true => exact absurd (less_trans (ltP_iff.1 hl) h) (less_irrefl _)
  have h2 : ¬ x.p.toList = e.p.toList := fun k => by rw [toList_inj k] at h; exact less_irrefl _ h
  unfold putE; simp [h', restE, h2]
theorem put_facts (e : E) : ∀ es : List E, Rise es → Rise (putE es e) ∧ ∀ f, f ∈ putE es e ↔ f = e ∨ (f ∈ es ∧ f.p ≠ e.p)
  | [], _ => ⟨by simp [putE, restE, Rise], fun f => by simp [putE, restE]⟩
  | x :: r, h => by
    obtain ⟨h1, h2⟩ := List.pairwise_cons.1 h
    by_cases hx : x.p = e.p
    · rw [put_cons_eq hx]
      refine ⟨List.pairwise_cons.2 ⟨fun f hf => by rw [← hx]; exact h1 f hf, h2⟩, fun f => ?_⟩
      rw [List.mem_cons, List.mem_cons]
      constructor
      · rintro (k | k)
        · exact .inl k
        · exact .inr ⟨.inr k, fun q => by have := h1 f k; rw [hx, q] at this; exact less_irrefl _ this⟩
      · rintro (k | ⟨k | k, q⟩)
        · exact .inl k
        · rw [k] at q; exact absurd hx q
        · exact .inr k
    · rcases less_or hx with hl | hl
      · rw [put_cons_lt hl]
        obtain ⟨i1, i2⟩ := put_facts e r h2
        refine ⟨List.pairwise_cons.2 ⟨fun f hf => ?_, i1⟩, fun f => ?_⟩
        · rcases (i2 f).1 hf with k | ⟨k, _⟩
          · rw [k]; exact hl
          · exact h1 f k
        · rw [List.mem_cons, List.mem_cons, i2 f]
          constructor
          · rintro (k | k | ⟨k, q⟩)
            · exact .inr ⟨.inl k, by rw [k]; exact hx⟩
            · exact .inl k
            · exact .inr ⟨.inr k, q⟩
          · rintro (k | ⟨k | k, q⟩)
            · exact .inr (.inl k)
            · exact .inl k
            · exact .inr (.inr ⟨k, q⟩)
      · rw [put_cons_gt hl]
        refine ⟨List.pairwise_cons.2 ⟨fun f hf => ?_, h⟩, fun f => ?_⟩
        · rcases List.mem_cons.1 hf with k | k
          · rw [k]; exact hl
          · exact less_trans hl (h1 f k)
        · rw [List.mem_cons]
          constructor
          · rintro (k | k)
            · exact .inl k
            · refine .inr ⟨k, fun q => ?_⟩
              rcases List.mem_cons.1 k with m | m
              · rw [m] at q; exact hx q
              · have := less_trans hl (h1 f m); rw [q] at this; exact less_irrefl _ this
          · rintro (k | ⟨k, _⟩)
            · exact .inl k
            · exact .inr k
theorem put_rise {es : List E} (h : Rise es) (e : E) : Rise (putE es e) := (put_facts e es h).1
theorem put_mem {es : List E} (h : Rise es) (e f : E) : f ∈ putE es e ↔ f = e ∨ (f ∈ es ∧ f.p ≠ e.p) := (put_facts e es h).2 f
theorem put_look {es : List E} (h : Rise es) (e : E) (s : ByteArray) : lookE (putE es e) s = if s = e.p then some e else lookE es s := by
  by_cases hs : s = e.p
  · rw [if_pos hs, look_iff (put_rise h e), put_mem h]; exact ⟨.inl rfl, hs.symm⟩
  · rw [if_neg hs]
    cases hl : lookE es s with
    | none =>
      rw [look_none] at hl ⊢
      intro f hf q
      rcases (put_mem h e f).1 hf with k | ⟨k, _⟩
      · rw [k] at q; exact hs q.symm
      · exact hl f k q
    | some f =>
      rw [look_iff (put_rise h e), put_mem h]
      obtain ⟨h1, h2⟩ := look_mem hl
      exact ⟨.inr ⟨h1, by rw [h2]; exact hs⟩, h2⟩
theorem off_rise {es : List E} (h : Rise es) (s : ByteArray) : Rise (offE es s) := h.filter _
theorem off_mem (es : List E) (s : ByteArray) (f : E) : f ∈ offE es s ↔ f ∈ es ∧ f.p ≠ s := by
  unfold offE
  rw [List.mem_filter, beqL]
  simp
theorem off_look {es : List E} (h : Rise es) (s q : ByteArray) : lookE (offE es s) q = if q = s then none else lookE es q := by
  by_cases hq : q = s
  · rw [if_pos hq, look_none]
    intro f hf k
    exact ((off_mem es s f).1 hf).2 (k.trans hq)
  · rw [if_neg hq]
    cases hl : lookE es q with
    | none =>
      rw [look_none] at hl ⊢
      intro f hf k
      exact hl f ((off_mem es s f).1 hf).1 k
    | some f =>
      obtain ⟨h1, h2⟩ := look_mem hl
      rw [look_iff (off_rise h s), off_mem]
      exact ⟨⟨h1, by rw [h2]; exact hq⟩, h2⟩
theorem both_rise : ∀ (fs es : List E), Rise es → Rise (bothE es fs)
  | [], _, h => h
  | f :: r, es, h => both_rise r (putE es f) (put_rise h f)
theorem both_look : ∀ (fs es : List E), Rise es → Rise fs → ∀ s, lookE (bothE es fs) s = (lookE fs s).or (lookE es s)
  | [], _, _, _, _ => rfl
  | f :: r, es, h, k, s => by
    obtain ⟨k1, k2⟩ := List.pairwise_cons.1 k
    show lookE (bothE (putE es f) r) s = _
    rw [both_look r (putE es f) (put_rise h f) k2 s, put_look h f s]
    show _ = (lookE (f :: r) s).or _
    have hc : lookE (f :: r) s = if f.p = s then some f else lookE r s := by
      unfold lookE; rw [List.find?_cons]
      by_cases hf : f.p = s <;> simp [hf]
    rw [hc]
    by_cases hf : f.p = s
    · have hr : lookE r s = none := look_none.2 fun g hg q => by
        have := k1 g hg; rw [hf, q] at this; exact less_irrefl _ this
      rw [if_pos hf, if_pos hf.symm, hr]; rfl
    · rw [if_neg hf, if_neg (fun q => hf q.symm)]
/-- A path at which something is in one of the two, and not the same in both. -/
def differ (es fs : List E) (s : ByteArray) : Prop := lookE es s ≠ lookE fs s
theorem sameT1_iff (e f : E) : sameT1 e f = true ↔ e = f := by
  unfold sameT1
  rw [Bool.and_eq_true, Bool.and_eq_true, beqL, beqL, decide_eq_true_iff, decide_eq_true_iff, beq_iff_eq]
  constructor
  · rintro ⟨⟨h1, h2⟩, h3⟩
    cases e; cases f; simp_all
  · rintro rfl; exact ⟨⟨rfl, rfl⟩, rfl⟩
theorem turnB_iff {es fs : List E} {e : E} (hp : isRoot e.p = false) (hs : (lookE es e.p).isSome = true ∨ (lookE fs e.p).isSome = true) : turnB es fs e = true ↔ differ es fs e.p := by
  unfold turnB differ
  rw [getE_look hp, getE_look hp, Bool.or_eq_true, Bool.not_eq_true']
  have hst := fun a b : E => sameT1_iff a b
  cases h1 : lookE es e.p with
  | none =>
    cases h2 : lookE fs e.p with
    | none => rw [h1, h2] at hs; simp at hs
    | some f => simp
  | some g =>
    cases h2 : lookE fs e.p with
    | none => simp
    | some f =>
      simp only [Option.isSome_some, bne_self_eq_false, Bool.false_eq_true, false_or, Option.getD_some, ne_eq, Option.some.injEq]
      rw [← hst g f]; simp
theorem root_not_path {s : ByteArray} (h : pathB s = true) : isRoot s = false := by
  cases hr : isRoot s with
  | false => rfl
  | true =>
    have := (isRoot_iff s).1 hr
    rw [this, root_no_path] at h; cases h
theorem turnE_rise {es fs : List E} (T : TrE es) : (turnE es fs).Pairwise less := by
  unfold turnE
  rw [List.pairwise_map]
  exact (both_rise fs es T.sort).filter _
theorem turnE_mem {es fs : List E} (T : TrE es) (U : TrE fs) (s : ByteArray) : s ∈ turnE es fs ↔ differ es fs s := by
  have hb := both_rise fs es T.sort
  have hl := both_look fs es T.sort U.sort s
  unfold turnE
  rw [List.mem_map]
  have hpath : ∀ e : E, e ∈ bothE es fs → pathB e.p = true ∧ ((lookE es e.p).isSome = true ∨ (lookE fs e.p).isSome = true) := fun e he => by
    have h1 := look_self hb he
    rw [both_look fs es T.sort U.sort] at h1
    cases h2 : lookE fs e.p with
    | some f =>
      obtain ⟨h3, h4⟩ := look_mem h2
      exact ⟨by rw [← h4]; exact U.path f h3, .inr rfl⟩
    | none =>
      rw [h2] at h1
      obtain ⟨h3, _⟩ := look_mem (show lookE es e.p = some e from h1)
      exact ⟨T.path e h3, .inl (by rw [show lookE es e.p = some e from h1]; rfl)⟩
  constructor
  · rintro ⟨e, he, rfl⟩
    obtain ⟨h1, h2⟩ := List.mem_filter.1 he
    obtain ⟨h3, h4⟩ := hpath e h1
    exact (turnB_iff (root_not_path h3) h4).1 h2
  · intro hd
    have : ∃ e, lookE (bothE es fs) s = some e := by
      rw [hl]
      unfold differ at hd
      cases h2 : lookE fs s with
      | some f => exact ⟨f, rfl⟩
      | none =>
        rw [h2] at hd
        cases h3 : lookE es s with
        | some f => exact ⟨f, rfl⟩
        | none => exact absurd h3 hd
    obtain ⟨e, he⟩ := this
    obtain ⟨h1, h2⟩ := look_mem he
    obtain ⟨h3, h4⟩ := hpath e h1
    exact ⟨e, List.mem_filter.2 ⟨h1, (turnB_iff (root_not_path h3) h4).2 (by rw [h2]; exact hd)⟩, h2⟩
end Go.Proofs.YtnbcflbcmcjhdaaGreatDoor
