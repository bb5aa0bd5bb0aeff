/-
  Plain facts on what is made of a layer when a mark is put into it.
-/
import Derived.Test.YtkjpmngohocmlaaGreatDoorHPk00
import Derived.Test.YtkjpmngohocmlaaGreatDoorHPk05
namespace Go.Proofs.YtkjpmngohocmlaaGreatDoor.Mk
open Go.Lib

theorem look_iffM {es : List E} (h : es.Pairwise (fun a b => less a.p b.p)) (s : ByteArray) (e : E) : lookE es s = some e ↔ e ∈ es ∧ e.p = s :=
  ⟨look_mem, fun ⟨h1, h2⟩ => by rw [← h2]; exact look_self h h1⟩
theorem look_extM {es fs : List E} (h : es.Pairwise (fun a b => less a.p b.p)) (k : fs.Pairwise (fun a b => less a.p b.p)) (hl : ∀ e, e ∈ es ↔ e ∈ fs) : es = fs :=
  rising_ext (r := fun a b : E => less a.p b.p) (fun a => less_irrefl a.p) (fun h k => less_trans h k) es fs h k hl
abbrev Rise (es : List E) : Prop := es.Pairwise (fun a b => less a.p b.p)
theorem ltP_iff {e x : E} : ltP e x = true ↔ less x.p e.p := Iff.rfl
theorem put_cons_lt {e x : E} {r : List E} (h : less x.p e.p) : putE (x :: r) e = x :: putE r e := by
  have h' : ltP e x = true := h
  unfold putE; simp [h']
theorem put_cons_eq {e x : E} {r : List E} (h : x.p = e.p) : putE (x :: r) e = e :: r := by
  have h' : ltP e x = false := by
    cases hl : ltP e x with
    | false => rfl
    | true => have := ltP_iff.1 hl; rw [h] at this; exact absurd this (less_irrefl _)
  unfold putE; simp [h', restE, h]
theorem put_cons_gt {e x : E} {r : List E} (h : less e.p x.p) : putE (x :: r) e = e :: x :: r := by
  have h' : ltP e x = false := by
    cases hl : ltP e x with
    | false => rfl
    | true => exact absurd (less_trans (ltP_iff.1 hl) h) (less_irrefl _)
  have h2 : ¬ x.p.toList = e.p.toList := fun k => by rw [toList_inj k] at h; exact less_irrefl _ h
  unfold putE; simp [h', restE, h2]
theorem put_facts (e : E) : ∀ es : List E, Rise es → Rise (putE es e) ∧ ∀ f, f ∈ putE es e ↔ f = e ∨ (f ∈ es ∧ f.p ≠ e.p)
  | [], _ => ⟨by simp [putE, restE, Rise], fun f => by simp [putE, restE]⟩
  | x :: r, h => by
    obtain ⟨h1, h2⟩ := List.pairwise_cons.1 h
    by_cases hx : x.p = e.p
    · rw [put_cons_eq hx]
      refine ⟨List.pairwise_cons.2 ⟨fun f hf => by rw [← hx]; exact h1 f hf, h2⟩, fun f => ?_⟩
      rw [List.mem_cons, List.mem_cons]
      constructor
      · rintro (k | k)
        · exact .inl k
        · exact .inr ⟨.inr k, fun q => by have := h1 f k; rw [hx, q] at this; exact less_irrefl _ this⟩
      · rintro (k | ⟨k | k, q⟩)
        · exact .inl k
        · rw [k] at q; exact absurd hx q
        · exact .inr k
    · rcases less_or hx with hl | hl
      · rw [put_cons_lt hl]
        obtain ⟨i1, i2⟩ := put_facts e r h2
        refine ⟨List.pairwise_cons.2 ⟨fun f hf => ?_, i1⟩, fun f => ?_⟩
        · rcases (i2 f).1 hf with k | ⟨k, _⟩
          · rw [k]; exact hl
          · exact h1 f k
        · rw [List.mem_cons, List.mem_cons, i2 f]
          constructor
          · rintro (k | k | ⟨k, q⟩)
            · exact .inr ⟨.inl k, by rw [k]; exact hx⟩
            · exact .inl k
            · exact .inr ⟨.inr k, q⟩
          · rintro (k | ⟨k | k, q⟩)
            · exact .inr (.inl k)
            · exact .inl k
            · exact .inr (.inr ⟨k, q⟩)
      · rw [put_cons_gt hl]
        refine ⟨List.pairwise_cons.2 ⟨fun f hf => ?_, h⟩, fun f => ?_⟩
        · rcases List.mem_cons.1 hf with k | k
          · rw [k]; exact hl
          · exact less_trans hl (h1 f k)
        · rw [List.mem_cons]
          constructor
          · rintro (k | k)
            · exact .inl k
            · refine .inr ⟨k, fun q => ?_⟩
              rcases List.mem_cons.1 k with m | m
              · rw [m] at q; exact hx q
              · have := less_trans hl (h1 f m); rw [q] at this; exact less_irrefl _ this
          · rintro (k | ⟨k, _⟩)
            · exact .inl k
            · exact .inr k
theorem put_rise {es : List E} (h : Rise es) (e : E) : Rise (putE es e) := (put_facts e es h).1
theorem put_memQ {es : List E} (h : Rise es) (e f : E) : f ∈ putE es e ↔ f = e ∨ (f ∈ es ∧ f.p ≠ e.p) := (put_facts e es h).2 f
theorem put_look {es : List E} (h : Rise es) (e : E) (s : ByteArray) : lookE (putE es e) s = if s = e.p then some e else lookE es s := by
  by_cases hs : s = e.p
  · rw [if_pos hs, look_iffM (put_rise h e), put_memQ h]; exact ⟨.inl rfl, hs.symm⟩
  · rw [if_neg hs]
    cases hl : lookE es s with
    | none =>
      rw [look_none] at hl ⊢
      intro f hf q
      rcases (put_memQ h e f).1 hf with k | ⟨k, _⟩
      · rw [k] at q; exact hs q.symm
      · exact hl f k q
    | some f =>
      rw [look_iffM (put_rise h e), put_memQ h]
      obtain ⟨h1, h2⟩ := look_mem hl
      exact ⟨.inr ⟨h1, by rw [h2]; exact hs⟩, h2⟩

theorem put_lenQ (es : List E) (e : E) : (putE es e).length ≤ es.length + 1 := by
  have h1 := rest_len e (es.dropWhile (ltP e))
  have h2 : (es.takeWhile (ltP e)).length + (es.dropWhile (ltP e)).length = es.length := by rw [← List.length_append, List.takeWhile_append_dropWhile]
  unfold putE
  simp only [List.length_append, List.length_singleton]
  omega
/-- A mark is put where there is none and its upper one is there. -/
theorem tr_put {es : List E} {e : E} (T : TrM es) (hp : pathB e.p = true) (hk : 1 ≤ e.d ∧ e.d ≤ 4) (hu : upS e.p = ⟨#[47]⟩ ∨ ∃ f, lookE es (upS e.p) = some f ∧ dirK f.d = true) (hold : ∀ f, lookE es e.p = some f → dirK f.d = true → dirK e.d = true) : TrM (putE es e) where
  path f hf := by
    rcases (put_memQ T.sort e f).1 hf with h | ⟨h, _⟩
    · rw [h]; exact hp
    · exact T.path f h
  sort := put_rise T.sort e
  up f hf := by
    have key : ∀ s, (s = ⟨#[47]⟩ ∨ ∃ f, lookE es s = some f ∧ dirK f.d = true) → (s = ⟨#[47]⟩ ∨ ∃ f, lookE (putE es e) s = some f ∧ dirK f.d = true) := fun s h =>
      h.imp id fun ⟨f, h1, h2⟩ => by
        by_cases q : s = e.p
        · exact ⟨e, by rw [put_look T.sort, if_pos q], hold f (by rw [← q]; exact h1) h2⟩
        · exact ⟨f, by rw [put_look T.sort, if_neg q]; exact h1, h2⟩
    rcases (put_memQ T.sort e f).1 hf with h | ⟨h, _⟩
    · rw [h]; exact key _ hu
    · exact key _ (T.up f h)
  kind f hf := by
    rcases (put_memQ T.sort e f).1 hf with h | ⟨h, _⟩
    · rw [h]; exact hk
    · exact T.kind f h
theorem put_app {es : List E} {e : E} (h : Rise es) (hl : lookE es e.p = none) (s : ByteArray) : lookE (es ++ [e]) s = lookE (putE es e) s := by
  rw [put_look h, look_append]
  by_cases q : s = e.p
  · rw [if_pos q, q, hl]
    show lookE [e] e.p = some e
    unfold lookE; rw [List.find?_cons_of_pos (by simp)]
  · rw [if_neg q]
    have : lookE [e] s = none := look_none.2 fun f hf => by rw [List.mem_singleton.1 hf]; exact fun h => q h.symm
    rw [this]; cases lookE es s <;> rfl
end Go.Proofs.YtkjpmngohocmlaaGreatDoor.Mk
