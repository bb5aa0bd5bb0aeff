/-
  What storing into a map does to the tree that it is part of.
-/
import Derived.Test.YtenlibefdefjmaaDoorHMapRep
namespace Go.Proofs.YtenlibefdefjmaaDoor
open Go.RowKit Go.Lib Go.Maps

/-- Nothing but maps from base on has turned. -/
structure Turn (base : Nat) (w w' : World) : Prop where
  below : Below base w w'
  cells : ∀ (k : Nat) (o : Obj), w.heap[k]? = some o → (∀ es c, o ≠ Obj.map es c) → w'.heap[k]? = some o
theorem Turn.refl (base : Nat) (w : World) : Turn base w w := ⟨Below.refl _ _, fun _ _ h _ => h⟩
theorem Turn.trans {base : Nat} {a b c : World} (h : Turn base a b) (k : Turn base b c) : Turn base a c := ⟨h.below.trans k.below, fun i o h1 h2 => k.cells i o (h.cells i o h1 h2) h2⟩
theorem Turn.of_below {base : Nat} {w w' : World} (h : Below w.heap.size w w') (hb : base ≤ w.heap.size) : Turn base w w' :=
  ⟨h.mono hb, fun k _ h1 _ => (h.block k (Array.getElem?_eq_some_iff.1 h1).1).trans h1⟩
theorem Turn.of_map {base b : Nat} {w w' : World} (h : w.mapTurned w' b) (hb : base ≤ b) : Turn base w w' := by
  have g := h.grown
  refine ⟨⟨g.os, g.tape, g.output, g.size, fun k hk => ?_⟩, fun k o h1 h2 => ?_⟩
  · by_cases hl : k < w.heap.size
    · exact g.block k hl (by simp; omega)
    · obtain ⟨es, c, es', c', h1, rfl⟩ := h
      have := (Array.getElem?_eq_some_iff.1 h1).1
      omega
  · have hl := (Array.getElem?_eq_some_iff.1 h1).1
    rw [← h1]
    refine g.block k hl ?_
    intro e
    obtain ⟨es, c, _, _, h3, _⟩ := h
    cases e
    rw [h1] at h3
    exact h2 es c (Option.some.inj h3)
theorem cell_nomap {w : World} {k o : Nat} {v : Value} (h : w.cell? ⟨k, o, none⟩ = some v) : ∃ x : Obj, w.heap[k]? = some x ∧ ∀ es c, x ≠ Obj.map es c := by
  cases hx : w.heap[k]? with
  | none => simp [World.cell?, hx] at h
  | some x =>
    refine ⟨x, rfl, fun es c e => ?_⟩
    subst e
    simp [World.cell?, hx] at h
theorem Turn.cell {base : Nat} {w w' : World} (t : Turn base w w') {k o : Nat} {v : Value} (h : w.cell? ⟨k, o, none⟩ = some v) : w'.cell? ⟨k, o, none⟩ = some v := by
  obtain ⟨x, h1, h2⟩ := cell_nomap h
  rw [← h]
  exact World.cell?_of_block ((t.cells k x h1 h2).trans h1.symm)
theorem Turn.frozen {base : Nat} {w w' : World} (t : Turn base w w') {k o : Nat} {v : Value} (h : w.cell? ⟨k, o, none⟩ = some v) {b : Bool} (hf : w.frozen? ⟨k, o, none⟩ = b) : w'.frozen? ⟨k, o, none⟩ = b := by
  obtain ⟨x, h1, h2⟩ := cell_nomap h
  rw [← hf]
  exact World.frozen?_of_block ((t.cells k x h1 h2).trans h1.symm)

theorem join_ne {p n : ByteArray} : joinI p n ≠ ⟨#[47]⟩ ∨ n.size = 0 := by
  by_cases h : n.size = 0
  · exact .inr h
  · left
    intro e
    have := congrArg ByteArray.size e
    unfold joinI at this
    rw [ByteArray.size_append, ByteArray.size_append] at this
    have h1 : (⟨#[47]⟩ : ByteArray).size = 1 := rfl
    omega
theorem kid_eq {p n q : ByteArray} (hp : stemOk p = true) (hn : nameB n = true) (hq : pathB q = true) : joinI p n = q ↔ p = upS q ∧ n = nmS q := by
  constructor
  · intro h
    have := join_up (join_ok hp hn (by rw [h]; exact hq))
    rw [h] at this
    exact ⟨this.1.symm, this.2.symm⟩
  · rintro ⟨rfl, rfl⟩
    exact up_join hq

/-- An entry is put in the place of nothing, or a file in the place of a file. -/
theorem Rep.put {w w' : World} {base N a : Nat} {es es' : List E} {A : ByteArray → Nat} {e : E} (T : TrE es) (R : Rep w base N es A) (hp : pathB e.p = true) (hup : dirE es (upS e.p) = true)
    (hold : dirE es e.p = false) (hlook : ∀ s, lookE es' s = if s = e.p then some e else lookE es s)
    (hm : MapIs w' (A (upS e.p)) (N + 1) (fun t => if t = nmS e.p then some (nodeV e a) else kidF es A (upS e.p) t)) (hk : ∀ p, dirE es p = true → p ≠ upS e.p → w'.heap[A p]? = w.heap[A p]?)
    (hd : e.d = true → MapIs w' a 0 (fun _ => none) ∧ base ≤ a ∧ ∀ p, dirE es p = true → A p ≠ a) :
    Rep w' base (N + 1) es' (fun s => if s = e.p then a else A s) := by
  have hroot : e.p ≠ ⟨#[47]⟩ := fun q => by rw [q, root_no_path] at hp; cases hp
  have hdir : ∀ p, dirE es' p = true → (p = e.p ∧ e.d = true) ∨ (p ≠ e.p ∧ dirE es p = true) := fun p h => by
    rcases dir_look h with h1 | ⟨f, h1, h2⟩
    · exact .inr ⟨fun q => hroot (q.symm.trans h1), look_dir (.inl h1)⟩
    · rw [hlook] at h1
      by_cases q : p = e.p
      · rw [if_pos q] at h1
        cases h1
        exact .inl ⟨q, h2⟩
      · rw [if_neg q] at h1
        exact .inr ⟨q, look_dir (.inr ⟨f, h1, h2⟩)⟩
  have hune : upS e.p ≠ e.p := fun q => by
    have := up_size hp
    rcases stemOk_is (T.dirOk hup) with h1 | h1
    · rw [q] at h1; exact hroot h1
    · rw [stem_path h1, q] at this; omega
  refine ⟨fun p hpd => ?_, fun p hpd => ?_, fun p q hpd hqd he => ?_⟩
  · rcases hdir p hpd with ⟨rfl, h2⟩ | ⟨hne, h2⟩
    · show MapIs w' (if e.p = e.p then a else A e.p) (N + 1) _
      rw [if_pos rfl]
      refine ((hd h2).1.mono (Nat.zero_le _)).congr fun n => ?_
      unfold kidF
      by_cases hn : nameB n = true
      · rw [if_pos hn]
        have : lookE es' (joinI e.p n) = none := by
          rw [hlook]
          have hne : joinI e.p n ≠ e.p := fun q => by
            have := congrArg ByteArray.size q
            unfold joinI at this
            rw [stem_path hp, ByteArray.size_append, ByteArray.size_append] at this
            have h1 : (⟨#[47]⟩ : ByteArray).size = 1 := rfl
            omega
          rw [if_neg hne]
          cases hl : lookE es (joinI e.p n) with
          | none => rfl
          | some f =>
            have := look_kid T (stemOk_path hp) hn hl
            rw [hold] at this; cases this
        rw [this]; rfl
      · rw [if_neg hn]
    · show MapIs w' (if p = e.p then a else A p) (N + 1) _
      rw [if_neg hne]
      have hst := T.dirOk h2
      by_cases hu : p = upS e.p
      · subst hu
        refine hm.congr fun n => ?_
        unfold kidF
        by_cases hn : nameB n = true
        · rw [if_pos hn, if_pos hn, hlook]
          by_cases hq : n = nmS e.p
          · rw [if_pos hq, hq, up_join hp, if_pos rfl]
            show some (nodeV e a) = some (nodeV e (if e.p = e.p then a else A e.p))
            rw [if_pos rfl]
          · have hne2 : joinI (upS e.p) n ≠ e.p := fun q => hq ((kid_eq hst hn hp).1 q).2
            rw [if_neg hq, if_neg hne2]
            cases hl : lookE es (joinI (upS e.p) n) with
            | none => rfl
            | some f =>
              show some (nodeV f _) = some (nodeV f (if joinI (upS e.p) n = e.p then a else A (joinI (upS e.p) n)))
              rw [if_neg hne2]
        · rw [if_neg hn, if_neg hn]
          by_cases hq : n = nmS e.p
          · rw [hq, (up_facts hp).2.2.1] at hn; exact absurd rfl hn
          · rw [if_neg hq]
      · refine (((R.kids p h2).mono (Nat.le_succ N)).kept (hk p h2 hu)).congr fun n => ?_
        unfold kidF
        by_cases hn : nameB n = true
        · have hne2 : joinI p n ≠ e.p := fun q => hu ((kid_eq hst hn hp).1 q).1
          rw [if_pos hn, if_pos hn, hlook, if_neg hne2]
          cases hl : lookE es (joinI p n) with
          | none => rfl
          | some f =>
            show some (nodeV f _) = some (nodeV f (if joinI p n = e.p then a else A (joinI p n)))
            rw [if_neg hne2]
        · rw [if_neg hn, if_neg hn]
  · show base ≤ (if p = e.p then a else A p)
    rcases hdir p hpd with ⟨h1, h2⟩ | ⟨hne, h2⟩
    · rw [if_pos h1]; exact (hd h2).2.1
    · rw [if_neg hne]; exact R.low p h2
  · have he' : (if p = e.p then a else A p) = (if q = e.p then a else A q) := he
    rcases hdir p hpd with ⟨h1, h2⟩ | ⟨h1, h2⟩
    · rcases hdir q hqd with ⟨k1, k2⟩ | ⟨k1, k2⟩
      · rw [h1, k1]
      · rw [if_pos h1, if_neg k1] at he'
        exact absurd he'.symm ((hd h2).2.2 q k2)
    · rcases hdir q hqd with ⟨k1, k2⟩ | ⟨k1, k2⟩
      · rw [if_neg h1, if_pos k1] at he'
        exact absurd he' ((hd k2).2.2 p h2)
      · rw [if_neg h1, if_neg k1] at he'
        exact R.apart p q h2 k2 he'
end Go.Proofs.YtenlibefdefjmaaDoor
