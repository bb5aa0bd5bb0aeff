/-
  What the walks of the deeds have in common.
-/
import Derived.Test.YtkjpmngohocmlaaGreatDoorHPk10
import Derived.Test.YtkjpmngohocmlaaGreatDoorHPk02
import Derived.Test.YtkjpmngohocmlaaGreatDoorHPk16
import Derived.Test.YtkjpmngohocmlaaGreatDoorHCodeI
import Derived.Test.YtkjpmngohocmlaaGreatDoorHPk06
namespace Go.Proofs.YtkjpmngohocmlaaGreatDoor
open Go.RowKit Go.Shelf Go.Lib

/-- The two boxes of a deed: what is done, and the tree. -/
structure DoBox (W : World) (b : Nat) (A : ByteArray → Nat) (k : Int) (p t x : ByteArray) : Prop where
  o0 : W.cell? ⟨b, 0, none⟩ = some (.int .i64 k)
  o1 : W.cell? ⟨b, 1, none⟩ = some (.string p)
  o2 : W.cell? ⟨b, 2, none⟩ = some (.string t)
  o3 : W.cell? ⟨b, 3, none⟩ = some (.string x)
  t0 : W.cell? ⟨b + 1, 0, none⟩ = some (.bool true)
  t1 : W.cell? ⟨b + 1, 1, none⟩ = some (.string ⟨#[]⟩)
  t2 : W.cell? ⟨b + 1, 2, none⟩ = some (.map (some (A ⟨#[47]⟩)))
theorem DoBox.below {W W' : World} {b : Nat} {A : ByteArray → Nat} {k : Int} {p t x : ByteArray} (h : DoBox W b A k p t x) (hB : Below W.heap.size W W') : DoBox W' b A k p t x :=
  ⟨below_cell hB h.o0, below_cell hB h.o1, below_cell hB h.o2, below_cell hB h.o3, below_cell hB h.t0, below_cell hB h.t1, below_cell hB h.t2⟩
theorem Rep.more {w : World} {base N : Nat} {es : List E} {A : ByteArray → Nat} (h : Rep w base N es A) : Rep w base (N + 1) es A :=
  ⟨fun p hp => (h.kids p hp).mono (Nat.le_succ N), h.low, h.apart⟩

/-- An entry is put: what is left. -/
theorem put_fin {w V V' : World} {base N a : Nat} {es : List E} {A : ByteArray → Nat} {e : E} (T : TrE es) (R : Rep V base N es A) (hV : Turn base w V) (hp : pathB e.p = true) (hup : dirE es (upS e.p) = true) (hold : dirE es e.p = false)
    (hm : MapIs V' (A (upS e.p)) (N + 1) (fun t => if t = nmS e.p then some (nodeV e a) else kidF es A (upS e.p) t)) (ht : V.mapTurned V' (A (upS e.p)))
    (hd : e.d = true → MapIs V a 0 (fun _ => none) ∧ base ≤ a ∧ ∀ p, dirE es p = true → A p ≠ a) :
    Turn base w V' ∧ ∃ A', A' ⟨#[47]⟩ = A ⟨#[47]⟩ ∧ Rep V' base (N + 1) (putE es e) A' := by
  have hroot : e.p ≠ ⟨#[47]⟩ := fun q => by rw [q, root_no_path] at hp; cases hp
  refine ⟨hV.trans (Turn.of_map ht (R.low _ hup)), _, ?_, R.put T hp hup hold (put_look T.sort e) hm (fun p hpd hne => ?_) (fun h => ?_)⟩
  · rw [if_neg (fun q => hroot q.symm)]
  · exact ht.grown.block _ (R.kids p hpd).lt (fun q => hne (R.apart _ _ hpd hup (Option.some.inj q)))
  · obtain ⟨h1, h2, h3⟩ := hd h
    exact ⟨h1.kept (ht.grown.block _ h1.lt (fun q => h3 _ hup (Option.some.inj q).symm)), h2, h3⟩
/-- Something is taken out: what is left. -/
theorem off_fin {w V V' : World} {base N : Nat} {es : List E} {A : ByteArray → Nat} {s : ByteArray} (T : TrE es) (R : Rep V base N es A) (hV : Turn base w V) (hp : pathB s = true) (hup : dirE es (upS s) = true)
    (hm : MapIs V' (A (upS s)) N (fun t => if t = nmS s then none else kidF es A (upS s) t)) (ht : V.mapTurned V' (A (upS s))) :
    Turn base w V' ∧ Rep V' base N (offE es s) A :=
  ⟨hV.trans (Turn.of_map ht (R.low _ hup)), R.off T hp hm (fun p hpd hne => ht.grown.block _ (R.kids p hpd).lt (fun q => hne (R.apart _ _ hpd hup (Option.some.inj q))))⟩
theorem name_len {p : ByteArray} (h : pathB p = true) : (nmS p).size ≤ maxLen := by
  have := (up_facts h).2.2.1
  unfold nameB at this
  rw [Bool.and_eq_true] at this
  have := (of_decide_eq_true this.1).2
  unfold maxLen; omega

/-! ### The codes -/
theorem newC_up {es : List E} {p : ByteArray} (h : dirC es (upS p) ≠ 0) : newC es p = dirC es (upS p) := by
  have hu : upC es p = dirC es (upS p) := rfl
  unfold newC; rw [hu, if_pos h]
theorem newC_there {es : List E} {p : ByteArray} (h : dirE es (upS p) = true) (hp : pathB p = true) {f : E} (hl : lookE es p = some f) : newC es p = 4 := by
  have hu : upC es p = 0 := dirC_dir h
  unfold newC; rw [hu, if_neg (by simp), getE_look (root_not_path hp), hl]; rfl
theorem newC_none {es : List E} {p : ByteArray} (h : dirE es (upS p) = true) (hp : pathB p = true) (hl : lookE es p = none) : newC es p = if 16 ≤ es.length then 8 else 0 := by
  have hu : upC es p = 0 := dirC_dir h
  unfold newC; rw [hu, if_neg (by simp), getE_look (root_not_path hp), hl]; rfl
theorem dirC_in {es : List E} {s : ByteArray} (h : dirC es s ≠ 0) : dirC es s = 2 ∨ dirC es s = 3 := by
  unfold dirC at h ⊢
  split
  · exact .inl rfl
  · rename_i h1
    rw [if_neg h1] at h
    split
    · exact .inr rfl
    · rename_i h2; rw [if_neg h2] at h; exact absurd rfl h
theorem putC_up {es : List E} {p : ByteArray} (h : dirC es (upS p) ≠ 0) : putC es p = dirC es (upS p) := by
  unfold putC
  rw [newC_up h, if_neg (by rcases dirC_in h with e | e <;> rw [e] <;> decide)]
theorem putC_there {es : List E} {p : ByteArray} (h : dirE es (upS p) = true) (hp : pathB p = true) {f : E} (hl : lookE es p = some f) : putC es p = if f.d = true then 5 else 0 := by
  unfold putC
  rw [newC_there h hp hl, if_pos rfl, getE_look (root_not_path hp), hl]; rfl
theorem putC_none {es : List E} {p : ByteArray} (h : dirE es (upS p) = true) (hp : pathB p = true) (hl : lookE es p = none) : putC es p = if 16 ≤ es.length then 8 else 0 := by
  unfold putC
  rw [newC_none h hp hl]
  by_cases h16 : 16 ≤ es.length
  · rw [if_pos h16, if_neg (by decide)]
  · rw [if_neg h16, if_neg (by decide)]
theorem errV_no {ae : Int → Addr} {c : Int} (h : c ≠ 0) : errV ae c = .iface 210 (.pointer (some (ae c))) := by unfold errV; rw [if_neg h]
theorem atE_some {es : List E} {A : ByteArray → Nat} {s : ByteArray} (hp : pathB s = true) {f : E} (hl : lookE es s = some f) : atE es A s = (.agg #[.bool f.d, .string f.x, .map (optV f.d (A s))], true) := by
  unfold atE; rw [root_not_path hp, hl]; rfl
theorem atE_none {es : List E} {A : ByteArray → Nat} {s : ByteArray} (hp : pathB s = true) (hl : lookE es s = none) : atE es A s = (zeroN, false) := by
  unfold atE; rw [root_not_path hp, hl]; rfl
end Go.Proofs.YtkjpmngohocmlaaGreatDoor
