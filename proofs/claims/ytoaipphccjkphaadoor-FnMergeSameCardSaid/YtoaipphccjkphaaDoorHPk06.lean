import Derived.Maps.OwnSet
import Derived.KernelRfl
import Derived.Below
import Derived.Test.YtoaipphccjkphaaDoorProg
import Derived.Test.YtoaipphccjkphaaDoorHPk05
namespace Go.Proofs.YtoaipphccjkphaaDoor
open Go.RowKit Go.Lib Go.Maps Go.WideMaps
def selfR (v : Value) : Option (DataW Value × List MemPlace) := some (.held v, [])
theorem keyLaw : Keyed Tryd.prog 9 := string_keyed Tryd.underlying9
def optV (d : Bool) (a : Nat) : Option Nat := if d = true then some a else none
theorem optV_dir (a : Nat) : optV true a = some a := rfl
theorem optV_file (a : Nat) : optV false a = none := rfl
def nodeV (e : E) (a : Nat) : Value := .agg #[.bool e.d, .string e.x, .map (optV e.d a)]
abbrev zeroN : Value := .agg #[.bool false, .string ⟨#[]⟩, .map none]
theorem zeroNode (w : World) : (zeroValue 62).run Tryd.prog w = .ok zeroN w := by kernel_rfl
theorem held_inj {v u : Value} {ps : List MemPlace} (h : selfR v = some (.held u, ps)) : v = u := DataW.held.inj (Prod.mk.inj (Option.some.inj h)).1
theorem isKey (s : List UInt8) : WideAt.IsKeyLit (.string s) := trivial
def MapIs (w : World) (b N : Nat) (f : ByteArray → Option Value) : Prop :=
 ∃ (D : DataW Value) (n : Nat), w.ownsMap Tryd.prog 9 selfR b n D ∧ n ≤ N ∧
  ∀ s : ByteArray, s.size ≤ maxLen → Maps.has D (.string s.data.toList) = (f s).isSome ∧ D.atKey (.string s.data.toList) (.held zeroN) = .held ((f s).getD zeroN)
theorem MapIs.lt {w : World} {b N : Nat} {f : ByteArray → Option Value} (h : MapIs w b N f) : b < w.heap.size := by
 obtain ⟨D, n, h, _⟩ := h; exact h.lt
theorem MapIs.kept {w w' : World} {b N : Nat} {f : ByteArray → Option Value} (h : MapIs w b N f) (hb : w'.heap[b]? = w.heap[b]?) : MapIs w' b N f := by
 obtain ⟨D, n, ⟨es, c, h1, h2⟩, h3⟩ := h; exact ⟨D, n, ⟨es, c, hb.trans h1, h2⟩, h3⟩
theorem MapIs.mono {w : World} {b N N' : Nat} {f : ByteArray → Option Value} (h : MapIs w b N f) (hN : N ≤ N') : MapIs w b N' f := by
 obtain ⟨D, n, h1, h2, h3⟩ := h; exact ⟨D, n, h1, by omega, h3⟩
theorem MapIs.congr {w : World} {b N : Nat} {f g : ByteArray → Option Value} (h : MapIs w b N f) (hfg : ∀ s, f s = g s) : MapIs w b N g := by
 have : f = g := funext hfg; rw [← this]; exact h
theorem MapIs.made (w : World) : MapIs (w.alloc (.map #[] 0)) w.heap.size 0 (fun _ => none) :=
 ⟨.map [], 0, World.ownsMap_made _ _ _ _, Nat.le_refl _, fun _ _ => ⟨rfl, rfl⟩⟩
theorem MapIs.look {w : World} {b N : Nat} {f : ByteArray → Option Value} (h : MapIs w b N f) {s : ByteArray} (hs : s.size ≤ maxLen) :
  (Instr.lookup 60 (.map (some b)) (.string s) true).run Tryd.prog w = .ok (.tuple #[(f s).getD zeroN, .bool (f s).isSome]) w := by
 obtain ⟨D, n, h1, _, h3⟩ := h; obtain ⟨v, ps, hrun, hv⟩ := h1.look_ok keyLaw Tryd.underlying60 (zeroNode w) (zd := .held zeroN) (zp := []) rfl (keyOf_string_mk Tryd.underlying9 hs); obtain ⟨e1, e2⟩ := h3 s hs; rw [e2] at hv; have hv := held_inj hv; rw [hrun, hv, e1]
theorem look_no (w : World) {s : ByteArray} (hs : s.size ≤ maxLen) :
  (Instr.lookup 60 (.map none) (.string s) true).run Tryd.prog w = .ok (.tuple #[zeroN, .bool false]) w := by
 rw [Maps.look_nil true keyLaw Tryd.underlying60 (zeroNode w) (keyOf_string_mk Tryd.underlying9 hs)]; rfl
theorem MapIs.store {w : World} {b N : Nat} {f : ByteArray → Option Value} (h : MapIs w b N f) (hN : N < maxLen) {s : ByteArray} (hs : s.size ≤ maxLen) (v : Value) :
  ∃ w', (Instr.mapUpdate 60 (.map (some b)) (.string s) v).run Tryd.prog w = .ok () w' ∧ MapIs w' b (N + 1) (fun t => if t = s then some v else f t) ∧ w.mapTurned w' b := by
 obtain ⟨D, n, h1, h2, h3⟩ := h; obtain ⟨w', hrun, h4, h5⟩ := h1.store keyLaw Tryd.underlying60 (by omega) (keyOf_string_mk Tryd.underlying9 hs) (val := v) (d := .held v) (ps := []) rfl; refine ⟨w', hrun, ⟨_, _, h4, by omega, fun t ht => ?_⟩, h5⟩; by_cases e : t = s
 ·
  subst e; dsimp only; rw [if_pos rfl]; exact ⟨has_put_same h1.isMap (isKey _) _, atKey_put_same h1.isMap (isKey _) _ _⟩
 ·
  dsimp only; rw [if_neg e]; have hne : Lit.string t.data.toList ≠ Lit.string s.data.toList := fun q => e (L_inj (by injection q)); obtain ⟨e1, e2⟩ := h3 t ht; exact ⟨(has_put_other hne _).trans e1, (atKey_put_other hne _ _).trans e2⟩
def kidF (es : List E) (A : ByteArray → Nat) (p n : ByteArray) : Option Value := if nameB n = true then (lookE es (joinI p n)).map (fun e => nodeV e (A (joinI p n))) else none
structure Rep (w : World) (base N : Nat) (es : List E) (A : ByteArray → Nat) : Prop where
 kids : ∀ p, dirE es p = true → MapIs w (A p) N (kidF es A p)
 low : ∀ p, dirE es p = true → base ≤ A p
 apart : ∀ p q, dirE es p = true → dirE es q = true → A p = A q → p = q
abbrev treeV (A : ByteArray → Nat) : Value := .agg #[.bool true, .string ⟨#[]⟩, .map (some (A ⟨#[47]⟩))]
theorem Rep.keep {w w' : World} {base N : Nat} {es : List E} {A : ByteArray → Nat} (h : Rep w base N es A) (hb : ∀ b, b < w.heap.size → (∃ o c, w.heap[b]? = some (.map o c)) → w'.heap[b]? = w.heap[b]?) : Rep w' base N es A where
 kids p hp := (h.kids p hp).kept (hb _ (h.kids p hp).lt (by obtain ⟨D, n, ⟨es, c, h1, _⟩, _⟩ := h.kids p hp; exact ⟨es, c, h1⟩))
 low := h.low
 apart := h.apart
theorem Rep.below {w w' : World} {base N : Nat} {es : List E} {A : ByteArray → Nat} (h : Rep w base N es A) (hb : Below w.heap.size w w') : Rep w' base N es A :=
 h.keep fun b hl _ => hb.block b hl
structure Turn (base : Nat) (w w' : World) : Prop where
 below : Below base w w'
 cells : ∀ (k : Nat) (o : Obj), w.heap[k]? = some o → (∀ es c, o ≠ Obj.map es c) → w'.heap[k]? = some o
theorem Turn.refl (base : Nat) (w : World) : Turn base w w := ⟨Below.refl _ _, fun _ _ h _ => h⟩
theorem Turn.trans {base : Nat} {a b c : World} (h : Turn base a b) (k : Turn base b c) : Turn base a c := ⟨h.below.trans k.below, fun i o h1 h2 => k.cells i o (h.cells i o h1 h2) h2⟩
theorem Turn.of_below {base : Nat} {w w' : World} (h : Below w.heap.size w w') (hb : base ≤ w.heap.size) : Turn base w w' :=
 ⟨h.mono hb, fun k _ h1 _ => (h.block k (Array.getElem?_eq_some_iff.1 h1).1).trans h1⟩
theorem Turn.of_map {base b : Nat} {w w' : World} (h : w.mapTurned w' b) (hb : base ≤ b) : Turn base w w' := by
 have g := h.grown; refine ⟨⟨g.os, g.tape, g.output, g.size, fun k hk => ?_⟩, fun k o h1 h2 => ?_⟩
 ·
  by_cases hl : k < w.heap.size
  ·
   exact g.block k hl (by simp; omega)
  ·
   obtain ⟨es, c, es', c', h1, rfl⟩ := h; have := (Array.getElem?_eq_some_iff.1 h1).1; omega
 ·
  have hl := (Array.getElem?_eq_some_iff.1 h1).1; rw [← h1]; refine g.block k hl ?_; intro e; obtain ⟨es, c, _, _, h3, _⟩ := h; cases e; rw [h1] at h3; exact h2 es c (Option.some.inj h3)
theorem cell_nomap {w : World} {k o : Nat} {v : Value} (h : w.cell? ⟨k, o, none⟩ = some v) : ∃ x : Obj, w.heap[k]? = some x ∧ ∀ es c, x ≠ Obj.map es c := by
 cases hx : w.heap[k]? with
 | none => simp [World.cell?, hx] at h
 | some x =>
  refine ⟨x, rfl, fun es c e => ?_⟩; subst e; simp [World.cell?, hx] at h
theorem Turn.cell {base : Nat} {w w' : World} (t : Turn base w w') {k o : Nat} {v : Value} (h : w.cell? ⟨k, o, none⟩ = some v) : w'.cell? ⟨k, o, none⟩ = some v := by
 obtain ⟨x, h1, h2⟩ := cell_nomap h; rw [← h]; exact World.cell?_of_block ((t.cells k x h1 h2).trans h1.symm)
theorem Turn.frozen {base : Nat} {w w' : World} (t : Turn base w w') {k o : Nat} {v : Value} (h : w.cell? ⟨k, o, none⟩ = some v) {b : Bool} (hf : w.frozen? ⟨k, o, none⟩ = b) : w'.frozen? ⟨k, o, none⟩ = b := by
 obtain ⟨x, h1, h2⟩ := cell_nomap h; rw [← hf]; exact World.frozen?_of_block ((t.cells k x h1 h2).trans h1.symm)
theorem kid_eq {p n q : ByteArray} (hp : stemOk p = true) (hn : nameB n = true) (hq : pathB q = true) : joinI p n = q ↔ p = upS q ∧ n = nmS q := by
 constructor
 ·
  intro h; have := join_up (join_ok hp hn (by rw [h]; exact hq)); rw [h] at this; exact ⟨this.1.symm, this.2.symm⟩
 ·
  rintro ⟨rfl, rfl⟩; exact up_join hq
theorem Rep.put {w w' : World} {base N a : Nat} {es es' : List E} {A : ByteArray → Nat} {e : E} (T : TrE es) (R : Rep w base N es A) (hp : pathB e.p = true) (hup : dirE es (upS e.p) = true)
  (hold : dirE es e.p = false) (hlook : ∀ s, lookE es' s = if s = e.p then some e else lookE es s)
  (hm : MapIs w' (A (upS e.p)) (N + 1) (fun t => if t = nmS e.p then some (nodeV e a) else kidF es A (upS e.p) t)) (hk : ∀ p, dirE es p = true → p ≠ upS e.p → w'.heap[A p]? = w.heap[A p]?)
  (hd : e.d = true → MapIs w' a 0 (fun _ => none) ∧ base ≤ a ∧ ∀ p, dirE es p = true → A p ≠ a) :
  Rep w' base (N + 1) es' (fun s => if s = e.p then a else A s) := by
 have hroot : e.p ≠ ⟨#[47]⟩ := fun q => by rw [q, root_no_path] at hp; cases hp
 have hdir : ∀ p, dirE es' p = true → (p = e.p ∧ e.d = true) ∨ (p ≠ e.p ∧ dirE es p = true) := fun p h => by
  rcases dir_look h with h1 | ⟨f, h1, h2⟩
  ·
   exact .inr ⟨fun q => hroot (q.symm.trans h1), look_dir (.inl h1)⟩
  ·
   rw [hlook] at h1; by_cases q : p = e.p
   ·
    rw [if_pos q] at h1; cases h1; exact .inl ⟨q, h2⟩
   ·
    rw [if_neg q] at h1; exact .inr ⟨q, look_dir (.inr ⟨f, h1, h2⟩)⟩
 have hune : upS e.p ≠ e.p := fun q => by
  have := up_size hp; rcases stemOk_is (T.dirOk hup) with h1 | h1
  ·
   rw [q] at h1; exact hroot h1
  ·
   rw [stem_path h1, q] at this; omega
 refine ⟨fun p hpd => ?_, fun p hpd => ?_, fun p q hpd hqd he => ?_⟩
 ·
  rcases hdir p hpd with ⟨rfl, h2⟩ | ⟨hne, h2⟩
  ·
   show MapIs w' (if e.p = e.p then a else A e.p) (N + 1) _
   rw [if_pos rfl]; refine ((hd h2).1.mono (Nat.zero_le _)).congr fun n => ?_; unfold kidF; by_cases hn : nameB n = true
   ·
    rw [if_pos hn]
    have : lookE es' (joinI e.p n) = none := by
     rw [hlook]
     have hne : joinI e.p n ≠ e.p := fun q => by
      have := congrArg ByteArray.size q; unfold joinI at this; rw [stem_path hp, ByteArray.size_append, ByteArray.size_append] at this; have h1 : (⟨#[47]⟩ : ByteArray).size = 1 := rfl; omega
     rw [if_neg hne]; cases hl : lookE es (joinI e.p n) with
     | none => rfl
     | some f =>
      have := look_kid T (stemOk_path hp) hn hl; rw [hold] at this; cases this
    rw [this]; rfl
   ·
    rw [if_neg hn]
  ·
   show MapIs w' (if p = e.p then a else A p) (N + 1) _
   rw [if_neg hne]; have hst := T.dirOk h2; by_cases hu : p = upS e.p
   ·
    subst hu; refine hm.congr fun n => ?_; unfold kidF; by_cases hn : nameB n = true
    ·
     rw [if_pos hn, if_pos hn, hlook]; by_cases hq : n = nmS e.p
     ·
      rw [if_pos hq, hq, up_join hp, if_pos rfl]; show some (nodeV e a) = some (nodeV e (if e.p = e.p then a else A e.p))
      rw [if_pos rfl]
     ·
      have hne2 : joinI (upS e.p) n ≠ e.p := fun q => hq ((kid_eq hst hn hp).1 q).2; rw [if_neg hq, if_neg hne2]; cases hl : lookE es (joinI (upS e.p) n) with
      | none => rfl
      | some f =>
       show some (nodeV f _) = some (nodeV f (if joinI (upS e.p) n = e.p then a else A (joinI (upS e.p) n)))
       rw [if_neg hne2]
    ·
     rw [if_neg hn, if_neg hn]; by_cases hq : n = nmS e.p
     ·
      rw [hq, (up_facts hp).2.2.1] at hn; exact absurd rfl hn
     ·
      rw [if_neg hq]
   ·
    refine (((R.kids p h2).mono (Nat.le_succ N)).kept (hk p h2 hu)).congr fun n => ?_; unfold kidF; by_cases hn : nameB n = true
    ·
     have hne2 : joinI p n ≠ e.p := fun q => hu ((kid_eq hst hn hp).1 q).1; rw [if_pos hn, if_pos hn, hlook, if_neg hne2]; cases hl : lookE es (joinI p n) with
     | none => rfl
     | some f =>
      show some (nodeV f _) = some (nodeV f (if joinI p n = e.p then a else A (joinI p n)))
      rw [if_neg hne2]
    ·
     rw [if_neg hn, if_neg hn]
 ·
  show base ≤ (if p = e.p then a else A p)
  rcases hdir p hpd with ⟨h1, h2⟩ | ⟨hne, h2⟩
  ·
   rw [if_pos h1]; exact (hd h2).2.1
  ·
   rw [if_neg hne]; exact R.low p h2
 ·
  have he' : (if p = e.p then a else A p) = (if q = e.p then a else A q) := he; rcases hdir p hpd with ⟨h1, h2⟩ | ⟨h1, h2⟩
  ·
   rcases hdir q hqd with ⟨k1, k2⟩ | ⟨k1, k2⟩
   ·
    rw [h1, k1]
   ·
    rw [if_pos h1, if_neg k1] at he'; exact absurd he'.symm ((hd h2).2.2 q k2)
  ·
   rcases hdir q hqd with ⟨k1, k2⟩ | ⟨k1, k2⟩
   ·
    rw [if_neg h1, if_pos k1] at he'; exact absurd he' ((hd k2).2.2 p h2)
   ·
    rw [if_neg h1, if_neg k1] at he'; exact R.apart p q h2 k2 he'
end Go.Proofs.YtoaipphccjkphaaDoor
