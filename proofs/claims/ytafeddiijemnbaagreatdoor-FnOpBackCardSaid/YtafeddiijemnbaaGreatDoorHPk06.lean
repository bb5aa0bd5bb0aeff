import Derived.Maps.OwnSet
import Derived.KernelRfl
import Derived.Below
import Derived.Test.YtafeddiijemnbaaGreatDoorProg
import Derived.Test.YtafeddiijemnbaaGreatDoorHPk05
namespace Go.Proofs.YtafeddiijemnbaaGreatDoor
open Go.RowKit Go.Lib Go.Maps Go.WideMaps
def selfR (v : Value) : Option (DataW Value × List MemPlace) := some (.held v, [])
theorem keyLaw : Keyed Tryz.prog 9 := string_keyed Tryz.underlying9
def optV (d : Bool) (a : Nat) : Option Nat := if d = true then some a else none
theorem optV_dir (a : Nat) : optV true a = some a := rfl
theorem optV_file (a : Nat) : optV false a = none := rfl
def nodeV (e : E) (a : Nat) : Value := .agg #[.bool e.d, .string e.x, .map (optV e.d a)]
abbrev zeroN : Value := .agg #[.bool false, .string ⟨#[]⟩, .map none]
theorem zeroNode (w : World) : (zeroValue 36).run Tryz.prog w = .ok zeroN w := by kernel_rfl
theorem held_inj {v u : Value} {ps : List MemPlace} (h : selfR v = some (.held u, ps)) : v = u := DataW.held.inj (Prod.mk.inj (Option.some.inj h)).1
theorem isKey (s : List UInt8) : WideAt.IsKeyLit (.string s) := trivial
def MapIs (w : World) (b N : Nat) (f : ByteArray → Option Value) : Prop :=
 ∃ (D : DataW Value) (n : Nat), w.ownsMap Tryz.prog 9 selfR b n D ∧ n ≤ N ∧
  ∀ s : ByteArray, s.size ≤ maxLen → Maps.has D (.string s.data.toList) = (f s).isSome ∧ D.atKey (.string s.data.toList) (.held zeroN) = .held ((f s).getD zeroN)
theorem MapIs.lt {w : World} {b N : Nat} {f : ByteArray → Option Value} (h : MapIs w b N f) : b < w.heap.size := by
 obtain ⟨D, n, h, _⟩ := h; exact h.lt
theorem MapIs.kept {w w' : World} {b N : Nat} {f : ByteArray → Option Value} (h : MapIs w b N f) (hb : w'.heap[b]? = w.heap[b]?) : MapIs w' b N f := by
 obtain ⟨D, n, ⟨es, c, h1, h2⟩, h3⟩ := h; exact ⟨D, n, ⟨es, c, hb.trans h1, h2⟩, h3⟩
theorem MapIs.mono {w : World} {b N N' : Nat} {f : ByteArray → Option Value} (h : MapIs w b N f) (hN : N ≤ N') : MapIs w b N' f := by
 obtain ⟨D, n, h1, h2, h3⟩ := h; exact ⟨D, n, h1, by omega, h3⟩
theorem MapIs.congr {w : World} {b N : Nat} {f g : ByteArray → Option Value} (h : MapIs w b N f) (hfg : ∀ s, f s = g s) : MapIs w b N g := by
 have : f = g := funext hfg; rw [← this]; exact h
theorem MapIs.made (w : World) : MapIs (w.alloc (.map #[] 0)) w.heap.size 0 (fun _ => none) :=
 ⟨.map [], 0, World.ownsMap_made _ _ _ _, Nat.le_refl _, fun _ _ => ⟨rfl, rfl⟩⟩
theorem MapIs.look {w : World} {b N : Nat} {f : ByteArray → Option Value} (h : MapIs w b N f) {s : ByteArray} (hs : s.size ≤ maxLen) :
  (Instr.lookup 34 (.map (some b)) (.string s) true).run Tryz.prog w = .ok (.tuple #[(f s).getD zeroN, .bool (f s).isSome]) w := by
 obtain ⟨D, n, h1, _, h3⟩ := h; obtain ⟨v, ps, hrun, hv⟩ := h1.look_ok keyLaw Tryz.underlying34 (zeroNode w) (zd := .held zeroN) (zp := []) rfl (keyOf_string_mk Tryz.underlying9 hs); obtain ⟨e1, e2⟩ := h3 s hs; rw [e2] at hv; have hv := held_inj hv; rw [hrun, hv, e1]
theorem MapIs.look1 {w : World} {b N : Nat} {f : ByteArray → Option Value} (h : MapIs w b N f) {s : ByteArray} (hs : s.size ≤ maxLen) :
  (Instr.lookup 34 (.map (some b)) (.string s) false).run Tryz.prog w = .ok ((f s).getD zeroN) w := by
 obtain ⟨D, n, h1, _, h3⟩ := h; obtain ⟨v, ps, hrun, hv⟩ := h1.lookup keyLaw Tryz.underlying34 (zeroNode w) (zd := .held zeroN) (zp := []) rfl (keyOf_string_mk Tryz.underlying9 hs); obtain ⟨e1, e2⟩ := h3 s hs; rw [e2] at hv; have hv := held_inj hv; rw [hrun, hv]
theorem look_no (w : World) {s : ByteArray} (hs : s.size ≤ maxLen) :
  (Instr.lookup 34 (.map none) (.string s) true).run Tryz.prog w = .ok (.tuple #[zeroN, .bool false]) w := by
 rw [Maps.look_nil true keyLaw Tryz.underlying34 (zeroNode w) (keyOf_string_mk Tryz.underlying9 hs)]; rfl
theorem MapIs.store {w : World} {b N : Nat} {f : ByteArray → Option Value} (h : MapIs w b N f) (hN : N < maxLen) {s : ByteArray} (hs : s.size ≤ maxLen) (v : Value) :
  ∃ w', (Instr.mapUpdate 34 (.map (some b)) (.string s) v).run Tryz.prog w = .ok () w' ∧ MapIs w' b (N + 1) (fun t => if t = s then some v else f t) ∧ w.mapTurned w' b := by
 obtain ⟨D, n, h1, h2, h3⟩ := h; obtain ⟨w', hrun, h4, h5⟩ := h1.store keyLaw Tryz.underlying34 (by omega) (keyOf_string_mk Tryz.underlying9 hs) (val := v) (d := .held v) (ps := []) rfl; refine ⟨w', hrun, ⟨_, _, h4, by omega, fun t ht => ?_⟩, h5⟩; by_cases e : t = s
 ·
  subst e; dsimp only; rw [if_pos rfl]; exact ⟨has_put_same h1.isMap (isKey _) _, atKey_put_same h1.isMap (isKey _) _ _⟩
 ·
  dsimp only; rw [if_neg e]; have hne : Lit.string t.data.toList ≠ Lit.string s.data.toList := fun q => e (L_inj (by injection q)); obtain ⟨e1, e2⟩ := h3 t ht; exact ⟨(has_put_other hne _).trans e1, (atKey_put_other hne _ _).trans e2⟩
theorem MapIs.drop {w : World} {b N : Nat} {f : ByteArray → Option Value} (h : MapIs w b N f) {s : ByteArray} (hs : s.size ≤ maxLen) (ty : TypeId) :
  ∃ w', (Builtin.delete_ #[34, 9] ty #[.map (some b), .string s]).run Tryz.prog w = .ok (.tuple #[]) w' ∧ MapIs w' b N (fun t => if t = s then none else f t) ∧ w.mapTurned w' b := by
 obtain ⟨D, n, h1, h2, h3⟩ := h; obtain ⟨w', hrun, h4, h5⟩ := h1.drop keyLaw Tryz.underlying34 (keyOf_string_mk Tryz.underlying9 hs) ty; refine ⟨w', hrun, ⟨_, _, h4, by omega, fun t ht => ?_⟩, h5⟩; by_cases e : t = s
 ·
  subst e; dsimp only; rw [if_pos rfl]; exact ⟨has_del_same, atKey_del_same _⟩
 ·
  dsimp only; rw [if_neg e]; have hne : Lit.string t.data.toList ≠ Lit.string s.data.toList := fun q => e (L_inj (by injection q)); obtain ⟨e1, e2⟩ := h3 t ht; exact ⟨(has_del_other hne).trans e1, (atKey_del_other hne _).trans e2⟩
/-! ### A tree -/
def kidF (es : List E) (A : ByteArray → Nat) (p n : ByteArray) : Option Value := if nameB n = true then (lookE es (joinI p n)).map (fun e => nodeV e (A (joinI p n))) else none
structure Rep (w : World) (base N : Nat) (es : List E) (A : ByteArray → Nat) : Prop where
 kids : ∀ p, dirE es p = true → MapIs w (A p) N (kidF es A p)
 low : ∀ p, dirE es p = true → base ≤ A p
 apart : ∀ p q, dirE es p = true → dirE es q = true → A p = A q → p = q
abbrev treeV (A : ByteArray → Nat) : Value := .agg #[.bool true, .string ⟨#[]⟩, .map (some (A ⟨#[47]⟩))]
theorem Rep.keep {w w' : World} {base N : Nat} {es : List E} {A : ByteArray → Nat} (h : Rep w base N es A) (hb : ∀ b, b < w.heap.size → (∃ o c, w.heap[b]? = some (.map o c)) → w'.heap[b]? = w.heap[b]?) : Rep w' base N es A where
 kids p hp := (h.kids p hp).kept (hb _ (h.kids p hp).lt (by obtain ⟨D, n, ⟨es, c, h1, _⟩, _⟩ := h.kids p hp; exact ⟨es, c, h1⟩))
 low := h.low
 apart := h.apart
theorem Rep.below {w w' : World} {base N : Nat} {es : List E} {A : ByteArray → Nat} (h : Rep w base N es A) (hb : Below w.heap.size w w') : Rep w' base N es A :=
 h.keep fun b hl _ => hb.block b hl
structure Turn (base : Nat) (w w' : World) : Prop where
 below : Below base w w'
 cells : ∀ (k : Nat) (o : Obj), w.heap[k]? = some o → (∀ es c, o ≠ Obj.map es c) → w'.heap[k]? = some o
theorem Turn.refl (base : Nat) (w : World) : Turn base w w := ⟨Below.refl _ _, fun _ _ h _ => h⟩
theorem Turn.trans {base : Nat} {a b c : World} (h : Turn base a b) (k : Turn base b c) : Turn base a c := ⟨h.below.trans k.below, fun i o h1 h2 => k.cells i o (h.cells i o h1 h2) h2⟩
theorem Turn.of_below {base : Nat} {w w' : World} (h : Below w.heap.size w w') (hb : base ≤ w.heap.size) : Turn base w w' :=
 ⟨h.mono hb, fun k _ h1 _ => (h.block k (Array.getElem?_eq_some_iff.1 h1).1).trans h1⟩
theorem Turn.of_map {base b : Nat} {w w' : World} (h : w.mapTurned w' b) (hb : base ≤ b) : Turn base w w' := by
 have g := h.grown; refine ⟨⟨g.os, g.tape, g.output, g.size, fun k hk => ?_⟩, fun k o h1 h2 => ?_⟩
 ·
  by_cases hl : k < w.heap.size
  ·
   exact g.block k hl (by simp; omega)
  ·
   obtain ⟨es, c, es', c', h1, rfl⟩ := h; have := (Array.getElem?_eq_some_iff.1 h1).1; omega
 ·
  have hl := (Array.getElem?_eq_some_iff.1 h1).1; rw [← h1]; refine g.block k hl ?_; intro e; obtain ⟨es, c, _, _, h3, _⟩ := h; cases e; rw [h1] at h3; exact h2 es c (Option.some.inj h3)
theorem cell_nomap {w : World} {k o : Nat} {v : Value} (h : w.cell? ⟨k, o, none⟩ = some v) : ∃ x : Obj, w.heap[k]? = some x ∧ ∀ es c, x ≠ Obj.map es c := by
 cases hx : w.heap[k]? with
 | none => simp [World.cell?, hx] at h
 | some x =>
  refine ⟨x, rfl, fun es c e => ?_⟩; subst e; simp [World.cell?, hx] at h
theorem Turn.cell {base : Nat} {w w' : World} (t : Turn base w w') {k o : Nat} {v : Value} (h : w.cell? ⟨k, o, none⟩ = some v) : w'.cell? ⟨k, o, none⟩ = some v := by
 obtain ⟨x, h1, h2⟩ := cell_nomap h; rw [← h]; exact World.cell?_of_block ((t.cells k x h1 h2).trans h1.symm)
theorem Turn.frozen {base : Nat} {w w' : World} (t : Turn base w w') {k o : Nat} {v : Value} (h : w.cell? ⟨k, o, none⟩ = some v) {b : Bool} (hf : w.frozen? ⟨k, o, none⟩ = b) : w'.frozen? ⟨k, o, none⟩ = b := by
 obtain ⟨x, h1, h2⟩ := cell_nomap h; rw [← hf]; exact World.frozen?_of_block ((t.cells k x h1 h2).trans h1.symm)
theorem kid_eq {p n q : ByteArray} (hp : stemOk p = true) (hn : nameB n = true) (hq : pathB q = true) : joinI p n = q ↔ p = upS q ∧ n = nmS q := by
 constructor
 ·
  intro h; have := join_up (join_ok hp hn (by rw [h]; exact hq)); rw [h] at this; exact ⟨this.1.symm, this.2.symm⟩
 ·
  rintro ⟨rfl, rfl⟩; exact up_join hq
theorem Rep.put {w w' : World} {base N a : Nat} {es es' : List E} {A : ByteArray → Nat} {e : E} (T : TrE es) (R : Rep w base N es A) (hp : pathB e.p = true) (hup : dirE es (upS e.p) = true)
  (hold : dirE es e.p = false) (hlook : ∀ s, lookE es' s = if s = e.p then some e else lookE es s)
  (hm : MapIs w' (A (upS e.p)) (N + 1) (fun t => if t = nmS e.p then some (nodeV e a) else kidF es A (upS e.p) t)) (hk : ∀ p, dirE es p = true → p ≠ upS e.p → w'.heap[A p]? = w.heap[A p]?)
  (hd : e.d = true → MapIs w' a 0 (fun _ => none) ∧ base ≤ a ∧ ∀ p, dirE es p = true → A p ≠ a) :
  Rep w' base (N + 1) es' (fun s => if s = e.p then a else A s) := by
 have hroot : e.p ≠ ⟨#[47]⟩ := fun q => by rw [q, root_no_path] at hp; cases hp
 have hdir : ∀ p, dirE es' p = true → (p = e.p ∧ e.d = true) ∨ (p ≠ e.p ∧ dirE es p = true) := fun p h => by
  rcases dir_look h with h1 | ⟨f, h1, h2⟩
  ·
   exact .inr ⟨fun q => hroot (q.symm.trans h1), look_dir (.inl h1)⟩
  ·
   rw [hlook] at h1; by_cases q : p = e.p
   ·
    rw [if_pos q] at h1; cases h1; exact .inl ⟨q, h2⟩
   ·
    rw [if_neg q] at h1; exact .inr ⟨q, look_dir (.inr ⟨f, h1, h2⟩)⟩
 have hune : upS e.p ≠ e.p := fun q => by
  have := up_size hp; rcases stemOk_is (T.dirOk hup) with h1 | h1
  ·
   rw [q] at h1; exact hroot h1
  ·
   rw [stem_path h1, q] at this; omega
 refine ⟨fun p hpd => ?_, fun p hpd => ?_, fun p q hpd hqd he => ?_⟩
 ·
  rcases hdir p hpd with ⟨rfl, h2⟩ | ⟨hne, h2⟩
  ·
   show MapIs w' (if e.p = e.p then a else A e.p) (N + 1) _
   rw [if_pos rfl]; refine ((hd h2).1.mono (Nat.zero_le _)).congr fun n => ?_; unfold kidF; by_cases hn : nameB n = true
   ·
    rw [if_pos hn]
    have : lookE es' (joinI e.p n) = none := by
     rw [hlook]
     have hne : joinI e.p n ≠ e.p := fun q => by
      have := congrArg ByteArray.size q; unfold joinI at this; rw [stem_path hp, ByteArray.size_append, ByteArray.size_append] at this; have h1 : (⟨#[47]⟩ : ByteArray).size = 1 := rfl; omega
     rw [if_neg hne]; cases hl : lookE es (joinI e.p n) with
     | none => rfl
     | some f =>
      have := look_kid T (stemOk_path hp) hn hl; rw [hold] at this; cases this
    rw [this]; rfl
   ·
    rw [if_neg hn]
  ·
   show MapIs w' (if p = e.p then a else A p) (N + 1) _
   rw [if_neg hne]; have hst := T.dirOk h2; by_cases hu : p = upS e.p
   ·
    subst hu; refine hm.congr fun n => ?_; unfold kidF; by_cases hn : nameB n = true
    ·
     rw [if_pos hn, if_pos hn, hlook]; by_cases hq : n = nmS e.p
     ·
      rw [if_pos hq, hq, up_join hp, if_pos rfl]; show some (nodeV e a) = some (nodeV e (if e.p = e.p then a else A e.p))
      rw [if_pos rfl]
     ·
      have hne2 : joinI (upS e.p) n ≠ e.p := fun q => hq ((kid_eq hst hn hp).1 q).2; rw [if_neg hq, if_neg hne2]; cases hl : lookE es (joinI (upS e.p) n) with
      | none => rfl
      | some f =>
       show some (nodeV f _) = some (nodeV f (if joinI (upS e.p) n = e.p then a else A (joinI (upS e.p) n)))
       rw [if_neg hne2]
    ·
     rw [if_neg hn, if_neg hn]; by_cases hq : n = nmS e.p
     ·
      rw [hq, (up_facts hp).2.2.1] at hn; exact absurd rfl hn
     ·
      rw [if_neg hq]
   ·
    refine (((R.kids p h2).mono (Nat.le_succ N)).kept (hk p h2 hu)).congr fun n => ?_; unfold kidF; by_cases hn : nameB n = true
    ·
     have hne2 : joinI p n ≠ e.p := fun q => hu ((kid_eq hst hn hp).1 q).1; rw [if_pos hn, if_pos hn, hlook, if_neg hne2]; cases hl : lookE es (joinI p n) with
     | none => rfl
     | some f =>
      show some (nodeV f _) = some (nodeV f (if joinI p n = e.p then a else A (joinI p n)))
      rw [if_neg hne2]
    ·
     rw [if_neg hn, if_neg hn]
 ·
  show base ≤ (if p = e.p then a else A p)
  rcases hdir p hpd with ⟨h1, h2⟩ | ⟨hne, h2⟩
  ·
   rw [if_pos h1]; exact (hd h2).2.1
  ·
   rw [if_neg hne]; exact R.low p h2
 ·
  have he' : (if p = e.p then a else A p) = (if q = e.p then a else A q) := he; rcases hdir p hpd with ⟨h1, h2⟩ | ⟨h1, h2⟩
  ·
   rcases hdir q hqd with ⟨k1, k2⟩ | ⟨k1, k2⟩
   ·
    rw [h1, k1]
   ·
    rw [if_pos h1, if_neg k1] at he'; exact absurd he'.symm ((hd h2).2.2 q k2)
  ·
   rcases hdir q hqd with ⟨k1, k2⟩ | ⟨k1, k2⟩
   ·
    rw [if_neg h1, if_pos k1] at he'; exact absurd he' ((hd k2).2.2 p h2)
   ·
    rw [if_neg h1, if_neg k1] at he'; exact R.apart p q h2 k2 he'
theorem Rep.off {w w' : World} {base N : Nat} {es : List E} {A : ByteArray → Nat} {s : ByteArray} (T : TrE es) (R : Rep w base N es A) (hp : pathB s = true)
  (hm : MapIs w' (A (upS s)) N (fun t => if t = nmS s then none else kidF es A (upS s) t)) (hw : ∀ p, dirE es p = true → p ≠ upS s → w'.heap[A p]? = w.heap[A p]?) :
  Rep w' base N (offE es s) A := by
 have hdir : ∀ p, dirE (offE es s) p = true → p ≠ s ∧ dirE es p = true := fun p h => by
  rcases dir_look h with h1 | ⟨f, h1, h2⟩
  ·
   exact ⟨fun q => (by rw [← q, h1, root_no_path] at hp; cases hp), look_dir (.inl h1)⟩
  ·
   rw [off_look T.sort] at h1; by_cases q : p = s
   ·
    rw [if_pos q] at h1; cases h1
   ·
    rw [if_neg q] at h1; exact ⟨q, look_dir (.inr ⟨f, h1, h2⟩)⟩
 refine ⟨fun p hpd => ?_, fun p hpd => R.low p (hdir p hpd).2, fun p q hpd hqd he => R.apart p q (hdir p hpd).2 (hdir q hqd).2 he⟩; obtain ⟨hne, hd⟩ := hdir p hpd; have hst := T.dirOk hd; by_cases hu : p = upS s
 ·
  subst hu; refine hm.congr fun n => ?_; unfold kidF; by_cases hn : nameB n = true
  ·
   rw [if_pos hn, if_pos hn, off_look T.sort]; by_cases hq : n = nmS s
   ·
    rw [if_pos hq, hq, up_join hp, if_pos rfl]; rfl
   ·
    rw [if_neg hq, if_neg (fun q => hq ((kid_eq hst hn hp).1 q).2)]
  ·
   rw [if_neg hn, if_neg hn]; by_cases hq : n = nmS s
   ·
    rw [if_pos hq]
   ·
    rw [if_neg hq]
 ·
  refine ((R.kids p hd).kept (hw p hd hu)).congr fun n => ?_; unfold kidF; by_cases hn : nameB n = true
  ·
   rw [if_pos hn, if_pos hn, off_look T.sort, if_neg (fun q => hu ((kid_eq hst hn hp).1 q).1)]
  ·
   rw [if_neg hn, if_neg hn]
theorem hit_join {p n f : ByteArray} (hp : stemOk p = true) (hn : nameB n = true) (hj : pathB (joinI p n) = true) (hf : pathB f = true) : movHit (joinI p n) f = true ↔ (joinI p n = f ∨ movHit p f = true) := by
 rw [hitP hj hf]; have hup := (join_up (join_ok hp hn hj)).1
 constructor
 ·
  rintro (h | h)
  ·
   exact .inl h
  ·
   rcases (under_up hj).1 h with e | e
   ·
    rw [hup] at e; exact .inr ((hit_iff _ _).2 (.inl e.symm))
   ·
    rw [hup] at e; exact .inr ((hitP ((underI_iff _ _).1 e).2.1 hf).2 (.inr e))
 ·
  rintro (h | h)
  ·
   exact .inl h
  ·
   right
   refine (under_up hj).2 ?_; rw [hup]; rcases stemOk_is hp with k | k
   ·
    exfalso
    rcases (hit_iff _ _).1 h with q | q
    ·
     rw [← q, k, root_no_path] at hf; cases hf
    ·
     have h3 := q.1; rw [k] at h3; have h4 := pathB_head _ hf; have : (⟨#[47]⟩ : ByteArray).size = 1 := rfl; omega
   ·
    rcases (hitP k hf).1 h with e | e
    ·
     exact .inl e.symm
    ·
     exact .inr e
def movA (A : ByteArray → Nat) (f t s : ByteArray) : Nat := if movHit s t = true then A (movX s t f) else A s
def movF (es : List E) (A : ByteArray → Nat) (f t : ByteArray) (e0 : E) (p n : ByteArray) : Option Value :=
 if p = upS t ∧ n = nmS t then some (nodeV e0 (A f)) else if p = upS f ∧ n = nmS f then none else kidF es A p n
theorem root_hit {f : ByteArray} (hf : pathB f = true) : movHit ⟨#[47]⟩ f = false := by
 cases h : movHit ⟨#[47]⟩ f with
 | false => rfl
 | true =>
  rcases (hit_iff _ _).1 h with q | q
  ·
   rw [← q, root_no_path] at hf; cases hf
  ·
   have h3 := q.1; have h4 := pathB_head _ hf; have : (⟨#[47]⟩ : ByteArray).size = 1 := rfl; omega
theorem Mv.dirs {es : List E} {f t : ByteArray} (m : Mv es f t) {p : ByteArray} (h : dirE (movE es f t) p = true) :
  (movHit p t = true ∧ dirE es (movX p t f) = true ∧ pathB (movX p t f) = true ∧ pathB p = true ∧ movHit (movX p t f) f = true) ∨ (movHit p t = false ∧ movHit p f = false ∧ dirE es p = true) := by
 rcases dir_look h with h1 | ⟨e, h1, h2⟩
 ·
  exact .inr ⟨by rw [h1]; exact root_hit m.pt, by rw [h1]; exact root_hit m.pf, look_dir (.inl h1)⟩
 ·
  cases hh : movHit p t with
  | true =>
   have hpp := look_path m.tr h1; rw [m.look_to hh] at h1; obtain ⟨g, hg, rfl⟩ := Option.map_eq_some_iff.1 h1; exact .inl ⟨rfl, look_dir (.inr ⟨g, hg, h2⟩), look_path m.T hg, hpp, moved_hit hh⟩
  | false =>
   cases hk : movHit p f with
   | true => rw [m.look_from hh hk] at h1; cases h1
   | false =>
    rw [m.look_else hh hk] at h1; exact .inr ⟨rfl, rfl, look_dir (.inr ⟨e, h1, h2⟩)⟩
theorem Rep.mov {w w' : World} {base N : Nat} {es : List E} {A : ByteArray → Nat} {f t : ByteArray} {e0 : E} (m : Mv es f t) (R : Rep w base N es A) (h0 : lookE es f = some e0)
  (hm : ∀ p, dirE es p = true → movHit p f = false → MapIs w' (A p) (N + 1) (movF es A f t e0 p)) (hk : ∀ p, dirE es p = true → movHit p f = true → w'.heap[A p]? = w.heap[A p]?) :
  Rep w' base (N + 1) (movE es f t) (movA A f t) := by
 refine ⟨fun p hpd => ?_, fun p hpd => ?_, fun p q hpd hqd he => ?_⟩
 ·
  rcases m.dirs hpd with ⟨h1, h2, h3, h4, h5⟩ | ⟨h1, h2, h3⟩
  ·
   unfold movA; rw [if_pos h1]; refine (((R.kids _ h2).mono (Nat.le_succ N)).kept (hk _ h2 h5)).congr fun n => ?_; unfold kidF; by_cases hn : nameB n = true
   ·
    rw [if_pos hn, if_pos hn]; have hjx := movX_join (n := n) (f := t) (t := f) h4 h3 h1
    have hjh : movHit (joinI p n) t = true := by
     rw [hit_iff]
     right
     have hPre : Pre (joinI p n) p := by
      unfold joinI; rw [stem_path h4, app_assoc']; exact list_pre (r := L n) (by rw [L_app, L_app]; rfl)
     rcases (hit_iff _ _).1 h1 with q | q
     ·
      rw [← q]; exact hPre
     ·
      exact hPre.trans q
    rw [m.look_to hjh, hjx]; cases hl : lookE es (joinI (movX p t f) n) with
    | none => rfl
    | some g =>
     show some (nodeV g _) = some (nodeV ⟨joinI p n, g.d, g.x⟩ (movA A f t (joinI p n)))
     unfold movA; rw [if_pos hjh, hjx]; rfl
   ·
    rw [if_neg hn, if_neg hn]
  ·
   have hst := m.T.dirOk h3; rw [show movA A f t p = A p from by unfold movA; rw [h1]; rfl]; refine (hm p h3 h2).congr fun n => ?_; unfold movF kidF; by_cases hn : nameB n = true
   ·
    rw [if_pos hn, if_pos hn]; by_cases hjt : joinI p n = t
    ·
     rw [if_pos ((kid_eq hst hn m.pt).1 hjt), hjt, m.look_to ((hit_iff _ _).2 (.inl rfl)), movX_self, h0]; show some (nodeV e0 (A f)) = some (nodeV ⟨t, e0.d, e0.x⟩ (movA A f t t))
     unfold movA; rw [if_pos ((hit_iff _ _).2 (.inl rfl)), movX_self]; rfl
    ·
     rw [if_neg (fun q => hjt ((kid_eq hst hn m.pt).2 q))]; by_cases hjf : joinI p n = f
     ·
      have hft : movHit f t = false := by
       obtain ⟨e1, e2⟩ := look_mem h0; rw [← e2]; exact m.free' e1
      rw [if_pos ((kid_eq hst hn m.pf).1 hjf), hjf, m.look_from hft ((hit_iff _ _).2 (.inl rfl))]; rfl
     ·
      rw [if_neg (fun q => hjf ((kid_eq hst hn m.pf).2 q))]; by_cases hjp : pathB (joinI p n) = true
      ·
       have ht : movHit (joinI p n) t = false := by
        cases hh : movHit (joinI p n) t with
        | false => rfl
        | true =>
         rcases (hit_join hst hn hjp m.pt).1 hh with q | q
         ·
          exact absurd q hjt
         ·
          rw [h1] at q; cases q
       have hf : movHit (joinI p n) f = false := by
        cases hh : movHit (joinI p n) f with
        | false => rfl
        | true =>
         rcases (hit_join hst hn hjp m.pf).1 hh with q | q
         ·
          exact absurd q hjf
         ·
          rw [h2] at q; cases q
       rw [m.look_else ht hf]; cases hl : lookE es (joinI p n) with
       | none => rfl
       | some g =>
        show some (nodeV g _) = some (nodeV g (movA A f t (joinI p n)))
        unfold movA; rw [ht]; rfl
      ·
       have hb : pathB (joinI p n) = false := by simpa using hjp
       rw [look_bad m.T hb, look_bad m.tr hb]; rfl
   ·
    rw [if_neg hn, if_neg hn]; have n1 : ¬ (p = upS t ∧ n = nmS t) := fun q => hn (by rw [q.2]; exact (up_facts m.pt).2.2.1); rw [if_neg n1]
    split
    ·
     rfl
    ·
     rfl
 ·
  unfold movA; rcases m.dirs hpd with ⟨h1, h2, _⟩ | ⟨h1, _, h3⟩
  ·
   rw [if_pos h1]; exact R.low _ h2
  ·
   rw [h1]; exact R.low _ h3
 ·
  unfold movA at he; rcases m.dirs hpd with ⟨h1, h2, _, _, h5⟩ | ⟨h1, h2, h3⟩
  ·
   rcases m.dirs hqd with ⟨k1, k2, _⟩ | ⟨k1, k2, k3⟩
   ·
    rw [if_pos h1, if_pos k1] at he; have := R.apart _ _ h2 k2 he; have e2 : movX (movX p t f) f t = movX (movX q t f) f t := by rw [this]
    rwa [moved_back h1, moved_back k1] at e2
   ·
    rw [if_pos h1, k1, if_neg (by decide)] at he; have := R.apart _ _ h2 k3 he; rw [this, k2] at h5; cases h5
  ·
   rcases m.dirs hqd with ⟨k1, k2, _, _, k5⟩ | ⟨k1, k2, k3⟩
   ·
    rw [if_pos k1, h1, if_neg (by decide)] at he; have := R.apart _ _ h3 k2 he; rw [← this, h2] at k5; cases k5
   ·
    rw [h1, k1, if_neg (by decide), if_neg (by decide)] at he; exact R.apart _ _ h3 k3 he
def cutF (es : List E) (A : ByteArray → Nat) (f p n : ByteArray) : Option Value := if p = upS f ∧ n = nmS f then none else kidF es A p n
theorem cut_maps {V w9 : World} {base N : Nat} {es : List E} {A : ByteArray → Nat} {f : ByteArray} (R : Rep V base N es A) (hup : dirE es (upS f) = true) (ht : V.mapTurned w9 (A (upS f)))
  (hm : MapIs w9 (A (upS f)) N (fun t => if t = nmS f then none else kidF es A (upS f) t)) {q : ByteArray} (hq : dirE es q = true) : MapIs w9 (A q) N (cutF es A f q) := by
 by_cases e : q = upS f
 ·
  subst e; refine hm.congr fun n => ?_; unfold cutF; by_cases hn : n = nmS f
  ·
   rw [if_pos hn, if_pos ⟨rfl, hn⟩]
  ·
   rw [if_neg hn, if_neg (fun k => hn k.2)]
 ·
  refine ((R.kids q hq).kept (ht.grown.block _ (R.kids q hq).lt (fun k => e (R.apart _ _ hq hup (Option.some.inj k))))).congr fun n => ?_; unfold cutF; rw [if_neg (fun k => e k.1)]
theorem up_not_hit {es : List E} (T : TrE es) {p : ByteArray} (hp : pathB p = true) (hd : dirE es (upS p) = true) : movHit (upS p) p = false := by
 cases hh : movHit (upS p) p with
 | false => rfl
 | true =>
  rcases stemOk_is (T.dirOk hd) with k | k
  ·
   rw [k, root_hit hp] at hh; cases hh
  ·
   have := (hit_le hh).1; have h2 := up_size hp; rw [stem_path k] at h2; omega
theorem mov_fin {w V w9 w10 w11 : World} {base N : Nat} {es : List E} {A : ByteArray → Nat} {f t : ByteArray} {e0 : E} (m : Mv es f t) (R : Rep w base N es A) (h0 : lookE es f = some e0) (hupf : dirE es (upS f) = true)
  (hV : Below w.heap.size w V) (ht9 : V.mapTurned w9 (A (upS f))) (hm9 : MapIs w9 (A (upS f)) N (fun t => if t = nmS f then none else kidF es A (upS f) t)) (h10 : Below w9.heap.size w9 w10)
  (ht11 : w10.mapTurned w11 (A (upS t))) (hm11 : MapIs w11 (A (upS t)) (N + 1) (fun n => if n = nmS t then some (nodeV e0 (A f)) else cutF es A f (upS t) n)) :
  Rep w11 base (N + 1) (movE es f t) (movA A f t) := by
 have RV := R.below hV; have hcm := fun {q} (hq : dirE es q = true) => cut_maps RV hupf ht9 hm9 hq; have hc10 := fun {q} (hq : dirE es q = true) => (hcm hq).kept (h10.block _ (hcm hq).lt)
 have hnf : movHit (upS t) f = false := by
  cases hh : movHit (upS t) f with
  | false => rfl
  | true =>
   rcases stemOk_is (m.T.dirOk m.dir) with k | k
   ·
    rw [k, root_hit m.pf] at hh; cases hh
   ·
    have h1 : underI t f = true := (under_up m.pt).2 (by
     rcases (hitP k m.pf).1 hh with e1 | e1
     ·
      exact .inl e1.symm
     ·
      exact .inr e1)
    rw [m.out] at h1; cases h1
 refine R.mov m h0 (fun q hq hqf => ?_) (fun q hq hqf => ?_)
 ·
  by_cases e : q = upS t
  ·
   subst e; refine hm11.congr fun n => ?_; unfold movF cutF; by_cases hn : n = nmS t
   ·
    rw [if_pos hn, if_pos ⟨rfl, hn⟩]
   ·
    rw [if_neg hn, if_neg (show ¬ (upS t = upS t ∧ n = nmS t) from fun k => hn k.2)]
  ·
   refine (((hc10 hq).kept (ht11.grown.block _ (hc10 hq).lt (fun k => e (R.apart _ _ hq m.dir (Option.some.inj k))))).mono (Nat.le_succ N)).congr fun n => ?_; unfold movF cutF; rw [if_neg (show ¬ (q = upS t ∧ n = nmS t) from fun k => e k.1)]
 ·
  have e1 : q ≠ upS f := fun k => by rw [k, up_not_hit m.T m.pf hupf] at hqf; cases hqf
  have e2 : q ≠ upS t := fun k => by rw [k, hnf] at hqf; cases hqf
  have b1 := ht11.grown.block _ (hc10 hq).lt (fun k => e2 (R.apart _ _ hq m.dir (Option.some.inj k))); have b2 := h10.block _ (hcm hq).lt; have b3 := ht9.grown.block _ (RV.kids q hq).lt (fun k => e1 (R.apart _ _ hq hupf (Option.some.inj k))); have b4 := hV.block _ (R.kids q hq).lt; rw [b1, b2, b3, b4]
theorem path_small : ∀ (n : Nat) (s : ByteArray), pathB s = true → levS s ≤ n → s.size ≤ 4 * n
 | 0, s, h, hl => by
  have h1 := (up_facts h).2.2.2; rcases stemOk_is (up_facts h).1 with k | k
  ·
   have : levS (⟨#[47]⟩ : ByteArray) = 0 := by decide
   rw [k, this] at h1; omega
  ·
   have := under_lev _ _ _ (Nat.le_refl _) (under_root k); have h0 : levS (⟨#[47]⟩ : ByteArray) = 0 := by decide
   omega
 | n + 1, s, h, hl => by
  have h1 := (up_facts h).2.2.2; have hn := (up_facts h).2.2.1
  have hns : (nmS s).size ≤ 3 := by
   unfold nameB at hn; rw [Bool.and_eq_true] at hn; exact (of_decide_eq_true hn.1).2
  have hj := congrArg ByteArray.size (up_join h); unfold joinI at hj; rw [ByteArray.size_append, ByteArray.size_append] at hj; have h47 : (⟨#[47]⟩ : ByteArray).size = 1 := rfl; rcases stemOk_is (up_facts h).1 with k | k
  ·
   rw [k, stem_root] at hj; have : (⟨#[]⟩ : ByteArray).size = 0 := rfl; omega
  ·
   rw [stem_path k] at hj; have := path_small n (upS s) k (by omega); omega
theorem path_size {s : ByteArray} (h : pathB s = true) : s.size ≤ 12 := path_small 3 s h (lev_le s)
theorem lev_path {s : ByteArray} (h : pathB s = true) : 0 ≤ levS s := by
 have h1 := under_lev _ _ _ (Nat.le_refl _) (under_root h); have h0 : levS (⟨#[47]⟩ : ByteArray) = 0 := by decide
 omega
theorem told_size {es : List E} (T : TrE es) {p q : ByteArray} (hq : q.size ≤ 12) {y : ByteArray × E} (h : y ∈ told es p q) : y.1.size ≤ 24 := by
 unfold told at h; obtain ⟨e, he, rfl⟩ := List.mem_map.1 h; have h1 := path_size (T.path e (bel_iff.1 he).1); unfold toldAt; rw [ByteArray.size_append, size_ext]; omega
end Go.Proofs.YtafeddiijemnbaaGreatDoor
