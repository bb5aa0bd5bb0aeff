/-
  Plain facts on trees: a path is its names, one below the other; what is above what is there is there.
-/
import Derived.Test.YtfbhkcfecdbdeaaDoorPk05
import Derived.Maps.OwnSet
import Derived.KernelRfl
import Derived.Below
import Derived.Test.YtfbhkcfecdbdeaaDoorProg
namespace Go.Proofs.YtfbhkcfecdbdeaaDoor

/-- The path of a row of names. -/
def chain (xs : List (Int × ByteArray)) : ByteArray := xs.foldl (fun p x => joinI p x.2) ⟨#[47]⟩
theorem chain_snoc (xs : List (Int × ByteArray)) (x : Int × ByteArray) : chain (xs ++ [x]) = joinI (chain xs) x.2 := by
  unfold chain; rw [List.foldl_append]; rfl
theorem root_no_path : pathB ⟨#[47]⟩ = false := by
  cases hq : pathB ⟨#[47]⟩ with
  | false => rfl
  | true => have := path_not_root hq; rw [root_root] at this; cases this
theorem items_step {s : ByteArray} (h : pathB s = true) : (upS s = ⟨#[47]⟩ ∧ ∃ k, items s = [(k, nmS s)]) ∨ (pathB (upS s) = true ∧ ∃ k, items s = items (upS s) ++ [(k, nmS s)]) := by
  obtain ⟨m, hm, m1, m2, m3⟩ := last_is h
  have en : nmS s = s.extract (m + 1) s.size := by unfold nmS; rw [h, if_pos rfl, hm]; rfl
  by_cases h0 : m = 0
  · subst h0
    left
    refine ⟨by unfold upS; rw [h, if_pos rfl, hm]; rfl, 0, ?_⟩
    rw [en, items_slash s m1 (by rw [← get0 s m1]; exact m2)]
    exact itemsL_plain s _ 1 0 (no_stroke_list s 1 (fun j hj hj' => m3 j (by omega) hj'))
  · right
    have eu : upS s = s.extract 0 m := by unfold upS; rw [h, if_pos rfl, hm, if_neg (by omega)]; rfl
    have ei := items_up m m1 (by omega) m2 m3
    have hp := h
    unfold pathB at hp
    rw [ei] at hp
    refine ⟨by rw [eu]; exact (ok_app hp).1, m, ?_⟩
    rw [eu, en]; exact ei
theorem chain_pre : ∀ (N : Nat) (s : ByteArray), s.size ≤ N → pathB s = true → ∀ pre, pre <+: items s → pre ≠ [] → pathB (chain pre) = true ∧ (s = chain pre ∨ underI s (chain pre) = true) ∧ (pre = items s → chain pre = s)
  | 0, s, hN, h => by have := pathB_head _ h; omega
  | N + 1, s, hN, h => by
    intro pre hpre hne
    rcases items_step h with ⟨hu, k, hi⟩ | ⟨hu, k, hi⟩
    · have e : pre = [(k, nmS s)] := by
        rw [hi] at hpre
        rcases List.prefix_concat_iff.1 (show pre <+: [] ++ [(k, nmS s)] from hpre) with e | e
        · exact e
        · exact absurd (List.prefix_nil.1 e) hne
      have : chain pre = s := by
        rw [e, show [(k, nmS s)] = [] ++ [(k, nmS s)] from rfl, chain_snoc]
        show joinI ⟨#[47]⟩ (nmS s) = s
        rw [← hu]; exact up_join h
      exact ⟨by rw [this]; exact h, .inl this.symm, fun _ => this⟩
    · have hsz := up_size h
      rw [stem_path hu] at hsz
      have ih := chain_pre N (upS s) (by omega) hu
      rw [hi] at hpre
      rcases List.prefix_concat_iff.1 hpre with e | e
      · have hnn : items (upS s) ≠ [] := by
          intro e0
          have := itemsL_pos (upS s) ((upS s).data.toList.drop 0) 0 (-1)
          unfold items itemsAt at e0
          rw [e0] at this; simp at this
        have hc := (ih _ (List.prefix_refl _) hnn).2.2 rfl
        have : chain pre = s := by
          rw [e, chain_snoc, hc]; exact up_join h
        exact ⟨by rw [this]; exact h, .inl this.symm, fun _ => this⟩
      · obtain ⟨h1, h2, h3⟩ := ih pre e hne
        refine ⟨h1, .inr ?_, fun e' => ?_⟩
        · rcases h2 with h2 | h2
          · rw [← h2]; exact up_under h
          · exact under_trans (up_under h) h2
        · exfalso
          have l1 := e.length_le
          rw [e', hi, List.length_append, List.length_singleton] at l1; omega
theorem items_ne (s : ByteArray) : items s ≠ [] := by
  intro e0
  have := itemsL_pos s (s.data.toList.drop 0) 0 (-1)
  unfold items itemsAt at e0
  rw [e0] at this; simp at this
theorem chain_items {s : ByteArray} (h : pathB s = true) : chain (items s) = s :=
  (chain_pre _ s (Nat.le_refl _) h _ (List.prefix_refl _) (items_ne s)).2.2 rfl
theorem chain_path {s : ByteArray} (h : pathB s = true) {pre : List (Int × ByteArray)} (hp : pre <+: items s) (hne : pre ≠ []) : pathB (chain pre) = true := (chain_pre _ s (Nat.le_refl _) h pre hp hne).1
theorem chain_over {s : ByteArray} (h : pathB s = true) {pre : List (Int × ByteArray)} (hp : pre <+: items s) (hne : pre ≠ []) : s = chain pre ∨ underI s (chain pre) = true := (chain_pre _ s (Nat.le_refl _) h pre hp hne).2.1
theorem chain_stem {s : ByteArray} (h : pathB s = true) {pre : List (Int × ByteArray)} (hp : pre <+: items s) : stemOk (chain pre) = true := by
  by_cases hne : pre = []
  · subst hne; unfold stemOk; rw [show chain [] = ⟨#[47]⟩ from rfl, root_root]; rfl
  · exact stemOk_path (chain_path h hp hne)
theorem item_name {s : ByteArray} (h : pathB s = true) {x : Int × ByteArray} (hx : x ∈ items s) : nameB x.2 = true := by
  unfold pathB okItems at h
  rw [Bool.and_eq_true, List.all_eq_true] at h
  have := h.1 x hx
  unfold okItem at this
  rw [Bool.and_eq_true] at this
  exact this.2

/-- What is above what is there is there, and a directory. -/
theorem up_there {es : List E} (T : TrE es) {b : ByteArray} (hb : pathB b = true) : ∀ (N : Nat) (e : E), e.p.size ≤ N → e ∈ es → underI e.p b = true → ∃ f, lookE es b = some f ∧ f.d = true
  | 0, e, hN, he, h => by have := pathB_head _ (T.path e he); omega
  | N + 1, e, hN, he, h => by
    have hpe := T.path e he
    rcases dir_look (T.up e he) with q | ⟨f, hf, hd⟩
    · rcases (under_up hpe).1 h with e1 | e1
      · rw [q] at e1; rw [e1, root_no_path] at hb; cases hb
      · obtain ⟨_, h2, _⟩ := (underI_iff _ _).1 e1
        rw [q, root_no_path] at h2; cases h2
    · rcases (under_up hpe).1 h with e1 | e1
      · rw [e1]; exact ⟨f, hf, hd⟩
      · obtain ⟨f1, f2⟩ := look_mem hf
        have hsz := up_size hpe
        rw [stem_path (by rw [← f2]; exact T.path f f1)] at hsz
        exact up_there T hb N f (by rw [f2]; omega) f1 (by rw [f2]; exact e1)
theorem gone_below {es : List E} (T : TrE es) {s b : ByteArray} (hb : pathB b = true) (h : s = b ∨ underI s b = true) (hl : lookE es b = none) : lookE es s = none := by
  rcases h with rfl | h
  · exact hl
  · cases hs : lookE es s with
    | none => rfl
    | some e =>
      obtain ⟨e1, e2⟩ := look_mem hs
      obtain ⟨f, hf, _⟩ := up_there T hb _ e (Nat.le_refl _) e1 (by rw [e2]; exact h)
      rw [hl] at hf; cases hf
/-- Nothing is in what is no directory. -/
theorem look_kid {es : List E} (T : TrE es) {p n : ByteArray} (hp : stemOk p = true) (hn : nameB n = true) {e : E} (h : lookE es (joinI p n) = some e) : dirE es p = true := by
  obtain ⟨e1, e2⟩ := look_mem h
  have hj := join_up (join_ok hp hn (by rw [← e2]; exact T.path e e1))
  have := T.up e e1
  rwa [e2, hj.1] at this
theorem look_path {es : List E} (T : TrE es) {s : ByteArray} {e : E} (h : lookE es s = some e) : pathB s = true := by
  obtain ⟨e1, e2⟩ := look_mem h
  rw [← e2]; exact T.path e e1
theorem look_bad {es : List E} (T : TrE es) {s : ByteArray} (h : pathB s = false) : lookE es s = none := by
  cases hl : lookE es s with
  | none => rfl
  | some e => rw [look_path T hl] at h; cases h
end Go.Proofs.YtfbhkcfecdbdeaaDoor

/-
  How a tree lies in memory: a map for each directory.
-/
namespace Go.Proofs.YtfbhkcfecdbdeaaDoor
open Go.RowKit Go.Lib Go.Maps Go.WideMaps

/-- An element of a map is taken as it is. -/
def selfR (v : Value) : Option (DataW Value × List MemPlace) := some (.held v, [])
theorem keyLaw : Keyed Tryd.prog 9 := string_keyed Tryd.underlying9

/-- What stands in a map for an entry: the map of a directory lies in the block a. -/
def optV (d : Bool) (a : Nat) : Option Nat := if d = true then some a else none
theorem optV_dir (a : Nat) : optV true a = some a := rfl
theorem optV_file (a : Nat) : optV false a = none := rfl
def nodeV (e : E) (a : Nat) : Value := .agg #[.bool e.d, .string e.x, .map (optV e.d a)]
abbrev zeroN : Value := .agg #[.bool false, .string ⟨#[]⟩, .map none]
theorem zeroNode (w : World) : (zeroValue 51).run Tryd.prog w = .ok zeroN w := by kernel_rfl

theorem held_inj {v u : Value} {ps : List MemPlace} (h : selfR v = some (.held u, ps)) : v = u := DataW.held.inj (Prod.mk.inj (Option.some.inj h)).1
theorem isKey (s : List UInt8) : WideAt.IsKeyLit (.string s) := trivial
/-- The map in the block b holds just what f tells. -/
def MapIs (w : World) (b N : Nat) (f : ByteArray → Option Value) : Prop :=
  ∃ (D : DataW Value) (n : Nat), w.ownsMap Tryd.prog 9 selfR b n D ∧ n ≤ N ∧
    ∀ s : ByteArray, s.size ≤ maxLen → Maps.has D (.string s.data.toList) = (f s).isSome ∧ D.atKey (.string s.data.toList) (.held zeroN) = .held ((f s).getD zeroN)

theorem MapIs.lt {w : World} {b N : Nat} {f : ByteArray → Option Value} (h : MapIs w b N f) : b < w.heap.size := by
  obtain ⟨D, n, h, _⟩ := h
  exact h.lt
theorem MapIs.kept {w w' : World} {b N : Nat} {f : ByteArray → Option Value} (h : MapIs w b N f) (hb : w'.heap[b]? = w.heap[b]?) : MapIs w' b N f := by
  obtain ⟨D, n, ⟨es, c, h1, h2⟩, h3⟩ := h
  exact ⟨D, n, ⟨es, c, hb.trans h1, h2⟩, h3⟩
theorem MapIs.mono {w : World} {b N N' : Nat} {f : ByteArray → Option Value} (h : MapIs w b N f) (hN : N ≤ N') : MapIs w b N' f := by
  obtain ⟨D, n, h1, h2, h3⟩ := h
  exact ⟨D, n, h1, by omega, h3⟩
theorem MapIs.congr {w : World} {b N : Nat} {f g : ByteArray → Option Value} (h : MapIs w b N f) (hfg : ∀ s, f s = g s) : MapIs w b N g := by
  have : f = g := funext hfg
  rw [← this]; exact h
theorem MapIs.made (w : World) : MapIs (w.alloc (.map #[] 0)) w.heap.size 0 (fun _ => none) :=
  ⟨.map [], 0, World.ownsMap_made _ _ _ _, Nat.le_refl _, fun _ _ => ⟨rfl, rfl⟩⟩

/-- 'v, ok := m[k]'. -/
theorem MapIs.look {w : World} {b N : Nat} {f : ByteArray → Option Value} (h : MapIs w b N f) {s : ByteArray} (hs : s.size ≤ maxLen) :
    (Instr.lookup 49 (.map (some b)) (.string s) true).run Tryd.prog w = .ok (.tuple #[(f s).getD zeroN, .bool (f s).isSome]) w := by
  obtain ⟨D, n, h1, _, h3⟩ := h
  obtain ⟨v, ps, hrun, hv⟩ := h1.look_ok keyLaw Tryd.underlying49 (zeroNode w) (zd := .held zeroN) (zp := []) rfl (keyOf_string_mk Tryd.underlying9 hs)
  obtain ⟨e1, e2⟩ := h3 s hs
  rw [e2] at hv
  have hv := held_inj hv
  rw [hrun, hv, e1]
/-- 'v := m[k]'. -/
theorem MapIs.look1 {w : World} {b N : Nat} {f : ByteArray → Option Value} (h : MapIs w b N f) {s : ByteArray} (hs : s.size ≤ maxLen) :
    (Instr.lookup 49 (.map (some b)) (.string s) false).run Tryd.prog w = .ok ((f s).getD zeroN) w := by
  obtain ⟨D, n, h1, _, h3⟩ := h
  obtain ⟨v, ps, hrun, hv⟩ := h1.lookup keyLaw Tryd.underlying49 (zeroNode w) (zd := .held zeroN) (zp := []) rfl (keyOf_string_mk Tryd.underlying9 hs)
  obtain ⟨e1, e2⟩ := h3 s hs
  rw [e2] at hv
  have hv := held_inj hv
  rw [hrun, hv]
theorem look_no (w : World) {s : ByteArray} (hs : s.size ≤ maxLen) :
    (Instr.lookup 49 (.map none) (.string s) true).run Tryd.prog w = .ok (.tuple #[zeroN, .bool false]) w := by
  rw [Maps.look_nil true keyLaw Tryd.underlying49 (zeroNode w) (keyOf_string_mk Tryd.underlying9 hs)]; rfl
/-- 'm[k] = v'. -/
theorem MapIs.store {w : World} {b N : Nat} {f : ByteArray → Option Value} (h : MapIs w b N f) (hN : N < maxLen) {s : ByteArray} (hs : s.size ≤ maxLen) (v : Value) :
    ∃ w', (Instr.mapUpdate 49 (.map (some b)) (.string s) v).run Tryd.prog w = .ok () w' ∧ MapIs w' b (N + 1) (fun t => if t = s then some v else f t) ∧ w.mapTurned w' b := by
  obtain ⟨D, n, h1, h2, h3⟩ := h
  obtain ⟨w', hrun, h4, h5⟩ := h1.store keyLaw Tryd.underlying49 (by omega) (keyOf_string_mk Tryd.underlying9 hs) (val := v) (d := .held v) (ps := []) rfl
  refine ⟨w', hrun, ⟨_, _, h4, by omega, fun t ht => ?_⟩, h5⟩
  by_cases e : t = s
  · subst e
    dsimp only
    rw [if_pos rfl]
    exact ⟨has_put_same h1.isMap (isKey _) _, atKey_put_same h1.isMap (isKey _) _ _⟩
  · dsimp only
    rw [if_neg e]
    have hne : Lit.string t.data.toList ≠ Lit.string s.data.toList := fun q => e (L_inj (by injection q))
    obtain ⟨e1, e2⟩ := h3 t ht
    exact ⟨(has_put_other hne _).trans e1, (atKey_put_other hne _ _).trans e2⟩
/-- 'delete(m, k)'. -/
theorem MapIs.drop {w : World} {b N : Nat} {f : ByteArray → Option Value} (h : MapIs w b N f) {s : ByteArray} (hs : s.size ≤ maxLen) (ty : TypeId) :
    ∃ w', (Builtin.delete_ #[49, 9] ty #[.map (some b), .string s]).run Tryd.prog w = .ok (.tuple #[]) w' ∧ MapIs w' b N (fun t => if t = s then none else f t) ∧ w.mapTurned w' b := by
  obtain ⟨D, n, h1, h2, h3⟩ := h
  obtain ⟨w', hrun, h4, h5⟩ := h1.drop keyLaw Tryd.underlying49 (keyOf_string_mk Tryd.underlying9 hs) ty
  refine ⟨w', hrun, ⟨_, _, h4, by omega, fun t ht => ?_⟩, h5⟩
  by_cases e : t = s
  · subst e
    dsimp only
    rw [if_pos rfl]
    exact ⟨has_del_same, atKey_del_same _⟩
  · dsimp only
    rw [if_neg e]
    have hne : Lit.string t.data.toList ≠ Lit.string s.data.toList := fun q => e (L_inj (by injection q))
    obtain ⟨e1, e2⟩ := h3 t ht
    exact ⟨(has_del_other hne).trans e1, (atKey_del_other hne _).trans e2⟩

/-! ### A tree -/
def kidF (es : List E) (A : ByteArray → Nat) (p n : ByteArray) : Option Value := if nameB n = true then (lookE es (joinI p n)).map (fun e => nodeV e (A (joinI p n))) else none
structure Rep (w : World) (base N : Nat) (es : List E) (A : ByteArray → Nat) : Prop where
  kids : ∀ p, dirE es p = true → MapIs w (A p) N (kidF es A p)
  low : ∀ p, dirE es p = true → base ≤ A p
  apart : ∀ p q, dirE es p = true → dirE es q = true → A p = A q → p = q
abbrev treeV (A : ByteArray → Nat) : Value := .agg #[.bool true, .string ⟨#[]⟩, .map (some (A ⟨#[47]⟩))]

theorem Rep.keep {w w' : World} {base N : Nat} {es : List E} {A : ByteArray → Nat} (h : Rep w base N es A) (hb : ∀ b, b < w.heap.size → (∃ o c, w.heap[b]? = some (.map o c)) → w'.heap[b]? = w.heap[b]?) : Rep w' base N es A where
  kids p hp := (h.kids p hp).kept (hb _ (h.kids p hp).lt (by obtain ⟨D, n, ⟨es, c, h1, _⟩, _⟩ := h.kids p hp; exact ⟨es, c, h1⟩))
  low := h.low
  apart := h.apart
theorem Rep.below {w w' : World} {base N : Nat} {es : List E} {A : ByteArray → Nat} (h : Rep w base N es A) (hb : Below w.heap.size w w') : Rep w' base N es A :=
  h.keep fun b hl _ => hb.block b hl
theorem dir_root (es : List E) : dirE es ⟨#[47]⟩ = true := look_dir (.inl rfl)
end Go.Proofs.YtfbhkcfecdbdeaaDoor
