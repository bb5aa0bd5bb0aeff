/-
  How a tree lies in memory: a map for each directory.
-/
import Derived.Maps.OwnSet
import Derived.KernelRfl
import Derived.Below
import Derived.Test.YtenlibefdefjmaaDoorProg
import Derived.Test.YtenlibefdefjmaaDoorHPk05
namespace Go.Proofs.YtenlibefdefjmaaDoor
open Go.RowKit Go.Lib Go.Maps Go.WideMaps

/-- An element of a map is taken as it is. -/
def selfR (v : Value) : Option (DataW Value × List MemPlace) := some (.held v, [])
theorem keyLaw : Keyed Tryd.prog 9 := string_keyed Tryd.underlying9

/-- What stands in a map for an entry: the map of a directory lies in the block a. -/
def optV (d : Bool) (a : Nat) : Option Nat := if d = true then some a else none
theorem optV_dir (a : Nat) : optV true a = some a := rfl
theorem optV_file (a : Nat) : optV false a = none := rfl
def nodeV (e : E) (a : Nat) : Value := .agg #[.bool e.d, .string e.x, .map (optV e.d a)]
abbrev zeroN : Value := .agg #[.bool false, .string ⟨#[]⟩, .map none]
theorem zeroNode (w : World) : (zeroValue 59).run Tryd.prog w = .ok zeroN w := by kernel_rfl

theorem held_inj {v u : Value} {ps : List MemPlace} (h : selfR v = some (.held u, ps)) : v = u := DataW.held.inj (Prod.mk.inj (Option.some.inj h)).1
theorem isKey (s : List UInt8) : WideAt.IsKeyLit (.string s) := trivial
/-- The map in the block b holds just what f tells. -/
def MapIs (w : World) (b N : Nat) (f : ByteArray → Option Value) : Prop :=
  ∃ (D : DataW Value) (n : Nat), w.ownsMap Tryd.prog 9 selfR b n D ∧ n ≤ N ∧
    ∀ s : ByteArray, s.size ≤ maxLen → Maps.has D (.string s.data.toList) = (f s).isSome ∧ D.atKey (.string s.data.toList) (.held zeroN) = .held ((f s).getD zeroN)

theorem MapIs.lt {w : World} {b N : Nat} {f : ByteArray → Option Value} (h : MapIs w b N f) : b < w.heap.size := by
  obtain ⟨D, n, h, _⟩ := h
  exact h.lt
theorem MapIs.kept {w w' : World} {b N : Nat} {f : ByteArray → Option Value} (h : MapIs w b N f) (hb : w'.heap[b]? = w.heap[b]?) : MapIs w' b N f := by
  obtain ⟨D, n, ⟨es, c, h1, h2⟩, h3⟩ := h
  exact ⟨D, n, ⟨es, c, hb.trans h1, h2⟩, h3⟩
theorem MapIs.mono {w : World} {b N N' : Nat} {f : ByteArray → Option Value} (h : MapIs w b N f) (hN : N ≤ N') : MapIs w b N' f := by
  obtain ⟨D, n, h1, h2, h3⟩ := h
  exact ⟨D, n, h1, by omega, h3⟩
theorem MapIs.congr {w : World} {b N : Nat} {f g : ByteArray → Option Value} (h : MapIs w b N f) (hfg : ∀ s, f s = g s) : MapIs w b N g := by
  have : f = g := funext hfg
  rw [← this]; exact h
theorem MapIs.made (w : World) : MapIs (w.alloc (.map #[] 0)) w.heap.size 0 (fun _ => none) :=
  ⟨.map [], 0, World.ownsMap_made _ _ _ _, Nat.le_refl _, fun _ _ => ⟨rfl, rfl⟩⟩

/-- 'v, ok := m[k]'. -/
theorem MapIs.look {w : World} {b N : Nat} {f : ByteArray → Option Value} (h : MapIs w b N f) {s : ByteArray} (hs : s.size ≤ maxLen) :
    (Instr.lookup 57 (.map (some b)) (.string s) true).run Tryd.prog w = .ok (.tuple #[(f s).getD zeroN, .bool (f s).isSome]) w := by
  obtain ⟨D, n, h1, _, h3⟩ := h
  obtain ⟨v, ps, hrun, hv⟩ := h1.look_ok keyLaw Tryd.underlying57 (zeroNode w) (zd := .held zeroN) (zp := []) rfl (keyOf_string_mk Tryd.underlying9 hs)
  obtain ⟨e1, e2⟩ := h3 s hs
  rw [e2] at hv
  have hv := held_inj hv
  rw [hrun, hv, e1]
/-- 'v := m[k]'. -/
theorem MapIs.look1 {w : World} {b N : Nat} {f : ByteArray → Option Value} (h : MapIs w b N f) {s : ByteArray} (hs : s.size ≤ maxLen) :
    (Instr.lookup 57 (.map (some b)) (.string s) false).run Tryd.prog w = .ok ((f s).getD zeroN) w := by
  obtain ⟨D, n, h1, _, h3⟩ := h
  obtain ⟨v, ps, hrun, hv⟩ := h1.lookup keyLaw Tryd.underlying57 (zeroNode w) (zd := .held zeroN) (zp := []) rfl (keyOf_string_mk Tryd.underlying9 hs)
  obtain ⟨e1, e2⟩ := h3 s hs
  rw [e2] at hv
  have hv := held_inj hv
  rw [hrun, hv]
theorem look_no (w : World) {s : ByteArray} (hs : s.size ≤ maxLen) :
    (Instr.lookup 57 (.map none) (.string s) true).run Tryd.prog w = .ok (.tuple #[zeroN, .bool false]) w := by
  rw [Maps.look_nil true keyLaw Tryd.underlying57 (zeroNode w) (keyOf_string_mk Tryd.underlying9 hs)]; rfl
/-- 'm[k] = v'. -/
theorem MapIs.store {w : World} {b N : Nat} {f : ByteArray → Option Value} (h : MapIs w b N f) (hN : N < maxLen) {s : ByteArray} (hs : s.size ≤ maxLen) (v : Value) :
    ∃ w', (Instr.mapUpdate 57 (.map (some b)) (.string s) v).run Tryd.prog w = .ok () w' ∧ MapIs w' b (N + 1) (fun t => if t = s then some v else f t) ∧ w.mapTurned w' b := by
  obtain ⟨D, n, h1, h2, h3⟩ := h
  obtain ⟨w', hrun, h4, h5⟩ := h1.store keyLaw Tryd.underlying57 (by omega) (keyOf_string_mk Tryd.underlying9 hs) (val := v) (d := .held v) (ps := []) rfl
  refine ⟨w', hrun, ⟨_, _, h4, by omega, fun t ht => ?_⟩, h5⟩
  by_cases e : t = s
  · subst e
    dsimp only
    rw [if_pos rfl]
    exact ⟨has_put_same h1.isMap (isKey _) _, atKey_put_same h1.isMap (isKey _) _ _⟩
  · dsimp only
    rw [if_neg e]
    have hne : Lit.string t.data.toList ≠ Lit.string s.data.toList := fun q => e (L_inj (by injection q))
    obtain ⟨e1, e2⟩ := h3 t ht
    exact ⟨(has_put_other hne _).trans e1, (atKey_put_other hne _ _).trans e2⟩
/-- 'delete(m, k)'. -/
theorem MapIs.drop {w : World} {b N : Nat} {f : ByteArray → Option Value} (h : MapIs w b N f) {s : ByteArray} (hs : s.size ≤ maxLen) (ty : TypeId) :
    ∃ w', (Builtin.delete_ #[57, 9] ty #[.map (some b), .string s]).run Tryd.prog w = .ok (.tuple #[]) w' ∧ MapIs w' b N (fun t => if t = s then none else f t) ∧ w.mapTurned w' b := by
  obtain ⟨D, n, h1, h2, h3⟩ := h
  obtain ⟨w', hrun, h4, h5⟩ := h1.drop keyLaw Tryd.underlying57 (keyOf_string_mk Tryd.underlying9 hs) ty
  refine ⟨w', hrun, ⟨_, _, h4, by omega, fun t ht => ?_⟩, h5⟩
  by_cases e : t = s
  · subst e
    dsimp only
    rw [if_pos rfl]
    exact ⟨has_del_same, atKey_del_same _⟩
  · dsimp only
    rw [if_neg e]
    have hne : Lit.string t.data.toList ≠ Lit.string s.data.toList := fun q => e (L_inj (by injection q))
    obtain ⟨e1, e2⟩ := h3 t ht
    exact ⟨(has_del_other hne).trans e1, (atKey_del_other hne _).trans e2⟩

/-! ### A tree -/
def kidF (es : List E) (A : ByteArray → Nat) (p n : ByteArray) : Option Value := if nameB n = true then (lookE es (joinI p n)).map (fun e => nodeV e (A (joinI p n))) else none
structure Rep (w : World) (base N : Nat) (es : List E) (A : ByteArray → Nat) : Prop where
  kids : ∀ p, dirE es p = true → MapIs w (A p) N (kidF es A p)
  low : ∀ p, dirE es p = true → base ≤ A p
  apart : ∀ p q, dirE es p = true → dirE es q = true → A p = A q → p = q
abbrev treeV (A : ByteArray → Nat) : Value := .agg #[.bool true, .string ⟨#[]⟩, .map (some (A ⟨#[47]⟩))]

theorem Rep.keep {w w' : World} {base N : Nat} {es : List E} {A : ByteArray → Nat} (h : Rep w base N es A) (hb : ∀ b, b < w.heap.size → (∃ o c, w.heap[b]? = some (.map o c)) → w'.heap[b]? = w.heap[b]?) : Rep w' base N es A where
  kids p hp := (h.kids p hp).kept (hb _ (h.kids p hp).lt (by obtain ⟨D, n, ⟨es, c, h1, _⟩, _⟩ := h.kids p hp; exact ⟨es, c, h1⟩))
  low := h.low
  apart := h.apart
theorem Rep.below {w w' : World} {base N : Nat} {es : List E} {A : ByteArray → Nat} (h : Rep w base N es A) (hb : Below w.heap.size w w') : Rep w' base N es A :=
  h.keep fun b hl _ => hb.block b hl
theorem dir_root (es : List E) : dirE es ⟨#[47]⟩ = true := look_dir (.inl rfl)
end Go.Proofs.YtenlibefdefjmaaDoor
