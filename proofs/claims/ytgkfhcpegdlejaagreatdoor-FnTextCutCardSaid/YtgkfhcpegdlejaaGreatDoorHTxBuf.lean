/-
  A buffer of bytes that a call owns, carried from append to append; whatever is no block of bytes stays as it is.
-/
import Derived.Lib.BufSteps
import Derived.Laws.IdiomStrings
namespace Go.Proofs.YtgkfhcpegdlejaaGreatDoor
open Go.RowKit Go.Lib

theorem strCells_add (a b : ByteArray) : strCells (a ++ b) = strCells a ++ strCells b := by
  unfold strCells; rw [ByteArray.data_append]; simp
theorem strCells_one (c : UInt8) : strCells ⟨#[c]⟩ = [.int .u8 (c.toNat : Int)] := rfl

/-- What is no block of bytes in W lies in w as it lay. -/
def KN (e : TypeId) (W w : World) : Prop := ∀ (k : Nat) (o : Obj), W.heap[k]? = some o → (∀ cs fz, o ≠ Obj.cells cs e fz) → w.heap[k]? = some o
theorem KN.refl (e : TypeId) (W : World) : KN e W W := fun _ _ h _ => h
theorem KN.trans {e : TypeId} {a b c : World} (h : KN e a b) (k : KN e b c) : KN e a c := fun i o hi ho => k i o (h i o hi ho) ho
theorem KN.alloc {e : TypeId} {a b : World} (h : KN e a b) (o : Obj) : KN e a (b.alloc o) := fun i x hi hx => by
  have := h i x hi hx
  rw [← this]
  have hlt : i < b.heap.size := (Array.getElem?_eq_some_iff.1 this).1
  exact heap_alloc_old b o i hlt

/-- In w the slice v owns the bytes s, in a block from B on; of what lay below B in W nothing has turned. -/
structure BufB (B : Nat) (e : TypeId) (v : Value) (s : ByteArray) (W w : World) : Prop where
  own : w.ownsRowF B e 1 v s.size (strCells s)
  below : Below B W w
  base : B ≤ w.heap.size
  kn : KN e W w

theorem BufB.nil (e : TypeId) {B : Nat} {W : World} (hB : B ≤ W.heap.size) : BufB B e (.slice none 0 0) ⟨#[]⟩ W W :=
  ⟨World.ownsRowF_nil W B e 1, Below.refl _ _, hB, KN.refl e W⟩
theorem BufB.grown {B : Nat} {e : TypeId} {v v' : Value} {s s' : ByteArray} {W w w' : World} (h : BufB B e v s W w) (ho : w'.ownsRowF B e 1 v' s'.size (strCells s')) (hg : w.grownBy w' v.ownBlock) : BufB B e v' s' W w' :=
  ⟨ho, h.below.grown hg h.base (fun k hk => (h.own.lt k hk).1), Nat.le_trans h.base hg.size, fun k o hk hne => by
    have h1 := h.kn k o hk hne
    rw [hg.block k (Array.getElem?_eq_some_iff.1 h1).1 ?_, h1]
    intro q
    rcases h.own.2 with ⟨rfl, _⟩ | ⟨g, cap, cur, fz, rfl, _, hgg, _⟩
    · simp [Value.ownBlock] at q
    · simp [Value.ownBlock] at q
      subst q
      rw [hgg] at h1
      exact hne _ _ (Option.some.inj h1).symm⟩
theorem BufB.alloc {B : Nat} {e : TypeId} {v : Value} {s : ByteArray} {W w : World} (h : BufB B e v s W w) (o : Obj) : BufB B e v s W (w.alloc o) :=
  ⟨h.own.alloc o, h.below.alloc h.base o, Nat.le_trans h.base ((Below.refl 0 w).alloc (Nat.zero_le _) o).size, h.kn.alloc o⟩
theorem BufB.drewN {B : Nat} {e : TypeId} {v : Value} {s : ByteArray} {W w : World} (h : BufB B e v s W w) (q : Nat) : BufB B e v s W (w.drewN q) :=
  ⟨h.own, ⟨h.below.os, h.below.tape, h.below.output, h.below.size, h.below.block⟩, h.base, h.kn⟩
theorem BufB.drew {B : Nat} {e : TypeId} {v : Value} {s : ByteArray} {W w : World} (h : BufB B e v s W w) : BufB B e v s W w.drew :=
  ⟨h.own, ⟨h.below.os, h.below.tape, h.below.output, h.below.size, h.below.block⟩, h.base, h.kn⟩
/-- From a later world on. -/
theorem BufB.from {B : Nat} {e : TypeId} {v : Value} {s : ByteArray} {W w : World} (h : BufB B e v s W w) : BufB B e v s w w := ⟨h.own, Below.refl _ _, h.base, KN.refl _ _⟩
theorem BufB.upon {B : Nat} {e : TypeId} {v v' : Value} {s s' : ByteArray} {W w w' : World} (h : BufB B e v s W w) (k : BufB B e v' s' w w') : BufB B e v' s' W w' :=
  ⟨k.own, h.below.trans k.below, k.base, h.kn.trans k.kn⟩

section
variable {P : Program}
theorem wpList_buf_byte {ops : Array Oper} {rest : List Oper} {o : Oper} {a : Act} {Q : Exit → Act → World → Prop} (hgd : o.guard = none) (sl x : Operand) (t : TypeId)
    (ho : o.op = .call { callee := .builtin .append, args := #[sl, x], argTypes := #[t, t] })
    (B : Nat) (e : TypeId) (i : TypeInfo) (ht : P.underlying t = some (.slice e)) (hi : P.info? e = some i) (hz : i.zero = some (.int .u8 0)) (hsize : i.size = 1) (hby : i.bytes = 1)
    (v : Value) (s : ByteArray) (hs : a.eval sl = v) (W w0 : World) (c : UInt8) (ci : Int) (hc : ci = (c.toNat : Int)) (hb : BufB B e v s W w0)
    (hx : a.eval x = .slice (some ⟨w0.heap.size, 0, none⟩) 1 1) (hlen : s.size + 1 ≤ 140737488355328)
    (h : ∀ v' w', BufB B e v' (s ++ ⟨#[c]⟩) W w' → wpList P ops Q rest (a.put o.dst v') w') : wpList P ops Q (o :: rest) a (w0.alloc (.cells #[.int .u8 ci] e)) := by
  subst hc
  have hb' := hb.alloc (.cells #[.int .u8 (c.toNat : Int)] e)
  refine wpList_append_ownF _ hgd sl x t ho B e i (.int .u8 0) 1 1 ht hi hz hsize hby rfl (by decide) v s.size (strCells s) hs hb'.own ⟨w0.heap.size, 0, none⟩ 1 1 [.int .u8 (c.toNat : Int)] hx rfl ?_ ?_ (by unfold maxLen; omega) (by omega) hb'.base ?_
  · intro j u hj
    match j, hj with
    | 0, hj => simp at hj; subst hj; simp [Addr.add]
    | (j + 1), hj => simp at hj
  · intro u hu; simp at hu; subst hu; rfl
  · intro v' w' ho' hg _
    refine h v' w' (hb'.grown ?_ hg)
    rw [strCells_add, ByteArray.size_append, strCells_one]; exact ho'

theorem wpList_buf_text {ops : Array Oper} {rest : List Oper} {o : Oper} {a : Act} {Q : Exit → Act → World → Prop} {w : World} (hgd : o.guard = none) (sl x : Operand) (t u : TypeId)
    (ho : o.op = .call { callee := .builtin .append, args := #[sl, x], argTypes := #[t, u] })
    (B : Nat) (e : TypeId) (i : TypeInfo) (ht : P.underlying t = some (.slice e)) (hu : P.underlying u = some .string) (hi : P.info? e = some i) (hz : i.zero = some (.int .u8 0)) (hsize : i.size = 1) (hby : i.bytes = 1)
    (v : Value) (s : ByteArray) (hs : a.eval sl = v) (W : World) (hb : BufB B e v s W w) (m : ByteArray) (hx : a.eval x = .string m) (hlen : s.size + m.size ≤ 140737488355328)
    (h : ∀ v' w', BufB B e v' (s ++ m) W w' → wpList P ops Q rest (a.put o.dst v') w') : wpList P ops Q (o :: rest) a w := by
  refine wpList_append_own_stringF w hgd sl x t u ho B e i ht hu hi hz hsize hby v s.size (strCells s) hs hb.own m hx (by unfold maxLen; omega) hlen hb.base ?_
  intro v' w' ho' hg _
  refine h v' w' (hb.grown ?_ hg)
  rw [strCells_add, ByteArray.size_append]; exact ho'

/-- The text of a buffer. -/
theorem run_convert_buf {B : Nat} {e : TypeId} {v : Value} {s : ByteArray} {W w : World} (hb : BufB B e v s W w) (src dst : TypeId) (hs : P.underlying src = some (.slice e)) (he : P.underlying e = some (.int .u8)) (hd : P.underlying dst = some .string) :
    (convert src dst v).run P w = .ok (.string s) w := by
  rcases hb.own.2 with ⟨rfl, hn⟩ | ⟨g, cap, cur, fz, rfl, _, hgg, _⟩
  · have hz : s = ⟨#[]⟩ := by
      have : s.data.size = 0 := hn
      cases s with | mk d => simp at this; rw [this]
    subst hz
    rw [run_convert_bytes_string w src dst e none 0 0 hs he hd]
    rfl
  · have hl : s.data.toList.length = s.size := by rw [Array.length_toList]; rfl
    have h := run_convert_bytes_back (P := P) w src dst e ⟨g, 0, none⟩ cap s.data.toList hs he hd (fun j hj => by
      refine hb.own.cells (g := g) rfl j _ ?_
      unfold strCells
      rw [List.getElem?_map, List.getElem?_eq_getElem hj]; rfl)
    rw [hl] at h
    rw [h]
end
end Go.Proofs.YtgkfhcpegdlejaaGreatDoor
