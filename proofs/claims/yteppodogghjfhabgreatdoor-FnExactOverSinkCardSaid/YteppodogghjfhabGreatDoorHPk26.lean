/-
  The walks of the model's draws: short texts, whatever the code.
-/
import Derived.OpenShut
import Derived.Test.YteppodogghjfhabGreatDoorHPick
import Derived.Test.YteppodogghjfhabGreatDoorHPk19
namespace Go.Proofs.YteppodogghjfhabGreatDoor
open Go.RowKit Go.Lib

/-- A list of short texts lies in the block g. -/
def Lst (w : World) (g m : Nat) : Prop := ∀ i, i < m → ∃ s : ByteArray, w.cell? ⟨g, i, none⟩ = some (.string s) ∧ s.size ≤ 16
theorem Lst.new (w : World) (xs : List ByteArray) (t : TypeId) (h : ∀ x ∈ xs, x.size ≤ 16) : Lst (w.alloc (.cells (xs.map Value.string).toArray t)) w.heap.size xs.length := by
  intro i hi
  refine ⟨xs[i], ?_, h _ (List.getElem_mem _)⟩
  rw [World.cell?_alloc_new, List.getElem?_toArray, List.getElem?_map, List.getElem?_eq_getElem hi]; rfl
/-- A slice of bytes that came in. -/
def Cod (w : World) (a : Option Addr) (len cap : Nat) : Prop := ∃ xb xo, (0 < len → a = some ⟨xb, xo, none⟩ ∧ xb < w.heap.size) ∧ len ≤ cap ∧ ∀ i, i < len → ∃ z : Int, w.cell? ⟨xb, xo + i, none⟩ = some (.int .u8 z) ∧ 0 ≤ z ∧ z ≤ 255

theorem Cod.below {w w' : World} {a : Option Addr} {len cap : Nat} (h : Cod w a len cap) (hb : Below w.heap.size w w') : Cod w' a len cap := by
  obtain ⟨xb, xo, ha, hlc, hz⟩ := h
  refine ⟨xb, xo, fun h0 => ⟨(ha h0).1, Nat.lt_of_lt_of_le (ha h0).2 hb.size⟩, hlc, fun i hi => ?_⟩
  obtain ⟨z, cz, z0, z1⟩ := hz i hi
  exact ⟨z, (hb.cell (p := ⟨xb, xo + i, none⟩) (cell_ltR cz)).trans cz, z0, z1⟩

theorem B3 {a b c : World} (h : Below a.heap.size a b) (k : Below b.heap.size b c) : Below a.heap.size a c := h.trans (k.mono h.size)

end Go.Proofs.YteppodogghjfhabGreatDoor

/-
  The walks of the model's smallest draws, whatever the code, and what is kept meanwhile.
-/
namespace Go.Proofs.YteppodogghjfhabGreatDoor
open Go.RowKit Go.Lib

/-- A list of texts that are so lies in the block g. -/
def LstP (P : ByteArray → Bool) (w : World) (g m : Nat) : Prop := ∀ i, i < m → ∃ s : ByteArray, w.cell? ⟨g, i, none⟩ = some (.string s) ∧ P s = true
theorem LstP.new (P : ByteArray → Bool) (w : World) (xs : List ByteArray) (t : TypeId) (h : xs.all P = true) : LstP P (w.alloc (.cells (xs.map Value.string).toArray t)) w.heap.size xs.length := by
  intro i hi
  refine ⟨xs[i], ?_, List.all_eq_true.1 h _ (List.getElem_mem _)⟩
  rw [World.cell?_alloc_new, List.getElem?_toArray, List.getElem?_map, List.getElem?_eq_getElem hi]; rfl
def LstI (P : Int → Bool) (w : World) (g m : Nat) : Prop := ∀ i, i < m → ∃ z : Int, w.cell? ⟨g, i, none⟩ = some (.int .i64 z) ∧ P z = true
theorem LstI.new (P : Int → Bool) (w : World) (xs : List Int) (t : TypeId) (h : xs.all P = true) : LstI P (w.alloc (.cells (xs.map (Value.int .i64)).toArray t)) w.heap.size xs.length := by
  intro i hi
  refine ⟨xs[i], ?_, List.all_eq_true.1 h _ (List.getElem_mem _)⟩
  rw [World.cell?_alloc_new, List.getElem?_toArray, List.getElem?_map, List.getElem?_eq_getElem hi]; rfl

/-- Below n nothing but the block r has turned. -/
def Kn (n r : Nat) (w w' : World) : Prop := w'.os = w.os ∧ w'.tape = w.tape ∧ w'.output = w.output ∧ w.heap.size ≤ w'.heap.size ∧ ∀ b, b < n → b ≠ r → w'.heap[b]? = w.heap[b]?
theorem Kn.refl (n r : Nat) (w : World) : Kn n r w w := ⟨rfl, rfl, rfl, Nat.le_refl _, fun _ _ _ => rfl⟩
theorem Kn.step {n r : Nat} {a b c : World} (h : Kn n r a b) (hn : n ≤ a.heap.size) (k : Kept r b c) : Kn n r a c :=
  ⟨k.1.trans h.1, k.2.1.trans h.2.1, k.2.2.1.trans h.2.2.1, Nat.le_trans h.2.2.2.1 k.2.2.2.1, fun x hx hr => (k.2.2.2.2 x (Nat.lt_of_lt_of_le hx (Nat.le_trans hn h.2.2.2.1)) hr).trans (h.2.2.2.2 x hx hr)⟩
theorem Kn.other {n r q : Nat} {a b c : World} (h : Kn n r a b) (hn : n ≤ a.heap.size) (hq : n ≤ q) (k : Kept q b c) : Kn n r a c :=
  ⟨k.1.trans h.1, k.2.1.trans h.2.1, k.2.2.1.trans h.2.2.1, Nat.le_trans h.2.2.2.1 k.2.2.2.1, fun x hx hr => (k.2.2.2.2 x (Nat.lt_of_lt_of_le hx (Nat.le_trans hn h.2.2.2.1)) (by omega)).trans (h.2.2.2.2 x hx hr)⟩
theorem Kn.kept {r : Nat} {a b : World} (h : Kn a.heap.size r a b) : Kept r a b := h
theorem Kept.setCell {r : Nat} (w : World) (o : Nat) (v : Value) : Kept r w (w.setCell ⟨r, o, none⟩ v) := by
  have := Kept.set (r := r) w o v 0
  exact this
theorem Kept.alloc {r : Nat} (w : World) (o : Obj) : Kept r w (w.alloc o) := Kept.of_below ((Below.refl _ w).alloc (Nat.le_refl _) _)
theorem Rd.keep {w w' : World} {r p b : Nat} (h : Rd w r p) (k : Kept b w w') (hb : r < b) : Rd w' r p := by
  have hr := h.lt
  obtain ⟨a, xb, xo, len, cap, c0, c1, f1, hl, ha, hz⟩ := h
  have hh := k.2.2.2.2 r hr (by omega)
  refine ⟨a, xb, xo, len, cap, k.cell (by omega) c0, k.cell (by omega) c1, (World.frozen?_of_block (w := w) (a := ⟨r, 1, none⟩) hh).trans f1, hl, ha, fun i hi => ?_⟩
  obtain ⟨z, cz, z0, z1⟩ := hz i hi
  have := (ha (by omega)).2
  exact ⟨z, k.cell (by omega) cz, z0, z1⟩
end Go.Proofs.YteppodogghjfhabGreatDoor
