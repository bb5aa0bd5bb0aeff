/-
  Plain facts on layers as lists of marks: what the model says of them.
-/
import Derived.Test.YtnepnahjiilnoaaDoorHPk02
namespace Go.Proofs.YtnepnahjiilnoaaDoor.Mk
open Go.Lib

/-- The place of a path in a list, from the place k on, or -1. -/
def findL (s : ByteArray) : List E → Nat → Int
  | [], _ => -1
  | e :: r, k => if (e.p.toList == s.toList) = true then (k : Int) else findL s r (k + 1)
def findE (es : List E) (s : ByteArray) : Int := findL s es 0
theorem find_drop (s : ByteArray) (es : List E) (k : Nat) (h : k < es.length) : findL s (es.drop k) k = if (es[k].p.toList == s.toList) = true then (k : Int) else findL s (es.drop (k + 1)) (k + 1) := by
  rw [List.drop_eq_getElem_cons h]; rfl
theorem findL_range (s : ByteArray) : ∀ (es : List E) (k : Nat), findL s es k = -1 ∨ ∃ (j : Nat) (h : j < es.length), findL s es k = ((k + j : Nat) : Int) ∧ (es[j].p.toList == s.toList) = true
  | [], _ => .inl rfl
  | e :: r, k => by
    unfold findL
    split
    · rename_i h; exact .inr ⟨0, Nat.succ_pos _, rfl, h⟩
    · rcases findL_range s r (k + 1) with h | ⟨j, h, e1, e2⟩
      · exact .inl h
      · exact .inr ⟨j + 1, Nat.succ_lt_succ h, by rw [e1]; omega, e2⟩
theorem findE_is (es : List E) (s : ByteArray) : findE es s = -1 ∨ ∃ (j : Nat) (h : j < es.length), findE es s = (j : Int) ∧ (es[j].p.toList == s.toList) = true := by
  rcases findL_range s es 0 with h | ⟨j, h, e1, e2⟩
  · exact .inl h
  · exact .inr ⟨j, h, by unfold findE; rw [e1]; omega, e2⟩
/-- The kind of the mark at a path, or 0. -/
def kindM (es : List E) (s : ByteArray) : Int := match es[(findE es s).toNat]? with
  | some e => if 0 ≤ findE es s then e.d else 0
  | none => 0
theorem kind_no {es : List E} {s : ByteArray} (h : findE es s = -1) : kindM es s = 0 := by
  unfold kindM; rw [h]; split <;> simp
theorem kind_at {es : List E} {s : ByteArray} {j : Nat} (hj : j < es.length) (h : findE es s = (j : Int)) : kindM es s = es[j].d := by
  unfold kindM; rw [h]
  have e : es[((j : Nat) : Int).toNat]? = some es[j] := by rw [show ((j : Nat) : Int).toNat = j from rfl, List.getElem?_eq_getElem hj]
  rw [e]; simp
/-- A path is below one that is bare. -/
def bareM (es : List E) (s : ByteArray) : Bool := es.any (fun e => (e.d == 4) && underL s e.p)
theorem bare_drop (es : List E) (s : ByteArray) (k : Nat) (h : k < es.length) : bareM (es.drop k) s = (((es[k].d == 4) && underL s es[k].p) || bareM (es.drop (k + 1)) s) := by
  unfold bareM; rw [List.drop_eq_getElem_cons h]; rfl
/-- A path is in the root, or in a directory of the layer. -/
def inM (es : List E) (s : ByteArray) : Bool := isRoot (upS s) || ((kindM es (upS s) == 2) || (kindM es (upS s) == 4))
/-- What LayerOk asks of the mark at the place i. -/
def okM (es : List E) (i : Nat) : Bool :=
  match es[i]? with
  | none => true
  | some e => decide (1 ≤ e.d ∧ e.d ≤ 4) && (pathB e.p && (dataB e.x && (!((e.d != 1) && !e.x.toList.isEmpty) && ((i == 0 || Op.bytesLess ((es[i - 1]?.map (·.p.toList)).getD []) e.p.toList) && (inM (es.take i) e.p && !(decide (2 < e.d) && bareM (es.take i) e.p))))))
def layB (es : List E) : Bool := (List.range es.length).all (okM es) && decide (es.length ≤ 32)
theorem okM_is {es : List E} {i : Nat} (h : i < es.length) : okM es i = (decide (1 ≤ es[i].d ∧ es[i].d ≤ 4) && (pathB es[i].p && (dataB es[i].x && (!((es[i].d != 1) && !es[i].x.toList.isEmpty) && ((i == 0 || Op.bytesLess ((es[i - 1]?.map (·.p.toList)).getD []) es[i].p.toList) && (inM (es.take i) es[i].p && !(decide (2 < es[i].d) && bareM (es.take i) es[i].p))))))) := by
  unfold okM; rw [List.getElem?_eq_getElem h]
theorem layB_no {es : List E} {i : Nat} (h : i < es.length) (hb : okM es i = false) : false = layB es := by
  unfold layB
  have : (List.range es.length).all (okM es) = false := by
    rw [List.all_eq_false]; exact ⟨i, List.mem_range.2 h, by rw [hb]; decide⟩
  rw [this, Bool.false_and]
/-- A layer hides what is beneath at a path. -/
def hideM (s : ByteArray) (e : E) : Bool := ((e.p.toList == s.toList) && (e.d != 2)) || ((e.d != 2) && underL s e.p)
def hidesM (es : List E) (s : ByteArray) : Bool := es.any (hideM s)
theorem hides_drop (es : List E) (s : ByteArray) (k : Nat) (h : k < es.length) : hidesM (es.drop k) s = (hideM s es[k] || hidesM (es.drop (k + 1)) s) := by
  unfold hidesM; rw [List.drop_eq_getElem_cons h]; rfl
def layHides (es : List E) (s : ByteArray) : Bool := layB es && (pathB s && hidesM es s)
end Go.Proofs.YtnepnahjiilnoaaDoor.Mk
