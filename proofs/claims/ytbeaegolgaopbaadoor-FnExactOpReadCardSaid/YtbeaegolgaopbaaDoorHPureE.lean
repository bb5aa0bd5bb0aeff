/-
  Plain facts on trees as lists of entries: no program is named here.
-/
import Derived.Test.YtbeaegolgaopbaaDoorHPure
namespace Go.Proofs.YtbeaegolgaopbaaDoor
open Go.Lib

/-- An entry: its path, whether it is a directory, its data. -/
structure E where
  p : ByteArray
  d : Bool
  x : ByteArray
/-- The place of a path in a list, from the place k on, or -1. -/
def findL (s : ByteArray) : List E → Nat → Int
  | [], _ => -1
  | e :: r, k => if (e.p.toList == s.toList) = true then (k : Int) else findL s r (k + 1)
def findE (es : List E) (s : ByteArray) : Int := findL s es 0
theorem find_drop (s : ByteArray) (es : List E) (k : Nat) (h : k < es.length) : findL s (es.drop k) k = if (es[k].p.toList == s.toList) = true then (k : Int) else findL s (es.drop (k + 1)) (k + 1) := by
  rw [List.drop_eq_getElem_cons h]; rfl
theorem findL_range (s : ByteArray) : ∀ (es : List E) (k : Nat), findL s es k = -1 ∨ ∃ (j : Nat) (h : j < es.length), findL s es k = ((k + j : Nat) : Int) ∧ (es[j].p.toList == s.toList) = true
  | [], _ => .inl rfl
  | e :: r, k => by
    unfold findL
    split
    · rename_i h; exact .inr ⟨0, Nat.succ_pos _, rfl, h⟩
    · rcases findL_range s r (k + 1) with h | ⟨j, h, e1, e2⟩
      · exact .inl h
      · exact .inr ⟨j + 1, Nat.succ_lt_succ h, by rw [e1]; omega, e2⟩
theorem findE_is (es : List E) (s : ByteArray) : findE es s = -1 ∨ ∃ (j : Nat) (h : j < es.length), findE es s = (j : Int) ∧ (es[j].p.toList == s.toList) = true := by
  rcases findL_range s es 0 with h | ⟨j, h, e1, e2⟩
  · exact .inl h
  · exact .inr ⟨j, h, by unfold findE; rw [e1]; omega, e2⟩
/-- There is a directory at a path, or it is the root. -/
def dirE (es : List E) (s : ByteArray) : Bool := isRoot s || match es[(findE es s).toNat]? with
  | some e => decide (0 ≤ findE es s) && e.d
  | none => false
/-- Data. -/
def dataC (c : UInt8) : Bool := low c || decide (48 ≤ c.toNat ∧ c.toNat ≤ 57)
def dataB (s : ByteArray) : Bool := s.data.toList.all dataC && decide (s.size ≤ 6)
/-- What TreeOk asks of the entry at the place i. -/
def okAt (es : List E) (i : Nat) : Bool :=
  match es[i]? with
  | none => true
  | some e => pathB e.p && (dataB e.x && (!(e.d && !e.x.toList.isEmpty) && ((i == 0 || Op.bytesLess ((es[i - 1]?.map (·.p.toList)).getD []) e.p.toList) && dirE (es.take i) (upS e.p))))
def treeE (es : List E) : Bool := decide (es.length ≤ 16) && (List.range es.length).all (okAt es)
theorem okAt_is {es : List E} {i : Nat} (h : i < es.length) : okAt es i = (pathB es[i].p && (dataB es[i].x && (!(es[i].d && !es[i].x.toList.isEmpty) && ((i == 0 || Op.bytesLess ((es[i - 1]?.map (·.p.toList)).getD []) es[i].p.toList) && dirE (es.take i) (upS es[i].p))))) := by
  unfold okAt; rw [List.getElem?_eq_getElem h]
theorem treeE_no {es : List E} {i : Nat} (h : i < es.length) (hb : okAt es i = false) : false = treeE es := by
  unfold treeE
  have : (List.range es.length).all (okAt es) = false := by
    rw [List.all_eq_false]; exact ⟨i, List.mem_range.2 h, by rw [hb]; decide⟩
  rw [this, Bool.and_false]
theorem all_range_succ (f : Nat → Bool) (k : Nat) (h : (List.range k).all f = true) (hk : f k = true) : (List.range (k + 1)).all f = true := by
  rw [List.range_succ, List.all_append, h, List.all_cons, hk]; rfl
def rootE : E := ⟨⟨#[47]⟩, true, ⟨#[]⟩⟩
def noneE : E := ⟨⟨#[]⟩, false, ⟨#[]⟩⟩
/-- What is at a path of a right tree. -/
def getE (es : List E) (s : ByteArray) : E × Bool :=
  if isRoot s = true then (rootE, true) else match es[(findE es s).toNat]? with
  | some e => if 0 ≤ findE es s then (e, true) else (noneE, false)
  | none => (noneE, false)
theorem getE_root {es : List E} {s : ByteArray} (h : isRoot s = true) : getE es s = (rootE, true) := by unfold getE; rw [if_pos h]
theorem getE_no {es : List E} {s : ByteArray} (h : isRoot s = false) (hf : findE es s = -1) : getE es s = (noneE, false) := by
  unfold getE; rw [h, if_neg (by decide), hf]; split
  · rw [if_neg (by decide)]
  · rfl
theorem getE_at {es : List E} {s : ByteArray} (h : isRoot s = false) {j : Nat} (hj : j < es.length) (hf : findE es s = (j : Int)) : getE es s = (es[j], true) := by
  unfold getE; rw [h, if_neg (by decide), hf]
  have e : es[((j : Nat) : Int).toNat]? = some es[j] := by rw [show ((j : Nat) : Int).toNat = j from rfl, List.getElem?_eq_getElem hj]
  rw [e]; simp
/-- What TreeGet tells. -/
def tgetE (es : List E) (s : ByteArray) : E × Bool := if treeE es = true then getE es s else (noneE, false)
/-- What is done: its kind, its path, where to, its data. -/
structure O where
  k : Int
  p : ByteArray
  t : ByteArray
  x : ByteArray
def emptyB (s : ByteArray) : Bool := s.toList.isEmpty
def opB (o : O) : Bool :=
  (decide (1 ≤ o.k ∧ o.k ≤ 5) && pathB o.p) && (if o.k = 5 then pathB o.t && emptyB o.x else (emptyB o.t && dataB o.x) && (decide (o.k = 2) || emptyB o.x))
def kidB (s : ByteArray) (e : E) : Bool := (upS e.p).toList == s.toList
/-- The names in a directory. -/
def kidsE (es : List E) (s : ByteArray) : List ByteArray := (es.filter (kidB s)).map (fun e => nmS e.p)
theorem kids_succ (es : List E) (s : ByteArray) (k : Nat) (h : k < es.length) : kidsE (es.take (k + 1)) s = kidsE (es.take k) s ++ (if kidB s es[k] = true then [nmS es[k].p] else []) := by
  unfold kidsE
  rw [List.take_succ_eq_append_getElem h, List.filter_append, List.map_append]
  congr 1
  by_cases hb : kidB s es[k] = true
  · simp [hb]
  · simp [hb]
theorem kids_len (es : List E) (s : ByteArray) (k : Nat) : (kidsE (es.take k) s).length ≤ k := by
  unfold kidsE
  rw [List.length_map]
  have := List.length_filter_le (kidB s) (es.take k)
  rw [List.length_take] at this; omega
/-- How it ends by what something would be in. -/
def upC (es : List E) (s : ByteArray) : Int := if (getE es (upS s)).2 = false then 2 else if (getE es (upS s)).1.d = false then 3 else 0
/-- How it ends if something new comes to a path. -/
def newC (es : List E) (s : ByteArray) : Int := if upC es s ≠ 0 then upC es s else if (getE es s).2 = true then 4 else if 16 ≤ es.length then 8 else 0
/-- How putting a file ends. -/
def putC (es : List E) (s : ByteArray) : Int := if newC es s = 4 then (if (getE es s).1.d = true then 5 else 0) else newC es s
/-- How taking something away ends. -/
def offC (es : List E) (k : Int) (s : ByteArray) : Int :=
  if (getE es s).2 = false then 2 else if k = 3 ∧ (getE es s).1.d = true then 5 else if k = 4 ∧ (getE es s).1.d = false then 3 else if 0 < (kidsE es s).length then 6 else 0
/-- What TreeList tells: the names, and the code. -/
def listC (es : List E) (s : ByteArray) : Int :=
  if (treeE es && (isRoot s || pathB s)) = false then 1 else if (getE es s).2 = false then 2 else if (getE es s).1.d = false then 3 else 0
def listE (es : List E) (s : ByteArray) : List ByteArray := if listC es s = 0 then kidsE es s else []
theorem list_no {es : List E} {s : ByteArray} {c : Int} (h : listC es s = c) (h0 : c ≠ 0) : listE es s = [] := by unfold listE; rw [h, if_neg h0]
/-- Two entries are the same. -/
def sameT1 (e f : E) : Bool := (e.p.toList == f.p.toList) && (e.d == f.d) && (e.x.toList == f.x.toList)
/-- Two lists of entries are the same. -/
def sameT : List E → List E → Bool
  | [], [] => true
  | e :: r, f :: q => sameT1 e f && sameT r q
  | _, _ => false
theorem same_drop (es fs : List E) (k : Nat) (h : k < es.length) (h2 : k < fs.length) : sameT (es.drop k) (fs.drop k) = (sameT1 es[k] fs[k] && sameT (es.drop (k + 1)) (fs.drop (k + 1))) := by
  rw [List.drop_eq_getElem_cons h, List.drop_eq_getElem_cons h2]; rfl
def cellsE (e : E) : List Value := [.string e.p, .bool e.d, .string e.x]
def rowE (es : List E) : List Value := es.flatMap cellsE
theorem rowE_len : ∀ es : List E, (rowE es).length = es.length * 3
  | [] => rfl
  | e :: r => by
    show (cellsE e ++ rowE r).length = _
    rw [List.length_append, rowE_len r, List.length_cons]
    show 3 + _ = _; omega
/-- A path is taken out. -/
def offE (es : List E) (s : ByteArray) : List E := es.filter (fun e => !(e.p.toList == s.toList))
theorem off_succ (es : List E) (s : ByteArray) (k : Nat) (h : k < es.length) : offE (es.take (k + 1)) s = offE (es.take k) s ++ (if (es[k].p.toList == s.toList) = true then [] else [es[k]]) := by
  unfold offE
  rw [List.take_succ_eq_append_getElem h, List.filter_append]
  congr 1
  by_cases hb : (es[k].p.toList == s.toList) = true
  · simp [hb]
  · simp only [Bool.not_eq_true] at hb
    simp [hb]
/-- What stands ahead of an entry. -/
def ltP (e : E) (f : E) : Bool := Op.bytesLess f.p.toList e.p.toList
def restE (e : E) : List E → List E
  | f :: r => if (f.p.toList == e.p.toList) = true then r else f :: r
  | [] => []
/-- An entry is put into a list, in the place of what is there. -/
def putE (es : List E) (e : E) : List E := es.takeWhile (ltP e) ++ [e] ++ restE e (es.dropWhile (ltP e))
theorem span_at {q : E → Bool} : ∀ (es : List E) (k : Nat), k ≤ es.length → (es.take k).all q = true → (∀ h : k < es.length, q es[k] = false) → es.takeWhile q = es.take k ∧ es.dropWhile q = es.drop k
  | [], 0, _, _, _ => ⟨rfl, rfl⟩
  | e :: r, 0, _, _, h => by
    have := h (by simp)
    simp only [List.getElem_cons_zero] at this
    simp [this]
  | e :: r, k + 1, hk, ha, h => by
    simp only [List.take_succ_cons, List.all_cons, Bool.and_eq_true] at ha
    obtain ⟨h1, h2⟩ := span_at r k (by simpa using hk) ha.2 (fun hh => by have := h (by simpa using hh); simpa using this)
    simp [ha.1, h1, h2]
/-- An entry whose path is moved. -/
def movE1 (f t : ByteArray) (e : E) : E := ⟨movS e.p f t, e.d, e.x⟩
/-- A path of a list is moved, and all below it. -/
def movE (es : List E) (f t : ByteArray) : List E := es.foldl (fun out e => putE out (movE1 f t e)) []
theorem mov_succ (es : List E) (f t : ByteArray) (k : Nat) (h : k < es.length) : movE (es.take (k + 1)) f t = putE (movE (es.take k) f t) (movE1 f t es[k]) := by
  unfold movE
  rw [List.take_succ_eq_append_getElem h, List.foldl_append]; rfl
theorem rest_len (e : E) (es : List E) : (restE e es).length ≤ es.length := by
  cases es with
  | nil => exact Nat.le_refl _
  | cons f r =>
    show (if (f.p.toList == e.p.toList) = true then r else f :: r).length ≤ _
    split
    · simp
    · exact Nat.le_refl _
theorem put_len (es : List E) (e : E) : (putE es e).length ≤ es.length + 1 := by
  unfold putE
  have h1 := rest_len e (es.dropWhile (ltP e))
  have h2 : (es.takeWhile (ltP e)).length + (es.dropWhile (ltP e)).length = es.length := by rw [← List.length_append, List.takeWhile_append_dropWhile]
  rw [List.length_append, List.length_append]
  simp; omega
theorem mov_len (es : List E) (f t : ByteArray) : ∀ k, k ≤ es.length → (movE (es.take k) f t).length ≤ k
  | 0, _ => by simp [movE]
  | k + 1, h => by
    rw [mov_succ es f t k (by omega)]
    have := put_len (movE (es.take k) f t) (movE1 f t es[k])
    have := mov_len es f t k (by omega)
    omega
def fitE (es : List E) (s t : ByteArray) : Bool := es.all (fun e => movOk e.p s t)
/-- How moving ends. -/
def moveC (es : List E) (s t : ByteArray) : Int :=
  if (getE es s).2 = false then 2 else if upC es t ≠ 0 then upC es t else if (getE es t).2 = true then 4 else if underL t s = true then 7 else if fitE es s t = true then 0 else 8
theorem fit_succ (es : List E) (s t : ByteArray) (k : Nat) (h : k < es.length) (ha : fitE (es.take k) s t = true) (hk : movOk es[k].p s t = true) : fitE (es.take (k + 1)) s t = true := by
  unfold fitE at *
  rw [List.take_succ_eq_append_getElem h, List.all_append, ha]; simp [hk]
theorem fit_no (es : List E) (s t : ByteArray) (k : Nat) (h : k < es.length) (hk : movOk es[k].p s t = false) : fitE es s t = false := by
  unfold fitE
  rw [List.all_eq_false]
  exact ⟨es[k], List.getElem_mem _, by rw [hk]; decide⟩
/-- How something ends. -/
def codeC (es : List E) (k : Int) (p t : ByteArray) : Int :=
  if k = 1 then newC es p else if k = 2 then putC es p else if k = 5 then moveC es p t else offC es k p
/-- What is made of a list by what is done. -/
def madeE (es : List E) (k : Int) (p t x : ByteArray) : List E :=
  if k = 1 then putE es ⟨p, true, ⟨#[]⟩⟩ else if k = 2 then putE es ⟨p, false, x⟩ else if k = 5 then movE es p t else offE es p
def doC (es : List E) (q : O) : Int := if (treeE es && opB q) = true then codeC es q.k q.p q.t else 1
def doE (es : List E) (q : O) : List E := if treeE es = true then (if doC es q = 0 then madeE es q.k q.p q.t q.x else es) else []
/-- Both lists in one. -/
def bothE (es fs : List E) : List E := fs.foldl putE es
theorem both_succ (es fs : List E) (k : Nat) (h : k < fs.length) : bothE es (fs.take (k + 1)) = putE (bothE es (fs.take k)) fs[k] := by
  unfold bothE
  rw [List.take_succ_eq_append_getElem h, List.foldl_append]; rfl
theorem rest_lenT (e : E) (es : List E) : (restE e es).length ≤ es.length := by
  cases es with
  | nil => exact Nat.le_refl _
  | cons f r =>
    show (if (f.p.toList == e.p.toList) = true then r else f :: r).length ≤ _
    split
    · simp
    · exact Nat.le_refl _
theorem put_lenT (es : List E) (e : E) : (putE es e).length ≤ es.length + 1 := by
  unfold putE
  have h1 := rest_lenT e (es.dropWhile (ltP e))
  have h2 : (es.takeWhile (ltP e)).length + (es.dropWhile (ltP e)).length = es.length := by rw [← List.length_append, List.takeWhile_append_dropWhile]
  rw [List.length_append, List.length_append]
  simp; omega
theorem both_len (es fs : List E) : ∀ k, k ≤ fs.length → (bothE es (fs.take k)).length ≤ es.length + k
  | 0, _ => by simp [bothE]
  | k + 1, h => by
    rw [both_succ es fs k (by omega)]
    have := put_lenT (bothE es (fs.take k)) fs[k]
    have := both_len es fs k (by omega)
    omega
/-- There is not the same at a path. -/
def turnB (es fs : List E) (e : E) : Bool := ((getE es e.p).2 != (getE fs e.p).2) || !(sameT1 (getE es e.p).1 (getE fs e.p).1)
def turnE (es fs : List E) : List ByteArray := ((bothE es fs).filter (turnB es fs)).map (·.p)
def turnL (es fs bs : List E) : List ByteArray := (bs.filter (turnB es fs)).map (·.p)
theorem turn_succ (es fs bs : List E) (k : Nat) (h : k < bs.length) : turnL es fs (bs.take (k + 1)) = turnL es fs (bs.take k) ++ (if turnB es fs bs[k] = true then [bs[k].p] else []) := by
  unfold turnL
  rw [List.take_succ_eq_append_getElem h, List.filter_append, List.map_append]
  congr 1
  by_cases hb : turnB es fs bs[k] = true
  · simp [hb]
  · simp [hb]
theorem turn_len (es fs bs : List E) (k : Nat) : (turnL es fs (bs.take k)).length ≤ k := by
  unfold turnL
  rw [List.length_map]
  have := List.length_filter_le (turnB es fs) (bs.take k)
  rw [List.length_take] at this; omega
theorem treeE_len {es : List E} (h : treeE es = true) : es.length ≤ 65536 := by
  unfold treeE at h
  rw [Bool.and_eq_true] at h
  have := of_decide_eq_true h.1; omega
/-- What TreeTurned tells. -/
def turnedE (es fs : List E) : List ByteArray := if (treeE es && treeE fs) = true then turnE es fs else []
theorem data_take (s : ByteArray) (pos : Nat) (h : pos < s.size) : (s.data.toList.take (pos + 1)).all dataC = ((s.data.toList.take pos).all dataC && dataC s[pos]) := by
  rw [List.take_succ_eq_append_getElem (by rw [len_data]; exact h), List.all_append]
  simp only [List.all_cons, List.all_nil, Bool.and_true]; rfl
theorem data_bad (s : ByteArray) (pos : Nat) (h : pos < s.size) (hl : dataC s[pos] = false) : false = dataB s := by
  unfold dataB
  have : s.data.toList.all dataC = false := by
    rw [List.all_eq_false]
    exact ⟨s[pos], by rw [show s[pos] = s.data.toList[pos]'(by rw [len_data]; exact h) from rfl]; exact List.getElem_mem _, by rw [hl]; decide⟩
  rw [this]; rfl
theorem data_all (s : ByteArray) (k : Nat) (hk : k = s.size) (h : (s.data.toList.take k).all dataC = true) : decide (s.size ≤ 6) = dataB s := by
  subst hk
  rw [List.take_of_length_le (by rw [len_data]; omega)] at h
  unfold dataB; rw [h, Bool.true_and]

/-- A rune that is a letter or a digit is a byte that is one. -/
theorem rune_data (s : ByteArray) (pos : Nat) (h : pos < s.size) (h1 : (97 ≤ (Utf8.decode s pos).1 ∧ (Utf8.decode s pos).1 ≤ 122) ∨ (48 ≤ (Utf8.decode s pos).1 ∧ (Utf8.decode s pos).1 ≤ 57)) :
    (Utf8.decode s pos).2 = 1 ∧ dataC s[pos] = true := by
  by_cases ha : (s[pos]'h).toNat < 128
  · rw [decode_ascii s pos h ha] at h1 ⊢
    refine ⟨rfl, ?_⟩
    unfold dataC low
    rw [Bool.or_eq_true, decide_eq_true_eq, decide_eq_true_eq]
    exact h1
  · have := (decode_high s pos h (by omega)).1
    omega
theorem rune_no_data (s : ByteArray) (pos : Nat) (h : pos < s.size) (h1 : ¬ (97 ≤ (Utf8.decode s pos).1 ∧ (Utf8.decode s pos).1 ≤ 122)) (h2 : ¬ (48 ≤ (Utf8.decode s pos).1 ∧ (Utf8.decode s pos).1 ≤ 57)) :
    dataC s[pos] = false := by
  unfold dataC low
  rw [Bool.or_eq_false_iff, decide_eq_false_iff_not, decide_eq_false_iff_not]
  by_cases ha : (s[pos]'h).toNat < 128
  · rw [decode_ascii s pos h ha] at h1 h2
    exact ⟨h1, h2⟩
  · omega
end Go.Proofs.YtbeaegolgaopbaaDoor
