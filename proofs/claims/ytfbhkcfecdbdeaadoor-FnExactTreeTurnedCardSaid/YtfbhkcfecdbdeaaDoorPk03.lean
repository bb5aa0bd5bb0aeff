/-
  Plain facts on trees as lists of entries: no program is named here.
-/
import Derived.Test.YtfbhkcfecdbdeaaDoorPk00
namespace Go.Proofs.YtfbhkcfecdbdeaaDoor
open Go.Lib

/-- An entry: its path, whether it is a directory, its data. -/
structure E where
  p : ByteArray
  d : Bool
  x : ByteArray
/-- The place of a path in a list, from the place k on, or -1. -/
def findL (s : ByteArray) : List E → Nat → Int
  | [], _ => -1
  | e :: r, k => if (e.p.toList == s.toList) = true then (k : Int) else findL s r (k + 1)
def findE (es : List E) (s : ByteArray) : Int := findL s es 0
theorem find_drop (s : ByteArray) (es : List E) (k : Nat) (h : k < es.length) : findL s (es.drop k) k = if (es[k].p.toList == s.toList) = true then (k : Int) else findL s (es.drop (k + 1)) (k + 1) := by
  rw [List.drop_eq_getElem_cons h]; rfl
theorem findL_range (s : ByteArray) : ∀ (es : List E) (k : Nat), findL s es k = -1 ∨ ∃ (j : Nat) (h : j < es.length), findL s es k = ((k + j : Nat) : Int) ∧ (es[j].p.toList == s.toList) = true
  | [], _ => .inl rfl
  | e :: r, k => by
    unfold findL
    split
    · rename_i h; exact .inr ⟨0, Nat.succ_pos _, rfl, h⟩
    · rcases findL_range s r (k + 1) with h | ⟨j, h, e1, e2⟩
      · exact .inl h
      · exact .inr ⟨j + 1, Nat.succ_lt_succ h, by rw [e1]; omega, e2⟩
theorem findE_is (es : List E) (s : ByteArray) : findE es s = -1 ∨ ∃ (j : Nat) (h : j < es.length), findE es s = (j : Int) ∧ (es[j].p.toList == s.toList) = true := by
  rcases findL_range s es 0 with h | ⟨j, h, e1, e2⟩
  · exact .inl h
  · exact .inr ⟨j, h, by unfold findE; rw [e1]; omega, e2⟩
/-- There is a directory at a path, or it is the root. -/
def dirE (es : List E) (s : ByteArray) : Bool := isRoot s || match es[(findE es s).toNat]? with
  | some e => decide (0 ≤ findE es s) && e.d
  | none => false
/-- Data. -/
def dataC (c : UInt8) : Bool := low c || decide (48 ≤ c.toNat ∧ c.toNat ≤ 57)
def dataB (s : ByteArray) : Bool := s.data.toList.all dataC && decide (s.size ≤ 6)
/-- What TreeOk asks of the entry at the place i. -/
def okAt (es : List E) (i : Nat) : Bool :=
  match es[i]? with
  | none => true
  | some e => pathB e.p && (dataB e.x && (!(e.d && !e.x.toList.isEmpty) && ((i == 0 || Op.bytesLess ((es[i - 1]?.map (·.p.toList)).getD []) e.p.toList) && dirE (es.take i) (upS e.p))))
def treeE (es : List E) : Bool := decide (es.length ≤ 16) && (List.range es.length).all (okAt es)
theorem okAt_is {es : List E} {i : Nat} (h : i < es.length) : okAt es i = (pathB es[i].p && (dataB es[i].x && (!(es[i].d && !es[i].x.toList.isEmpty) && ((i == 0 || Op.bytesLess ((es[i - 1]?.map (·.p.toList)).getD []) es[i].p.toList) && dirE (es.take i) (upS es[i].p))))) := by
  unfold okAt; rw [List.getElem?_eq_getElem h]
theorem treeE_no {es : List E} {i : Nat} (h : i < es.length) (hb : okAt es i = false) : false = treeE es := by
  unfold treeE
  have : (List.range es.length).all (okAt es) = false := by
    rw [List.all_eq_false]; exact ⟨i, List.mem_range.2 h, by rw [hb]; decide⟩
  rw [this, Bool.and_false]
theorem all_range_succ (f : Nat → Bool) (k : Nat) (h : (List.range k).all f = true) (hk : f k = true) : (List.range (k + 1)).all f = true := by
  rw [List.range_succ, List.all_append, h, List.all_cons, hk]; rfl
def rootE : E := ⟨⟨#[47]⟩, true, ⟨#[]⟩⟩
def noneE : E := ⟨⟨#[]⟩, false, ⟨#[]⟩⟩
/-- What is at a path of a right tree. -/
def getE (es : List E) (s : ByteArray) : E × Bool :=
  if isRoot s = true then (rootE, true) else match es[(findE es s).toNat]? with
  | some e => if 0 ≤ findE es s then (e, true) else (noneE, false)
  | none => (noneE, false)
theorem getE_root {es : List E} {s : ByteArray} (h : isRoot s = true) : getE es s = (rootE, true) := by unfold getE; rw [if_pos h]
theorem getE_no {es : List E} {s : ByteArray} (h : isRoot s = false) (hf : findE es s = -1) : getE es s = (noneE, false) := by
  unfold getE; rw [h, if_neg (by decide), hf]; split
  · rw [if_neg (by decide)]
  · rfl
theorem getE_at {es : List E} {s : ByteArray} (h : isRoot s = false) {j : Nat} (hj : j < es.length) (hf : findE es s = (j : Int)) : getE es s = (es[j], true) := by
  unfold getE; rw [h, if_neg (by decide), hf]
  have e : es[((j : Nat) : Int).toNat]? = some es[j] := by rw [show ((j : Nat) : Int).toNat = j from rfl, List.getElem?_eq_getElem hj]
  rw [e]; simp
/-- What TreeGet tells. -/
def tgetE (es : List E) (s : ByteArray) : E × Bool := if treeE es = true then getE es s else (noneE, false)
/-- What is done: its kind, its path, where to, its data. -/
structure O where
  k : Int
  p : ByteArray
  t : ByteArray
  x : ByteArray
def emptyB (s : ByteArray) : Bool := s.toList.isEmpty
def opB (o : O) : Bool :=
  (decide (1 ≤ o.k ∧ o.k ≤ 5) && pathB o.p) && (if o.k = 5 then pathB o.t && emptyB o.x else (emptyB o.t && dataB o.x) && (decide (o.k = 2) || emptyB o.x))
def kidB (s : ByteArray) (e : E) : Bool := (upS e.p).toList == s.toList
/-- The names in a directory. -/
def kidsE (es : List E) (s : ByteArray) : List ByteArray := (es.filter (kidB s)).map (fun e => nmS e.p)
theorem kids_succ (es : List E) (s : ByteArray) (k : Nat) (h : k < es.length) : kidsE (es.take (k + 1)) s = kidsE (es.take k) s ++ (if kidB s es[k] = true then [nmS es[k].p] else []) := by
  unfold kidsE
  rw [List.take_succ_eq_append_getElem h, List.filter_append, List.map_append]
  congr 1
  by_cases hb : kidB s es[k] = true
  · simp [hb]
  · simp [hb]
theorem kids_len (es : List E) (s : ByteArray) (k : Nat) : (kidsE (es.take k) s).length ≤ k := by
  unfold kidsE
  rw [List.length_map]
  have := List.length_filter_le (kidB s) (es.take k)
  rw [List.length_take] at this; omega
/-- How it ends by what something would be in. -/
def upC (es : List E) (s : ByteArray) : Int := if (getE es (upS s)).2 = false then 2 else if (getE es (upS s)).1.d = false then 3 else 0
/-- How it ends if something new comes to a path. -/
def newC (es : List E) (s : ByteArray) : Int := if upC es s ≠ 0 then upC es s else if (getE es s).2 = true then 4 else if 16 ≤ es.length then 8 else 0
/-- How putting a file ends. -/
def putC (es : List E) (s : ByteArray) : Int := if newC es s = 4 then (if (getE es s).1.d = true then 5 else 0) else newC es s
/-- How taking something away ends. -/
def offC (es : List E) (k : Int) (s : ByteArray) : Int :=
  if (getE es s).2 = false then 2 else if k = 3 ∧ (getE es s).1.d = true then 5 else if k = 4 ∧ (getE es s).1.d = false then 3 else if 0 < (kidsE es s).length then 6 else 0
/-- What TreeList tells: the names, and the code. -/
def listC (es : List E) (s : ByteArray) : Int :=
  if (treeE es && (isRoot s || pathB s)) = false then 1 else if (getE es s).2 = false then 2 else if (getE es s).1.d = false then 3 else 0
def listE (es : List E) (s : ByteArray) : List ByteArray := if listC es s = 0 then kidsE es s else []
theorem list_no {es : List E} {s : ByteArray} {c : Int} (h : listC es s = c) (h0 : c ≠ 0) : listE es s = [] := by unfold listE; rw [h, if_neg h0]
/-- Two entries are the same. -/
def sameT1 (e f : E) : Bool := (e.p.toList == f.p.toList) && (e.d == f.d) && (e.x.toList == f.x.toList)
/-- Two lists of entries are the same. -/
def sameT : List E → List E → Bool
  | [], [] => true
  | e :: r, f :: q => sameT1 e f && sameT r q
  | _, _ => false
theorem same_drop (es fs : List E) (k : Nat) (h : k < es.length) (h2 : k < fs.length) : sameT (es.drop k) (fs.drop k) = (sameT1 es[k] fs[k] && sameT (es.drop (k + 1)) (fs.drop (k + 1))) := by
  rw [List.drop_eq_getElem_cons h, List.drop_eq_getElem_cons h2]; rfl
def cellsE (e : E) : List Value := [.string e.p, .bool e.d, .string e.x]
def rowE (es : List E) : List Value := es.flatMap cellsE
theorem rowE_len : ∀ es : List E, (rowE es).length = es.length * 3
  | [] => rfl
  | e :: r => by
    show (cellsE e ++ rowE r).length = _
    rw [List.length_append, rowE_len r, List.length_cons]
    show 3 + _ = _; omega
/-- A path is taken out. -/
def offE (es : List E) (s : ByteArray) : List E := es.filter (fun e => !(e.p.toList == s.toList))
theorem off_succ (es : List E) (s : ByteArray) (k : Nat) (h : k < es.length) : offE (es.take (k + 1)) s = offE (es.take k) s ++ (if (es[k].p.toList == s.toList) = true then [] else [es[k]]) := by
  unfold offE
  rw [List.take_succ_eq_append_getElem h, List.filter_append]
  congr 1
  by_cases hb : (es[k].p.toList == s.toList) = true
  · simp [hb]
  · simp only [Bool.not_eq_true] at hb
    simp [hb]
/-- What stands ahead of an entry. -/
def ltP (e : E) (f : E) : Bool := Op.bytesLess f.p.toList e.p.toList
def restE (e : E) : List E → List E
  | f :: r => if (f.p.toList == e.p.toList) = true then r else f :: r
  | [] => []
/-- An entry is put into a list, in the place of what is there. -/
def putE (es : List E) (e : E) : List E := es.takeWhile (ltP e) ++ [e] ++ restE e (es.dropWhile (ltP e))
theorem span_at {q : E → Bool} : ∀ (es : List E) (k : Nat), k ≤ es.length → (es.take k).all q = true → (∀ h : k < es.length, q es[k] = false) → es.takeWhile q = es.take k ∧ es.dropWhile q = es.drop k
  | [], 0, _, _, _ => ⟨rfl, rfl⟩
  | e :: r, 0, _, _, h => by
    have := h (by simp)
    simp only [List.getElem_cons_zero] at this
    simp [this]
  | e :: r, k + 1, hk, ha, h => by
    simp only [List.take_succ_cons, List.all_cons, Bool.and_eq_true] at ha
    obtain ⟨h1, h2⟩ := span_at r k (by simpa using hk) ha.2 (fun hh => by have := h (by simpa using hh); simpa using this)
    simp [ha.1, h1, h2]
/-- An entry whose path is moved. -/
def movE1 (f t : ByteArray) (e : E) : E := ⟨movS e.p f t, e.d, e.x⟩
/-- A path of a list is moved, and all below it. -/
def movE (es : List E) (f t : ByteArray) : List E := es.foldl (fun out e => putE out (movE1 f t e)) []
theorem mov_succ (es : List E) (f t : ByteArray) (k : Nat) (h : k < es.length) : movE (es.take (k + 1)) f t = putE (movE (es.take k) f t) (movE1 f t es[k]) := by
  unfold movE
  rw [List.take_succ_eq_append_getElem h, List.foldl_append]; rfl
theorem rest_len (e : E) (es : List E) : (restE e es).length ≤ es.length := by
  cases es with
  | nil => exact Nat.le_refl _
  | cons f r =>
    show (if (f.p.toList == e.p.toList) = true then r else f :: r).length ≤ _
    split
    · simp
    · exact Nat.le_refl _
theorem put_len (es : List E) (e : E) : (putE es e).length ≤ es.length + 1 := by
  unfold putE
  have h1 := rest_len e (es.dropWhile (ltP e))
  have h2 : (es.takeWhile (ltP e)).length + (es.dropWhile (ltP e)).length = es.length := by rw [← List.length_append, List.takeWhile_append_dropWhile]
  rw [List.length_append, List.length_append]
  simp; omega
theorem mov_len (es : List E) (f t : ByteArray) : ∀ k, k ≤ es.length → (movE (es.take k) f t).length ≤ k
  | 0, _ => by simp [movE]
  | k + 1, h => by
    rw [mov_succ es f t k (by omega)]
    have := put_len (movE (es.take k) f t) (movE1 f t es[k])
    have := mov_len es f t k (by omega)
    omega
def fitE (es : List E) (s t : ByteArray) : Bool := es.all (fun e => movOk e.p s t)
/-- How moving ends. -/
def moveC (es : List E) (s t : ByteArray) : Int :=
  if (getE es s).2 = false then 2 else if upC es t ≠ 0 then upC es t else if (getE es t).2 = true then 4 else if underL t s = true then 7 else if fitE es s t = true then 0 else 8
theorem fit_succ (es : List E) (s t : ByteArray) (k : Nat) (h : k < es.length) (ha : fitE (es.take k) s t = true) (hk : movOk es[k].p s t = true) : fitE (es.take (k + 1)) s t = true := by
  unfold fitE at *
  rw [List.take_succ_eq_append_getElem h, List.all_append, ha]; simp [hk]
theorem fit_no (es : List E) (s t : ByteArray) (k : Nat) (h : k < es.length) (hk : movOk es[k].p s t = false) : fitE es s t = false := by
  unfold fitE
  rw [List.all_eq_false]
  exact ⟨es[k], List.getElem_mem _, by rw [hk]; decide⟩
/-- How something ends. -/
def codeC (es : List E) (k : Int) (p t : ByteArray) : Int :=
  if k = 1 then newC es p else if k = 2 then putC es p else if k = 5 then moveC es p t else offC es k p
/-- What is made of a list by what is done. -/
def madeE (es : List E) (k : Int) (p t x : ByteArray) : List E :=
  if k = 1 then putE es ⟨p, true, ⟨#[]⟩⟩ else if k = 2 then putE es ⟨p, false, x⟩ else if k = 5 then movE es p t else offE es p
def doC (es : List E) (q : O) : Int := if (treeE es && opB q) = true then codeC es q.k q.p q.t else 1
def doE (es : List E) (q : O) : List E := if treeE es = true then (if doC es q = 0 then madeE es q.k q.p q.t q.x else es) else []
/-- Both lists in one. -/
def bothE (es fs : List E) : List E := fs.foldl putE es
theorem both_succ (es fs : List E) (k : Nat) (h : k < fs.length) : bothE es (fs.take (k + 1)) = putE (bothE es (fs.take k)) fs[k] := by
  unfold bothE
  rw [List.take_succ_eq_append_getElem h, List.foldl_append]; rfl
theorem rest_lenT (e : E) (es : List E) : (restE e es).length ≤ es.length := by
  cases es with
  | nil => exact Nat.le_refl _
  | cons f r =>
    show (if (f.p.toList == e.p.toList) = true then r else f :: r).length ≤ _
    split
    · simp
    · exact Nat.le_refl _
theorem put_lenT (es : List E) (e : E) : (putE es e).length ≤ es.length + 1 := by
  unfold putE
  have h1 := rest_lenT e (es.dropWhile (ltP e))
  have h2 : (es.takeWhile (ltP e)).length + (es.dropWhile (ltP e)).length = es.length := by rw [← List.length_append, List.takeWhile_append_dropWhile]
  rw [List.length_append, List.length_append]
  simp; omega
theorem both_len (es fs : List E) : ∀ k, k ≤ fs.length → (bothE es (fs.take k)).length ≤ es.length + k
  | 0, _ => by simp [bothE]
  | k + 1, h => by
    rw [both_succ es fs k (by omega)]
    have := put_lenT (bothE es (fs.take k)) fs[k]
    have := both_len es fs k (by omega)
    omega
/-- There is not the same at a path. -/
def turnB (es fs : List E) (e : E) : Bool := ((getE es e.p).2 != (getE fs e.p).2) || !(sameT1 (getE es e.p).1 (getE fs e.p).1)
def turnE (es fs : List E) : List ByteArray := ((bothE es fs).filter (turnB es fs)).map (·.p)
def turnL (es fs bs : List E) : List ByteArray := (bs.filter (turnB es fs)).map (·.p)
theorem turn_succ (es fs bs : List E) (k : Nat) (h : k < bs.length) : turnL es fs (bs.take (k + 1)) = turnL es fs (bs.take k) ++ (if turnB es fs bs[k] = true then [bs[k].p] else []) := by
  unfold turnL
  rw [List.take_succ_eq_append_getElem h, List.filter_append, List.map_append]
  congr 1
  by_cases hb : turnB es fs bs[k] = true
  · simp [hb]
  · simp [hb]
theorem turn_len (es fs bs : List E) (k : Nat) : (turnL es fs (bs.take k)).length ≤ k := by
  unfold turnL
  rw [List.length_map]
  have := List.length_filter_le (turnB es fs) (bs.take k)
  rw [List.length_take] at this; omega
theorem treeE_len {es : List E} (h : treeE es = true) : es.length ≤ 65536 := by
  unfold treeE at h
  rw [Bool.and_eq_true] at h
  have := of_decide_eq_true h.1; omega
/-- What TreeTurned tells. -/
def turnedE (es fs : List E) : List ByteArray := if (treeE es && treeE fs) = true then turnE es fs else []
theorem data_take (s : ByteArray) (pos : Nat) (h : pos < s.size) : (s.data.toList.take (pos + 1)).all dataC = ((s.data.toList.take pos).all dataC && dataC s[pos]) := by
  rw [List.take_succ_eq_append_getElem (by rw [len_data]; exact h), List.all_append]
  simp only [List.all_cons, List.all_nil, Bool.and_true]; rfl
theorem data_bad (s : ByteArray) (pos : Nat) (h : pos < s.size) (hl : dataC s[pos] = false) : false = dataB s := by
  unfold dataB
  have : s.data.toList.all dataC = false := by
    rw [List.all_eq_false]
    exact ⟨s[pos], by rw [show s[pos] = s.data.toList[pos]'(by rw [len_data]; exact h) from rfl]; exact List.getElem_mem _, by rw [hl]; decide⟩
  rw [this]; rfl
theorem data_all (s : ByteArray) (k : Nat) (hk : k = s.size) (h : (s.data.toList.take k).all dataC = true) : decide (s.size ≤ 6) = dataB s := by
  subst hk
  rw [List.take_of_length_le (by rw [len_data]; omega)] at h
  unfold dataB; rw [h, Bool.true_and]

/-- A rune that is a letter or a digit is a byte that is one. -/
theorem rune_data (s : ByteArray) (pos : Nat) (h : pos < s.size) (h1 : (97 ≤ (Utf8.decode s pos).1 ∧ (Utf8.decode s pos).1 ≤ 122) ∨ (48 ≤ (Utf8.decode s pos).1 ∧ (Utf8.decode s pos).1 ≤ 57)) :
    (Utf8.decode s pos).2 = 1 ∧ dataC s[pos] = true := by
  by_cases ha : (s[pos]'h).toNat < 128
  · rw [decode_ascii s pos h ha] at h1 ⊢
    refine ⟨rfl, ?_⟩
    unfold dataC low
    rw [Bool.or_eq_true, decide_eq_true_eq, decide_eq_true_eq]
    exact h1
  · have := (decode_high s pos h (by omega)).1
    omega
theorem rune_no_data (s : ByteArray) (pos : Nat) (h : pos < s.size) (h1 : ¬ (97 ≤ (Utf8.decode s pos).1 ∧ (Utf8.decode s pos).1 ≤ 122)) (h2 : ¬ (48 ≤ (Utf8.decode s pos).1 ∧ (Utf8.decode s pos).1 ≤ 57)) :
    dataC s[pos] = false := by
  unfold dataC low
  rw [Bool.or_eq_false_iff, decide_eq_false_iff_not, decide_eq_false_iff_not]
  by_cases ha : (s[pos]'h).toNat < 128
  · rw [decode_ascii s pos h ha] at h1 h2
    exact ⟨h1, h2⟩
  · omega
end Go.Proofs.YtfbhkcfecdbdeaaDoor

/-
  Plain facts on paths: no program is named here.
-/
namespace Go.Proofs.YtfbhkcfecdbdeaaDoor

/-! ### Texts as lists of bytes -/
abbrev L (s : ByteArray) : List UInt8 := s.data.toList
theorem L_inj {a b : ByteArray} (h : L a = L b) : a = b := ByteArray.ext (Array.toList_inj.1 h)
theorem L_app (a b : ByteArray) : L (a ++ b) = L a ++ L b := app_toList a b
theorem L_ext (s : ByteArray) (a b : Nat) : L (s.extract a b) = ((L s).drop a).take (b - a) := Lib.extract_data s a b
theorem L_len (s : ByteArray) : (L s).length = s.size := len_data s
theorem gE (s : ByteArray) (i : Nat) : s.get! i = (L s)[i]?.getD 0 := by
  by_cases h : i < s.size
  · rw [get_plus s i h, List.getElem?_eq_getElem (by rw [L_len]; exact h)]; rfl
  · rw [List.getElem?_eq_none (by rw [L_len]; omega)]
    simp [ByteArray.get!, h]
    rfl
theorem size_ext (s : ByteArray) (a b : Nat) : (s.extract a b).size = min b s.size - a := ByteArray.size_extract
theorem get_ext (s : ByteArray) (a b i : Nat) (h : a + i < b) : (s.extract a b).get! i = s.get! (a + i) := by
  rw [gE, gE, L_ext, List.getElem?_take_of_lt (by omega), List.getElem?_drop]
theorem get_app_l (a b : ByteArray) (i : Nat) (h : i < a.size) : (a ++ b).get! i = a.get! i := by
  rw [gE, gE, L_app, List.getElem?_append_left (by rw [L_len]; exact h)]
theorem get_app_r (a b : ByteArray) (i : Nat) (h : a.size ≤ i) : (a ++ b).get! i = b.get! (i - a.size) := by
  rw [gE, gE, L_app, List.getElem?_append_right (by rw [L_len]; exact h), L_len]
theorem ext_ext0 (s : ByteArray) (a b : Nat) (h : a ≤ b) : (s.extract 0 b).extract 0 a = s.extract 0 a := by
  apply L_inj
  rw [L_ext, L_ext, L_ext, List.drop_zero, List.drop_zero, List.take_take]
  congr 1; omega
theorem ext_all (s : ByteArray) : s.extract 0 s.size = s := by
  apply L_inj; rw [L_ext, List.drop_zero, List.take_of_length_le (by rw [L_len]; omega)]
theorem glue (s : ByteArray) (m : Nat) : s.extract 0 m ++ s.extract m s.size = s := by
  apply L_inj
  rw [L_app, L_ext, L_ext, List.drop_zero, Nat.sub_zero, List.take_of_length_le (i := s.size - m) (by rw [List.length_drop, L_len]; exact Nat.le_refl _), List.take_append_drop]
theorem glue3 (s : ByteArray) (m : Nat) (hm : m < s.size) (hg : s.get! m = 47) : s.extract 0 m ++ ⟨#[47]⟩ ++ s.extract (m + 1) s.size = s := by
  apply L_inj
  have h1 : L (⟨#[47]⟩ : ByteArray) = [47] := rfl
  rw [L_app, L_app, L_ext, L_ext, List.drop_zero, Nat.sub_zero, h1, List.take_of_length_le (i := s.size - (m + 1)) (by rw [List.length_drop, L_len]; exact Nat.le_refl _)]
  rw [get_plus s m hm] at hg
  have h2 : (L s).drop m = 47 :: (L s).drop (m + 1) := by rw [drop_at s m hm, hg]
  rw [List.append_assoc, List.singleton_append, ← h2, List.take_append_drop]
theorem app_ext_l (a b : ByteArray) : (a ++ b).extract 0 a.size = a := by
  apply L_inj; rw [L_ext, L_app, List.drop_zero, Nat.sub_zero, ← L_len, List.take_left']; rfl
theorem app_ext_r (a b : ByteArray) (i : Nat) : (a ++ b).extract (a.size + i) (a ++ b).size = b.extract i b.size := by
  apply L_inj
  rw [L_ext, L_ext, L_app, ByteArray.size_append, ← L_len a, List.drop_length_add_append]
  congr 1; omega
theorem app_empty (a b : ByteArray) (h : b.size = 0) : a ++ b = a := by
  apply L_inj
  have e : L b = [] := List.eq_nil_of_length_eq_zero (by rw [L_len]; exact h)
  rw [L_app, e, List.append_nil]

/-! ### What begins with another text and a stroke -/
def Pre (s x : ByteArray) : Prop := x.size < s.size ∧ s.extract 0 x.size = x ∧ s.get! x.size = 47
theorem preB_iff (s x : ByteArray) : preB s (x ++ ⟨#[47]⟩) = true ↔ Pre s x := by
  rw [pre_stroke]
  unfold Pre
  rw [Bool.and_eq_true, Bool.and_eq_true, decide_eq_true_eq, beq_iff_eq, beq_iff_eq]
  constructor
  · rintro ⟨⟨h1, h2⟩, h3⟩; exact ⟨h1, toList_inj h2, h3⟩
  · rintro ⟨h1, h2, h3⟩; exact ⟨⟨h1, by rw [h2]⟩, h3⟩
theorem Pre.trans {a b c : ByteArray} (h : Pre a b) (k : Pre b c) : Pre a c := by
  obtain ⟨h1, h2, h3⟩ := h
  obtain ⟨k1, k2, k3⟩ := k
  refine ⟨by omega, ?_, ?_⟩
  · rw [← ext_ext0 a c.size b.size (by omega), h2, k2]
  · rw [← h2, get_ext a 0 b.size c.size (by omega), Nat.zero_add] at k3; exact k3
theorem underI_iff (s d : ByteArray) : underI s d = true ↔ stemOk d = true ∧ pathB s = true ∧ Pre s (stemS d) := by
  unfold underI
  rw [Bool.and_eq_true, Bool.and_eq_true, preB_iff]

theorem stem_path {d : ByteArray} (h : pathB d = true) : stemS d = d := by unfold stemS; rw [path_not_root h]; rfl
theorem stemOk_path {d : ByteArray} (h : pathB d = true) : stemOk d = true := by unfold stemOk; rw [h, Bool.or_true]
theorem root_root : isRoot ⟨#[47]⟩ = true := (isRoot_iff _).2 rfl
theorem stem_root : stemS ⟨#[47]⟩ = ⟨#[]⟩ := by unfold stemS; rw [root_root]; rfl
theorem stemOk_is {d : ByteArray} (h : stemOk d = true) : d = ⟨#[47]⟩ ∨ pathB d = true := by
  unfold stemOk at h
  rw [Bool.or_eq_true] at h
  exact h.elim (fun h => .inl ((isRoot_iff d).1 h)) .inr
theorem stem_inj {a b : ByteArray} (ha : stemOk a = true) (hb : stemOk b = true) (h : stemS a = stemS b) : a = b := by
  rcases stemOk_is ha with rfl | ha
  · rcases stemOk_is hb with rfl | hb
    · rfl
    · rw [stem_root, stem_path hb] at h
      have := (pathB_head b hb).1
      rw [← h] at this; exact absurd this (by decide)
  · rcases stemOk_is hb with rfl | hb
    · rw [stem_root, stem_path ha] at h
      have := (pathB_head a ha).1
      rw [h] at this; exact absurd this (by decide)
    · rw [stem_path ha, stem_path hb] at h; exact h
theorem under_trans {a b c : ByteArray} (h : underI a b = true) (k : underI b c = true) : underI a c = true := by
  rw [underI_iff] at *
  obtain ⟨h1, h2, h3⟩ := h
  obtain ⟨k1, k2, k3⟩ := k
  rw [stem_path k2] at h3
  exact ⟨k1, h2, h3.trans k3⟩
theorem under_anti {a b : ByteArray} (h : underI a b = true) : underI b a = false := by
  rw [Bool.eq_false_iff]
  intro k
  rw [underI_iff] at *
  obtain ⟨h1, h2, h3⟩ := h
  obtain ⟨k1, k2, k3⟩ := k
  rw [stem_path k2] at h3
  rw [stem_path h2] at k3
  have := h3.1; have := k3.1; omega
theorem under_self (a : ByteArray) : underI a a = false := by
  cases h : underI a a with
  | false => rfl
  | true => rw [under_anti h] at h; exact h.symm
theorem pre_nothing {a : ByteArray} (h : pathB a = true) : Pre a ⟨#[]⟩ := by
  obtain ⟨h1, h2⟩ := pathB_head a h
  refine ⟨by show 0 < a.size; omega, ?_, h2⟩
  apply L_inj; rw [L_ext]; rfl
theorem under_root {a : ByteArray} (h : pathB a = true) : underI a ⟨#[47]⟩ = true := by
  rw [underI_iff, stem_root]
  exact ⟨by unfold stemOk; rw [root_root]; rfl, h, pre_nothing h⟩

/-! ### The last stroke -/
theorem last_is {s : ByteArray} (h : pathB s = true) : ∃ m : Nat, lastS s = m ∧ m < s.size ∧ s.get! m = 47 ∧ ∀ j, m < j → j < s.size → s.get! j ≠ 47 := by
  obtain ⟨h1, h2⟩ := pathB_head s h
  refine ⟨slashF s (s.size - 1), lastS_slash s h, ?_, ?_, fun j hj hj' => slashF_none s (s.size - 1) j hj (by omega)⟩
  · have := slashF_le s (s.size - 1); omega
  · rcases slashF_is s (s.size - 1) with e | e
    · rw [e]; exact h2
    · exact e
theorem last_eq {s : ByteArray} (h : pathB s = true) (m : Nat) (hm : m < s.size) (hg : s.get! m = 47) (hn : ∀ j, m < j → j < s.size → s.get! j ≠ 47) : lastS s = m := by
  obtain ⟨k, hk, k1, k2, k3⟩ := last_is h
  rw [hk]
  rcases Nat.lt_trichotomy k m with c | c | c
  · exact absurd hg (k3 m c hm)
  · rw [c]
  · exact absurd k2 (hn k c k1)

theorem itemsL_plain (s : ByteArray) : ∀ (l : List UInt8) (pos : Nat) (k : Int), (∀ c ∈ l, c ≠ 47) → itemsL s l pos k = [(k, s.extract (k + 1).toNat s.size)]
  | [], _, _, _ => rfl
  | c :: r, pos, k, h => by
    rw [itemsL_cons, if_neg (h c List.mem_cons_self)]
    exact itemsL_plain s r (pos + 1) k (fun x hx => h x (List.mem_cons_of_mem _ hx))
theorem items_split (s : ByteArray) (m : Nat) (hm : m < s.size) (h0 : 0 < m) : ∀ (l1 l2 : List UInt8) (pos : Nat) (k : Int), pos + l1.length = m → k < pos → -1 ≤ k → (∀ c ∈ l2, c ≠ 47) →
    itemsL s (l1 ++ 47 :: l2) pos k = itemsL (s.extract 0 m) l1 pos k ++ [((m : Int), s.extract (m + 1) s.size)]
  | [], l2, pos, k, hp, hk, hk', hl => by
    obtain rfl : pos = m := by simpa using hp
    rw [List.nil_append, itemsL_cons, if_pos rfl, if_pos h0, itemsL_plain s l2 (pos + 1) pos hl]
    have e : (s.extract 0 pos).extract (k + 1).toNat (s.extract 0 pos).size = s.extract (k + 1).toNat pos := by
      apply L_inj
      rw [L_ext, L_ext, L_ext, size_ext, List.drop_zero, List.drop_take, List.take_take]
      congr 1; omega
    show (k, s.extract (k + 1).toNat pos) :: _ = [(k, (s.extract 0 pos).extract (k + 1).toNat (s.extract 0 pos).size)] ++ _
    rw [e]; rfl
  | c :: r, l2, pos, k, hp, hk, hk', hl => by
    simp only [List.length_cons] at hp
    rw [List.cons_append, itemsL_cons, itemsL_cons]
    have e : (s.extract 0 m).extract (k + 1).toNat pos = s.extract (k + 1).toNat pos := by
      apply L_inj
      rw [L_ext, L_ext, L_ext, List.drop_zero, List.drop_take, List.take_take]
      congr 1; omega
    by_cases h47 : c = 47
    · rw [if_pos h47, if_pos h47, items_split s m hm h0 r l2 (pos + 1) pos (by omega) (by omega) (by omega) hl, e]
      split <;> rfl
    · rw [if_neg h47, if_neg h47, items_split s m hm h0 r l2 (pos + 1) k (by omega) (by omega) hk' hl]

theorem no_stroke_list (s : ByteArray) (a : Nat) (h : ∀ j, a ≤ j → j < s.size → s.get! j ≠ 47) : ∀ c ∈ (L s).drop a, c ≠ 47 := by
  intro c hc
  obtain ⟨i, hi, e⟩ := List.getElem_of_mem hc
  rw [List.length_drop, L_len] at hi
  have := h (a + i) (by omega) (by omega)
  rw [get_plus s (a + i) (by omega)] at this
  rw [List.getElem_drop] at e
  rw [← e]; exact this

theorem items_up {s : ByteArray} (m : Nat) (hm : m < s.size) (h0 : 0 < m) (hg : s.get! m = 47) (hn : ∀ j, m < j → j < s.size → s.get! j ≠ 47) :
    items s = items (s.extract 0 m) ++ [((m : Int), s.extract (m + 1) s.size)] := by
  have e : L s = L (s.extract 0 m) ++ 47 :: (L s).drop (m + 1) := by
    rw [L_ext, List.drop_zero, Nat.sub_zero]
    rw [get_plus s m hm] at hg
    have h2 : (L s).drop m = 47 :: (L s).drop (m + 1) := by rw [drop_at s m hm, hg]
    rw [← h2, List.take_append_drop]
  have hlen : (L (s.extract 0 m)).length = m := by rw [L_len, size_ext]; omega
  have := items_split s m hm h0 (L (s.extract 0 m)) ((L s).drop (m + 1)) 0 (-1) (by rw [hlen]; omega) (by omega) (by omega) (no_stroke_list s (m + 1) (fun j hj hj' => hn j (by omega) hj'))
  unfold items itemsAt
  rw [List.drop_zero, List.drop_zero, ← this, ← e]

theorem ok_app {a : List (Int × ByteArray)} {x : Int × ByteArray} (h : okItems (a ++ [x]) = true) : okItems a = true ∧ okItem x = true ∧ a.length ≤ 2 := by
  unfold okItems at *
  rw [Bool.and_eq_true, List.all_append, Bool.and_eq_true, decide_eq_true_eq, List.length_append, List.length_singleton] at h
  obtain ⟨⟨h1, h2⟩, h3⟩ := h
  refine ⟨by rw [h1, decide_eq_true (by omega)]; rfl, ?_, by omega⟩
  rw [List.all_cons, List.all_nil, Bool.and_true] at h2; exact h2

/-- All that is said of a path, the one that it is in, and its name. -/
theorem up_facts {s : ByteArray} (h : pathB s = true) : stemOk (upS s) = true ∧ stemS (upS s) = s.extract 0 (lastS s).toNat ∧ nameB (nmS s) = true ∧ levS s = levS (upS s) + 1 := by
  obtain ⟨m, hm, m1, m2, m3⟩ := last_is h
  have en : nmS s = s.extract (m + 1) s.size := by unfold nmS; rw [h, if_pos rfl, hm]; rfl
  by_cases h0 : m = 0
  · subst h0
    have eu : upS s = ⟨#[47]⟩ := by unfold upS; rw [h, if_pos rfl, hm]; rfl
    have ei : items s = [(0, s.extract 1 s.size)] := by
      rw [items_slash s m1 (by rw [← get0 s m1]; exact m2)]
      exact itemsL_plain s _ 1 0 (no_stroke_list s 1 (fun j hj hj' => m3 j (by omega) hj'))
    have hp := h
    unfold pathB at hp
    rw [ei] at hp
    have ho := (ok_app (a := []) hp).2.1
    unfold okItem at ho
    rw [Bool.and_eq_true] at ho
    refine ⟨by rw [eu]; unfold stemOk; rw [root_root]; rfl, ?_, by rw [en]; exact ho.2, ?_⟩
    · rw [eu, stem_root, hm]; apply L_inj; rw [L_ext]; rfl
    · have hr : pathB ⟨#[47]⟩ = false := by
        cases hq : pathB ⟨#[47]⟩ with
        | false => rfl
        | true => have := path_not_root hq; rw [root_root] at this; cases this
      rw [eu]; unfold levS; rw [h, hr, if_pos rfl, ei]; rfl
  · have eu : upS s = s.extract 0 m := by unfold upS; rw [h, if_pos rfl, hm, if_neg (by omega)]; rfl
    have ei := items_up m m1 (by omega) m2 m3
    have hp := h
    unfold pathB at hp
    rw [ei] at hp
    obtain ⟨o1, o2, o3⟩ := ok_app hp
    have hpu : pathB (s.extract 0 m) = true := o1
    unfold okItem at o2
    rw [Bool.and_eq_true] at o2
    refine ⟨by rw [eu]; exact stemOk_path hpu, by rw [eu, stem_path hpu, hm]; rfl, by rw [en]; exact o2.2, ?_⟩
    rw [eu]; unfold levS; rw [h, hpu, if_pos rfl, if_pos rfl, ei, List.length_append, List.length_singleton]; omega

theorem up_pre {s : ByteArray} (h : pathB s = true) : Pre s (stemS (upS s)) := by
  obtain ⟨m, hm, m1, m2, m3⟩ := last_is h
  obtain ⟨_, e, _⟩ := up_facts h
  rw [e, hm]
  have ez : (s.extract 0 (m : Int).toNat).size = m := by rw [size_ext]; omega
  unfold Pre
  rw [ez]
  exact ⟨m1, rfl, m2⟩
theorem up_under {s : ByteArray} (h : pathB s = true) : underI s (upS s) = true :=
  (underI_iff _ _).2 ⟨(up_facts h).1, h, up_pre h⟩
theorem up_join {s : ByteArray} (h : pathB s = true) : joinI (upS s) (nmS s) = s := by
  obtain ⟨m, hm, m1, m2, m3⟩ := last_is h
  obtain ⟨_, e, _⟩ := up_facts h
  unfold joinI
  rw [e]
  unfold nmS
  rw [h, if_pos rfl, hm]
  exact glue3 s m m1 m2
theorem up_joinOk {s : ByteArray} (h : pathB s = true) : joinOk (upS s) (nmS s) = true ∧ joinS (upS s) (nmS s) = s := by
  obtain ⟨h1, _, h3, _⟩ := up_facts h
  have e : joinOk (upS s) (nmS s) = true := by unfold joinOk; rw [up_join h, h1, h3, h]; rfl
  exact ⟨e, by unfold joinS; rw [e, if_pos rfl, up_join h]⟩
theorem under_up {a b : ByteArray} (h : pathB a = true) : underI a b = true ↔ (b = upS a ∨ underI (upS a) b = true) := by
  constructor
  · intro k
    obtain ⟨k1, k2, k3⟩ := (underI_iff _ _).1 k
    obtain ⟨m, hm, m1, m2, m3⟩ := last_is h
    obtain ⟨u1, u2, _⟩ := up_facts h
    have um : stemS (upS a) = a.extract 0 m := by rw [u2, hm]; rfl
    have le : (stemS b).size ≤ m := by
      rcases Nat.lt_or_ge m (stemS b).size with c | c
      · exact absurd k3.2.2 (m3 _ c k3.1)
      · exact c
    rcases Nat.lt_or_ge (stemS b).size m with c | c
    · right
      have ez : (a.extract 0 m).size = m := by rw [size_ext]; omega
      have hu : pathB (upS a) = true := by
        rcases stemOk_is u1 with e | e
        · rw [e, stem_root] at um
          rw [← um] at ez
          exact absurd ez (by show ¬ (0 = m); omega)
        · exact e
      rw [stem_path hu] at um
      refine (underI_iff _ _).2 ⟨k1, hu, ?_⟩
      rw [um]
      refine ⟨by rw [ez]; exact c, ?_, ?_⟩
      · rw [ext_ext0 a _ _ (by omega), k3.2.1]
      · rw [get_ext a 0 m _ (by omega), Nat.zero_add]; exact k3.2.2
    · left
      have e : (stemS b).size = m := by omega
      exact stem_inj k1 u1 (by rw [um, ← e]; exact k3.2.1.symm)
  · rintro (rfl | k)
    · exact up_under h
    · exact under_trans (up_under h) k
end Go.Proofs.YtfbhkcfecdbdeaaDoor
