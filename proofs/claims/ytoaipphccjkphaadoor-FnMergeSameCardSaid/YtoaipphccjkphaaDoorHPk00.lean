import Derived.Lib.OthersKept
import Derived.Lib.Strings
namespace Go.Proofs.YtoaipphccjkphaaDoor
def low (c : UInt8) : Bool := decide (97 ≤ c.toNat ∧ c.toNat ≤ 122)
def nameB (s : ByteArray) : Bool := decide (1 ≤ s.size ∧ s.size ≤ 3) && s.data.toList.all low
def itemsL (s : ByteArray) : List UInt8 → Nat → Int → List (Int × ByteArray)
 | [], _, k => [(k, s.extract (k + 1).toNat s.size)]
 | c :: r, pos, k => if c = 47 then (if 0 < pos then (k, s.extract (k + 1).toNat pos) :: itemsL s r (pos + 1) pos else itemsL s r (pos + 1) pos) else itemsL s r (pos + 1) k
def itemsAt (s : ByteArray) (pos : Nat) (k : Int) : List (Int × ByteArray) := itemsL s (s.data.toList.drop pos) pos k
def items (s : ByteArray) : List (Int × ByteArray) := itemsAt s 0 (-1)
theorem len_data (s : ByteArray) : s.data.toList.length = s.size := by rw [Array.length_toList]; rfl
theorem drop_at (s : ByteArray) (pos : Nat) (h : pos < s.size) : s.data.toList.drop pos = s[pos] :: s.data.toList.drop (pos + 1) := by
 rw [List.drop_eq_getElem_cons (by simpa using h)]; rfl
theorem drop_end (s : ByteArray) (pos : Nat) (h : ¬ pos < s.size) : s.data.toList.drop pos = [] :=
 List.drop_of_length_le (by rw [len_data]; omega)
theorem itemsAt_end (s : ByteArray) (pos : Nat) (k : Int) (h : ¬ pos < s.size) : itemsAt s pos k = [(k, s.extract (k + 1).toNat s.size)] := by
 unfold itemsAt; rw [drop_end s pos h]; rfl
theorem itemsAt_stroke (s : ByteArray) (pos : Nat) (k : Int) (h : pos < s.size) (hc : s[pos] = 47) :
  itemsAt s pos k = (if 0 < pos then [(k, s.extract (k + 1).toNat pos)] else []) ++ itemsAt s (pos + 1) pos := by
 unfold itemsAt; rw [drop_at s pos h]; simp only [itemsL, hc, if_true]; split <;> rfl
theorem itemsAt_other (s : ByteArray) (pos : Nat) (k : Int) (h : pos < s.size) (hc : s[pos] ≠ 47) : itemsAt s pos k = itemsAt s (pos + 1) k := by
 unfold itemsAt; rw [drop_at s pos h]; simp only [itemsL, hc, if_false]
theorem get_plus (s : ByteArray) (pos : Nat) (h : pos < s.size) : s.get! pos = s[pos]'h := by
 simp [ByteArray.get!, getElem!_pos, h]; rfl
theorem decode_span (s : ByteArray) (pos : Nat) (h : pos < s.size) (ha : 128 ≤ (s[pos]'h).toNat) :
  ∀ j, j < (Utf8.decode s pos).2 → pos + j < s.size ∧ 128 ≤ (s.get! (pos + j)).toNat := by
 have h0 : 128 ≤ (s.get! (pos + 0)).toNat := by rw [get_at s pos h]; exact ha
 have hn : ¬ (s.get! (pos + 0)).toNat < 128 := by omega
 intro j; simp only [Utf8.decode, hn, if_false]
 repeat' split
 all_goals simp_all
 all_goals intro hj
 all_goals (
  have hj' : j = 0 ∨ j = 1 ∨ j = 2 ∨ j = 3 := by omega
  rcases hj' with rfl | rfl | rfl | rfl <;> simp_all <;> omega)
theorem itemsAt_skip (s : ByteArray) (k : Int) : ∀ (m pos : Nat), (∀ j, j < m → pos + j < s.size ∧ 128 ≤ (s.get! (pos + j)).toNat) → itemsAt s pos k = itemsAt s (pos + m) k
 | 0, _, _ => rfl
 | m + 1, pos, h => by
  obtain ⟨h1, h2⟩ := h 0 (Nat.succ_pos _)
  have hc : s[pos] ≠ 47 := by
   intro e; rw [Nat.add_zero, get_plus s pos h1, e] at h2
   revert h2; decide
  rw [itemsAt_other s pos k h1 hc, itemsAt_skip s k m (pos + 1) (fun j hj => by
   have := h (j + 1) (by omega)
   rw [show pos + 1 + j = pos + (j + 1) from by omega]; exact this)]
  rw [show pos + 1 + m = pos + (m + 1) from by omega]
theorem toNat_47 {c : UInt8} : c.toNat = 47 ↔ c = 47 := by
 constructor
 ·
  intro h; exact UInt8.toNat_inj.1 (by rw [h]; rfl)
 ·
  rintro rfl; rfl
theorem byte_eq (c : UInt8) : (c == 47) = ((c.toNat : Int) == 47) := by
 rw [Bool.eq_iff_iff, beq_iff_eq, beq_iff_eq, ← toNat_47]; omega
theorem rune_stroke (s : ByteArray) (pos : Nat) (k : Int) (h : pos < s.size) (hr : (Utf8.decode s pos).1 = 47) :
  (Utf8.decode s pos).2 = 1 ∧ itemsAt s pos k = (if 0 < pos then [(k, s.extract (k + 1).toNat pos)] else []) ++ itemsAt s (pos + 1) pos := by
 by_cases ha : (s[pos]'h).toNat < 128
 ·
  rw [decode_ascii s pos h ha] at hr ⊢; exact ⟨rfl, itemsAt_stroke s pos k h (toNat_47.1 hr)⟩
 ·
  have := (decode_high s pos h (by omega)).1; omega
theorem rune_other (s : ByteArray) (pos : Nat) (k : Int) (h : pos < s.size) (hr : (Utf8.decode s pos).1 ≠ 47) :
  itemsAt s pos k = itemsAt s (pos + (Utf8.decode s pos).2) k := by
 by_cases ha : (s[pos]'h).toNat < 128
 ·
  rw [decode_ascii s pos h ha] at hr ⊢; exact itemsAt_other s pos k h (fun e => hr (toNat_47.2 e))
 ·
  exact itemsAt_skip s k _ pos (decode_span s pos h (by omega))
theorem rune_end (s : ByteArray) (pos : Nat) (h : pos < s.size) : pos + (Utf8.decode s pos).2 ≤ s.size ∧ 1 ≤ (Utf8.decode s pos).2 := by
 by_cases ha : (s[pos]'h).toNat < 128
 ·
  rw [decode_ascii s pos h ha]; exact ⟨h, Nat.le_refl _⟩
 ·
  have h1 := (decode_high s pos h (by omega)).2; have h2 := decode_span s pos h (by omega) ((Utf8.decode s pos).2 - 1) (by omega); exact ⟨by omega, h1⟩
theorem rune_low (s : ByteArray) (pos : Nat) (h : pos < s.size) (h1 : 97 ≤ (Utf8.decode s pos).1) (h2 : (Utf8.decode s pos).1 ≤ 122) :
  (Utf8.decode s pos).2 = 1 ∧ low s[pos] = true := by
 by_cases ha : (s[pos]'h).toNat < 128
 ·
  rw [decode_ascii s pos h ha] at h1 h2 ⊢; exact ⟨rfl, by unfold low; exact decide_eq_true ⟨h1, h2⟩⟩
 ·
  have := (decode_high s pos h (by omega)).1; omega
theorem rune_not_low (s : ByteArray) (pos : Nat) (h : pos < s.size) (h1 : ¬ (97 ≤ (Utf8.decode s pos).1 ∧ (Utf8.decode s pos).1 ≤ 122)) :
  low s[pos] = false := by
 unfold low; by_cases ha : (s[pos]'h).toNat < 128
 ·
  rw [decode_ascii s pos h ha] at h1; exact decide_eq_false h1
 ·
  exact decide_eq_false (by omega)
theorem all_take_succ (s : ByteArray) (pos : Nat) (h : pos < s.size) : (s.data.toList.take (pos + 1)).all low = ((s.data.toList.take pos).all low && low s[pos]) := by
 rw [List.take_succ_eq_append_getElem (by rw [len_data]; exact h), List.all_append]; simp only [List.all_cons, List.all_nil, Bool.and_true]; rfl
theorem all_of_take (s : ByteArray) (h : (s.data.toList.take s.size).all low = true) : s.data.toList.all low = true := by
 rwa [List.take_of_length_le (by rw [len_data]; omega)] at h
theorem not_all_of (s : ByteArray) (pos : Nat) (h : pos < s.size) (hl : low s[pos] = false) : s.data.toList.all low = false := by
 rw [List.all_eq_false]; exact ⟨s[pos], by rw [show s[pos] = s.data.toList[pos]'(by rw [len_data]; exact h) from rfl]; exact List.getElem_mem _, by rw [hl]; decide⟩
theorem nameB_bad (s : ByteArray) (pos : Nat) (h : pos < s.size) (hl : low s[pos] = false) : false = nameB s := by
 unfold nameB; rw [not_all_of s pos h hl, Bool.and_false]
theorem nameB_long (s : ByteArray) (h : ¬ (1 ≤ s.size ∧ s.size ≤ 3)) : false = nameB s := by
 unfold nameB; rw [decide_eq_false h]; rfl
theorem nameB_good (s : ByteArray) (pos : Nat) (hp : pos = s.size) (h : 1 ≤ s.size ∧ s.size ≤ 3) (ha : (s.data.toList.take pos).all low = true) : true = nameB s := by
 subst hp; unfold nameB; rw [all_of_take s ha, decide_eq_true h]; rfl
/-! ### The impl's answer -/
def okItem (x : Int × ByteArray) : Bool := decide (0 ≤ x.1) && nameB x.2
def okItems (xs : List (Int × ByteArray)) : Bool := xs.all okItem && decide (xs.length ≤ 3)
def pathB (s : ByteArray) : Bool := okItems (items s)
theorem okItems_prefix_bad {pre xs : List (Int × ByteArray)} (hp : pre <+: xs) (h : okItems pre = false) : okItems xs = false := by
 obtain ⟨r, rfl⟩ := hp; unfold okItems at *; rw [Bool.and_eq_false_iff] at *; rcases h with h | h
 ·
  left; rw [List.all_append, h]; rfl
 ·
  right; rw [decide_eq_false_iff_not] at *; rw [List.length_append]; omega
theorem okItems_bad {pre : List (Int × ByteArray)} {x : Int × ByteArray} (h : okItem x = false) : okItems (pre ++ [x]) = false := by
 unfold okItems; rw [List.all_append, List.all_cons, h, Bool.false_and, Bool.and_false]; rfl
theorem okItems_many {pre : List (Int × ByteArray)} {x : Int × ByteArray} (h : ¬ pre.length < 3) : okItems (pre ++ [x]) = false := by
 unfold okItems; rw [List.length_append, List.length_singleton, decide_eq_false (by omega), Bool.and_false]
theorem all_snoc {pre : List (Int × ByteArray)} {x : Int × ByteArray} (h : pre.all okItem = true) (hx : okItem x = true) : (pre ++ [x]).all okItem = true := by
 rw [List.all_append, h, List.all_cons, hx]; rfl
theorem okItem_low {k : Int} {nm : ByteArray} (h : k < 0) : okItem (k, nm) = false := by
 unfold okItem; rw [decide_eq_false (by simpa using h)]; rfl
theorem okItem_not {k : Int} {nm : ByteArray} (h : nameB nm = false) : okItem (k, nm) = false := by
 unfold okItem; rw [h, Bool.and_false]
theorem okItem_yes {k : Int} {nm : ByteArray} (hk : ¬ k < 0) (h : nameB nm = true) : okItem (k, nm) = true := by
 unfold okItem; rw [h, decide_eq_true (by simpa using hk)]; rfl
theorem pathB_yes {s : ByteArray} (h : (items s).all okItem = true) (hl : (items s).length ≤ 3) : true = pathB s := by
 unfold pathB okItems; rw [h, decide_eq_true hl]; rfl
theorem pathB_no {s : ByteArray} {pre : List (Int × ByteArray)} (hp : pre <+: items s) (h : okItems pre = false) : false = pathB s :=
 (okItems_prefix_bad hp h).symm
def lastOf (xs : List (Int × ByteArray)) : Int := (xs.getLast?.map (·.1)).getD (-1)
theorem lastOf_snoc (pre : List (Int × ByteArray)) (x : Int × ByteArray) : lastOf (pre ++ [x]) = x.1 := by
 unfold lastOf; rw [List.getLast?_concat]; rfl
def lastS (s : ByteArray) : Int := lastOf (items s)
def isRoot (s : ByteArray) : Bool := s.toList == [47]
def stemS (s : ByteArray) : ByteArray := if isRoot s then ⟨#[]⟩ else s
def stemOk (s : ByteArray) : Bool := isRoot s || pathB s
def preB (s x : ByteArray) : Bool := decide (x.size ≤ s.size) && ((s.extract 0 x.size).toList == x.toList)
def underI (s dir : ByteArray) : Bool := stemOk dir && (pathB s && preB s (stemS dir ++ ⟨#[47]⟩))
def ifS (s : ByteArray) : ByteArray := if pathB s = true then s else ⟨#[]⟩
def joinI (d n : ByteArray) : ByteArray := stemS d ++ ⟨#[47]⟩ ++ n
def joinOk (d n : ByteArray) : Bool := (stemOk d && nameB n) && pathB (joinI d n)
def joinS (d n : ByteArray) : ByteArray := if joinOk d n = true then joinI d n else ⟨#[]⟩
/-! ### The model's answer -/
def cutL (c0 : UInt8) (s : ByteArray) : List UInt8 → Nat → Nat → List ByteArray
 | [], _, f => [s.extract f s.size]
 | c :: r, pos, f => if c = c0 then s.extract f pos :: cutL c0 s r (pos + 1) (pos + 1) else cutL c0 s r (pos + 1) f
def cutAt (c0 : UInt8) (s : ByteArray) (pos f : Nat) : List ByteArray := cutL c0 s (s.data.toList.drop pos) pos f
def cut (c0 : UInt8) (s : ByteArray) : List ByteArray := cutAt c0 s 0 0
theorem cutAt_end (c0 : UInt8) (s : ByteArray) (pos f : Nat) (h : ¬ pos < s.size) : cutAt c0 s pos f = [s.extract f s.size] := by
 unfold cutAt; rw [drop_end s pos h]; rfl
theorem cutAt_hit (c0 : UInt8) (s : ByteArray) (pos f : Nat) (h : pos < s.size) (hc : s[pos] = c0) : cutAt c0 s pos f = s.extract f pos :: cutAt c0 s (pos + 1) (pos + 1) := by
 unfold cutAt; rw [drop_at s pos h]; simp only [cutL, hc, if_true]
theorem cutAt_miss (c0 : UInt8) (s : ByteArray) (pos f : Nat) (h : pos < s.size) (hc : s[pos] ≠ c0) : cutAt c0 s pos f = cutAt c0 s (pos + 1) f := by
 unfold cutAt; rw [drop_at s pos h]; simp only [cutL, hc, if_false]
theorem cutL_length (c0 : UInt8) (s : ByteArray) : ∀ (l : List UInt8) (pos f : Nat), (cutL c0 s l pos f).length ≤ l.length + 1
 | [], _, _ => by simp [cutL]
 | c :: r, pos, f => by
  unfold cutL; split
  ·
   have := cutL_length c0 s r (pos + 1) (pos + 1); simp only [List.length_cons]; omega
  ·
   have := cutL_length c0 s r (pos + 1) f; simp only [List.length_cons]; omega
def namesS (s : ByteArray) : List ByteArray := if s.size < 2 ∨ s.get! 0 ≠ 47 then [] else cut 47 (s.extract 1 s.size)
def specOk (s : ByteArray) : Bool := decide (s.size ≤ 12) && ((namesS s).all nameB && decide (1 ≤ (namesS s).length ∧ (namesS s).length ≤ 3))
theorem cutL_size (c0 : UInt8) (s : ByteArray) : ∀ (l : List UInt8) (pos f : Nat), ∀ x ∈ cutL c0 s l pos f, x.size ≤ s.size
 | [], _, f, x, hx => by
  simp only [cutL, List.mem_singleton] at hx; rw [hx, ByteArray.size_extract]; omega
 | c :: r, pos, f, x, hx => by
  unfold cutL at hx
  split at hx
  ·
   rcases List.mem_cons.1 hx with rfl | hx
   ·
    rw [ByteArray.size_extract]; omega
   ·
    exact cutL_size c0 s r _ _ x hx
  ·
   exact cutL_size c0 s r _ _ x hx
theorem namesS_size (s : ByteArray) : ∀ x ∈ namesS s, x.size ≤ s.size := by
 intro x hx; unfold namesS at hx
 split at hx
 ·
  cases hx
 ·
  have := cutL_size 47 (s.extract 1 s.size) _ 0 0 x hx; rw [ByteArray.size_extract] at this; omega
theorem namesS_length (s : ByteArray) : (namesS s).length ≤ s.size + 1 := by
 unfold namesS
 split
 ·
  simp
 ·
  have := cutL_length 47 (s.extract 1 s.size) ((s.extract 1 s.size).data.toList.drop 0) 0 0; rw [List.drop_zero, len_data, ByteArray.size_extract] at this; unfold cut cutAt; rw [List.drop_zero]; omega
theorem items_head (s : ByteArray) : ∀ (l : List UInt8) (pos : Nat), 0 < pos → ∃ x r, itemsL s l pos (-1) = x :: r ∧ x.1 = -1
 | [], _, _ => ⟨_, _, rfl, rfl⟩
 | c :: r, pos, h => by
  unfold itemsL; split
  ·
   exact ⟨_, _, by first | rfl | rw [if_pos h], rfl⟩
  ·
   exact items_head s r (pos + 1) (Nat.succ_pos _)
theorem items_ge (s : ByteArray) : ∀ (l : List UInt8) (pos : Nat) (k : Int), 0 ≤ k → ∀ x ∈ itemsL s l pos k, 0 ≤ x.1
 | [], _, k, hk, x, hx => by simp [itemsL] at hx; rw [hx]; exact hk
 | c :: r, pos, k, hk, x, hx => by
  unfold itemsL at hx
  split at hx
  ·
   split at hx
   ·
    rcases List.mem_cons.1 hx with rfl | hx
    ·
     exact hk
    ·
     exact items_ge s r (pos + 1) pos (by omega) x hx
   ·
    exact items_ge s r (pos + 1) pos (by omega) x hx
  ·
   exact items_ge s r (pos + 1) k hk x hx
theorem extract_tail (s : ByteArray) (hs : 1 ≤ s.size) (a b : Nat) (hb : b ≤ s.size - 1) : (s.extract 1 s.size).extract a b = s.extract (a + 1) (b + 1) := by
 apply ByteArray.ext
 simp only [ByteArray.data_extract]; rw [Array.extract_extract]; rw [show 1 + a = a + 1 from Nat.add_comm _ _, show min (1 + b) s.size = b + 1 from by omega]
theorem items_cut (s : ByteArray) (hs : 1 ≤ s.size) : ∀ (l : List UInt8) (pos k : Nat), pos + l.length = s.size - 1 → k ≤ pos →
  (itemsL s l (pos + 1) k).map (·.2) = cutL 47 (s.extract 1 s.size) l pos k
 | [], pos, k, hp, hk => by
  simp only [itemsL, cutL, List.map_cons, List.map_nil]; have e : (s.extract 1 s.size).size = s.size - 1 := by simp
  rw [e, extract_tail s hs k (s.size - 1) (Nat.le_refl _)]
  congr 2 <;> omega
 | c :: r, pos, k, hp, hk => by
  simp only [List.length_cons] at hp; unfold itemsL cutL
  split
  ·
   rw [if_pos (Nat.succ_pos _), List.map_cons, items_cut s hs r (pos + 1) (pos + 1) (by omega) (Nat.le_refl _)]; rw [extract_tail s hs k pos (by omega)]
   congr 2 <;> omega
  ·
   exact items_cut s hs r (pos + 1) k (by omega) (by omega)
def bulk : List (Int × ByteArray) → Nat
 | [] => 0
 | x :: r => x.2.size + 1 + bulk r
theorem items_bulk (s : ByteArray) : ∀ (l : List UInt8) (pos k : Nat), pos + l.length = s.size → k < pos → bulk (itemsL s l pos k) = s.size - k
 | [], pos, k, hp, hk => by
  simp only [itemsL, bulk, ByteArray.size_extract]; simp only [List.length_nil] at hp; omega
 | c :: r, pos, k, hp, hk => by
  simp only [List.length_cons] at hp; unfold itemsL
  split
  ·
   rw [if_pos (by omega), bulk, items_bulk s r (pos + 1) pos (by omega) (by omega)]; simp only [ByteArray.size_extract]; omega
  ·
   exact items_bulk s r (pos + 1) k (by omega) (by omega)
theorem bulk_le : ∀ (xs : List (Int × ByteArray)), xs.all okItem = true → bulk xs ≤ 4 * xs.length
 | [], _ => by simp [bulk]
 | x :: r, h => by
  rw [List.all_cons, Bool.and_eq_true] at h; have := bulk_le r h.2; have h1 := h.1; unfold okItem nameB at h1; simp only [Bool.and_eq_true, decide_eq_true_eq] at h1; simp only [bulk, List.length_cons]; omega
theorem all_ok_map : ∀ (xs : List (Int × ByteArray)), (∀ x ∈ xs, 0 ≤ x.1) → xs.all okItem = (xs.map (·.2)).all nameB
 | [], _ => rfl
 | x :: r, h => by
  rw [List.all_cons, List.map_cons, List.all_cons, all_ok_map r (fun y hy => h y (List.mem_cons_of_mem _ hy))]; unfold okItem; rw [decide_eq_true (h x List.mem_cons_self), Bool.true_and]
theorem itemsL_pos (s : ByteArray) : ∀ (l : List UInt8) (pos : Nat) (k : Int), 1 ≤ (itemsL s l pos k).length
 | [], _, _ => by simp [itemsL]
 | c :: r, pos, k => by
  unfold itemsL
  split
  ·
   split
   ·
    simp
   ·
    exact itemsL_pos s r _ _
  ·
   exact itemsL_pos s r _ _
theorem get0 (s : ByteArray) (h : 0 < s.size) : s.get! 0 = s[0] := get_plus s 0 h
theorem items_slash (s : ByteArray) (h : 0 < s.size) (hc : s[0] = 47) : items s = itemsAt s 1 0 := by
 unfold items; rw [itemsAt_stroke s 0 (-1) h hc]; rfl
theorem items_slash_names (s : ByteArray) (h : 1 < s.size) (hc : s[0] = 47) : (items s).map (·.2) = namesS s := by
 rw [items_slash s (by omega) hc]; unfold namesS; rw [if_neg (by rw [get0 s (by omega), hc]; simp; omega)]; unfold cut cutAt itemsAt
 have e : s.data.toList.drop 1 = (s.extract 1 s.size).data.toList.drop 0 := by
  simp only [ByteArray.data_extract, List.drop_zero, Array.toList_extract, List.extract_eq_take_drop]; rw [List.take_of_length_le (by rw [List.length_drop, len_data]; omega)]
 rw [e]; exact items_cut s (by omega) _ 0 0 (by rw [List.drop_zero, len_data]; simp) (Nat.le_refl _)
/-! ### The last stroke -/
theorem itemsL_cons (s : ByteArray) (c : UInt8) (r : List UInt8) (pos : Nat) (k : Int) : itemsL s (c :: r) pos k = if c = 47 then (if 0 < pos then (k, s.extract (k + 1).toNat pos) :: itemsL s r (pos + 1) pos else itemsL s r (pos + 1) pos) else itemsL s r (pos + 1) k := rfl
theorem last_spec (s : ByteArray) : ∀ (l : List UInt8) (pos : Nat) (k : Int), l = s.data.toList.drop pos → k < pos →
  (lastOf (itemsL s l pos k) = k ∨ ∃ m : Nat, lastOf (itemsL s l pos k) = m ∧ pos ≤ m ∧ m < s.size ∧ s.get! m = 47) ∧
  ∀ j : Nat, pos ≤ j → j < s.size → s.get! j = 47 → (j : Int) ≤ lastOf (itemsL s l pos k)
 | [], pos, k, hl, _ => by
  refine ⟨.inl rfl, fun j h1 h2 => ?_⟩
  have : s.data.toList.length ≤ pos := by
   rcases Nat.lt_or_ge pos s.data.toList.length with h | h
   ·
    rw [List.drop_eq_getElem_cons h] at hl; cases hl
   ·
    exact h
  rw [len_data] at this; omega
 | c :: r, pos, k, hl, hk => by
  have hlt : pos < s.size := by
   rcases Nat.lt_or_ge pos s.size with h | h
   ·
    exact h
   ·
    rw [drop_end s pos (by omega)] at hl; cases hl
  rw [drop_at s pos hlt] at hl
  injection hl with hc hr
  have hg : s.get! pos = c := by rw [get_plus s pos hlt, hc]
  have hone : ∀ x : Int × ByteArray, ∀ xs, 1 ≤ xs.length → lastOf (x :: xs) = lastOf xs := by
   intro x xs hx; cases xs with
   | nil => simp at hx
   | cons y ys => unfold lastOf; rw [List.getLast?_cons_cons]
  by_cases h47 : c = 47
  ·
   have e : lastOf (itemsL s (c :: r) pos k) = lastOf (itemsL s r (pos + 1) pos) := by
    rw [itemsL_cons, if_pos h47]
    split
    ·
     exact hone _ _ (itemsL_pos s _ _ _)
    ·
     rfl
   rw [e]; obtain ⟨h1, h2⟩ := last_spec s r (pos + 1) pos hr (by omega); refine ⟨?_, fun j hj1 hj2 hj3 => ?_⟩
   ·
    rcases h1 with h1 | ⟨m, hm, hm1, hm2, hm3⟩
    ·
     exact .inr ⟨pos, h1, Nat.le_refl _, hlt, by rw [hg, h47]⟩
    ·
     exact .inr ⟨m, hm, by omega, hm2, hm3⟩
   ·
    by_cases ej : j = pos
    ·
     rcases h1 with h1 | ⟨m, hm, hm1, _⟩
     ·
      rw [h1, ej]; exact Int.le_refl _
     ·
      rw [hm]; omega
    ·
     exact h2 j (by omega) hj2 hj3
  ·
   have e : lastOf (itemsL s (c :: r) pos k) = lastOf (itemsL s r (pos + 1) k) := by
    rw [itemsL_cons, if_neg h47]
   rw [e]; obtain ⟨h1, h2⟩ := last_spec s r (pos + 1) k hr (by omega); refine ⟨?_, fun j hj1 hj2 hj3 => ?_⟩
   ·
    rcases h1 with h1 | ⟨m, hm, hm1, hm2, hm3⟩
    ·
     exact .inl h1
    ·
     exact .inr ⟨m, hm, by omega, hm2, hm3⟩
   ·
    by_cases ej : j = pos
    ·
     subst ej; rw [hg] at hj3; exact absurd hj3 h47
    ·
     exact h2 j (by omega) hj2 hj3
def slashF (s : ByteArray) : Nat → Nat
 | 0 => 0
 | k + 1 => if s.get! (k + 1) = 47 then k + 1 else slashF s k
theorem slashF_le (s : ByteArray) : ∀ k, slashF s k ≤ k
 | 0 => Nat.le_refl _
 | k + 1 => by
  unfold slashF; split
  ·
   exact Nat.le_refl _
  ·
   have := slashF_le s k; omega
theorem slashF_is (s : ByteArray) : ∀ k, slashF s k = 0 ∨ s.get! (slashF s k) = 47
 | 0 => .inl rfl
 | k + 1 => by
  unfold slashF; split
  ·
   rename_i h; exact .inr h
  ·
   exact slashF_is s k
theorem slashF_none (s : ByteArray) : ∀ k j, slashF s k < j → j ≤ k → s.get! j ≠ 47
 | 0, j, h1, h2 => by have : slashF s 0 = 0 := rfl; omega
 | k + 1, j, h1, h2 => by
  unfold slashF at h1
  split at h1
  ·
   omega
  ·
   rename_i h
   by_cases e : j = k + 1
   ·
    rw [e]; exact h
   ·
    exact slashF_none s k j h1 (by omega)
theorem pathB_head (s : ByteArray) (h : pathB s = true) : 1 < s.size ∧ s.get! 0 = 47 := by
 by_cases h0 : 0 < s.size
 ·
  by_cases hc : s[0] = 47
  ·
   by_cases h1 : 1 < s.size
   ·
    exact ⟨h1, by rw [get0 s h0]; exact hc⟩
   ·
    have e : items s = [(0, s.extract 1 s.size)] := by
     rw [items_slash s h0 hc, itemsAt_end s 1 0 h1]; rfl
    have hz : (s.extract 1 s.size).size = 0 := by simp; omega
    have hn : nameB (s.extract 1 s.size) = false := by unfold nameB; rw [hz]; rfl
    unfold pathB okItems okItem at h; rw [e] at h; simp [hn] at h
  ·
   have e : items s = itemsL s (s.data.toList.drop 1) 1 (-1) := by
    unfold items; rw [itemsAt_other s 0 (-1) h0 hc]; rfl
   obtain ⟨x, r, hx, hx1⟩ := items_head s (s.data.toList.drop 1) 1 (by omega); unfold pathB okItems okItem at h; rw [e, hx] at h; simp [hx1] at h
 ·
  have e : items s = [(-1, s.extract 0 s.size)] := by
   unfold items; rw [itemsAt_end s 0 (-1) h0]; rfl
  unfold pathB okItems okItem at h; rw [e] at h; simp at h
theorem lastS_slash (s : ByteArray) (h : pathB s = true) : lastS s = slashF s (s.size - 1) := by
 obtain ⟨h1, h2⟩ := pathB_head s h; have h0 : 0 < s.size := by omega
 have hc : s[0] = 47 := by rw [← get0 s h0]; exact h2
 unfold lastS; rw [items_slash s h0 hc]; obtain ⟨a, b⟩ := last_spec s (s.data.toList.drop 1) 1 0 rfl (by omega); unfold itemsAt; have q1 := slashF_le s (s.size - 1); have q2 := slashF_is s (s.size - 1); have q3 := slashF_none s (s.size - 1); rcases a with a | ⟨m, hm, m1, m2, m3⟩
 ·
  rw [a]; rcases Nat.eq_zero_or_pos (slashF s (s.size - 1)) with z | z
  ·
   rw [z]; rfl
  ·
   have := b (slashF s (s.size - 1)) z (by omega) (by rcases q2 with q | q; omega; exact q); rw [a] at this; omega
 ·
  rw [hm]; have u : ¬ slashF s (s.size - 1) < m := fun lt => q3 m lt (by omega) m3
  have v : slashF s (s.size - 1) ≤ m := by
   rcases Nat.eq_zero_or_pos (slashF s (s.size - 1)) with z | z
   ·
    omega
   ·
    have := b (slashF s (s.size - 1)) z (by omega) (by rcases q2 with q | q; omega; exact q); rw [hm] at this; omega
  omega
theorem lastS_range (s : ByteArray) (h : pathB s = true) : 0 ≤ lastS s ∧ lastS s < s.size := by
 rw [lastS_slash s h]; have := slashF_le s (s.size - 1); have := (pathB_head s h).1; omega
def levS (s : ByteArray) : Int := if pathB s = true then (items s).length else 0
def upS (s : ByteArray) : ByteArray := if pathB s = true then (if lastS s = 0 then ⟨#[47]⟩ else s.extract 0 (lastS s).toNat) else ⟨#[]⟩
def nmS (s : ByteArray) : ByteArray := if pathB s = true then s.extract (lastS s + 1).toNat s.size else ⟨#[]⟩
theorem specOk_eq (s : ByteArray) : specOk s = pathB s := by
 by_cases h0 : 0 < s.size
 ·
  by_cases hc : s[0] = 47
  ·
   by_cases h1 : 1 < s.size
   ·
    have hn := items_slash_names s h1 hc
    have hge : ∀ x ∈ items s, 0 ≤ x.1 := by
     rw [items_slash s h0 hc]; exact items_ge s _ 1 0 (Int.le_refl _)
    have hl1 : 1 ≤ (items s).length := itemsL_pos s _ _ _
    have hb : bulk (items s) = s.size := by
     rw [items_slash s h0 hc]; unfold itemsAt; have := items_bulk s (s.data.toList.drop 1) 1 0 (by rw [List.length_drop, len_data]; omega) (by omega)
     simpa using this
    unfold specOk pathB okItems; rw [← hn, all_ok_map _ hge, List.length_map]; by_cases ha : ((items s).map (·.2)).all nameB = true
    ·
     rw [ha]; by_cases hl : (items s).length ≤ 3
     ·
      have := bulk_le (items s) (by rw [all_ok_map _ hge]; exact ha); rw [decide_eq_true (p := s.size ≤ 12) (by omega), decide_eq_true (p := 1 ≤ (items s).length ∧ (items s).length ≤ 3) ⟨hl1, hl⟩, decide_eq_true hl]; rfl
     ·
      rw [decide_eq_false (p := 1 ≤ (items s).length ∧ (items s).length ≤ 3) (by omega), decide_eq_false hl]; simp
    ·
     rw [Bool.not_eq_true] at ha; rw [ha]; simp
   ·
    have e : items s = [(0, s.extract 1 s.size)] := by
     rw [items_slash s h0 hc, itemsAt_end s 1 0 h1]; rfl
    have hz : (s.extract 1 s.size).size = 0 := by simp; omega
    have hn : nameB (s.extract 1 s.size) = false := by unfold nameB; rw [hz]; rfl
    have e2 : namesS s = [] := by unfold namesS; rw [if_pos (.inl (by omega))]
    unfold specOk pathB okItems okItem; rw [e, e2]; simp [hn]
  ·
   have e : items s = itemsL s (s.data.toList.drop 1) 1 (-1) := by
    unfold items; rw [itemsAt_other s 0 (-1) h0 hc]; rfl
   obtain ⟨x, r, hx, hx1⟩ := items_head s (s.data.toList.drop 1) 1 (by omega)
   have e2 : namesS s = [] := by
    unfold namesS; rw [if_pos (.inr (by rw [get0 s h0]; exact hc))]
   unfold specOk pathB okItems okItem; rw [e, hx, e2]; simp [hx1]
 ·
  have e : items s = [(-1, s.extract 0 s.size)] := by
   unfold items; rw [itemsAt_end s 0 (-1) h0]; rfl
  have e2 : namesS s = [] := by unfold namesS; rw [if_pos (.inl (by omega))]
  unfold specOk pathB okItems okItem; rw [e, e2]; simp
theorem toList_inj {a b : ByteArray} (h : a.toList = b.toList) : a = b := by
 rw [Lib.toList_data, Lib.toList_data] at h; exact ByteArray.ext (Array.toList_inj.1 h)
theorem isRoot_iff (d : ByteArray) : isRoot d = true ↔ d = ⟨#[47]⟩ := by
 unfold isRoot; rw [beq_iff_eq]
 constructor
 ·
  intro h; exact toList_inj (by rw [h, Lib.toList_data])
 ·
  intro h; rw [h, Lib.toList_data]
def underL (s d : ByteArray) : Bool := if isRoot d = true then true else (decide (d.size < s.size) && ((s.extract 0 d.size).toList == d.toList)) && (s.get! d.size == 47)
theorem app_toList (a b : ByteArray) : (a ++ b).data.toList = a.data.toList ++ b.data.toList := by
 rw [ByteArray.data_append, Array.toList_append]
theorem take_extract (s : ByteArray) (n : Nat) : (s.extract 0 n).data.toList = s.data.toList.take n := by
 rw [ByteArray.data_extract, Array.toList_extract, List.extract_eq_take_drop]; rfl
theorem pre_stroke (s d : ByteArray) : preB s (d ++ ⟨#[47]⟩) = ((decide (d.size < s.size) && ((s.extract 0 d.size).toList == d.toList)) && (s.get! d.size == 47)) := by
 have hz : (d ++ ⟨#[47]⟩ : ByteArray).size = d.size + 1 := by rw [ByteArray.size_append]; rfl
 unfold preB; rw [hz]; by_cases h : d.size < s.size
 ·
  rw [decide_eq_true (p := d.size + 1 ≤ s.size) h, decide_eq_true h, Bool.true_and, Bool.true_and]; rw [Bool.eq_iff_iff, Bool.and_eq_true, beq_iff_eq, beq_iff_eq, beq_iff_eq]; simp only [Lib.toList_data]; rw [take_extract, take_extract, app_toList, get_plus s d.size h, List.take_succ_eq_append_getElem (by rw [len_data]; exact h)]; have hl : (s.data.toList.take d.size).length = d.data.toList.length := by rw [List.length_take, len_data, len_data]; omega
  constructor
  ·
   intro e; obtain ⟨e1, e2⟩ := List.append_inj e hl; exact ⟨e1, List.head_eq_of_cons_eq e2⟩
  ·
   rintro ⟨e1, e2⟩; rw [e1]
   congr 1
   have : s.data.toList[d.size]'(by rw [len_data]; exact h) = 47 := e2; rw [this]
 ·
  rw [decide_eq_false (p := d.size + 1 ≤ s.size) h, decide_eq_false h]; rfl
theorem underI_eq (s d : ByteArray) : underI s d = ((pathB s && stemOk d) && underL s d) := by
 unfold underI; cases hs : pathB s with
 | false => simp
 | true =>
  cases hd : stemOk d with
  | false => rfl
  | true =>
   rw [Bool.true_and, Bool.true_and, Bool.true_and, Bool.true_and]; unfold underL stemS; cases hr : isRoot d with
   | true =>
    rw [if_pos rfl, if_pos rfl, pre_stroke]; obtain ⟨h1, h2⟩ := pathB_head s hs; have e0 : (⟨#[]⟩ : ByteArray).size = 0 := rfl; rw [e0, decide_eq_true (p := 0 < s.size) (by omega), h2]
    have : (s.extract 0 0).toList = (⟨#[]⟩ : ByteArray).toList := by
     simp only [Lib.toList_data]; rw [take_extract]; rfl
    rw [this, beq_self_eq_true]; decide
   | false =>
    rw [if_neg (by decide), if_neg (by decide), pre_stroke]
/-! ### A path that is moved -/
def movX (s f t : ByteArray) : ByteArray := t ++ s.extract f.size s.size
def movHit (s f : ByteArray) : Bool := (s.toList == f.toList) || preB s (f ++ ⟨#[47]⟩)
def movAll (s f t : ByteArray) : Bool := (pathB s && pathB f) && pathB t
def movOk (s f t : ByteArray) : Bool := movAll s f t && (!movHit s f || pathB (movX s f t))
def movS (s f t : ByteArray) : ByteArray := if movAll s f t = true then (if movHit s f = true then ifS (movX s f t) else s) else ⟨#[]⟩
theorem movOk_bad {s f t : ByteArray} (h : movAll s f t = false) : movOk s f t = false := by unfold movOk; rw [h]; rfl
theorem movS_bad {s f t : ByteArray} (h : movAll s f t = false) : movS s f t = ⟨#[]⟩ := by unfold movS; rw [h]; rfl
theorem movOk_stay {s f t : ByteArray} (h : movAll s f t = true) (k : movHit s f = false) : movOk s f t = true := by unfold movOk; rw [h, k]; rfl
theorem movS_stay {s f t : ByteArray} (h : movAll s f t = true) (k : movHit s f = false) : movS s f t = s := by unfold movS; rw [h, k]; rfl
theorem movOk_go {s f t : ByteArray} (h : movAll s f t = true) (k : movHit s f = true) : movOk s f t = pathB (movX s f t) := by unfold movOk; rw [h, k]; rfl
theorem movS_go {s f t : ByteArray} (h : movAll s f t = true) (k : movHit s f = true) : movS s f t = ifS (movX s f t) := by unfold movS; rw [h, k]; rfl
theorem path_not_root {d : ByteArray} (h : pathB d = true) : isRoot d = false := by
 cases hr : isRoot d with
 | false => rfl
 | true =>
  have := (isRoot_iff d).1 hr; have h1 := (pathB_head d h).1; rw [this] at h1; exact absurd h1 (by decide)
theorem underL_path (s : ByteArray) {d : ByteArray} (h : pathB d = true) : underL s d = preB s (d ++ ⟨#[47]⟩) := by
 unfold underL; rw [path_not_root h, if_neg (by decide), pre_stroke]
theorem preB_size {s x : ByteArray} (h : preB s x = true) : x.size ≤ s.size := by
 unfold preB at h; rw [Bool.and_eq_true] at h; exact of_decide_eq_true h.1
theorem preB_stroke_size {s d : ByteArray} (h : preB s (d ++ ⟨#[47]⟩) = true) : d.size < s.size := by
 have := preB_size h; rw [ByteArray.size_append] at this; exact this
open Go.Lib
structure E where
 p : ByteArray
 d : Bool
 x : ByteArray
def findL (s : ByteArray) : List E → Nat → Int
 | [], _ => -1
 | e :: r, k => if (e.p.toList == s.toList) = true then (k : Int) else findL s r (k + 1)
def findE (es : List E) (s : ByteArray) : Int := findL s es 0
theorem find_drop (s : ByteArray) (es : List E) (k : Nat) (h : k < es.length) : findL s (es.drop k) k = if (es[k].p.toList == s.toList) = true then (k : Int) else findL s (es.drop (k + 1)) (k + 1) := by
 rw [List.drop_eq_getElem_cons h]; rfl
theorem findL_range (s : ByteArray) : ∀ (es : List E) (k : Nat), findL s es k = -1 ∨ ∃ (j : Nat) (h : j < es.length), findL s es k = ((k + j : Nat) : Int) ∧ (es[j].p.toList == s.toList) = true
 | [], _ => .inl rfl
 | e :: r, k => by
  unfold findL
  split
  ·
   rename_i h; exact .inr ⟨0, Nat.succ_pos _, rfl, h⟩
  ·
   rcases findL_range s r (k + 1) with h | ⟨j, h, e1, e2⟩
   ·
    exact .inl h
   ·
    exact .inr ⟨j + 1, Nat.succ_lt_succ h, by rw [e1]; omega, e2⟩
theorem findE_is (es : List E) (s : ByteArray) : findE es s = -1 ∨ ∃ (j : Nat) (h : j < es.length), findE es s = (j : Int) ∧ (es[j].p.toList == s.toList) = true := by
 rcases findL_range s es 0 with h | ⟨j, h, e1, e2⟩
 ·
  exact .inl h
 ·
  exact .inr ⟨j, h, by unfold findE; rw [e1]; omega, e2⟩
def dirE (es : List E) (s : ByteArray) : Bool := isRoot s || match es[(findE es s).toNat]? with
 | some e => decide (0 ≤ findE es s) && e.d
 | none => false
def dataC (c : UInt8) : Bool := low c || decide (48 ≤ c.toNat ∧ c.toNat ≤ 57)
def dataB (s : ByteArray) : Bool := s.data.toList.all dataC && decide (s.size ≤ 6)
def okAt (es : List E) (i : Nat) : Bool :=
 match es[i]? with
 | none => true
 | some e => pathB e.p && (dataB e.x && (!(e.d && !e.x.toList.isEmpty) && ((i == 0 || Op.bytesLess ((es[i - 1]?.map (·.p.toList)).getD []) e.p.toList) && dirE (es.take i) (upS e.p))))
def treeE (es : List E) : Bool := decide (es.length ≤ 16) && (List.range es.length).all (okAt es)
theorem okAt_is {es : List E} {i : Nat} (h : i < es.length) : okAt es i = (pathB es[i].p && (dataB es[i].x && (!(es[i].d && !es[i].x.toList.isEmpty) && ((i == 0 || Op.bytesLess ((es[i - 1]?.map (·.p.toList)).getD []) es[i].p.toList) && dirE (es.take i) (upS es[i].p))))) := by
 unfold okAt; rw [List.getElem?_eq_getElem h]
theorem treeE_no {es : List E} {i : Nat} (h : i < es.length) (hb : okAt es i = false) : false = treeE es := by
 unfold treeE
 have : (List.range es.length).all (okAt es) = false := by
  rw [List.all_eq_false]; exact ⟨i, List.mem_range.2 h, by rw [hb]; decide⟩
 rw [this, Bool.and_false]
theorem all_range_succ (f : Nat → Bool) (k : Nat) (h : (List.range k).all f = true) (hk : f k = true) : (List.range (k + 1)).all f = true := by
 rw [List.range_succ, List.all_append, h, List.all_cons, hk]; rfl
def rootE : E := ⟨⟨#[47]⟩, true, ⟨#[]⟩⟩
def noneE : E := ⟨⟨#[]⟩, false, ⟨#[]⟩⟩
def getE (es : List E) (s : ByteArray) : E × Bool :=
 if isRoot s = true then (rootE, true) else match es[(findE es s).toNat]? with
 | some e => if 0 ≤ findE es s then (e, true) else (noneE, false)
 | none => (noneE, false)
theorem getE_root {es : List E} {s : ByteArray} (h : isRoot s = true) : getE es s = (rootE, true) := by unfold getE; rw [if_pos h]
theorem getE_no {es : List E} {s : ByteArray} (h : isRoot s = false) (hf : findE es s = -1) : getE es s = (noneE, false) := by
 unfold getE; rw [h, if_neg (by decide), hf]; split
 ·
  rw [if_neg (by decide)]
 ·
  rfl
theorem getE_at {es : List E} {s : ByteArray} (h : isRoot s = false) {j : Nat} (hj : j < es.length) (hf : findE es s = (j : Int)) : getE es s = (es[j], true) := by
 unfold getE; rw [h, if_neg (by decide), hf]; have e : es[((j : Nat) : Int).toNat]? = some es[j] := by rw [show ((j : Nat) : Int).toNat = j from rfl, List.getElem?_eq_getElem hj]
 rw [e]; simp
structure O where
 k : Int
 p : ByteArray
 t : ByteArray
 x : ByteArray
def emptyB (s : ByteArray) : Bool := s.toList.isEmpty
def opB (o : O) : Bool :=
 (decide (1 ≤ o.k ∧ o.k ≤ 5) && pathB o.p) && (if o.k = 5 then pathB o.t && emptyB o.x else (emptyB o.t && dataB o.x) && (decide (o.k = 2) || emptyB o.x))
def kidB (s : ByteArray) (e : E) : Bool := (upS e.p).toList == s.toList
def kidsE (es : List E) (s : ByteArray) : List ByteArray := (es.filter (kidB s)).map (fun e => nmS e.p)
theorem kids_succ (es : List E) (s : ByteArray) (k : Nat) (h : k < es.length) : kidsE (es.take (k + 1)) s = kidsE (es.take k) s ++ (if kidB s es[k] = true then [nmS es[k].p] else []) := by
 unfold kidsE; rw [List.take_succ_eq_append_getElem h, List.filter_append, List.map_append]
 congr 1
 by_cases hb : kidB s es[k] = true
 ·
  simp [hb]
 ·
  simp [hb]
theorem kids_len (es : List E) (s : ByteArray) (k : Nat) : (kidsE (es.take k) s).length ≤ k := by
 unfold kidsE; rw [List.length_map]; have := List.length_filter_le (kidB s) (es.take k); rw [List.length_take] at this; omega
def upC (es : List E) (s : ByteArray) : Int := if (getE es (upS s)).2 = false then 2 else if (getE es (upS s)).1.d = false then 3 else 0
def newC (es : List E) (s : ByteArray) : Int := if upC es s ≠ 0 then upC es s else if (getE es s).2 = true then 4 else if 16 ≤ es.length then 8 else 0
def putC (es : List E) (s : ByteArray) : Int := if newC es s = 4 then (if (getE es s).1.d = true then 5 else 0) else newC es s
def offC (es : List E) (k : Int) (s : ByteArray) : Int :=
 if (getE es s).2 = false then 2 else if k = 3 ∧ (getE es s).1.d = true then 5 else if k = 4 ∧ (getE es s).1.d = false then 3 else if 0 < (kidsE es s).length then 6 else 0
def sameT1 (e f : E) : Bool := (e.p.toList == f.p.toList) && (e.d == f.d) && (e.x.toList == f.x.toList)
def sameT : List E → List E → Bool
 | [], [] => true
 | e :: r, f :: q => sameT1 e f && sameT r q
 | _, _ => false
theorem same_drop (es fs : List E) (k : Nat) (h : k < es.length) (h2 : k < fs.length) : sameT (es.drop k) (fs.drop k) = (sameT1 es[k] fs[k] && sameT (es.drop (k + 1)) (fs.drop (k + 1))) := by
 rw [List.drop_eq_getElem_cons h, List.drop_eq_getElem_cons h2]; rfl
def cellsE (e : E) : List Value := [.string e.p, .bool e.d, .string e.x]
def rowE (es : List E) : List Value := es.flatMap cellsE
theorem rowE_len : ∀ es : List E, (rowE es).length = es.length * 3
 | [] => rfl
 | e :: r => by
  show (cellsE e ++ rowE r).length = _
  rw [List.length_append, rowE_len r, List.length_cons]; show 3 + _ = _; omega
def offE (es : List E) (s : ByteArray) : List E := es.filter (fun e => !(e.p.toList == s.toList))
theorem off_succ (es : List E) (s : ByteArray) (k : Nat) (h : k < es.length) : offE (es.take (k + 1)) s = offE (es.take k) s ++ (if (es[k].p.toList == s.toList) = true then [] else [es[k]]) := by
 unfold offE; rw [List.take_succ_eq_append_getElem h, List.filter_append]
 congr 1
 by_cases hb : (es[k].p.toList == s.toList) = true
 ·
  simp [hb]
 ·
  simp only [Bool.not_eq_true] at hb; simp [hb]
def ltP (e : E) (f : E) : Bool := Op.bytesLess f.p.toList e.p.toList
def restE (e : E) : List E → List E
 | f :: r => if (f.p.toList == e.p.toList) = true then r else f :: r
 | [] => []
def putE (es : List E) (e : E) : List E := es.takeWhile (ltP e) ++ [e] ++ restE e (es.dropWhile (ltP e))
theorem span_at {q : E → Bool} : ∀ (es : List E) (k : Nat), k ≤ es.length → (es.take k).all q = true → (∀ h : k < es.length, q es[k] = false) → es.takeWhile q = es.take k ∧ es.dropWhile q = es.drop k
 | [], 0, _, _, _ => ⟨rfl, rfl⟩
 | e :: r, 0, _, _, h => by
  have := h (by simp); simp only [List.getElem_cons_zero] at this; simp [this]
 | e :: r, k + 1, hk, ha, h => by
  simp only [List.take_succ_cons, List.all_cons, Bool.and_eq_true] at ha; obtain ⟨h1, h2⟩ := span_at r k (by simpa using hk) ha.2 (fun hh => by have := h (by simpa using hh); simpa using this); simp [ha.1, h1, h2]
def movE1 (f t : ByteArray) (e : E) : E := ⟨movS e.p f t, e.d, e.x⟩
def movE (es : List E) (f t : ByteArray) : List E := es.foldl (fun out e => putE out (movE1 f t e)) []
theorem mov_succ (es : List E) (f t : ByteArray) (k : Nat) (h : k < es.length) : movE (es.take (k + 1)) f t = putE (movE (es.take k) f t) (movE1 f t es[k]) := by
 unfold movE; rw [List.take_succ_eq_append_getElem h, List.foldl_append]; rfl
theorem rest_len (e : E) (es : List E) : (restE e es).length ≤ es.length := by
 cases es with
 | nil => exact Nat.le_refl _
 | cons f r =>
  show (if (f.p.toList == e.p.toList) = true then r else f :: r).length ≤ _
  split
  ·
   simp
  ·
   exact Nat.le_refl _
theorem put_len (es : List E) (e : E) : (putE es e).length ≤ es.length + 1 := by
 unfold putE; have h1 := rest_len e (es.dropWhile (ltP e)); have h2 : (es.takeWhile (ltP e)).length + (es.dropWhile (ltP e)).length = es.length := by rw [← List.length_append, List.takeWhile_append_dropWhile]
 rw [List.length_append, List.length_append]
 simp; omega
theorem mov_len (es : List E) (f t : ByteArray) : ∀ k, k ≤ es.length → (movE (es.take k) f t).length ≤ k
 | 0, _ => by simp [movE]
 | k + 1, h => by
  rw [mov_succ es f t k (by omega)]; have := put_len (movE (es.take k) f t) (movE1 f t es[k]); have := mov_len es f t k (by omega); omega
def fitE (es : List E) (s t : ByteArray) : Bool := es.all (fun e => movOk e.p s t)
def moveC (es : List E) (s t : ByteArray) : Int :=
 if (getE es s).2 = false then 2 else if upC es t ≠ 0 then upC es t else if (getE es t).2 = true then 4 else if underL t s = true then 7 else if fitE es s t = true then 0 else 8
theorem fit_succ (es : List E) (s t : ByteArray) (k : Nat) (h : k < es.length) (ha : fitE (es.take k) s t = true) (hk : movOk es[k].p s t = true) : fitE (es.take (k + 1)) s t = true := by
 unfold fitE at *; rw [List.take_succ_eq_append_getElem h, List.all_append, ha]; simp [hk]
theorem fit_no (es : List E) (s t : ByteArray) (k : Nat) (h : k < es.length) (hk : movOk es[k].p s t = false) : fitE es s t = false := by
 unfold fitE; rw [List.all_eq_false]; exact ⟨es[k], List.getElem_mem _, by rw [hk]; decide⟩
def codeC (es : List E) (k : Int) (p t : ByteArray) : Int :=
 if k = 1 then newC es p else if k = 2 then putC es p else if k = 5 then moveC es p t else offC es k p
def madeE (es : List E) (k : Int) (p t x : ByteArray) : List E :=
 if k = 1 then putE es ⟨p, true, ⟨#[]⟩⟩ else if k = 2 then putE es ⟨p, false, x⟩ else if k = 5 then movE es p t else offE es p
def doC (es : List E) (q : O) : Int := if (treeE es && opB q) = true then codeC es q.k q.p q.t else 1
def doE (es : List E) (q : O) : List E := if treeE es = true then (if doC es q = 0 then madeE es q.k q.p q.t q.x else es) else []
def bothE (es fs : List E) : List E := fs.foldl putE es
theorem both_succ (es fs : List E) (k : Nat) (h : k < fs.length) : bothE es (fs.take (k + 1)) = putE (bothE es (fs.take k)) fs[k] := by
 unfold bothE; rw [List.take_succ_eq_append_getElem h, List.foldl_append]; rfl
theorem rest_lenT (e : E) (es : List E) : (restE e es).length ≤ es.length := by
 cases es with
 | nil => exact Nat.le_refl _
 | cons f r =>
  show (if (f.p.toList == e.p.toList) = true then r else f :: r).length ≤ _
  split
  ·
   simp
  ·
   exact Nat.le_refl _
theorem put_lenT (es : List E) (e : E) : (putE es e).length ≤ es.length + 1 := by
 unfold putE; have h1 := rest_lenT e (es.dropWhile (ltP e)); have h2 : (es.takeWhile (ltP e)).length + (es.dropWhile (ltP e)).length = es.length := by rw [← List.length_append, List.takeWhile_append_dropWhile]
 rw [List.length_append, List.length_append]
 simp; omega
theorem both_len (es fs : List E) : ∀ k, k ≤ fs.length → (bothE es (fs.take k)).length ≤ es.length + k
 | 0, _ => by simp [bothE]
 | k + 1, h => by
  rw [both_succ es fs k (by omega)]; have := put_lenT (bothE es (fs.take k)) fs[k]; have := both_len es fs k (by omega); omega
theorem treeE_len {es : List E} (h : treeE es = true) : es.length ≤ 65536 := by
 unfold treeE at h; rw [Bool.and_eq_true] at h; have := of_decide_eq_true h.1; omega
theorem data_take (s : ByteArray) (pos : Nat) (h : pos < s.size) : (s.data.toList.take (pos + 1)).all dataC = ((s.data.toList.take pos).all dataC && dataC s[pos]) := by
 rw [List.take_succ_eq_append_getElem (by rw [len_data]; exact h), List.all_append]; simp only [List.all_cons, List.all_nil, Bool.and_true]; rfl
theorem data_bad (s : ByteArray) (pos : Nat) (h : pos < s.size) (hl : dataC s[pos] = false) : false = dataB s := by
 unfold dataB
 have : s.data.toList.all dataC = false := by
  rw [List.all_eq_false]; exact ⟨s[pos], by rw [show s[pos] = s.data.toList[pos]'(by rw [len_data]; exact h) from rfl]; exact List.getElem_mem _, by rw [hl]; decide⟩
 rw [this]; rfl
theorem data_all (s : ByteArray) (k : Nat) (hk : k = s.size) (h : (s.data.toList.take k).all dataC = true) : decide (s.size ≤ 6) = dataB s := by
 subst hk; rw [List.take_of_length_le (by rw [len_data]; omega)] at h; unfold dataB; rw [h, Bool.true_and]
theorem rune_data (s : ByteArray) (pos : Nat) (h : pos < s.size) (h1 : (97 ≤ (Utf8.decode s pos).1 ∧ (Utf8.decode s pos).1 ≤ 122) ∨ (48 ≤ (Utf8.decode s pos).1 ∧ (Utf8.decode s pos).1 ≤ 57)) :
  (Utf8.decode s pos).2 = 1 ∧ dataC s[pos] = true := by
 by_cases ha : (s[pos]'h).toNat < 128
 ·
  rw [decode_ascii s pos h ha] at h1 ⊢; refine ⟨rfl, ?_⟩; unfold dataC low; rw [Bool.or_eq_true, decide_eq_true_eq, decide_eq_true_eq]; exact h1
 ·
  have := (decode_high s pos h (by omega)).1; omega
theorem rune_no_data (s : ByteArray) (pos : Nat) (h : pos < s.size) (h1 : ¬ (97 ≤ (Utf8.decode s pos).1 ∧ (Utf8.decode s pos).1 ≤ 122)) (h2 : ¬ (48 ≤ (Utf8.decode s pos).1 ∧ (Utf8.decode s pos).1 ≤ 57)) :
  dataC s[pos] = false := by
 unfold dataC low; rw [Bool.or_eq_false_iff, decide_eq_false_iff_not, decide_eq_false_iff_not]; by_cases ha : (s[pos]'h).toNat < 128
 ·
  rw [decode_ascii s pos h ha] at h1 h2; exact ⟨h1, h2⟩
 ·
  omega
/-! ### Texts as lists of bytes -/
abbrev L (s : ByteArray) : List UInt8 := s.data.toList
theorem L_inj {a b : ByteArray} (h : L a = L b) : a = b := ByteArray.ext (Array.toList_inj.1 h)
theorem L_app (a b : ByteArray) : L (a ++ b) = L a ++ L b := app_toList a b
theorem L_ext (s : ByteArray) (a b : Nat) : L (s.extract a b) = ((L s).drop a).take (b - a) := Lib.extract_data s a b
theorem L_len (s : ByteArray) : (L s).length = s.size := len_data s
theorem gE (s : ByteArray) (i : Nat) : s.get! i = (L s)[i]?.getD 0 := by
 by_cases h : i < s.size
 ·
  rw [get_plus s i h, List.getElem?_eq_getElem (by rw [L_len]; exact h)]; rfl
 ·
  rw [List.getElem?_eq_none (by rw [L_len]; omega)]; simp [ByteArray.get!, h]; rfl
theorem size_ext (s : ByteArray) (a b : Nat) : (s.extract a b).size = min b s.size - a := ByteArray.size_extract
theorem get_ext (s : ByteArray) (a b i : Nat) (h : a + i < b) : (s.extract a b).get! i = s.get! (a + i) := by
 rw [gE, gE, L_ext, List.getElem?_take_of_lt (by omega), List.getElem?_drop]
theorem get_app_l (a b : ByteArray) (i : Nat) (h : i < a.size) : (a ++ b).get! i = a.get! i := by
 rw [gE, gE, L_app, List.getElem?_append_left (by rw [L_len]; exact h)]
theorem get_app_r (a b : ByteArray) (i : Nat) (h : a.size ≤ i) : (a ++ b).get! i = b.get! (i - a.size) := by
 rw [gE, gE, L_app, List.getElem?_append_right (by rw [L_len]; exact h), L_len]
theorem ext_ext0 (s : ByteArray) (a b : Nat) (h : a ≤ b) : (s.extract 0 b).extract 0 a = s.extract 0 a := by
 apply L_inj
 rw [L_ext, L_ext, L_ext, List.drop_zero, List.drop_zero, List.take_take]
 congr 1; omega
theorem ext_all (s : ByteArray) : s.extract 0 s.size = s := by
 apply L_inj; rw [L_ext, List.drop_zero, List.take_of_length_le (by rw [L_len]; omega)]
theorem glue (s : ByteArray) (m : Nat) : s.extract 0 m ++ s.extract m s.size = s := by
 apply L_inj
 rw [L_app, L_ext, L_ext, List.drop_zero, Nat.sub_zero, List.take_of_length_le (i := s.size - m) (by rw [List.length_drop, L_len]; exact Nat.le_refl _), List.take_append_drop]
theorem glue3 (s : ByteArray) (m : Nat) (hm : m < s.size) (hg : s.get! m = 47) : s.extract 0 m ++ ⟨#[47]⟩ ++ s.extract (m + 1) s.size = s := by
 apply L_inj
 have h1 : L (⟨#[47]⟩ : ByteArray) = [47] := rfl; rw [L_app, L_app, L_ext, L_ext, List.drop_zero, Nat.sub_zero, h1, List.take_of_length_le (i := s.size - (m + 1)) (by rw [List.length_drop, L_len]; exact Nat.le_refl _)]; rw [get_plus s m hm] at hg; have h2 : (L s).drop m = 47 :: (L s).drop (m + 1) := by rw [drop_at s m hm, hg]
 rw [List.append_assoc, List.singleton_append, ← h2, List.take_append_drop]
theorem app_ext_l (a b : ByteArray) : (a ++ b).extract 0 a.size = a := by
 apply L_inj; rw [L_ext, L_app, List.drop_zero, Nat.sub_zero, ← L_len, List.take_left']; rfl
theorem app_ext_r (a b : ByteArray) (i : Nat) : (a ++ b).extract (a.size + i) (a ++ b).size = b.extract i b.size := by
 apply L_inj
 rw [L_ext, L_ext, L_app, ByteArray.size_append, ← L_len a, List.drop_length_add_append]
 congr 1; omega
theorem app_empty (a b : ByteArray) (h : b.size = 0) : a ++ b = a := by
 apply L_inj
 have e : L b = [] := List.eq_nil_of_length_eq_zero (by rw [L_len]; exact h); rw [L_app, e, List.append_nil]
/-! ### What begins with another text and a stroke -/
def Pre (s x : ByteArray) : Prop := x.size < s.size ∧ s.extract 0 x.size = x ∧ s.get! x.size = 47
theorem preB_iff (s x : ByteArray) : preB s (x ++ ⟨#[47]⟩) = true ↔ Pre s x := by
 rw [pre_stroke]; unfold Pre; rw [Bool.and_eq_true, Bool.and_eq_true, decide_eq_true_eq, beq_iff_eq, beq_iff_eq]
 constructor
 ·
  rintro ⟨⟨h1, h2⟩, h3⟩; exact ⟨h1, toList_inj h2, h3⟩
 ·
  rintro ⟨h1, h2, h3⟩; exact ⟨⟨h1, by rw [h2]⟩, h3⟩
theorem Pre.trans {a b c : ByteArray} (h : Pre a b) (k : Pre b c) : Pre a c := by
 obtain ⟨h1, h2, h3⟩ := h; obtain ⟨k1, k2, k3⟩ := k; refine ⟨by omega, ?_, ?_⟩
 ·
  rw [← ext_ext0 a c.size b.size (by omega), h2, k2]
 ·
  rw [← h2, get_ext a 0 b.size c.size (by omega), Nat.zero_add] at k3; exact k3
theorem underI_iff (s d : ByteArray) : underI s d = true ↔ stemOk d = true ∧ pathB s = true ∧ Pre s (stemS d) := by
 unfold underI; rw [Bool.and_eq_true, Bool.and_eq_true, preB_iff]
theorem stem_path {d : ByteArray} (h : pathB d = true) : stemS d = d := by unfold stemS; rw [path_not_root h]; rfl
theorem stemOk_path {d : ByteArray} (h : pathB d = true) : stemOk d = true := by unfold stemOk; rw [h, Bool.or_true]
theorem root_root : isRoot ⟨#[47]⟩ = true := (isRoot_iff _).2 rfl
theorem stem_root : stemS ⟨#[47]⟩ = ⟨#[]⟩ := by unfold stemS; rw [root_root]; rfl
theorem stemOk_is {d : ByteArray} (h : stemOk d = true) : d = ⟨#[47]⟩ ∨ pathB d = true := by
 unfold stemOk at h; rw [Bool.or_eq_true] at h; exact h.elim (fun h => .inl ((isRoot_iff d).1 h)) .inr
theorem stem_inj {a b : ByteArray} (ha : stemOk a = true) (hb : stemOk b = true) (h : stemS a = stemS b) : a = b := by
 rcases stemOk_is ha with rfl | ha
 ·
  rcases stemOk_is hb with rfl | hb
  ·
   rfl
  ·
   rw [stem_root, stem_path hb] at h; have := (pathB_head b hb).1; rw [← h] at this; exact absurd this (by decide)
 ·
  rcases stemOk_is hb with rfl | hb
  ·
   rw [stem_root, stem_path ha] at h; have := (pathB_head a ha).1; rw [h] at this; exact absurd this (by decide)
  ·
   rw [stem_path ha, stem_path hb] at h; exact h
theorem under_trans {a b c : ByteArray} (h : underI a b = true) (k : underI b c = true) : underI a c = true := by
 rw [underI_iff] at *; obtain ⟨h1, h2, h3⟩ := h; obtain ⟨k1, k2, k3⟩ := k; rw [stem_path k2] at h3; exact ⟨k1, h2, h3.trans k3⟩
theorem under_anti {a b : ByteArray} (h : underI a b = true) : underI b a = false := by
 rw [Bool.eq_false_iff]; intro k; rw [underI_iff] at *; obtain ⟨h1, h2, h3⟩ := h; obtain ⟨k1, k2, k3⟩ := k; rw [stem_path k2] at h3; rw [stem_path h2] at k3; have := h3.1; have := k3.1; omega
theorem under_self (a : ByteArray) : underI a a = false := by
 cases h : underI a a with
 | false => rfl
 | true => rw [under_anti h] at h; exact h.symm
theorem pre_nothing {a : ByteArray} (h : pathB a = true) : Pre a ⟨#[]⟩ := by
 obtain ⟨h1, h2⟩ := pathB_head a h; refine ⟨by show 0 < a.size; omega, ?_, h2⟩
 apply L_inj; rw [L_ext]; rfl
theorem under_root {a : ByteArray} (h : pathB a = true) : underI a ⟨#[47]⟩ = true := by
 rw [underI_iff, stem_root]; exact ⟨by unfold stemOk; rw [root_root]; rfl, h, pre_nothing h⟩
/-! ### The last stroke -/
theorem last_is {s : ByteArray} (h : pathB s = true) : ∃ m : Nat, lastS s = m ∧ m < s.size ∧ s.get! m = 47 ∧ ∀ j, m < j → j < s.size → s.get! j ≠ 47 := by
 obtain ⟨h1, h2⟩ := pathB_head s h; refine ⟨slashF s (s.size - 1), lastS_slash s h, ?_, ?_, fun j hj hj' => slashF_none s (s.size - 1) j hj (by omega)⟩
 ·
  have := slashF_le s (s.size - 1); omega
 ·
  rcases slashF_is s (s.size - 1) with e | e
  ·
   rw [e]; exact h2
  ·
   exact e
theorem last_eq {s : ByteArray} (h : pathB s = true) (m : Nat) (hm : m < s.size) (hg : s.get! m = 47) (hn : ∀ j, m < j → j < s.size → s.get! j ≠ 47) : lastS s = m := by
 obtain ⟨k, hk, k1, k2, k3⟩ := last_is h; rw [hk]; rcases Nat.lt_trichotomy k m with c | c | c
 ·
  exact absurd hg (k3 m c hm)
 ·
  rw [c]
 ·
  exact absurd k2 (hn k c k1)
theorem itemsL_plain (s : ByteArray) : ∀ (l : List UInt8) (pos : Nat) (k : Int), (∀ c ∈ l, c ≠ 47) → itemsL s l pos k = [(k, s.extract (k + 1).toNat s.size)]
 | [], _, _, _ => rfl
 | c :: r, pos, k, h => by
  rw [itemsL_cons, if_neg (h c List.mem_cons_self)]; exact itemsL_plain s r (pos + 1) k (fun x hx => h x (List.mem_cons_of_mem _ hx))
theorem items_split (s : ByteArray) (m : Nat) (hm : m < s.size) (h0 : 0 < m) : ∀ (l1 l2 : List UInt8) (pos : Nat) (k : Int), pos + l1.length = m → k < pos → -1 ≤ k → (∀ c ∈ l2, c ≠ 47) →
  itemsL s (l1 ++ 47 :: l2) pos k = itemsL (s.extract 0 m) l1 pos k ++ [((m : Int), s.extract (m + 1) s.size)]
 | [], l2, pos, k, hp, hk, hk', hl => by
  obtain rfl : pos = m := by simpa using hp
  rw [List.nil_append, itemsL_cons, if_pos rfl, if_pos h0, itemsL_plain s l2 (pos + 1) pos hl]
  have e : (s.extract 0 pos).extract (k + 1).toNat (s.extract 0 pos).size = s.extract (k + 1).toNat pos := by
   apply L_inj
   rw [L_ext, L_ext, L_ext, size_ext, List.drop_zero, List.drop_take, List.take_take]
   congr 1; omega
  show (k, s.extract (k + 1).toNat pos) :: _ = [(k, (s.extract 0 pos).extract (k + 1).toNat (s.extract 0 pos).size)] ++ _
  rw [e]; rfl
 | c :: r, l2, pos, k, hp, hk, hk', hl => by
  simp only [List.length_cons] at hp; rw [List.cons_append, itemsL_cons, itemsL_cons]
  have e : (s.extract 0 m).extract (k + 1).toNat pos = s.extract (k + 1).toNat pos := by
   apply L_inj
   rw [L_ext, L_ext, L_ext, List.drop_zero, List.drop_take, List.take_take]
   congr 1; omega
  by_cases h47 : c = 47
  ·
   rw [if_pos h47, if_pos h47, items_split s m hm h0 r l2 (pos + 1) pos (by omega) (by omega) (by omega) hl, e]
   split <;> rfl
  ·
   rw [if_neg h47, if_neg h47, items_split s m hm h0 r l2 (pos + 1) k (by omega) (by omega) hk' hl]
theorem no_stroke_list (s : ByteArray) (a : Nat) (h : ∀ j, a ≤ j → j < s.size → s.get! j ≠ 47) : ∀ c ∈ (L s).drop a, c ≠ 47 := by
 intro c hc; obtain ⟨i, hi, e⟩ := List.getElem_of_mem hc; rw [List.length_drop, L_len] at hi; have := h (a + i) (by omega) (by omega); rw [get_plus s (a + i) (by omega)] at this; rw [List.getElem_drop] at e; rw [← e]; exact this
theorem items_up {s : ByteArray} (m : Nat) (hm : m < s.size) (h0 : 0 < m) (hg : s.get! m = 47) (hn : ∀ j, m < j → j < s.size → s.get! j ≠ 47) :
  items s = items (s.extract 0 m) ++ [((m : Int), s.extract (m + 1) s.size)] := by
 have e : L s = L (s.extract 0 m) ++ 47 :: (L s).drop (m + 1) := by
  rw [L_ext, List.drop_zero, Nat.sub_zero]; rw [get_plus s m hm] at hg; have h2 : (L s).drop m = 47 :: (L s).drop (m + 1) := by rw [drop_at s m hm, hg]
  rw [← h2, List.take_append_drop]
 have hlen : (L (s.extract 0 m)).length = m := by rw [L_len, size_ext]; omega
 have := items_split s m hm h0 (L (s.extract 0 m)) ((L s).drop (m + 1)) 0 (-1) (by rw [hlen]; omega) (by omega) (by omega) (no_stroke_list s (m + 1) (fun j hj hj' => hn j (by omega) hj')); unfold items itemsAt; rw [List.drop_zero, List.drop_zero, ← this, ← e]
theorem ok_app {a : List (Int × ByteArray)} {x : Int × ByteArray} (h : okItems (a ++ [x]) = true) : okItems a = true ∧ okItem x = true ∧ a.length ≤ 2 := by
 unfold okItems at *; rw [Bool.and_eq_true, List.all_append, Bool.and_eq_true, decide_eq_true_eq, List.length_append, List.length_singleton] at h; obtain ⟨⟨h1, h2⟩, h3⟩ := h; refine ⟨by rw [h1, decide_eq_true (by omega)]; rfl, ?_, by omega⟩; rw [List.all_cons, List.all_nil, Bool.and_true] at h2; exact h2
theorem up_facts {s : ByteArray} (h : pathB s = true) : stemOk (upS s) = true ∧ stemS (upS s) = s.extract 0 (lastS s).toNat ∧ nameB (nmS s) = true ∧ levS s = levS (upS s) + 1 := by
 obtain ⟨m, hm, m1, m2, m3⟩ := last_is h; have en : nmS s = s.extract (m + 1) s.size := by unfold nmS; rw [h, if_pos rfl, hm]; rfl
 by_cases h0 : m = 0
 ·
  subst h0; have eu : upS s = ⟨#[47]⟩ := by unfold upS; rw [h, if_pos rfl, hm]; rfl
  have ei : items s = [(0, s.extract 1 s.size)] := by
   rw [items_slash s m1 (by rw [← get0 s m1]; exact m2)]; exact itemsL_plain s _ 1 0 (no_stroke_list s 1 (fun j hj hj' => m3 j (by omega) hj'))
  have hp := h; unfold pathB at hp; rw [ei] at hp; have ho := (ok_app (a := []) hp).2.1; unfold okItem at ho; rw [Bool.and_eq_true] at ho; refine ⟨by rw [eu]; unfold stemOk; rw [root_root]; rfl, ?_, by rw [en]; exact ho.2, ?_⟩
  ·
   rw [eu, stem_root, hm]; apply L_inj; rw [L_ext]; rfl
  ·
   have hr : pathB ⟨#[47]⟩ = false := by
    cases hq : pathB ⟨#[47]⟩ with
    | false => rfl
    | true => have := path_not_root hq; rw [root_root] at this; cases this
   rw [eu]; unfold levS; rw [h, hr, if_pos rfl, ei]; rfl
 ·
  have eu : upS s = s.extract 0 m := by unfold upS; rw [h, if_pos rfl, hm, if_neg (by omega)]; rfl
  have ei := items_up m m1 (by omega) m2 m3; have hp := h; unfold pathB at hp; rw [ei] at hp; obtain ⟨o1, o2, o3⟩ := ok_app hp; have hpu : pathB (s.extract 0 m) = true := o1; unfold okItem at o2; rw [Bool.and_eq_true] at o2; refine ⟨by rw [eu]; exact stemOk_path hpu, by rw [eu, stem_path hpu, hm]; rfl, by rw [en]; exact o2.2, ?_⟩; rw [eu]; unfold levS; rw [h, hpu, if_pos rfl, if_pos rfl, ei, List.length_append, List.length_singleton]; omega
theorem up_pre {s : ByteArray} (h : pathB s = true) : Pre s (stemS (upS s)) := by
 obtain ⟨m, hm, m1, m2, m3⟩ := last_is h; obtain ⟨_, e, _⟩ := up_facts h; rw [e, hm]; have ez : (s.extract 0 (m : Int).toNat).size = m := by rw [size_ext]; omega
 unfold Pre; rw [ez]; exact ⟨m1, rfl, m2⟩
theorem up_under {s : ByteArray} (h : pathB s = true) : underI s (upS s) = true :=
 (underI_iff _ _).2 ⟨(up_facts h).1, h, up_pre h⟩
theorem up_join {s : ByteArray} (h : pathB s = true) : joinI (upS s) (nmS s) = s := by
 obtain ⟨m, hm, m1, m2, m3⟩ := last_is h; obtain ⟨_, e, _⟩ := up_facts h; unfold joinI; rw [e]; unfold nmS; rw [h, if_pos rfl, hm]; exact glue3 s m m1 m2
theorem under_up {a b : ByteArray} (h : pathB a = true) : underI a b = true ↔ (b = upS a ∨ underI (upS a) b = true) := by
 constructor
 ·
  intro k; obtain ⟨k1, k2, k3⟩ := (underI_iff _ _).1 k; obtain ⟨m, hm, m1, m2, m3⟩ := last_is h; obtain ⟨u1, u2, _⟩ := up_facts h; have um : stemS (upS a) = a.extract 0 m := by rw [u2, hm]; rfl
  have le : (stemS b).size ≤ m := by
   rcases Nat.lt_or_ge m (stemS b).size with c | c
   ·
    exact absurd k3.2.2 (m3 _ c k3.1)
   ·
    exact c
  rcases Nat.lt_or_ge (stemS b).size m with c | c
  ·
   right
   have ez : (a.extract 0 m).size = m := by rw [size_ext]; omega
   have hu : pathB (upS a) = true := by
    rcases stemOk_is u1 with e | e
    ·
     rw [e, stem_root] at um; rw [← um] at ez; exact absurd ez (by show ¬ (0 = m); omega)
    ·
     exact e
   rw [stem_path hu] at um; refine (underI_iff _ _).2 ⟨k1, hu, ?_⟩; rw [um]; refine ⟨by rw [ez]; exact c, ?_, ?_⟩
   ·
    rw [ext_ext0 a _ _ (by omega), k3.2.1]
   ·
    rw [get_ext a 0 m _ (by omega), Nat.zero_add]; exact k3.2.2
  ·
   left
   have e : (stemS b).size = m := by omega
   exact stem_inj k1 u1 (by rw [um, ← e]; exact k3.2.1.symm)
 ·
  rintro (rfl | k)
  ·
   exact up_under h
  ·
   exact under_trans (up_under h) k
end Go.Proofs.YtoaipphccjkphaaDoor
namespace Go.Proofs.YtoaipphccjkphaaDoor.Mg
open Go.RowKit Go.Lib
def eqT (x y : E × Bool) : Bool := sameT1 x.1 y.1 && (x.2 == y.2)
def at3 (e x y : E × Bool) : E × Bool × Bool := if eqT x e = true then (y.1, y.2, true) else if (eqT y e || eqT x y) = true then (x.1, x.2, true) else (noneE, false, false)
def trees3 (t a b : List E) : Bool := treeE t && (treeE a && treeE b)
def atE (t a b : List E) (s : ByteArray) : E × Bool × Bool := if trees3 t a b = true then at3 (getE t s) (getE a s) (getE b s) else (noneE, false, false)
theorem eqT_parts (x y : E × Bool) : (eqT x y = true ∧ x = y) ∨ (eqT x y = false ∧ (x.2 == y.2) = false) ∨ (eqT x y = false ∧ (x.2 == y.2) = true ∧ (x.1.p.toList == y.1.p.toList) = false) ∨
  (eqT x y = false ∧ (x.2 == y.2) = true ∧ (x.1.p.toList == y.1.p.toList) = true ∧ (x.1.d == y.1.d) = false) ∨
  (eqT x y = false ∧ (x.2 == y.2) = true ∧ (x.1.p.toList == y.1.p.toList) = true ∧ (x.1.d == y.1.d) = true ∧ (x.1.x.toList == y.1.x.toList) = false) := by
 obtain ⟨⟨p, d, z⟩, b⟩ := x; obtain ⟨⟨p', d', z'⟩, b'⟩ := y; unfold eqT sameT1; dsimp only; cases h1 : (b == b') with
 | false => exact .inr (.inl ⟨by simp, rfl⟩)
 | true =>
  cases h2 : (p.toList == p'.toList) with
  | false => exact .inr (.inr (.inl ⟨rfl, rfl, rfl⟩))
  | true =>
   cases h3 : (d == d') with
   | false => exact .inr (.inr (.inr (.inl ⟨rfl, rfl, rfl, rfl⟩)))
   | true =>
    cases h4 : (z.toList == z'.toList) with
    | false => exact .inr (.inr (.inr (.inr ⟨rfl, rfl, rfl, rfl, rfl⟩)))
    | true =>
     refine .inl ⟨rfl, ?_⟩; have e1 := toList_inj (by simpa using h2); have e2 : d = d' := by simpa using h3
     have e3 := toList_inj (by simpa using h4); have e4 : b = b' := by simpa using h1
     rw [e1, e2, e3, e4]
end Go.Proofs.YtoaipphccjkphaaDoor.Mg
