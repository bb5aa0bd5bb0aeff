/-
  The scan of a text by its runes is the scan by its bytes.
-/
import Derived.Test.YtgkfhcpegdlejaaDoorHPk02
namespace Go.Proofs.YtgkfhcpegdlejaaDoor
open Go.Lib

abbrev curL (s : ByteArray) (st pos : Nat) : List UInt8 := ((LB s).take pos).drop st
theorem cur_extract (s : ByteArray) {st pos : Nat} (h : pos ≤ s.size) : LB (s.extract st pos) = curL s st pos := lb_extract s st pos h
theorem cur_here (s : ByteArray) (pos : Nat) : curL s pos pos = [] := List.drop_of_length_le (by rw [List.length_take]; omega)
theorem drop_here {s : ByteArray} {pos : Nat} (h : pos < s.size) : (LB s).drop pos = s[pos] :: (LB s).drop (pos + 1) := by
  rw [List.drop_eq_getElem_cons (show pos < (LB s).length by rw [lb_len]; exact h)]
  rfl
theorem drop_all {s : ByteArray} {pos : Nat} (h : ¬ pos < s.size) : (LB s).drop pos = [] := List.drop_of_length_le (by rw [lb_len]; omega)
theorem take_more (s : ByteArray) (pos k : Nat) (st : Nat) (h : st ≤ pos) (hp : pos ≤ s.size) : curL s st pos ++ ((LB s).drop pos).take k = curL s st (pos + k) := by
  unfold curL
  rw [List.take_add, List.drop_append_of_le_length (by rw [List.length_take, lb_len]; omega)]

theorem rune_sep (s : ByteArray) (pos : Nat) (c : UInt8) (hc : c.toNat < 128) (h : pos < s.size) (hr : (Utf8.decode s pos).1 = c.toNat) : (Utf8.decode s pos).2 = 1 ∧ s[pos] = c := by
  by_cases ha : (s[pos]'h).toNat < 128
  · rw [decode_ascii s pos h ha] at hr ⊢
    exact ⟨rfl, UInt8.toNat_inj.1 hr⟩
  · have := (decode_high s pos h (by omega)).1
    omega
theorem rune_span (s : ByteArray) (pos : Nat) (h : pos < s.size) (h1 : (Utf8.decode s pos).1 ≠ 32) (h2 : (Utf8.decode s pos).1 ≠ 10) :
    ∀ c ∈ ((LB s).drop pos).take (Utf8.decode s pos).2, c ≠ 32 ∧ c ≠ 10 := by
  intro c hc
  by_cases ha : (s[pos]'h).toNat < 128
  · rw [decode_ascii s pos h ha] at h1 h2 hc
    rw [drop_here h] at hc
    simp at hc
    subst hc
    exact ⟨fun e => h1 (by show (s[pos]'h).toNat = 32; rw [e]; rfl), fun e => h2 (by show (s[pos]'h).toNat = 10; rw [e]; rfl)⟩
  · obtain ⟨j, hj, rfl⟩ := List.mem_iff_getElem.1 hc
    have hj' := hj
    rw [List.length_take] at hj'
    obtain ⟨k1, k2⟩ := decode_span s pos h (by omega) j (by omega)
    rw [get_plus s (pos + j) k1] at k2
    have e : (((LB s).drop pos).take (Utf8.decode s pos).2)[j] = s[pos + j] := by rw [List.getElem_take, List.getElem_drop]; rfl
    rw [e]
    exact ⟨fun q => by rw [q] at k2; revert k2; decide, fun q => by rw [q] at k2; revert k2; decide⟩
theorem scan_other (most : Nat) (s : ByteArray) (pos st : Nat) (ln : List (List UInt8)) (ls : List (List (List UInt8))) (h : pos < s.size) (hst : st ≤ pos) (h1 : (Utf8.decode s pos).1 ≠ 32) (h2 : (Utf8.decode s pos).1 ≠ 10) :
    scanL most ((LB s).drop pos) (curL s st pos) ln ls = scanL most ((LB s).drop (pos + (Utf8.decode s pos).2)) (curL s st (pos + (Utf8.decode s pos).2)) ln ls := by
  have e : (LB s).drop pos = ((LB s).drop pos).take (Utf8.decode s pos).2 ++ (LB s).drop (pos + (Utf8.decode s pos).2) := by
    rw [← List.drop_drop, List.take_append_drop]
  rw [e, scan_word most _ _ _ ln ls (rune_span s pos h h1 h2), take_more s pos _ st hst (by omega)]
theorem scan_space (most : Nat) (s : ByteArray) (pos st : Nat) (ln : List (List UInt8)) (ls : List (List (List UInt8))) (h : pos < s.size) (hc : s[pos] = 32) :
    scanL most ((LB s).drop pos) (curL s st pos) ln ls = if curL s st pos = [] ∨ ln.length = 3 then none else scanL most ((LB s).drop (pos + 1)) (curL s (pos + 1) (pos + 1)) (ln ++ [curL s st pos]) ls := by
  rw [drop_here h, hc, scanL, if_pos rfl, cur_here]
theorem scan_end (most : Nat) (s : ByteArray) (pos st : Nat) (ln : List (List UInt8)) (ls : List (List (List UInt8))) (h : pos < s.size) (hc : s[pos] = 10) :
    scanL most ((LB s).drop pos) (curL s st pos) ln ls = if curL s st pos = [] ∨ ln.length = 3 ∨ ls.length = most then none else scanL most ((LB s).drop (pos + 1)) (curL s (pos + 1) (pos + 1)) [] (ls ++ [ln ++ [curL s st pos]]) := by
  rw [drop_here h, hc, scanL, if_neg (by decide), if_pos rfl, cur_here]
theorem scan_fin (most : Nat) (s : ByteArray) (pos st : Nat) (ln : List (List UInt8)) (ls : List (List (List UInt8))) (h : ¬ pos < s.size) (hp : pos ≤ s.size) (hst : st ≤ pos) :
    scanL most ((LB s).drop pos) (curL s st pos) ln ls = if st = s.size ∧ ln.length = 0 then some ls else none := by
  obtain rfl : pos = s.size := by omega
  rw [drop_all h, scanL]
  have e : (curL s st s.size = [] ∧ ln = []) ↔ (st = s.size ∧ ln.length = 0) := by
    unfold curL
    rw [List.take_of_length_le (by rw [lb_len]; omega), List.drop_eq_nil_iff, lb_len, List.length_eq_zero_iff]
    exact ⟨fun h => ⟨by omega, h.2⟩, fun h => ⟨by omega, h.2⟩⟩
  by_cases q : curL s st s.size = [] ∧ ln = []
  · rw [if_pos q, if_pos (e.1 q)]
  · rw [if_neg q, if_neg (fun x => q (e.2 x))]
end Go.Proofs.YtgkfhcpegdlejaaDoor
