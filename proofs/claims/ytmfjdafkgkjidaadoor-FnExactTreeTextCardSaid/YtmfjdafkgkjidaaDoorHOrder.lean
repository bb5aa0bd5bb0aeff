/-
  Plain facts on the order of bytes of paths.
-/
import Derived.Test.YtmfjdafkgkjidaaDoorHFacts2
namespace Go.Proofs.YtmfjdafkgkjidaaDoor

theorem less_app : ∀ (b : List UInt8) (y : UInt8) (r : List UInt8), Op.bytesLess b (b ++ y :: r) = true
  | [], _, _ => rfl
  | h :: b, y, r => by
    show (decide (h < h) || (h == h && Op.bytesLess b (b ++ y :: r))) = true
    rw [less_app b y r, beq_self_eq_true]; simp
theorem less_total : ∀ (a b : List UInt8), Op.bytesLess a b = false → a ≠ b → Op.bytesLess b a = true
  | [], [], _, h => absurd rfl h
  | [], _ :: _, h, _ => by cases h
  | _ :: _, [], _, _ => rfl
  | x :: a, y :: b, h, hne => by
    have h' : (decide (x < y) || (x == y && Op.bytesLess a b)) = false := h
    show (decide (y < x) || (y == x && Op.bytesLess b a)) = true
    rw [Bool.or_eq_false_iff, decide_eq_false_iff_not] at h'
    obtain ⟨h1, h2⟩ := h'
    by_cases e : x = y
    · subst e
      rw [beq_self_eq_true, Bool.true_and] at h2
      rw [less_total a b h2 (fun q => hne (by rw [q])), beq_self_eq_true]; simp
    · have : y < x := by
        rw [UInt8.lt_iff_toNat_lt] at *
        have : x.toNat ≠ y.toNat := fun q => e (UInt8.toNat_inj.1 q)
        omega
      rw [decide_eq_true this]; rfl
theorem less_between : ∀ (b c r : List UInt8), (∀ y ∈ c, 47 ≤ y.toNat) → Op.bytesLess b c = true → Op.bytesLess c (b ++ 47 :: r) = true → ∃ q, c = b ++ 47 :: q
  | [], [], _, _, h, _ => by cases h
  | [], y :: c, r, hc, _, h2 => by
    have h' : (decide (y < 47) || (y == 47 && Op.bytesLess c r)) = true := h2
    rw [Bool.or_eq_true, decide_eq_true_eq, Bool.and_eq_true, beq_iff_eq] at h'
    have h47 := hc y List.mem_cons_self
    rcases h' with h | h
    · rw [UInt8.lt_iff_toNat_lt] at h
      have : (47 : UInt8).toNat = 47 := rfl
      omega
    · exact ⟨c, by rw [h.1]; rfl⟩
  | x :: b, [], _, _, h, _ => by cases h
  | x :: b, y :: c, r, hc, h1, h2 => by
    have h1' : (decide (x < y) || (x == y && Op.bytesLess b c)) = true := h1
    have h2' : (decide (y < x) || (y == x && Op.bytesLess c (b ++ 47 :: r))) = true := h2
    rw [Bool.or_eq_true, decide_eq_true_eq, Bool.and_eq_true, beq_iff_eq] at h1' h2'
    rw [UInt8.lt_iff_toNat_lt] at h1' h2'
    rcases h1' with p | p
    · rcases h2' with q | q
      · omega
      · rw [q.1] at p; omega
    · rcases h2' with q | q
      · rw [p.1] at q; omega
      · obtain ⟨t, ht⟩ := less_between b c r (fun z hz => hc z (List.mem_cons_of_mem _ hz)) p.2 q.2
        exact ⟨t, by rw [p.1, ht]; rfl⟩

theorem pre_list {a b : ByteArray} (h : Pre a b) : ∃ r, L a = L b ++ 47 :: r := by
  obtain ⟨h1, h2, h3⟩ := h
  refine ⟨(L a).drop (b.size + 1), ?_⟩
  rw [get_plus a b.size h1] at h3
  have e : (L a).drop b.size = 47 :: (L a).drop (b.size + 1) := by rw [drop_at a b.size h1, h3]
  rw [← e]
  have e2 : L b = (L a).take b.size := by
    have := congrArg L h2
    rw [L_ext, List.drop_zero, Nat.sub_zero] at this
    exact this.symm
  rw [e2, List.take_append_drop]
theorem list_pre {a b : ByteArray} {r : List UInt8} (h : L a = L b ++ 47 :: r) : Pre a b := by
  have hz : a.size = b.size + (r.length + 1) := by
    rw [← L_len, h, List.length_append, L_len, List.length_cons]
  refine ⟨by omega, ?_, ?_⟩
  · apply L_inj
    rw [L_ext, List.drop_zero, Nat.sub_zero, h, ← L_len b, List.take_left']; rfl
  · rw [gE, h, List.getElem?_append_right (by rw [L_len]; exact Nat.le_refl _), L_len, Nat.sub_self]; rfl
/-- A path stands ahead of all that is below it. -/
theorem order_up {a b : ByteArray} (hb : pathB b = true) (h : underI a b = true) : Op.bytesLess b.toList a.toList = true := by
  obtain ⟨_, _, k⟩ := (underI_iff _ _).1 h
  rw [stem_path hb] at k
  obtain ⟨r, hr⟩ := pre_list k
  rw [Lib.toList_data, Lib.toList_data]
  show Op.bytesLess (L b) (L a) = true
  rw [hr]; exact less_app _ _ _
/-- Nothing else stands between these. -/
theorem order_between {a b c : ByteArray} (hb : pathB b = true) (hc : pathB c = true) (h : underI a b = true) (h1 : Op.bytesLess c.toList b.toList = false) (h2 : ¬ c.toList = b.toList) (h3 : Op.bytesLess c.toList a.toList = true) : underI c b = true := by
  obtain ⟨k1, _, k⟩ := (underI_iff _ _).1 h
  rw [stem_path hb] at k
  obtain ⟨r, hr⟩ := pre_list k
  have h1' := less_total _ _ h1 h2
  rw [Lib.toList_data, Lib.toList_data] at h1' h3
  have h3' : Op.bytesLess (L c) (L b ++ 47 :: r) = true := by rw [← hr]; exact h3
  have hbytes : ∀ y ∈ L c, 47 ≤ y.toNat := by
    intro y hy
    obtain ⟨i, hi, e⟩ := List.getElem_of_mem hy
    rw [L_len] at hi
    have := path_byte hc i hi
    rw [get_plus c i hi] at this
    have e' : c[i] = y := e
    rw [e'] at this
    rcases this with q | q
    · rw [q]; decide
    · unfold low at q; have := (of_decide_eq_true q).1; omega
  obtain ⟨q, hq⟩ := less_between (L b) (L c) r hbytes h1' h3'
  refine (underI_iff _ _).2 ⟨k1, hc, ?_⟩
  rw [stem_path hb]
  exact list_pre hq
end Go.Proofs.YtmfjdafkgkjidaaDoor
