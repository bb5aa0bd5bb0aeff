import Derived.Test.YtoaipphccjkphaaDoorHPk05
namespace Go.Proofs.YtoaipphccjkphaaDoor
open Go.Lib
theorem path_smallD : ∀ (n : Nat) (s : ByteArray), pathB s = true → levS s ≤ n → s.size ≤ 4 * n
 | 0, s, h, hl => by
  have h1 := (up_facts h).2.2.2; rcases stemOk_is (up_facts h).1 with k | k
  ·
   have : levS (⟨#[47]⟩ : ByteArray) = 0 := by decide
   rw [k, this] at h1; omega
  ·
   have := under_lev _ _ _ (Nat.le_refl _) (under_root k); have h0 : levS (⟨#[47]⟩ : ByteArray) = 0 := by decide
   omega
 | n + 1, s, h, hl => by
  have h1 := (up_facts h).2.2.2; have hn := (up_facts h).2.2.1
  have hns : (nmS s).size ≤ 3 := by
   unfold nameB at hn; rw [Bool.and_eq_true] at hn; exact (of_decide_eq_true hn.1).2
  have hj := congrArg ByteArray.size (up_join h); unfold joinI at hj; rw [ByteArray.size_append, ByteArray.size_append] at hj; have h47 : (⟨#[47]⟩ : ByteArray).size = 1 := rfl; rcases stemOk_is (up_facts h).1 with k | k
  ·
   rw [k, stem_root] at hj; have : (⟨#[]⟩ : ByteArray).size = 0 := rfl; omega
  ·
   rw [stem_path k] at hj; have := path_smallD n (upS s) k (by omega); omega
theorem path_sizeD {s : ByteArray} (h : pathB s = true) : s.size ≤ 12 := path_smallD 3 s h (lev_le s)
theorem data_sizeD {s : ByteArray} (h : dataB s = true) : s.size ≤ 6 := by
 unfold dataB at h; rw [Bool.and_eq_true] at h; exact of_decide_eq_true h.2
theorem tree_sizes {es : List E} (h : treeE es = true) : es.length ≤ 16 ∧ ∀ e ∈ es, e.p.size ≤ 16 ∧ e.x.size ≤ 16 := by
 obtain ⟨T, hl⟩ := treeE_tr h; exact ⟨hl, fun e he => ⟨Nat.le_trans (path_sizeD (T.path e he)) (by decide), Nat.le_trans (data_sizeD (T.data e he).1) (by decide)⟩⟩
end Go.Proofs.YtoaipphccjkphaaDoor
