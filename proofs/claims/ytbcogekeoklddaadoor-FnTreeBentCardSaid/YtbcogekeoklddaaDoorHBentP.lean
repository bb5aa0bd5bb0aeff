/-
  Plain facts: trees that are bent are none.
-/
import Derived.Test.YtbcogekeoklddaaDoorHDoneZ
namespace Go.Proofs.YtbcogekeoklddaaDoor
open Go.Lib

theorem nzz_ne {s : ByteArray} (h : nzz s = true) : s ≠ ⟨#[47, 122, 122]⟩ := fun q => by
  rw [q] at h; exact absurd h (by decide +kernel)
theorem up_zzz : upS ⟨#[47, 122, 122, 47, 122]⟩ = ⟨#[47, 122, 122]⟩ := by decide +kernel
theorem zz_root : isRoot ⟨#[47, 122, 122]⟩ = false := by decide +kernel
theorem not_tree {es : List E} (h : ¬ TrE es) : treeE es = false := by
  cases ht : treeE es with
  | false => rfl
  | true => exact absurd (treeE_tr ht).1 h
theorem bent_x {es : List E} (h : ∀ e ∈ es, nzz e.p = true) : treeE (es ++ [⟨⟨#[47, 122, 122, 47, 122]⟩, false, ⟨#[]⟩⟩]) = false := not_tree fun T => by
  have hu := T.up ⟨⟨#[47, 122, 122, 47, 122]⟩, false, ⟨#[]⟩⟩ (by simp)
  have hl : lookE (es ++ [⟨⟨#[47, 122, 122, 47, 122]⟩, false, ⟨#[]⟩⟩]) ⟨#[47, 122, 122]⟩ = none := by
    rw [look_none]
    intro e he
    rcases List.mem_append.1 he with q | q
    · exact nzz_ne (h e q)
    · rw [List.mem_singleton.1 q]; decide +kernel
  rw [show (⟨⟨#[47, 122, 122, 47, 122]⟩, false, ⟨#[]⟩⟩ : E).p = ⟨#[47, 122, 122, 47, 122]⟩ from rfl, up_zzz, dirE_look, hl, zz_root] at hu
  cases hu
theorem bent_y (es : List E) : treeE (es ++ [⟨⟨#[47, 122, 122, 122]⟩, true, ⟨#[120]⟩⟩]) = false := not_tree fun T => by
  have := (T.data ⟨⟨#[47, 122, 122, 122]⟩, true, ⟨#[120]⟩⟩ (by simp)).2 rfl
  exact absurd this (by decide)
theorem bent_z {es : List E} (h : ∀ e ∈ es, nzz e.p = true) : treeE (es ++ [⟨⟨#[47, 122, 122]⟩, false, ⟨#[]⟩⟩, ⟨⟨#[47, 122, 122, 47, 122]⟩, false, ⟨#[]⟩⟩]) = false := not_tree fun T => by
  have hu := T.up ⟨⟨#[47, 122, 122, 47, 122]⟩, false, ⟨#[]⟩⟩ (by simp)
  have hl : lookE (es ++ [⟨⟨#[47, 122, 122]⟩, false, ⟨#[]⟩⟩, ⟨⟨#[47, 122, 122, 47, 122]⟩, false, ⟨#[]⟩⟩]) ⟨#[47, 122, 122]⟩ = some ⟨⟨#[47, 122, 122]⟩, false, ⟨#[]⟩⟩ := by
    rw [look_append]
    have hn : lookE es ⟨#[47, 122, 122]⟩ = none := look_none.2 fun e he => nzz_ne (h e he)
    rw [hn]
    rfl
  rw [show (⟨⟨#[47, 122, 122, 47, 122]⟩, false, ⟨#[]⟩⟩ : E).p = ⟨#[47, 122, 122, 47, 122]⟩ from rfl, up_zzz, dirE_look, hl, zz_root] at hu
  cases hu
theorem bent_w {es : List E} (h : 0 < es.length) : treeE (es ++ es) = false := not_tree fun T => by
  have := (List.pairwise_append.1 T.sort).2.2 es[0] (List.getElem_mem _) es[0] (List.getElem_mem _)
  exact less_irrefl _ this
theorem sameT_comm (es fs : List E) : sameT es fs = sameT fs es := by
  cases h : sameT es fs with
  | true => rw [sameT_eq h, sameT_refl]
  | false =>
    cases k : sameT fs es with
    | false => rfl
    | true => rw [sameT_eq k, sameT_refl] at h; cases h
theorem treeE_nil : treeE [] = true := by decide
end Go.Proofs.YtbcogekeoklddaaDoor
