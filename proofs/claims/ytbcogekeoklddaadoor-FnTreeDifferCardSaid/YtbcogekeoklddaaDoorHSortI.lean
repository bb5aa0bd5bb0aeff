/-
  slices.Sort of a row of strings that is owned.
-/
import Derived.Sort.OwnSorted
import Derived.Test.YtbcogekeoklddaaDoorHNamesI
namespace Go.Proofs.YtbcogekeoklddaaDoor
open Go.RowKit Go.Shelf Go.Lib Go.Maps Go.Sort

theorem sort_any (W : World) (base : Nat) (v : Value) (ts us : List ByteArray) (hrow : W.ownsRow base 9 1 v ts.length (ts.map Value.string)) (hr : us.Pairwise less) (hp : ts.Perm us) (hn : ts.length ≤ 1000000) :
    Calls Tryd.prog 29 #[v] W fun e w' => e = .returned (.tuple #[]) ∧ w'.ownsRow base 9 1 v us.length (us.map Value.string) ∧ W.grownBy w' v.ownBlock := by
  have hlen := hp.length_eq
  rcases hrow.2 with ⟨rfl, hz⟩ | ⟨gb, cap, cur, rfl, hbase, hgb, r1, r2, r3, r4⟩
  · have h0 : us = [] := List.eq_nil_of_length_eq_zero (by omega)
    subst h0
    refine (AnyM.slices_Sort_string_none sortLays none 0 W).mono ?_
    rintro e w' ⟨rfl, rfl⟩
    exact ⟨rfl, World.ownsRow_nil _ _ _ _, ⟨rfl, rfl, rfl, Nat.le_refl _, fun _ _ _ => rfl⟩⟩
  · have hmap : ts.map Value.string = (ts.map L).map encStr := by
      rw [List.map_map]
      refine List.map_congr_left fun s _ => ?_
      show Value.string s = Value.string ⟨(s.data.toList).toArray⟩
      simp
    have hsort : ((ts.map L).mergeSort (fun x y => decide (x ≤ y))).map encStr = us.map Value.string := by
      have h1 : (us.map L).mergeSort leB = us.map L := by
        refine List.mergeSort_of_pairwise ?_
        rw [List.pairwise_map]
        exact hr.imp fun {a b} h => by
          have := less_L.1 h
          rw [bytesLess_eq] at this
          simp only [leB, decide_eq_true_eq]
          exact List.le_of_lt (of_decide_eq_true this)
      have h2 := mergeSort_of_perm (hp.map L)
      rw [h1] at h2
      rw [show (fun x y : List UInt8 => decide (x ≤ y)) = leB from rfl, h2, List.map_map]
      refine List.map_congr_left fun s _ => ?_
      show Value.string ⟨(s.data.toList).toArray⟩ = Value.string s
      simp
    have hH : Holds encStr W gb 0 (ts.map L).toArray := holds_of_block hgb (by rw [List.length_map, ← hmap]; rw [Nat.mul_one] at r4; exact r4)
    have hgl : gb < W.heap.size := (Array.getElem?_eq_some_iff.1 hgb).1
    have hc := AnyM.slices_Sort_string sortLays gb 0 cap (ts.map L) W hH hgl (by rw [List.length_map]; omega)
    rw [List.length_map] at hc
    refine hc.mono ?_
    rintro e w' ⟨rfl, nn, os, rfl⟩
    refine ⟨rfl, ?_, grownBy_sorted _⟩
    rw [← hsort, ← hlen]
    have hl2 : (ts.map L).length = ts.length := List.length_map ..
    have := ownsRow_sorted (ts := (ts.map L).mergeSort (fun x y => decide (x ≤ y))) (ss := ts.map L) (n := nn) (os := os) (by simp) hbase hgb (by rw [hl2]; exact r1) r2 r3
    rw [hl2] at this
    exact this
end Go.Proofs.YtbcogekeoklddaaDoor
