/-
  The walk of the program's allTrees.
-/
import Derived.Test.YtenlibefdefjmaaDoorHMgTold
namespace Go.Proofs.YtenlibefdefjmaaDoor.Mg
open Go.RowKit Go.Lib

/-- Rows that lie in one block, one behind the other. -/
def Rows3 (w : World) (g : Nat) (es : List (List E)) : Prop := ∀ i (h : i < es.length), ∃ v, w.cell? ⟨g, i, none⟩ = some v ∧ Row w v es[i]
theorem Rows3.below {w w' : World} {g : Nat} {es : List (List E)} (h : Rows3 w g es) (hb : Below w.heap.size w w') : Rows3 w' g es := fun i hi => by
  obtain ⟨v, c, r⟩ := h i hi
  exact ⟨v, (hb.cell (p := ⟨g, i, none⟩) (World.block_lt_of_cell? w ⟨g, i, none⟩ c)).trans c, r.below hb⟩
theorem all_take {α : Type} (P : α → Bool) (es : List α) (k : Nat) (h : k < es.length) (hp : (es.take k).all P = true) (hk : P es[k] = true) : (es.take (k + 1)).all P = true := by
  rw [List.take_succ_eq_append_getElem h, List.all_append, hp]; simp [hk]
theorem all_cut {α : Type} (P : α → Bool) (es : List α) (k : Nat) (h : k < es.length) (hk : P es[k] = false) : es.all P = false := by
  rw [List.all_eq_false]; exact ⟨es[k], List.getElem_mem _, by simp [hk]⟩

set_option maxHeartbeats 1000000 in
set_option maxRecDepth 100000 in
theorem allTrees_any (w : World) (g cap : Nat) (es : List (List E)) (ae : Int → Addr) (hErr : Errs2 w ae) (hn : es.length ≤ 1000) (h : Rows3 w g es) :
    Calls Tryd.prog 14 #[.slice (some ⟨g, 0, none⟩) es.length cap] w fun r w' => r = .returned (.bool (es.all treeE)) ∧ Below w.heap.size w w' := by
  have HE := hidE h
  have HR := hidE hErr
  clear h hErr
  go_enter Tryd.func14, Tryd.ntmps14
  go_wp2
  go_loopw [7] (fun iv wl => ∃ k : Nat, k ≤ es.length ∧ iv = .int .i64 k ∧ Hid (Below w.heap.size w wl) ∧ Hid ((es.take k).all treeE = true)) (fun iv _ => es.length - (RowKit.intOf iv).toNat)
  case atStart => exact ⟨0, Nat.zero_le _, rfl, Below.refl _ _, by show _ = _; simp⟩
  case round =>
    obtain ⟨k, hk, rfl, HB, HA⟩ := hrel
    by_cases hlt : k < es.length
    · obtain ⟨v, c0, hr⟩ := (HE.out.below HB.out) k hlt
      have HI := hidE (hr.iOk ae (HR.out.below HB.out))
      clear hr
      go_wp2_with fail
      refine HI.out.mono ?_
      rintro e w2 ⟨rfl, hB2⟩
      have HB2 := hidE (HB.out.trans (hB2.mono HB.out.size))
      clear hB2 HB HI c0
      cases hs : treeE es[k] with
      | true =>
        have HA2 := hidE (all_take treeE es k hlt HA.out hs)
        go_wp2
        go_roundw
        case rel => exact ⟨k + 1, by omega, by go_num, HB2, HA2⟩
        case measure => simp [RowKit.intOf]; omega
      | false =>
        have HN := hidE (all_cut treeE es k hlt hs)
        go_wp2
        go_ret
        exact ⟨ret_bE HN.out.symm, HB2.out⟩
    · go_wp2
      go_ret
      have := HA.out
      rw [List.take_of_length_le (by omega)] at this
      exact ⟨ret_bE this.symm, HB.out⟩
theorem trees3_all (t a b : List E) : [t, a, b].all treeE = trees3 t a b := by simp [trees3]
end Go.Proofs.YtenlibefdefjmaaDoor.Mg
