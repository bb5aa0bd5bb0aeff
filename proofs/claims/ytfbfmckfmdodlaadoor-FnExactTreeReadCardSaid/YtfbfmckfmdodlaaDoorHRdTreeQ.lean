/-
  Trees, read from their texts as the model reads them.
-/
import Derived.Test.YtfbfmckfmdodlaaDoorHPk02
import Derived.Test.YtfbfmckfmdodlaaDoorHRdOpP
namespace Go.Proofs.YtfbfmckfmdodlaaDoor

def lineE (l : ByteArray) : E := ⟨(partL l).2.1, decide ((partL l).1 = wD), (partL l).2.2⟩
/-- The lines that the model looks at. -/
def outE (s : ByteArray) : List E := (((cut 10 s).take ((cut 10 s).length - 1)).take 17).map lineE
def specTree (s : ByteArray) : Option (List E) := if (cut 10 s).getD ((cut 10 s).length - 1) ⟨#[]⟩ = ⟨#[]⟩ ∧ treeE (outE s) = true ∧ linesE (outE s) = s then some (outE s) else none
theorem map_ba_lb (xs : List ByteArray) : (xs.map LB).map BA = xs := by rw [List.map_map, show (BA ∘ LB) = id from funext ba_lb, List.map_id]
theorem part_ent {e : E} (h : fitT e) : lineE (entT e) = e := by
  obtain ⟨h1, h2, h3, h4⟩ := wsE_text h
  have hc := cut_is 32 (entT e)
  rw [h1, split_join _ h2 h4] at hc
  have ec : cut 32 (entT e) = (wsE e).map BA := by rw [← hc, map_ba_lb]
  obtain ⟨p, d, x⟩ := e
  obtain ⟨hp, hx, hd⟩ := h
  dsimp only at hp hx hd
  have hne : ¬ wF = wD := by decide
  cases d with
  | true =>
    have := hd rfl
    subst this
    have hw : wsE ⟨p, true, ⟨#[]⟩⟩ = [LB wD, LB p] := rfl
    rw [hw] at ec
    unfold lineE partL
    rw [ec]
    simp only [List.map_cons, List.map_nil, ba_lb]
    simp
  | false =>
    by_cases h0 : x.size = 0
    · have hw : wsE ⟨p, false, x⟩ = [LB wF, LB p] := by unfold wsE; rw [if_neg Bool.false_ne_true, if_pos h0]
      rw [hw] at ec
      have hxe : x = ⟨#[]⟩ := lb_inj (t := ⟨#[]⟩) (lb_nil.2 h0)
      unfold lineE partL
      rw [ec]
      simp only [List.map_cons, List.map_nil, ba_lb]
      simp [hne, hxe]
    · have hw : wsE ⟨p, false, x⟩ = [LB wF, LB p, LB x] := by unfold wsE; rw [if_neg Bool.false_ne_true, if_neg h0]
      rw [hw] at ec
      unfold lineE partL
      rw [ec]
      simp only [List.map_cons, List.map_nil, ba_lb]
      simp [hne]
theorem cut_lines {es : List E} (hf : ∀ e ∈ es, fitT e) : cut 10 (linesE es) = es.map entT ++ [⟨#[]⟩] := by
  obtain ⟨h1, h2⟩ := lines_ws es hf
  have hc := cut_is 10 (linesE es)
  rw [h1, split_lines _ h2] at hc
  have e1 : cut 10 (linesE es) = ((es.map wsE).map joinL ++ [[]]).map BA := by rw [← hc, map_ba_lb]
  rw [e1, List.map_append, List.map_map, List.map_map]
  congr 1
  refine List.map_congr_left (fun e he => ?_)
  show BA (joinL (wsE e)) = entT e
  rw [← (wsE_text (hf e he)).1, ba_lb]
theorem out_lines {es : List E} (h : treeE es = true) : outE (linesE es) = es ∧ (cut 10 (linesE es)).getD ((cut 10 (linesE es)).length - 1) ⟨#[]⟩ = ⟨#[]⟩ := by
  have hf := fit_tree h
  obtain ⟨_, hl⟩ := treeE_tr h
  have hc := cut_lines hf
  unfold outE
  rw [hc]
  have hlen : (es.map entT ++ [(⟨#[]⟩ : ByteArray)]).length - 1 = (es.map entT).length := by simp
  rw [hlen, List.take_left]
  refine ⟨?_, ?_⟩
  · rw [List.take_of_length_le (by rw [List.length_map]; omega), List.map_map, List.map_congr_left (f := lineE ∘ entT) (g := id) (fun e he => part_ent (hf e he)), List.map_id]
  · rw [List.getD_eq_getElem?_getD]; simp
theorem spec_tree (s : ByteArray) (es : List E) : specTree s = some es ↔ treeE es = true ∧ linesE es = s := by
  constructor
  · intro h
    unfold specTree at h
    split at h
    · rename_i hh
      rw [← Option.some.inj h]
      exact hh.2
    · cases h
  · rintro ⟨ht, rfl⟩
    obtain ⟨h1, h2⟩ := out_lines ht
    unfold specTree
    rw [h1, if_pos ⟨h2, ht, rfl⟩]
theorem read_tree (s : ByteArray) : progTree s = specTree s := by
  cases h : progTree s with
  | some es => exact ((spec_tree s es).2 ((prog_tree s es).1 h)).symm
  | none =>
    cases h2 : specTree s with
    | none => rfl
    | some es => rw [(prog_tree s es).2 ((spec_tree s es).1 h2)] at h; cases h
end Go.Proofs.YtfbfmckfmdodlaaDoor
