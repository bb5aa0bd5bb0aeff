/-
  What is done, read from its text: as the program reads it, and as the model does.
-/
import Derived.Test.YtfbfmckfmdodlaaDoorHPk02
import Derived.Test.YtfbfmckfmdodlaaDoorHPk01
namespace Go.Proofs.YtfbfmckfmdodlaaDoor

def mkOp (k : Int) (p m : ByteArray) : O := if k = 5 then ⟨k, p, m, ⟨#[]⟩⟩ else ⟨k, p, ⟨#[]⟩, m⟩
def opKind (w : ByteArray) : Int := if w = oW1 then 1 else if w = oW2 then 2 else if w = oW3 then 3 else if w = oW4 then 4 else if w = oW5 then 5 else 0
/-- What the program reads. -/
def progOp (s : ByteArray) : Option O :=
  match scanL 1 (LB s ++ [10]) [] [] [] with
  | some (ws :: _) => if opB (mkOp (opKind (nthL ws 0)) (nthL ws 1) (nthL ws 2)) = true then some (mkOp (opKind (nthL ws 0)) (nthL ws 1) (nthL ws 2)) else none
  | _ => none
/-- The words of what is done. -/
def wsOf (o : O) : List (List UInt8) := LB (opW o.k) :: LB o.p :: (if (if o.k = 5 then o.t else o.x).size = 0 then [] else [LB (if o.k = 5 then o.t else o.x)])

theorem kind_word {k : Int} (h : k = 1 ∨ k = 2 ∨ k = 3 ∨ k = 4 ∨ k = 5) : opKind (opW k) = k ∧ wordL (LB (opW k)) := by
  rcases h with rfl | rfl | rfl | rfl | rfl
  · exact ⟨rfl, by unfold wordL; decide⟩
  · exact ⟨by decide, by unfold wordL; decide⟩
  · exact ⟨by decide, by unfold wordL; decide⟩
  · exact ⟨by decide, by unfold wordL; decide⟩
  · exact ⟨by decide, by unfold wordL; decide⟩
theorem word_kind {w : ByteArray} {k : Int} (h : opKind w = k) (h0 : k ≠ 0) : w = opW k := by
  unfold opKind at h
  split at h
  · subst h; assumption
  · split at h
    · subst h; assumption
    · split at h
      · subst h; assumption
      · split at h
        · subst h; assumption
        · split at h
          · subst h; assumption
          · exact absurd h.symm h0
theorem op_rest {o : O} (h : opB o = true) : mkOp o.k o.p (if o.k = 5 then o.t else o.x) = o := by
  obtain ⟨k, p, t, x⟩ := o
  unfold mkOp
  by_cases hk : k = 5
  · subst hk
    have := (op_move h).2
    show (⟨5, p, t, ⟨#[]⟩⟩ : O) = ⟨5, p, t, x⟩
    rw [show x = ⟨#[]⟩ from by cases x with | mk d => simp [ByteArray.size] at this; rw [this]]
  · have := op_other h hk
    show (if k = 5 then _ else _) = _
    rw [if_neg hk]
    show (⟨k, p, ⟨#[]⟩, if k = 5 then t else x⟩ : O) = _
    rw [if_neg hk, show t = ⟨#[]⟩ from by cases t with | mk d => simp [ByteArray.size] at this; rw [this]]
theorem op_words {o : O} (h : opB o = true) : LB (opT o) = joinL (wsOf o) ∧ lineOk (wsOf o) := by
  obtain ⟨k, p, t, x⟩ := o
  have hk := op_kind h
  have hp : pathB p = true := by
    unfold opB at h
    simp only [Bool.and_eq_true] at h
    exact h.1.2
  have hw := (kind_word hk).2
  have hpw := path_word hp
  by_cases h5 : k = 5
  · subst h5
    obtain ⟨h1, h2⟩ := op_move h
    have ht : pathB t = true := by
      unfold opB at h
      rw [if_pos rfl] at h
      simp only [Bool.and_eq_true] at h
      exact h.2.1
    have e : wsOf ⟨5, p, t, x⟩ = [LB oW5, LB p, LB t] := by unfold wsOf; show _ :: _ :: (if t.size = 0 then _ else _) = _; rw [if_neg h1]; rfl
    rw [e, opT_move h]
    refine ⟨by simp only [lb_app]; simp [joinL, LB], by simp, by simp, fun w hw' => ?_⟩
    simp only [List.mem_cons, List.not_mem_nil, or_false] at hw'
    rcases hw' with rfl | rfl | rfl
    · exact hw
    · exact hpw
    · exact path_word ht
  · by_cases h0 : x.size = 0
    · have e : wsOf ⟨k, p, t, x⟩ = [LB (opW k), LB p] := by unfold wsOf; show _ :: _ :: (if (if k = 5 then t else x).size = 0 then _ else _) = _; rw [if_neg h5, if_pos h0]
      rw [e, opT_bare h h5 h0]
      refine ⟨by simp only [lb_app]; simp [joinL, LB], by simp, by simp, fun w hw' => ?_⟩
      simp only [List.mem_cons, List.not_mem_nil, or_false] at hw'
      rcases hw' with rfl | rfl
      · exact hw
      · exact hpw
    · have hd : dataB x = true := by
        unfold opB at h
        simp only [Bool.and_eq_true] at h
        rw [if_neg h5] at h
        simp only [Bool.and_eq_true] at h
        exact h.2.1.2
      have e : wsOf ⟨k, p, t, x⟩ = [LB (opW k), LB p, LB x] := by unfold wsOf; show _ :: _ :: (if (if k = 5 then t else x).size = 0 then _ else [LB (if k = 5 then t else x)]) = _; rw [if_neg h5, if_neg h0]
      rw [e, opT_data h h5 h0]
      refine ⟨by simp only [lb_app]; simp [joinL, LB], by simp, by simp, fun w hw' => ?_⟩
      simp only [List.mem_cons, List.not_mem_nil, or_false] at hw'
      rcases hw' with rfl | rfl | rfl
      · exact hw
      · exact hpw
      · exact data_word hd h0
theorem ws_back {o : O} (h : opB o = true) : mkOp (opKind (nthL (wsOf o) 0)) (nthL (wsOf o) 1) (nthL (wsOf o) 2) = o := by
  have e0 : nthL (wsOf o) 0 = opW o.k := ba_lb _
  have e1 : nthL (wsOf o) 1 = o.p := ba_lb _
  have e2 : nthL (wsOf o) 2 = if o.k = 5 then o.t else o.x := by
    unfold wsOf
    by_cases h0 : (if o.k = 5 then o.t else o.x).size = 0
    · rw [if_pos h0, lb_inj (t := ⟨#[]⟩) (lb_nil.2 h0)]; rfl
    · rw [if_neg h0]; exact ba_lb _
  rw [e0, e1, e2, (kind_word (op_kind (k := o.k) (p := o.p) (t := o.t) (x := o.x) h)).1, op_rest h]

theorem prog_op (s : ByteArray) (o : O) : progOp s = some o ↔ opB o = true ∧ opT o = s := by
  constructor
  · intro h
    unfold progOp at h
    cases hs : scanL 1 (LB s ++ [10]) [] [] [] with
    | none => rw [hs] at h; cases h
    | some R =>
      rw [hs] at h
      obtain ⟨e1, e2, e3⟩ := scan_sound 1 _ [] [] [] R (fun _ h => by simp at h) (fun _ h => by simp at h) (by simp) (fun _ h => by simp at h) (by simp) hs
      match R, h, e1, e2, e3 with
      | ws :: Q, h, e1, e2, e3 =>
        obtain rfl : Q = [] := by simpa using e3
        dsimp only at h
        split at h
        · rename_i hb
          have ho := Option.some.inj h
          refine ⟨by rw [← ho]; exact hb, ?_⟩
          have hjs : LB s = joinL ws := by
            have e4 : LB s ++ [10] = joinL ws ++ [10] := by simpa [aheadL, linesL] using e1
            exact List.append_cancel_right e4
          have hbo : opB o = true := by rw [← ho]; exact hb
          have hw : wsOf o = ws := by
            obtain ⟨l1, l2, l3⟩ := e2 ws (by simp)
            have hk : o.k = opKind (nthL ws 0) := by rw [← ho]; unfold mkOp; split <;> rfl
            have hp : o.p = nthL ws 1 := by rw [← ho]; unfold mkOp; split <;> rfl
            have hr : (if o.k = 5 then o.t else o.x) = nthL ws 2 := by
              rw [hk, ← ho]; unfold mkOp
              split
              · rfl
              · rfl
            have hk0 : o.k ≠ 0 := by have := op_kind (k := o.k) (p := o.p) (t := o.t) (x := o.x) hbo; omega
            have h0 := word_kind hk.symm hk0
            have hpp : o.p.size ≠ 0 := by
              have : pathB o.p = true := by
                unfold opB at hbo
                simp only [Bool.and_eq_true] at hbo
                exact hbo.1.2
              have := (pathB_head _ this).1
              omega
            unfold wsOf
            rw [hr, ← h0, hp]
            match ws, l1, l2, l3, hp with
            | [a], _, _, _, hp => exact absurd (show o.p.size = 0 by rw [hp]; rfl) hpp
            | [a, b], _, _, _, _ => rw [if_pos (show (nthL [a, b] 2).size = 0 from rfl)]; rfl
            | [a, b, c], _, _, l3, _ => rw [if_neg (show ¬ (nthL [a, b, c] 2).size = 0 from fun e => (l3 c (by simp)).1 (lb_nil.2 e))]; rfl
          apply lb_inj
          rw [(op_words hbo).1, hw, hjs]
        · cases h
  · rintro ⟨hb, rfl⟩
    obtain ⟨h1, h2⟩ := op_words hb
    unfold progOp
    have hs : scanL 1 (LB (opT o) ++ [10]) [] [] [] = some [wsOf o] := by
      have := scan_done 1 [wsOf o] [] (fun x hx => by simp at hx; subst hx; exact h2) (by simp)
      rw [show linesL [wsOf o] = LB (opT o) ++ [10] from by simp [linesL, h1]] at this
      simpa using this
    rw [hs]
    dsimp only
    rw [ws_back hb, if_pos hb]

/-- What the model reads. -/
def partL (s : ByteArray) : ByteArray × ByteArray × ByteArray :=
  if (cut 32 s).length < 2 ∨ 3 < (cut 32 s).length then (⟨#[]⟩, ⟨#[]⟩, ⟨#[]⟩) else ((cut 32 s).getD 0 ⟨#[]⟩, (cut 32 s).getD 1 ⟨#[]⟩, (cut 32 s).getD 2 ⟨#[]⟩)
def hitOp (s : ByteArray) (k : Int) : Bool := decide (opW k = (partL s).1) && (decide (opT (mkOp k (partL s).2.1 (partL s).2.2) = s) && decide (s.size ≠ 0))
def specAt (s : ByteArray) (k : Int) (r : Option O) : Option O := if hitOp s k = true then some (mkOp k (partL s).2.1 (partL s).2.2) else r
def specOp (s : ByteArray) : Option O := specAt s 1 (specAt s 2 (specAt s 3 (specAt s 4 (specAt s 5 none))))

theorem part_op {o : O} (h : opB o = true) : partL (opT o) = (opW o.k, o.p, if o.k = 5 then o.t else o.x) := by
  obtain ⟨h1, h2, h3, h4⟩ := op_words h
  have hc := cut_is 32 (opT o)
  rw [h1, split_join _ h2 h4] at hc
  have e : cut 32 (opT o) = (wsOf o).map BA := by
    rw [← hc, List.map_map]
    rw [show (BA ∘ LB) = id from funext ba_lb, List.map_id]
  unfold partL
  rw [e]
  unfold wsOf
  by_cases h0 : (if o.k = 5 then o.t else o.x).size = 0
  · rw [if_pos h0]
    rw [if_neg (by simp)]
    refine Prod.ext (ba_lb _) (Prod.ext (ba_lb _) ?_)
    exact lb_inj (show [] = _ from (lb_nil.2 h0).symm)
  · rw [if_neg h0]
    rw [if_neg (by simp)]
    exact Prod.ext (ba_lb _) (Prod.ext (ba_lb _) (ba_lb _))
theorem hit_op {s : ByteArray} {k : Int} (h : hitOp s k = true) : opB (mkOp k (partL s).2.1 (partL s).2.2) = true ∧ opT (mkOp k (partL s).2.1 (partL s).2.2) = s := by
  unfold hitOp at h
  simp only [Bool.and_eq_true, decide_eq_true_eq] at h
  refine ⟨?_, h.2.1⟩
  cases hb : opB (mkOp k (partL s).2.1 (partL s).2.2) with
  | true => rfl
  | false =>
    exfalso
    apply h.2.2
    rw [← h.2.1]
    unfold opT
    rw [if_neg (by simp [hb])]
    rfl
theorem hit_is {o : O} (h : opB o = true) (k : Int) (hk : k = 1 ∨ k = 2 ∨ k = 3 ∨ k = 4 ∨ k = 5) : hitOp (opT o) k = decide (k = o.k) := by
  have hko := op_kind (k := o.k) (p := o.p) (t := o.t) (x := o.x) h
  unfold hitOp
  rw [part_op h]
  dsimp only
  by_cases e : k = o.k
  · subst e
    rw [op_rest h]
    have : (opT o).size ≠ 0 := by
      intro h0
      have h1 := (op_words h).1
      rw [lb_nil.2 h0] at h1
      unfold wsOf at h1
      have hw := (kind_word hko).2.1
      split at h1
      · simp [joinL] at h1
      · simp [joinL] at h1
    simp [this]
  · have : opW k ≠ opW o.k := fun q => e (by rw [← (kind_word hk).1, q, (kind_word hko).1])
    simp [this, e]
theorem spec_op (s : ByteArray) (o : O) : specOp s = some o ↔ opB o = true ∧ opT o = s := by
  constructor
  · intro h
    unfold specOp specAt at h
    split at h
    · rename_i hh; rw [← Option.some.inj h]; exact hit_op hh
    · split at h
      · rename_i hh; rw [← Option.some.inj h]; exact hit_op hh
      · split at h
        · rename_i hh; rw [← Option.some.inj h]; exact hit_op hh
        · split at h
          · rename_i hh; rw [← Option.some.inj h]; exact hit_op hh
          · split at h
            · rename_i hh; rw [← Option.some.inj h]; exact hit_op hh
            · cases h
  · rintro ⟨hb, rfl⟩
    have hko := op_kind (k := o.k) (p := o.p) (t := o.t) (x := o.x) hb
    have hm : mkOp o.k (partL (opT o)).2.1 (partL (opT o)).2.2 = o := by rw [part_op hb]; exact op_rest hb
    unfold specOp specAt
    rw [hit_is hb 1 (by simp), hit_is hb 2 (by simp), hit_is hb 3 (by simp), hit_is hb 4 (by simp), hit_is hb 5 (by simp)]
    rcases hko with e | e | e | e | e <;> rw [e] at hm ⊢ <;> simp [hm]
theorem read_op (s : ByteArray) : progOp s = specOp s := by
  cases h : progOp s with
  | some o => exact ((spec_op s o).2 ((prog_op s o).1 h)).symm
  | none =>
    cases h2 : specOp s with
    | none => rfl
    | some o => rw [(prog_op s o).2 ((spec_op s o).1 h2)] at h; cases h
end Go.Proofs.YtfbfmckfmdodlaaDoor
