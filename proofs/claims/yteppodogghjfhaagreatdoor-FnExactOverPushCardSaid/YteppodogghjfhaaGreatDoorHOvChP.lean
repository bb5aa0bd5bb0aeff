import Derived.Test.YteppodogghjfhaaGreatDoorHLyDfK
import Derived.Test.YteppodogghjfhaaGreatDoorHPk22
import Derived.Test.YteppodogghjfhaaGreatDoorHPk11
namespace Go.Proofs.YteppodogghjfhaaGreatDoor.Ov
open Go.RowKit Go.Lib
theorem on_treeV {l : List Mk.E} {t : List E} (h : Ly.onB l t = true) : treeE (Ly.onE l t) = true := by
 obtain ⟨h1, h2, h3, h4⟩ := Ly.on_is h; have T := Ly.on_tr (Ly.lay_data h1) (Ly.lay_tr' h1) (treeE_tr h2).1; rw [h4]; exact T.treeE h3
theorem onE_szV {l : List Mk.E} {t : List E} (hz : ∀ e ∈ l, e.p.size ≤ 16777216 ∧ e.x.size ≤ 16777216) (hz' : ∀ e ∈ t, e.p.size ≤ 16777216 ∧ e.x.size ≤ 16777216) : (Ly.onE l t).length ≤ 16 ∧ ∀ e ∈ Ly.onE l t, e.p.size ≤ 16777216 ∧ e.x.size ≤ 16777216 := by
 cases h : Ly.onB l t with
 | false => rw [Ly.onE_no h]; exact ⟨Nat.zero_le _, fun e he => by cases he⟩
 | true =>
  obtain ⟨p1, p2, p3, p4⟩ := Ly.on_is h; rw [p4]; exact ⟨p3, Ly.on_sz (Ly.lay_tr' p1) (treeE_tr p2).1 hz hz'⟩
def lowB : List (List Mk.E) → List E → Bool
 | [], _ => true
 | l :: r, t => Ly.onB l t && lowB r (Ly.onE l t)
def lowE : List (List Mk.E) → List E → List E
 | [], t => t
 | l :: r, t => lowE r (Ly.onE l t)
theorem lowB_app : ∀ (a b : List (List Mk.E)) (t : List E), lowB (a ++ b) t = (lowB a t && lowB b (lowE a t))
 | [], b, t => by simp [lowB, lowE]
 | l :: r, b, t => by
  show (Ly.onB l t && lowB (r ++ b) (Ly.onE l t)) = ((Ly.onB l t && lowB r (Ly.onE l t)) && lowB b (lowE r (Ly.onE l t)))
  rw [lowB_app r b, Bool.and_assoc]
theorem lowE_app : ∀ (a b : List (List Mk.E)) (t : List E), lowE (a ++ b) t = lowE b (lowE a t)
 | [], _, _ => rfl
 | l :: r, b, t => by
  show lowE (r ++ b) (Ly.onE l t) = lowE b (lowE r (Ly.onE l t))
  exact lowE_app r b _
theorem lowB_succ {ls : List (List Mk.E)} {t : List E} {k : Nat} (h : k < ls.length) : lowB (ls.take (k + 1)) t = (lowB (ls.take k) t && Ly.onB ls[k] (lowE (ls.take k) t)) := by
 rw [List.take_succ_eq_append_getElem h, lowB_app]; show (_ && (Ly.onB _ _ && true)) = _
 rw [Bool.and_true]
theorem lowE_succ {ls : List (List Mk.E)} {t : List E} {k : Nat} (h : k < ls.length) : lowE (ls.take (k + 1)) t = Ly.onE ls[k] (lowE (ls.take k) t) := by
 rw [List.take_succ_eq_append_getElem h, lowE_app]; rfl
theorem lowB_cut {ls : List (List Mk.E)} {t : List E} {k : Nat} (h : k < ls.length) (hn : Ly.onB ls[k] (lowE (ls.take k) t) = false) : lowB ls t = false := by
 have h1 : lowB (ls.take (k + 1)) t = false := by rw [lowB_succ h, hn, Bool.and_false]
 have h2 := lowB_app (ls.take (k + 1)) (ls.drop (k + 1)) t; rw [List.take_append_drop, h1, Bool.false_and] at h2; exact h2
theorem sameM1_iff (e f : Mk.E) : Mk.sameT1 e f = true ↔ e = f := by
 obtain ⟨p, d, x⟩ := e; obtain ⟨p', d', x'⟩ := f; unfold Mk.sameT1; simp only [Bool.and_eq_true, beq_iff_eq, Mk.E.mk.injEq]
 constructor
 ·
  rintro ⟨⟨h1, h2⟩, h3⟩; exact ⟨toList_inj h1, h2, toList_inj h3⟩
 ·
  rintro ⟨rfl, rfl, rfl⟩; exact ⟨⟨rfl, rfl⟩, rfl⟩
theorem sameM_iff : ∀ es fs : List Mk.E, Mk.sameT es fs = true ↔ es = fs
 | [], [] => by simp [Mk.sameT]
 | [], _ :: _ => by simp [Mk.sameT]
 | _ :: _, [] => by simp [Mk.sameT]
 | e :: r, f :: q => by
  show (Mk.sameT1 e f && Mk.sameT r q) = true ↔ _
  rw [Bool.and_eq_true, sameM1_iff, sameM_iff r q, List.cons.injEq]
def SmE (t : List E) : Prop := ∀ e ∈ t, e.p.size ≤ 16777216 ∧ e.x.size ≤ 16777216
def SmM (t : List Mk.E) : Prop := ∀ e ∈ t, e.p.size ≤ 16777216 ∧ e.x.size ≤ 16777216
theorem low_sm : ∀ (ls : List (List Mk.E)) (t : List E), (∀ l ∈ ls, SmM l) → SmE t → SmE (lowE ls t)
 | [], _, _, h => h
 | l :: r, _, hl, h => low_sm r _ (fun l hl' => hl l (List.mem_cons_of_mem _ hl')) (onE_szV (hl l (List.mem_cons_self ..)) h).2
theorem low_tree : ∀ (ls : List (List Mk.E)) (t : List E), treeE t = true → lowB ls t = true → treeE (lowE ls t) = true
 | [], _, h, _ => h
 | l :: r, t, _, hb => by
  have hb : (Ly.onB l t && lowB r (Ly.onE l t)) = true := hb; rw [Bool.and_eq_true] at hb; exact low_tree r _ (on_treeV hb.1) hb.2
def lwB (x : O) : Bool := (treeE x.b && decide (x.l.length ≤ 4)) && lowB x.l x.b
def lwE (x : O) : List E := if lwB x = true then lowE x.l x.b else []
def vwB (x : O) : Bool := lwB x && Ly.onB x.u (lwE x)
def vwE (x : O) : List E := if lwB x = true then Ly.onE x.u (lwE x) else []
def okB (x : O) : Bool := vwB x && Mk.sameT x.u (Ly.diffE (lwE x) (vwE x))
theorem lwE_no {x : O} (h : lwB x = false) : lwE x = [] := by unfold lwE; rw [h]; rfl
theorem lwE_yes {x : O} (h : lwB x = true) : lwE x = lowE x.l x.b := by unfold lwE; rw [h]; rfl
theorem vwE_no {x : O} (h : lwB x = false) : vwE x = [] := by unfold vwE; rw [h]; rfl
theorem vwE_yes {x : O} (h : lwB x = true) : vwE x = Ly.onE x.u (lwE x) := by unfold vwE; rw [h]; rfl
theorem vwB_no {x : O} (h : lwB x = false) : vwB x = false := by unfold vwB; rw [h]; rfl
theorem okB_no {x : O} (h : lwB x = false) : okB x = false := by unfold okB; rw [vwB_no h]; rfl
theorem okB_no' {x : O} (h : vwB x = false) : okB x = false := by unfold okB; rw [h]; rfl
theorem lw_parts {x : O} (h : lwB x = true) : treeE x.b = true ∧ x.l.length ≤ 4 ∧ treeE (lwE x) = true ∧ (lwE x).length ≤ 16 := by
 have h4 := h; unfold lwB at h4; rw [Bool.and_eq_true, Bool.and_eq_true] at h4; have h5 : treeE (lwE x) = true := by rw [lwE_yes h]; exact low_tree _ _ h4.1.1 h4.2
 exact ⟨h4.1.1, of_decide_eq_true h4.1.2, h5, (treeE_tr h5).2⟩
theorem ok_parts {x : O} (h : okB x = true) : lwB x = true ∧ vwB x = true ∧ treeE x.b = true ∧ x.l.length ≤ 4 ∧ treeE (lwE x) = true ∧ treeE (vwE x) = true ∧ x.u = Ly.diffE (lwE x) (vwE x) := by
 unfold okB at h; rw [Bool.and_eq_true] at h; obtain ⟨h1, h2⟩ := h; have h3 := h1; unfold vwB at h3; rw [Bool.and_eq_true] at h3; have h4 := h3.1; unfold lwB at h4; rw [Bool.and_eq_true, Bool.and_eq_true] at h4; have h5 : treeE (lwE x) = true := by rw [lwE_yes h3.1]; exact low_tree _ _ h4.1.1 h4.2
 exact ⟨h3.1, h1, h4.1.1, of_decide_eq_true h4.1.2, h5, by rw [vwE_yes h3.1]; exact on_treeV h3.2, (sameM_iff _ _).1 h2⟩
end Go.Proofs.YteppodogghjfhaaGreatDoor.Ov
