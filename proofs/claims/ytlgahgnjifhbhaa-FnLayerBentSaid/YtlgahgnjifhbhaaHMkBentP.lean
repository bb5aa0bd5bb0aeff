/-
  Plain facts on what stands behind a layer that is drawn.
-/
import Derived.Test.YtlgahgnjifhbhaaHMkLie
namespace Go.Proofs.Ytlgahgnjifhbhaa.Mk
open Go.Lib

abbrev zzS : ByteArray := ⟨#[47, 122, 122]⟩
abbrev zzzS : ByteArray := ⟨#[47, 122, 122, 47, 122]⟩
theorem zz_list : zzS.toList = [47, 122, 122] := by rw [Lib.toList_data]
theorem zzz_list : zzzS.toList = [47, 122, 122, 47, 122] := by rw [Lib.toList_data]
theorem zz_path : pathB zzS = true := by decide +kernel
theorem zzz_path : pathB zzzS = true := by decide +kernel
theorem zz_up : upS zzS = ⟨#[47]⟩ := by decide +kernel
theorem zzz_up : upS zzzS = zzS := by decide +kernel
theorem zz_no : okP zzS = false := by decide +kernel
theorem okM_app {es fs : List E} {i : Nat} (h : i < es.length) : okM (es ++ fs) i = okM es i := by
  have hi : i < (es ++ fs).length := by rw [List.length_append]; omega
  rw [okM_is hi, okM_is h]
  have e1 : (es ++ fs)[i] = es[i] := List.getElem_append_left h
  have e2 : (es ++ fs)[i - 1]? = es[i - 1]? := List.getElem?_append_left (by omega)
  have e3 : (es ++ fs).take i = es.take i := List.take_append_of_le_length (by omega)
  rw [e1, e2, e3]
theorem layB_tr' {es : List E} (h : layB es = true) : TrM es := by
  unfold layB at h
  rw [Bool.and_eq_true] at h
  have := tr_take es.length (Nat.le_refl _) h.1
  rwa [List.take_length] at this
theorem lay_all {es : List E} (h : layB es = true) : (List.range es.length).all (okM es) = true := by
  unfold layB at h
  rw [Bool.and_eq_true] at h
  exact h.1
/-- All that a right layer that is drawn has is ahead of /zz. -/
theorem drn_less {n : Nat} {es : List E} (h : layB es = true) (hD : Drn n es) : ∀ e ∈ es, less e.p zzS := by
  have T := layB_tr' h
  have h1 : ∀ e ∈ es, e.p ≠ zzS := fun e he q => by
    have := (hD.2 e he).1
    rw [q, zz_no] at this; cases this
  intro e he
  have := (hD.2 e he).1
  unfold okP at this
  rw [Bool.and_eq_true, Bool.or_eq_true] at this
  rcases this.2 with q | q
  · unfold less
    rw [zz_list]; exact q
  · exfalso
    have : e.p = zzzS := toList_inj (by rw [zzz_list]; exact eq_of_beq q)
    rcases T.up e he with u | ⟨f, u, _⟩
    · rw [this, zzz_up] at u; exact absurd u (by decide +kernel)
    · rw [this, zzz_up] at u
      obtain ⟨f1, f2⟩ := look_mem u
      exact h1 f f1 f2
theorem look_zz {n : Nat} {es : List E} (h : layB es = true) (hD : Drn n es) : lookE es zzS = none :=
  look_none.2 fun e he q => by
    have := drn_less h hD e he
    rw [q] at this
    exact less_irrefl _ this
theorem nil_zz : less ⟨#[]⟩ zzS := by unfold less; rw [zz_list, Lib.toList_data]; rfl
theorem last_zz {n : Nat} {es : List E} (h : layB es = true) (hD : Drn n es) (fs : List E) : less (lastP (es ++ fs) es.length) zzS := by
  cases hn : es.length with
  | zero => exact nil_zz
  | succ k =>
    have hk : k < (es ++ fs).length := by rw [List.length_append]; omega
    have hk2 : k < es.length := by omega
    rw [lastP_succ hk, List.getElem_append_left hk2]
    exact drn_less h hD _ (List.getElem_mem _)
theorem zz_zzz : less zzS zzzS := by unfold less; rw [zz_list, zzz_list]; rfl
/-- Two marks behind a layer: what stands ahead of the second one. -/
theorem at_n {es : List E} {e f : E} : (es ++ [e, f])[es.length]? = some e := by
  rw [List.getElem?_append_right (Nat.le_refl _), Nat.sub_self]; rfl
theorem at_n1 {es : List E} {e f : E} : (es ++ [e, f])[es.length + 1]? = some f := by
  rw [List.getElem?_append_right (by omega), Nat.add_sub_cancel_left]; rfl
theorem take_n {es : List E} {e f : E} : (es ++ [e, f]).take es.length = es := by simp
theorem take_n1 {es : List E} {e f : E} : (es ++ [e, f]).take (es.length + 1) = es ++ [e] := by
  rw [List.take_append, List.take_of_length_le (by omega), Nat.add_sub_cancel_left]; rfl
theorem look_e {n : Nat} {es : List E} (h : layB es = true) (hD : Drn n es) (d : Int) : lookE (es ++ [⟨zzS, d, ⟨#[]⟩⟩]) zzS = some ⟨zzS, d, ⟨#[]⟩⟩ := by
  rw [look_append, look_zz h hD]
  show lookE [_] zzS = _
  unfold lookE
  rw [List.find?_cons_of_pos (by simp)]
theorem kind_e {n : Nat} {es : List E} (h : layB es = true) (hD : Drn n es) (d : Int) : kindM (es ++ [⟨zzS, d, ⟨#[]⟩⟩]) zzS = d := by
  rw [kind_look, look_e h hD d]; rfl
theorem len2 {es : List E} {e f : E} : (es ++ [e, f]).length = es.length + 2 := by simp
/-- What is gone has nothing in it. -/
theorem bentX {n : Nat} {es : List E} (h : layB es = true) (hD : Drn n es) : layB (es ++ [⟨zzS, 3, ⟨#[]⟩⟩, ⟨zzzS, 1, ⟨#[]⟩⟩]) = false := by
  refine (layB_no (i := es.length + 1) (by rw [len2]; omega) ?_).symm
  unfold okM
  rw [at_n1]
  have hi : inM (es ++ [⟨zzS, 3, ⟨#[]⟩⟩]) zzzS = false := by
    unfold inM
    rw [zzz_up, kind_e h hD 3]
    have : isRoot zzS = false := path_not_root zz_path
    rw [this]; rfl
  simp only [take_n1, hi]
  simp
/-- Nothing is gone in what is bare. -/
theorem bentY {es : List E} : layB (es ++ [⟨zzS, 4, ⟨#[]⟩⟩, ⟨zzzS, 3, ⟨#[]⟩⟩]) = false := by
  refine (layB_no (i := es.length + 1) (by rw [len2]; omega) ?_).symm
  unfold okM
  rw [at_n1]
  have hb : bareM (es ++ [⟨zzS, 4, ⟨#[]⟩⟩]) zzzS = true := by
    unfold bareM
    rw [List.any_append]
    have : underL zzzS zzS = true := by rw [underL_I zzz_path zz_path]; have := up_under zzz_path; rwa [zzz_up] at this
    simp [this]
  simp only [take_n1, hb]
  simp
theorem bare_zz {es : List E} (T : TrM es) : bareM es zzS = false := by
  rw [← bares_is T zz_path, zz_up, ups_no root_no_path]; rfl
theorem emp : (⟨#[]⟩ : ByteArray).toList = [] := by rw [Lib.toList_data]
theorem sg4 : signB 4 ⟨#[]⟩ = true := by unfold signB; rw [emp]; rfl
theorem sg2 : signB 2 ⟨#[]⟩ = true := by unfold signB; rw [emp]; rfl
/-- A directory in what is bare is right. -/
theorem bentZ {n : Nat} {es : List E} (h : layB es = true) (hD : Drn n es) (hl : es.length + 2 ≤ 32) : layB (es ++ [⟨zzS, 4, ⟨#[]⟩⟩, ⟨zzzS, 2, ⟨#[]⟩⟩]) = true := by
  have T := layB_tr' h
  have hlt : es.length < (es ++ [(⟨zzS, 4, ⟨#[]⟩⟩ : E), ⟨zzzS, 2, ⟨#[]⟩⟩]).length := by rw [len2]; omega
  have hlt1 : es.length + 1 < (es ++ [(⟨zzS, 4, ⟨#[]⟩⟩ : E), ⟨zzzS, 2, ⟨#[]⟩⟩]).length := by rw [len2]; omega
  have g0 : (es ++ [(⟨zzS, 4, ⟨#[]⟩⟩ : E), ⟨zzzS, 2, ⟨#[]⟩⟩])[es.length] = ⟨zzS, 4, ⟨#[]⟩⟩ := Option.some.inj ((List.getElem?_eq_getElem hlt).symm.trans at_n)
  have g1 : (es ++ [(⟨zzS, 4, ⟨#[]⟩⟩ : E), ⟨zzzS, 2, ⟨#[]⟩⟩])[es.length + 1] = ⟨zzzS, 2, ⟨#[]⟩⟩ := Option.some.inj ((List.getElem?_eq_getElem hlt1).symm.trans at_n1)
  have hi0 : inM es zzS = true := inM_look.2 (.inl zz_up)
  have k0 : okM (es ++ [⟨zzS, 4, ⟨#[]⟩⟩, ⟨zzzS, 2, ⟨#[]⟩⟩]) es.length = true := by
    rw [okM_less hlt (by rw [take_n]; exact T) (by rw [g0]; exact last_zz h hD _), g0, take_n]
    unfold takesM
    rw [hi0, bare_zz T, sg4]; rfl
  have T1 : TrM (es ++ [⟨zzS, 4, ⟨#[]⟩⟩]) := tr_snoc T (drn_less h hD) hi0 (by decide)
  have k1 : okM (es ++ [⟨zzS, 4, ⟨#[]⟩⟩, ⟨zzzS, 2, ⟨#[]⟩⟩]) (es.length + 1) = true := by
    rw [okM_less hlt1 (by rw [take_n1]; exact T1) (by rw [g1, lastP_succ hlt, g0]; exact zz_zzz), g1, take_n1]
    unfold takesM
    have : inM (es ++ [⟨zzS, 4, ⟨#[]⟩⟩]) zzzS = true := by
      unfold inM
      rw [zzz_up, kind_e h hD 4]; simp
    rw [this, sg2]; simp
  unfold layB
  rw [len2, decide_eq_true hl, Bool.and_true, List.range_succ, List.range_succ, List.all_append, List.all_append]
  have hr : (List.range es.length).all (okM (es ++ [⟨zzS, 4, ⟨#[]⟩⟩, ⟨zzzS, 2, ⟨#[]⟩⟩])) = true := by
    rw [List.all_eq_true]
    intro i hi
    rw [okM_app (List.mem_range.1 hi)]
    exact List.all_eq_true.1 (lay_all h) i hi
  rw [hr]
  simp [k0, k1]
/-- A layer twice is none. -/
theorem bentW {es : List E} (h : layB es = true) (hn : 0 < es.length) : layB (es ++ es) = false := by
  have T := layB_tr' h
  have hlt : es.length < (es ++ es).length := by rw [List.length_append]; omega
  refine (layB_no hlt (okM_not hlt fun q => ?_)).symm
  have g0 : (es ++ es)[es.length] = es[0] := by
    rw [List.getElem_append_right (Nat.le_refl _)]; simp
  have hk : es.length - 1 < (es ++ es).length := by rw [List.length_append]; omega
  have hk2 : es.length - 1 < es.length := by omega
  have e1 : lastP (es ++ es) es.length = es[es.length - 1].p := by
    have := lastP_succ hk
    rw [Nat.sub_add_cancel hn] at this
    rw [this, List.getElem_append_left hk2]
  rw [g0, e1] at q
  by_cases h1 : es.length - 1 = 0
  · have : es[es.length - 1] = es[0] := by congr 1
    rw [this] at q
    exact less_irrefl _ q
  · exact less_irrefl _ (less_trans q (List.pairwise_iff_getElem.1 T.sort 0 (es.length - 1) hn hk2 (by omega)))
theorem same_lenB : ∀ {es fs : List E}, sameT es fs = true → es.length = fs.length
  | [], [], _ => rfl
  | [], _ :: _, h => by cases h
  | _ :: _, [], h => by cases h
  | _ :: r, _ :: q, h => by
    have h : (_ && sameT r q) = true := h
    rw [Bool.and_eq_true] at h
    rw [List.length_cons, List.length_cons, same_lenB h.2]
theorem same_notB {es : List E} {e f : E} : sameT es (es ++ [e, f]) = false := by
  cases h : sameT es (es ++ [e, f]) with
  | false => rfl
  | true => have := same_lenB h; rw [len2] at this; omega
theorem same1_turn (e f : E) : sameT1 e f = sameT1 f e := by
  unfold sameT1
  rw [Bool.beq_comm (a := e.p.toList), Bool.beq_comm (a := e.d), Bool.beq_comm (a := e.x.toList)]
theorem same_turnB : ∀ (es fs : List E), sameT es fs = sameT fs es
  | [], [] => rfl
  | [], _ :: _ => rfl
  | _ :: _, [] => rfl
  | e :: r, f :: q => by
    show (sameT1 e f && sameT r q) = (sameT1 f e && sameT q r)
    rw [same1_turn, same_turnB r q]
theorem same_selfB : ∀ (es : List E), sameT es es = true
  | [] => rfl
  | e :: r => by
    show (sameT1 e e && sameT r r) = true
    rw [same_selfB r]
    unfold sameT1; simp
end Go.Proofs.Ytlgahgnjifhbhaa.Mk
