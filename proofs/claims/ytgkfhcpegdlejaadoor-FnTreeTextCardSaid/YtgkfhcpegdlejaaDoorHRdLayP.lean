/-
  Layers, read from their texts: as the program reads them, and as the model does.
-/
import Derived.Test.YtgkfhcpegdlejaaDoorHPk02
import Derived.Test.YtgkfhcpegdlejaaDoorHPk01
namespace Go.Proofs.YtgkfhcpegdlejaaDoor.Mk

/-- The text of a mark. -/
def markL (e : E) : ByteArray := if e.d = 2 then lineT wD e.p [] else if e.d = 3 then lineT wX e.p [] else if e.d = 4 then lineT wB e.p [] else entT ⟨e.p, false, e.x⟩
def linesM : List E → ByteArray
  | [] => ⟨#[]⟩
  | e :: r => markL e ++ ⟨#[10]⟩ ++ linesM r
theorem kind3 {w : ByteArray} (h : kindW w = 3) : w = wX := by
  rw [kindW_is] at h
  split at h
  · cases h
  · split at h
    · cases h
    · split at h
      · cases h
      · split at h
        · assumption
        · split at h <;> cases h
theorem kind4 {w : ByteArray} (h : kindW w = 4) : w = wB := by
  rw [kindW_is] at h
  split at h
  · cases h
  · split at h
    · cases h
    · split at h
      · cases h
      · split at h
        · cases h
        · split at h
          · assumption
          · cases h
def markOf (ws : List (List UInt8)) : E := ⟨nthL ws 1, kindW (nthL ws 0), nthL ws 2⟩
def wordM (d : Int) : ByteArray := if d = 2 then wD else if d = 3 then wX else if d = 4 then wB else wF
def wsM (e : E) : List (List UInt8) := LB (wordM e.d) :: LB e.p :: (if e.x.size = 0 then [] else [LB e.x])
def fitM (e : E) : Prop := (1 ≤ e.d ∧ e.d ≤ 4) ∧ pathB e.p = true ∧ dataB e.x = true ∧ (e.d ≠ 1 → e.x.size = 0)
theorem fit_lay {es : List E} (h : layB es = true) : ∀ e ∈ es, fitM e := fun e he => by
  obtain ⟨i, hi, rfl⟩ := List.mem_iff_getElem.1 he
  unfold layB at h
  rw [Bool.and_eq_true] at h
  have hk := List.all_eq_true.1 h.1 i (List.mem_range.2 hi)
  rw [okM_is hi] at hk
  simp only [Bool.and_eq_true, decide_eq_true_eq] at hk
  refine ⟨hk.1, hk.2.1, hk.2.2.1, fun hd => ?_⟩
  have h3 := hk.2.2.2.1
  simp only [Bool.not_eq_true', Bool.and_eq_false_iff, bne_eq_false_iff_eq] at h3
  rcases h3 with h3 | h3
  · exact absurd h3 hd
  · have h4 : es[i].x.toList = [] := by simpa using h3
    rw [Lib.toList_data] at h4
    exact lb_nil.1 h4
theorem wordM_ok (d : Int) : wordL (LB (wordM d)) := by
  unfold wordM
  split
  · unfold wordL; decide
  · split
    · unfold wordL; decide
    · split
      · unfold wordL; decide
      · unfold wordL; decide
theorem kind_wordM {d : Int} (h : 1 ≤ d ∧ d ≤ 4) : kindW (wordM d) = d := by
  have : d = 1 ∨ d = 2 ∨ d = 3 ∨ d = 4 := by omega
  rcases this with rfl | rfl | rfl | rfl <;> decide
theorem wsM_text {e : E} (h : fitM e) : LB (markL e) = joinL (wsM e) ∧ lineOk (wsM e) := by
  obtain ⟨p, d, x⟩ := e
  obtain ⟨hd, hp, hx, hn⟩ := h
  dsimp only at hd hp hx hn
  have hpw := path_word hp
  have hlo : lineOk (wsM ⟨p, d, x⟩) := by
    unfold wsM
    dsimp only
    by_cases h0 : x.size = 0
    · rw [if_pos h0]
      refine ⟨by simp, by simp, fun w hw => ?_⟩
      simp only [List.mem_cons, List.not_mem_nil, or_false] at hw
      rcases hw with rfl | rfl
      · exact wordM_ok d
      · exact hpw
    · rw [if_neg h0]
      refine ⟨by simp, by simp, fun w hw => ?_⟩
      simp only [List.mem_cons, List.not_mem_nil, or_false] at hw
      rcases hw with rfl | rfl | rfl
      · exact wordM_ok d
      · exact hpw
      · exact data_word hx h0
  refine ⟨?_, hlo⟩
  have hbare : ∀ c : UInt8, LB (lineT ⟨#[c]⟩ p []) = joinL [[c], LB p] := fun c => by
    rw [lineT_nil]; simp only [lb_app]; simp [joinL, LB]
  have hcase : d = 1 ∨ d = 2 ∨ d = 3 ∨ d = 4 := by omega
  unfold wsM
  dsimp only
  rcases hcase with rfl | rfl | rfl | rfl
  · show LB (entT ⟨p, false, x⟩) = _
    by_cases h0 : x.size = 0
    · rw [if_pos h0, entT_bare rfl h0, lb_app]; simp [joinL, LB, wordM, wF]
    · rw [if_neg h0, entT_file rfl h0]; simp only [lb_app]; simp [joinL, LB, wordM, wF]
  · rw [if_pos (hn (by decide))]; exact hbare 100
  · rw [if_pos (hn (by decide))]; exact hbare 120
  · rw [if_pos (hn (by decide))]; exact hbare 98
theorem wsM_back {e : E} (h : fitM e) : markOf (wsM e) = e := by
  obtain ⟨p, d, x⟩ := e
  have hk := kind_wordM h.1
  dsimp only at hk
  have e0 : nthL (wsM ⟨p, d, x⟩) 0 = wordM d := ba_lb _
  have e1 : nthL (wsM ⟨p, d, x⟩) 1 = p := ba_lb _
  have e2 : nthL (wsM ⟨p, d, x⟩) 2 = x := by
    unfold wsM
    dsimp only
    by_cases h0 : x.size = 0
    · rw [if_pos h0, lb_inj (s := x) (t := ⟨#[]⟩) (lb_nil.2 h0)]; rfl
    · rw [if_neg h0]; exact ba_lb _
  unfold markOf
  rw [e0, e1, e2, hk]
theorem word_of {w : ByteArray} {d : Int} (h : kindW w = d) (hd : 1 ≤ d ∧ d ≤ 4) : w = wordM d := by
  have hc : d = 1 ∨ d = 2 ∨ d = 3 ∨ d = 4 := by omega
  rcases hc with rfl | rfl | rfl | rfl
  · exact kindW_file h
  · exact kindW_dir h
  · exact kind3 h
  · exact kind4 h
theorem ws_ofM {ws : List (List UInt8)} (hl : lineOk ws) (hf : fitM (markOf ws)) : wsM (markOf ws) = ws := by
  obtain ⟨l1, l2, l3⟩ := hl
  obtain ⟨hd, hp, hx, hn⟩ := hf
  have hp2 := (pathB_head _ hp).1
  have hw := word_of (w := nthL ws 0) rfl hd
  have hpe : (markOf ws).p = nthL ws 1 := rfl
  unfold wsM
  rw [show (markOf ws).d = kindW (nthL ws 0) from rfl, show wordM (kindW (nthL ws 0)) = nthL ws 0 from hw.symm]
  match ws, l1, l2, l3 with
  | [a], _, _, _ => exact absurd hp2 (by rw [hpe]; show ¬ 1 < 0; omega)
  | [a, b], _, _, _ => rw [if_pos (show (markOf [a, b]).x.size = 0 from rfl)]; rfl
  | [a, b, c], _, _, l3 => rw [if_neg (show ¬ (markOf [a, b, c]).x.size = 0 from fun q => (l3 c (by simp)).1 (lb_nil.2 q))]; rfl
theorem lines_wsM : ∀ (es : List E), (∀ e ∈ es, fitM e) → LB (linesM es) = linesL (es.map wsM) ∧ ∀ x ∈ es.map wsM, lineOk x
  | [], _ => ⟨rfl, fun _ h => by simp at h⟩
  | e :: r, h => by
    obtain ⟨h1, h2⟩ := lines_wsM r (fun x hx => h x (List.mem_cons_of_mem _ hx))
    obtain ⟨h3, h4⟩ := wsM_text (h e List.mem_cons_self)
    refine ⟨?_, fun x hx => ?_⟩
    · show LB (markL e ++ ⟨#[10]⟩ ++ linesM r) = (joinL (wsM e) ++ [10]) ++ linesL (r.map wsM)
      rw [lb_app, lb_app, h1, h3]
    · rcases List.mem_cons.1 hx with rfl | hx
      · exact h4
      · exact h2 x hx
theorem lay_len {es : List E} (h : layB es = true) : es.length ≤ 32 := by
  unfold layB at h
  rw [Bool.and_eq_true] at h
  exact of_decide_eq_true h.2
/-- What the program reads. -/
def progLay (s : ByteArray) : Option (List E) :=
  match scanL 32 (LB s) [] [] [] with
  | some R => if layB (R.map markOf) = true then some (R.map markOf) else none
  | none => none
theorem prog_lay (s : ByteArray) (es : List E) : progLay s = some es ↔ layB es = true ∧ linesM es = s := by
  constructor
  · intro h
    unfold progLay at h
    cases hs : scanL 32 (LB s) [] [] [] with
    | none => rw [hs] at h; cases h
    | some R =>
      rw [hs] at h
      dsimp only at h
      split at h
      · rename_i ht
        have he := Option.some.inj h
        subst he
        obtain ⟨e1, e2, _⟩ := scan_sound 32 _ [] [] [] R (fun _ h => by simp at h) (fun _ h => by simp at h) (by simp) (fun _ h => by simp at h) (by simp) hs
        have hf := fit_lay ht
        refine ⟨ht, lb_inj ?_⟩
        rw [(lines_wsM _ hf).1, List.map_map]
        have hid : R.map (wsM ∘ markOf) = R := by
          rw [List.map_congr_left (f := wsM ∘ markOf) (g := id) (fun ws hw => ws_ofM (e2 ws hw) (hf _ (List.mem_map_of_mem hw))), List.map_id]
        rw [hid, ← e1]
        simp [aheadL, linesL]
      · cases h
  · rintro ⟨ht, rfl⟩
    have hf := fit_lay ht
    obtain ⟨h1, h2⟩ := lines_wsM es hf
    unfold progLay
    rw [h1, scan_done 32 (es.map wsM) [] h2 (by simpa using lay_len ht)]
    have hid : (es.map wsM).map markOf = es := by
      rw [List.map_map, List.map_congr_left (f := markOf ∘ wsM) (g := id) (fun e he => wsM_back (hf e he)), List.map_id]
    rw [List.nil_append]
    dsimp only
    rw [hid, if_pos ht]
/-- What the model reads. -/
def kindS (w : ByteArray) : Int := if w = wD then 2 else if w = wX then 3 else if w = wB then 4 else 1
def lineM (l : ByteArray) : E := ⟨(partL l).2.1, kindS (partL l).1, (partL l).2.2⟩
def outM (s : ByteArray) : List E := (((cut 10 s).take ((cut 10 s).length - 1)).take 33).map lineM
def specLay (s : ByteArray) : Option (List E) := if (cut 10 s).getD ((cut 10 s).length - 1) ⟨#[]⟩ = ⟨#[]⟩ ∧ layB (outM s) = true ∧ linesM (outM s) = s then some (outM s) else none
theorem kindS_word {d : Int} (h : 1 ≤ d ∧ d ≤ 4) : kindS (wordM d) = d := by
  have : d = 1 ∨ d = 2 ∨ d = 3 ∨ d = 4 := by omega
  rcases this with rfl | rfl | rfl | rfl <;> decide
theorem part_mark {e : E} (h : fitM e) : lineM (markL e) = e := by
  obtain ⟨h1, h2, h3, h4⟩ := wsM_text h
  have hc := cut_is 32 (markL e)
  rw [h1, split_join _ h2 h4] at hc
  have ec : cut 32 (markL e) = (wsM e).map BA := by rw [← hc, map_ba_lb]
  obtain ⟨p, d, x⟩ := e
  have hk := kindS_word h.1
  dsimp only at hk
  unfold lineM partL
  rw [ec]
  unfold wsM
  dsimp only
  by_cases h0 : x.size = 0
  · rw [if_pos h0]
    have hxe : x = ⟨#[]⟩ := lb_inj (t := ⟨#[]⟩) (lb_nil.2 h0)
    simp only [List.map_cons, List.map_nil, ba_lb]
    simp [hk, hxe]
  · rw [if_neg h0]
    simp only [List.map_cons, List.map_nil, ba_lb]
    simp [hk]
theorem cut_linesM {es : List E} (hf : ∀ e ∈ es, fitM e) : cut 10 (linesM es) = es.map markL ++ [⟨#[]⟩] := by
  obtain ⟨h1, h2⟩ := lines_wsM es hf
  have hc := cut_is 10 (linesM es)
  rw [h1, split_lines _ h2] at hc
  have e1 : cut 10 (linesM es) = ((es.map wsM).map joinL ++ [[]]).map BA := by rw [← hc, map_ba_lb]
  rw [e1, List.map_append, List.map_map, List.map_map]
  congr 1
  refine List.map_congr_left (fun e he => ?_)
  show BA (joinL (wsM e)) = markL e
  rw [← (wsM_text (hf e he)).1, ba_lb]
theorem out_linesM {es : List E} (h : layB es = true) : outM (linesM es) = es ∧ (cut 10 (linesM es)).getD ((cut 10 (linesM es)).length - 1) ⟨#[]⟩ = ⟨#[]⟩ := by
  have hf := fit_lay h
  have hl := lay_len h
  have hc := cut_linesM hf
  unfold outM
  rw [hc]
  have hlen : (es.map markL ++ [(⟨#[]⟩ : ByteArray)]).length - 1 = (es.map markL).length := by simp
  rw [hlen, List.take_left]
  refine ⟨?_, ?_⟩
  · rw [List.take_of_length_le (by rw [List.length_map]; omega), List.map_map, List.map_congr_left (f := lineM ∘ markL) (g := id) (fun e he => part_mark (hf e he)), List.map_id]
  · rw [List.getD_eq_getElem?_getD]; simp
theorem spec_lay (s : ByteArray) (es : List E) : specLay s = some es ↔ layB es = true ∧ linesM es = s := by
  constructor
  · intro h
    unfold specLay at h
    split at h
    · rename_i hh
      rw [← Option.some.inj h]
      exact hh.2
    · cases h
  · rintro ⟨ht, rfl⟩
    obtain ⟨h1, h2⟩ := out_linesM ht
    unfold specLay
    rw [h1, if_pos ⟨h2, ht, rfl⟩]
theorem read_lay (s : ByteArray) : progLay s = specLay s := by
  cases h : progLay s with
  | some es => exact ((spec_lay s es).2 ((prog_lay s es).1 h)).symm
  | none =>
    cases h2 : specLay s with
    | none => rfl
    | some es => rw [(prog_lay s es).2 ((spec_lay s es).1 h2)] at h; cases h
end Go.Proofs.YtgkfhcpegdlejaaDoor.Mk
