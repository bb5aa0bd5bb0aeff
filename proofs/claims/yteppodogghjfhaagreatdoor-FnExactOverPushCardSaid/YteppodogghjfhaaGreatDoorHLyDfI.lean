import Derived.Test.YteppodogghjfhaaGreatDoorHPk12
import Derived.Test.YteppodogghjfhaaGreatDoorHPk18
import Derived.Test.YteppodogghjfhaaGreatDoorHPk07
import Derived.Test.YteppodogghjfhaaGreatDoorHPk05
import Derived.Test.YteppodogghjfhaaGreatDoorHPk20
namespace Go.Proofs.YteppodogghjfhaaGreatDoor.Ly
open Go.RowKit Go.Lib Go.Shelf
attribute [local go_sem] Oper.semAt_some
theorem turn_sub {ss : List ByteArray} {to : List E} {k : Nat} (h : k < ss.length) : (ss.take (k + 1)).filter (kept to) = (ss.take k).filter (kept to) ++ (if kept to ss[k] = true then [ss[k]] else []) := by
 rw [List.take_succ_eq_append_getElem h, List.filter_append]
 congr 1
 cases hk : kept to ss[k] <;> simp [hk]
theorem under_less' {a b : ByteArray} (hb : pathB b = true) (h : underI a b = true) : less b a := by
 obtain ⟨r, h1, h2⟩ := under_list hb (.inr h); have hne : a ≠ b := fun q => by rw [q] at h; have := under_lev b.size b b (Nat.le_refl _) h; omega
 rw [less_L, h1]; cases r with
 | nil => rw [List.append_nil] at h1; exact absurd (L_inj h1) hne
 | cons y r =>
  have := bless_pre (L b) [] (y :: r); rw [List.append_nil] at this; rw [this]; rfl
theorem next_new {to : List E} {ss : List ByteArray} {k : Nat} (hr : ss.Pairwise less) (hk : k < ss.length) {l : List Mk.E} (h : IsD to ((ss.take k).filter (kept to)) l) (hp : pathB ss[k] = true) : Mk.lookE l ss[k] = none := by
 cases hl : Mk.lookE l ss[k] with
 | none => rfl
 | some m =>
  exfalso
  obtain ⟨s, hs, g⟩ := (h.look_iff ss[k]).1 (by rw [hl]; simp); have hs1 := (List.mem_filter.1 hs).1; obtain ⟨i, hi, rfl⟩ := List.getElem_of_mem hs1; rw [List.length_take] at hi; have hlt : less ss[i] ss[k] := List.pairwise_iff_getElem.1 hr i k (by omega) hk (by omega); rw [List.getElem_take] at g; rcases g with g | ⟨_, g⟩
  ·
   rw [g] at hlt; exact less_irrefl _ hlt
  ·
   exact less_irrefl _ (less_trans hlt (under_less' hp g))
theorem IsD.dirs {to : List E} (T : TrE to) {ks : List ByteArray} {l : List Mk.E} (h : IsD to ks l) (hT : Mk.TrM l) {s : ByteArray} (hp : pathB s = true) (hk : kept to s = true) : ∀ q f, underI s q = true → Mk.lookE l q = some f → Mk.dirK f.d = true := fun q f hu hl => by
 obtain ⟨h1, h2⟩ := Mk.look_mem hl; have h3 := ((h.mem f).1 h1).2; have hq : pathB q = true := by have := hT.path f h1; rwa [h2] at this
 obtain ⟨e, g1, g2⟩ := above_dir T s.size (Nat.le_refl _) hp (kept_up T hk) hq hu; rw [h3, h2, dm_dir T g1 g2]; rfl
theorem diff_step {to : List E} (T : TrE to) {ks : List ByteArray} {l l' : List Mk.E} (h : IsD to ks l) {s : ByteArray} (hp : pathB s = true) (hk : kept to s = true) (hn : Mk.lookE l s = none) (hpu : Mk.PutUp l (dm to s) l') (hs : Mk.Rise l') : IsD to (ks ++ [s]) l' :=
 h.step T hp hk hs fun m => by
  rw [hpu m, dm_p]; refine or_congr Iff.rfl (or_congr ⟨fun q => ⟨q, fun e => Mk.look_none.1 hn m q e⟩, fun q => q.1⟩ Iff.rfl)
theorem diff_len (fs : List E) : ∀ (ss : List ByteArray), (∀ s ∈ ss, pathB s = true) → (ss.foldl (diff1 fs) []).length ≤ 14 * ss.length := by
 have key : ∀ (ss : List ByteArray) (l : List Mk.E), (∀ s ∈ ss, pathB s = true) → (ss.foldl (diff1 fs) l).length ≤ l.length + 14 * ss.length := fun ss => by
  induction ss with
  | nil => intro l _; exact Nat.le_refl _
  | cons s r ih =>
   intro l h; have h1 := ih (diff1 fs l s) (fun t ht => h t (List.mem_cons_of_mem _ ht)); have h2 := path_sizeD (h s (List.mem_cons_self ..)); have h3 : (diff1 fs l s).length ≤ l.length + (s.size + 2) := diff1_len fs l s; rw [List.foldl_cons, List.length_cons]; omega
 intro ss h; have := key ss [] h
 simpa using this
theorem turned_facts {es fs : List E} (htf : treeE fs = true) : (turnedE es fs).Pairwise less ∧ (∀ s ∈ turnedE es fs, pathB s = true) ∧ (turnedE es fs).length ≤ 32 ∧ diffE es fs = (turnedE es fs).foldl (diff1 fs) [] := by
 unfold turnedE diffE diffM; rw [htf, Bool.and_true]; cases hte : treeE es with
 | false => exact ⟨by simp, by simp, by simp, rfl⟩
 | true =>
  obtain ⟨T, hl⟩ := treeE_tr hte; obtain ⟨U, hl'⟩ := treeE_tr htf; rw [if_pos rfl]; refine ⟨turnE_rise T, fun s hs => ?_, ?_, rfl⟩
  ·
   have hd := (turnE_mem T U s).1 hs; cases h : lookE es s with
   | some e => exact look_path T h
   | none =>
    cases h' : lookE fs s with
    | some e => exact look_path U h'
    | none => exact absurd (h.trans h'.symm) hd
  ·
   have h1 : (turnE es fs).length ≤ (bothE es fs).length := by
    unfold turnE; rw [List.length_map]; exact List.length_filter_le _ _
   have h2 := both_len es fs fs.length (Nat.le_refl _); rw [List.take_length] at h2; omega
set_option maxHeartbeats 4000000 in
set_option maxRecDepth 100000 in
theorem iLayerDiff_any (w : World) (a : Option Addr) (g o cap : Nat) (es : List E) (a' : Option Addr) (g' o' cap' : Nat) (fs : List E) (ae : Int → Addr) (hErr : Errs2 w ae) (hl : es.length ≤ 16777216) (hl' : fs.length ≤ 16777216)
  (hz : ∀ e ∈ es, e.p.size ≤ 16777216 ∧ e.x.size ≤ 16777216) (hz' : ∀ e ∈ fs, e.p.size ≤ 16777216 ∧ e.x.size ≤ 16777216) (ha : 0 < es.length → a = some ⟨g, o, none⟩) (ha' : 0 < fs.length → a' = some ⟨g', o', none⟩) (hE : Ents w g o es) (hF : Ents w g' o' fs) :
  Calls Tryz.prog 78 #[.slice a es.length cap, .slice a' fs.length cap'] w fun r w' => ∃ v, r = .returned v ∧ Mk.OwnE w' w.heap.size v (diffE es fs) ∧ Below w.heap.size w w' := by
 have HT := hidE (treeOf_any w a' g' o' cap' fs ae hErr hl' hz' ha' hF); have HU := hidE (fun (W : World) (hW : Below w.heap.size w W) => iTurned_any W a g o cap es a' g' o' cap' fs ae (hErr.below hW) hl hl' hz hz' ha ha' (hE.below hW) (hF.below hW)); have HEr := hidE (fun (W : World) (hW : Below w.heap.size w W) => hErr.below hW); clear hErr hz hz' hE hF; cases htf : treeE fs with
 | false =>
  have hq : diffE es fs = [] := by unfold diffE; rw [htf, Bool.and_false]; rfl
  rw [htf] at HT; go_enter Tryz.func78, Tryz.ntmps78
  go_wp2_with fail
  refine HT.out.mono ?_; rintro e w1 ⟨A, rfl, hB1, -⟩; have HB1 := hidE (hB1.alloc hB1.size (.cells #[.bool true, .string ⟨#[]⟩, .map (some (A ⟨#[47]⟩))] 118)); clear hB1; go_wp2
  go_ret
  exact ⟨_, rfl, by rw [hq]; exact World.ownsRow_nil _ _ _ _, HB1.out⟩
 | true =>
  rw [htf] at HT; obtain ⟨U, hfl⟩ := treeE_tr htf; go_enter Tryz.func78, Tryz.ntmps78
  go_wp2_with fail
  refine HT.out.mono ?_; rintro e w1 ⟨A, rfl, hB1, hR1⟩; obtain ⟨W1, hW1⟩ : ∃ W1, W1 = w1.alloc (.cells #[.bool true, .string ⟨#[]⟩, .map (some (A ⟨#[47]⟩))] 118) := ⟨_, rfl⟩
  have hB11 : Below w1.heap.size w1 W1 := by rw [hW1]; exact belowA (Below.refl _ w1) _
  have HB1 := hidE (belowT hB1 hB11); have X1 : W1.cell? ⟨w1.heap.size, 0, none⟩ = some (.bool true) ∧ W1.cell? ⟨w1.heap.size, 1, none⟩ = some (.string ⟨#[]⟩) ∧ W1.cell? ⟨w1.heap.size, 2, none⟩ = some (.map (some (A ⟨#[47]⟩))) := by rw [hW1]; exact ⟨by simp, by simp, by simp⟩
  have HX1 := hidE X1; have HR1 := hidE ((hR1 trivial).below hB11); have hs1 : Hid (w1.heap.size < W1.heap.size) := by show _ < _; rw [hW1]; simp
  clear X1 hR1 hB1 hB11; go_wp2_with fail
  rw [← hW1]; clear hW1; refine (Mk.newLayer_any _).mono ?_; rintro e w2 ⟨⟨aj, haj, rfl, hM2⟩, hB2⟩; obtain ⟨W2, hW2⟩ : ∃ W2, W2 = w2.alloc (.cells #[.iface 207 (.agg #[]), .map (some aj)] 146) := ⟨_, rfl⟩
  have hB22 : Below w2.heap.size w2 W2 := by rw [hW2]; exact belowA (Below.refl _ w2) _
  have hBx : Below W1.heap.size W1 W2 := belowT hB2 hB22; have X2 : Mk.Box2 W2 w2.heap.size (.iface 207 (.agg #[])) (.map (some aj)) := by rw [hW2]; exact Mk.Box2.new _ _ _ _
  have HX2 := hidE X2; have HJ2 : Hid (Mk.Rep W2 W1.heap.size 0 [] (fun _ => aj)) := Mk.rep_nil haj (hM2.kept (hB22.block _ hM2.lt)); have HB2 := hidE (belowT HB1.out hBx); have HR2 := hidE (HR1.out.below hBx); have HWb : Hid (w.heap.size ≤ W1.heap.size) := HB1.out.size; have HLow : Hid (∀ p, dirE fs p = true → A p < W1.heap.size) := fun p hp => (HR1.out.kids p hp).lt; obtain ⟨x0, x1, x2⟩ := HX1.out; have HY2 := hidE (show W2.cell? ⟨w1.heap.size, 0, none⟩ = some (.bool true) ∧ W2.cell? ⟨w1.heap.size, 1, none⟩ = some (.string ⟨#[]⟩) ∧ W2.cell? ⟨w1.heap.size, 2, none⟩ = some (.map (some (A ⟨#[47]⟩))) from ⟨below_cell hBx x0, below_cell hBx x1, below_cell hBx x2⟩); have hw12 : Hid (W1.heap.size ≤ W2.heap.size) := hBx.size; clear X2 hM2 hB2 hB22 hBx x0 x1 x2 HX1 HR1 haj; go_wp2_with fail
  rw [← hW2]; clear hW2; refine (HU.out _ HB2.out).mono ?_; rintro e w3 ⟨v3, rfl, ho3, hB3⟩; obtain ⟨av, gs, cs, rfl, has, hss⟩ := StrB.of_row ho3; have HB3 := hidE (belowT HB2.out hB3); have HX3 := hidE (HX2.out.below hB3); have HJ3 := hidE (HJ2.out.below hB3); have HR3 := hidE (HR2.out.below hB3); obtain ⟨x0, x1, x2⟩ := HY2.out; have HY3 := hidE (show w3.cell? ⟨w1.heap.size, 0, none⟩ = some (.bool true) ∧ w3.cell? ⟨w1.heap.size, 1, none⟩ = some (.string ⟨#[]⟩) ∧ w3.cell? ⟨w1.heap.size, 2, none⟩ = some (.map (some (A ⟨#[47]⟩))) from ⟨below_cell hB3 x0, below_cell hB3 x1, below_cell hB3 x2⟩); have hb3 : Hid (W1.heap.size ≤ w3.heap.size) := Nat.le_trans hw12.out hB3.size; have HS3 := hidE hss; clear x0 x1 x2 HX2 HJ2 HR2 HY2 HB2 hB3 ho3 hss; have hfacts : Hid ((turnedE es fs).Pairwise less ∧ (∀ s ∈ turnedE es fs, pathB s = true) ∧ (turnedE es fs).length ≤ 32 ∧ diffE es fs = (turnedE es fs).foldl (diff1 fs) []) := turned_facts htf; obtain ⟨ss, hseq⟩ : ∃ ss, turnedE es fs = ss := ⟨_, rfl⟩
  rw [hseq] at has HS3 hfacts ⊢; clear hseq HT HU HB1; obtain ⟨hrise, hpaths, hlen, hdf⟩ := hfacts.out; have hsl : ss.length ≤ 32 := hlen; have HRi := hidE hrise; have HPa := hidE hpaths; have HDf := hidE hdf; clear hfacts hrise hpaths hlen hdf; go_wp2
  go_loopw [26] (fun iv wl => ∃ k : Nat, k ≤ ss.length ∧ iv = .int .i64 k ∧ Hid (∃ J l, J ⟨#[47]⟩ = aj ∧ Mk.Rep wl W1.heap.size (12 * k) l J ∧ Mk.TrM l ∧ IsD fs ((ss.take k).filter (kept fs)) l) ∧ Hid (Turn W1.heap.size w3 wl)) (fun iv _ => ss.length - (RowKit.intOf iv).toNat)
  case atStart => exact ⟨0, Nat.zero_le _, rfl, ⟨_, [], rfl, HJ3.out, Mk.TrM.nil, IsD.nil fs⟩, Turn.refl _ _⟩
  case round =>
   obtain ⟨k, hk, rfl, HJ, HT⟩ := hrel; by_cases hlt : k < ss.length
   ·
    obtain rfl := has (by omega); have s0 := HT.out.cell (HS3.out k hlt); obtain ⟨y0, y1, y2⟩ := HY3.out; have y0 := HT.out.cell y0; have y1 := HT.out.cell y1; have y2 := HT.out.cell y2; have hps := HPa.out ss[k] (List.getElem_mem _); have hsz : ss[k].size ≤ 12 := path_sizeD hps; obtain ⟨J, l, hJ0, hJR, hTl, hD⟩ := HJ.out; have hnew := next_new HRi.out hlt hD hps; have HSub := hidE (turn_sub (to := fs) hlt); have HDrs := hidE (fun (hk : kept fs ss[k] = true) => hD.dirs U hTl hps hk); have HStep := hidE (fun (hk : kept fs ss[k] = true) (l' : List Mk.E) (hpu : Mk.PutUp l (dm fs ss[k]) l') (hs : Mk.Rise l') => diff_step U hD hps hk hnew hpu hs); obtain ⟨s, hs⟩ : ∃ s, ss[k] = s := ⟨_, rfl⟩
    rw [hs] at s0 hps hsz hnew HSub HDrs HStep; clear hs; have hla : Mk.layV J = .agg #[.iface 207 (.agg #[]), .map (some aj)] := by unfold Mk.layV; rw [hJ0]
    have hbr : W1.heap.size ≤ wr.heap.size := Nat.le_trans hb3.out HT.out.below.size; have HPut := hidE (fun (W' : World) (hB : Below wr.heap.size wr W') (hk : kept fs s = true) => Mk.put_up (s.size + 1) W1.heap.size (12 * k) l J hTl W' (hJR.below hB) (Nat.le_trans hbr hB.size) s (Nat.lt_succ_self _) (by omega) (by omega) (dm fs s).d (dm fs s).x (dm_k fs s) hps (HDrs.out hk) hnew); rw [hla] at HPut; have HRt := hidE (show Rep wr _ 16 fs A from ⟨fun p hp => (HR3.out.kids p hp).kept (HT.out.below.block _ (HLow.out p hp)), HR3.out.low, HR3.out.apart⟩); have HAt := hidE (at_any wr _ 16 fs A U HRt.out s (by omega)); have HBw := hidE (show Below w.heap.size w wr from HB3.out.trans (HT.out.below.mono (Nat.le_trans HWb.out (Nat.le_refl _)))); obtain ⟨z0, z1, z2, z3⟩ := HX3.out.turn HT.out; cases hlk : lookE fs s with
    | some f =>
     have hkp : kept fs s = true := by unfold kept; rw [hlk]; rfl
     have hdm : dm fs s = ⟨s, if f.d = true then 2 else 1, f.x⟩ := by unfold dm; rw [hlk]
     have HPk := hidE (fun (W' : World) (hB : Below wr.heap.size wr W') => HPut.out W' hB hkp); have HStk := hidE (HStep.out hkp); rw [hdm] at HPk HStk; dsimp only at HPk; have HSk : Hid ((ss.take (k + 1)).filter (kept fs) = (ss.take k).filter (kept fs) ++ [s]) := by show _ = _; rw [HSub.out, hkp]; rfl
     rw [atE_some hps hlk] at HAt; obtain ⟨fd, hfd⟩ : ∃ fd, f.d = fd := ⟨_, rfl⟩
     obtain ⟨fx, hfx⟩ : ∃ fx, f.x = fx := ⟨_, rfl⟩
     rw [hfd] at HPk HStk HAt; rw [hfx] at HPk HStk HAt; clear hfd hfx hdm hkp hlk HPut HStep HSub HDrs hD HJ; cases fd with
     | true =>
      rw [show optV true (A s) = some (A s) from rfl] at HAt; rw [if_pos rfl] at HPk HStk; go_wp2_with (first | (go_at_call 84; refine HAt.out.mono ?_; rintro e w4 ⟨rfl, hB4⟩) | fail)
      obtain ⟨W5, hW5⟩ : ∃ W5, W5 = w4.alloc (.cells #[.bool true, .string fx, .map (some (A s))] 116) := ⟨_, rfl⟩
      have hB5 : Below wr.heap.size wr W5 := by rw [hW5]; exact belowA hB4 _
      have BX : W5.cell? ⟨w4.heap.size, 0, none⟩ = some (.bool true) ∧ W5.cell? ⟨w4.heap.size, 1, none⟩ = some (.string fx) ∧ W5.cell? ⟨w4.heap.size, 2, none⟩ = some (.map (some (A s))) := by rw [hW5]; exact ⟨by simp, by simp, by simp⟩
      have q0 := below_cell hB5 z0; have q1 := below_cell hB5 z1; have AS := hidE (fun (W' : World) (hT : Turn W1.heap.size W5 W') => (show W'.cell? ⟨w2.heap.size, 0, none⟩ = some (.iface 207 (.agg #[])) ∧ W'.cell? ⟨w2.heap.size, 1, none⟩ = some (.map (some aj)) ∧ W'.cell? ⟨w4.heap.size, 0, none⟩ = some (.bool true) ∧ W'.cell? ⟨w4.heap.size, 1, none⟩ = some (.string fx) ∧ W'.cell? ⟨w4.heap.size, 2, none⟩ = some (.map (some (A s))) from ⟨hT.cell q0, hT.cell q1, hT.cell BX.1, hT.cell BX.2.1, hT.cell BX.2.2⟩)); have hb5 : W1.heap.size ≤ W5.heap.size := Nat.le_trans hbr hB5.size; rw [← hW5]; clear hW5 BX q0 q1 y0 y1 y2 z0 z1 z2 z3 s0
      go_region_held3 (fun W' => W'.cell? ⟨w2.heap.size, 0, none⟩ = some (.iface 207 (.agg #[])) ∧ W'.cell? ⟨w2.heap.size, 1, none⟩ = some (.map (some aj)) ∧ W'.cell? ⟨w4.heap.size, 0, none⟩ = some (.bool true) ∧ W'.cell? ⟨w4.heap.size, 1, none⟩ = some (.string fx) ∧ W'.cell? ⟨w4.heap.size, 2, none⟩ = some (.map (some (A s))))
       ((first
        | exact AS.out _ ((Turn.of_below (by repeat (first | exact Below.refl _ _ | refine belowT ?_ hB6 | apply Below.drew)) hb5).trans hT7)
        | exact AS.out _ (Turn.of_below (by repeat (first | exact Below.refl _ _ | refine belowT ?_ hB6 | apply Below.drew)) hb5)))
       (first
        | (go_at_call 111; refine (Mk.signOfNode2_any _ _ _).mono ?_; rintro e w6 ⟨rfl, hB6⟩)
        | (go_at_call 110; refine (HPk.out _ (belowT hB5 (by repeat (first | exact Below.refl _ _ | refine belowT ?_ hB6 | apply Below.drew)))).mono ?_; rintro e w7 ⟨hT7, J', l', hJ', rfl, hR7, hTr7, hPU7⟩))
      all_goals
       have hB56 : Below W5.heap.size W5 w6 := by repeat (first | exact Below.refl _ _ | refine belowT ?_ hB6 | apply Below.drew)
       have hTT : Turn W1.heap.size w3 w7 := (HT.out.trans (Turn.of_below (belowT hB5 hB56) hbr)).trans hT7; go_wp2
       go_roundw
       case rel => exact ⟨k + 1, by omega, by go_num, ⟨J', l', hJ'.trans hJ0, hR7.mono (by omega), hTr7, by rw [HSk.out]; exact HStk.out l' hPU7 hTr7.sort⟩, hTT⟩
       case measure => simp [RowKit.intOf]; omega
     | false =>
      rw [show optV false (A s) = none from rfl] at HAt; rw [if_neg (by decide)] at HPk HStk; go_wp2_with (first | (go_at_call 84; refine HAt.out.mono ?_; rintro e w4 ⟨rfl, hB4⟩) | fail)
      obtain ⟨W5, hW5⟩ : ∃ W5, W5 = w4.alloc (.cells #[.bool false, .string fx, .map none] 116) := ⟨_, rfl⟩
      have hB5 : Below wr.heap.size wr W5 := by rw [hW5]; exact belowA hB4 _
      have BX : W5.cell? ⟨w4.heap.size, 0, none⟩ = some (.bool false) ∧ W5.cell? ⟨w4.heap.size, 1, none⟩ = some (.string fx) ∧ W5.cell? ⟨w4.heap.size, 2, none⟩ = some (.map none) := by rw [hW5]; exact ⟨by simp, by simp, by simp⟩
      have q0 := below_cell hB5 z0; have q1 := below_cell hB5 z1; have AS := hidE (fun (W' : World) (hT : Turn W1.heap.size W5 W') => (show W'.cell? ⟨w2.heap.size, 0, none⟩ = some (.iface 207 (.agg #[])) ∧ W'.cell? ⟨w2.heap.size, 1, none⟩ = some (.map (some aj)) ∧ W'.cell? ⟨w4.heap.size, 0, none⟩ = some (.bool false) ∧ W'.cell? ⟨w4.heap.size, 1, none⟩ = some (.string fx) ∧ W'.cell? ⟨w4.heap.size, 2, none⟩ = some (.map none) from ⟨hT.cell q0, hT.cell q1, hT.cell BX.1, hT.cell BX.2.1, hT.cell BX.2.2⟩)); have hb5 : W1.heap.size ≤ W5.heap.size := Nat.le_trans hbr hB5.size; rw [← hW5]; clear hW5 BX q0 q1 y0 y1 y2 z0 z1 z2 z3 s0
      go_region_held3 (fun W' => W'.cell? ⟨w2.heap.size, 0, none⟩ = some (.iface 207 (.agg #[])) ∧ W'.cell? ⟨w2.heap.size, 1, none⟩ = some (.map (some aj)) ∧ W'.cell? ⟨w4.heap.size, 0, none⟩ = some (.bool false) ∧ W'.cell? ⟨w4.heap.size, 1, none⟩ = some (.string fx) ∧ W'.cell? ⟨w4.heap.size, 2, none⟩ = some (.map none))
       ((first
        | exact AS.out _ ((Turn.of_below (by repeat (first | exact Below.refl _ _ | refine belowT ?_ hB6 | apply Below.drew)) hb5).trans hT7)
        | exact AS.out _ (Turn.of_below (by repeat (first | exact Below.refl _ _ | refine belowT ?_ hB6 | apply Below.drew)) hb5)))
       (first
        | (go_at_call 111; refine (Mk.signOfNode1_any _ _).mono ?_; rintro e w6 ⟨rfl, hB6⟩)
        | (go_at_call 110; refine (HPk.out _ (belowT hB5 (by repeat (first | exact Below.refl _ _ | refine belowT ?_ hB6 | apply Below.drew)))).mono ?_; rintro e w7 ⟨hT7, J', l', hJ', rfl, hR7, hTr7, hPU7⟩))
      all_goals
       have hB56 : Below W5.heap.size W5 w6 := by repeat (first | exact Below.refl _ _ | refine belowT ?_ hB6 | apply Below.drew)
       have hTT : Turn W1.heap.size w3 w7 := (HT.out.trans (Turn.of_below (belowT hB5 hB56) hbr)).trans hT7; go_wp2
       go_roundw
       case rel => exact ⟨k + 1, by omega, by go_num, ⟨J', l', hJ'.trans hJ0, hR7.mono (by omega), hTr7, by rw [HSk.out]; exact HStk.out l' hPU7 hTr7.sort⟩, hTT⟩
       case measure => simp [RowKit.intOf]; omega
    | none =>
     have hdir : kept fs s = dirE fs (upS s) := by unfold kept; rw [hlk]; rfl
     rw [atE_none hps hlk] at HAt; have HDi := hidE (fun (W' : World) (hB : Below wr.heap.size wr W') => dirAt_any W' _ 16 fs A ae U (HRt.out.below hB) (HEr.out _ (belowT HBw.out hB)) (upS s) (by have := Mk.up_lt hps; omega)); go_wp2_with (first | (go_at_call 84; refine HAt.out.mono ?_; rintro e w4 ⟨rfl, hB4⟩) | fail)
     obtain ⟨W5, hW5⟩ : ∃ W5, W5 = w4.alloc (.cells #[.bool false, .string ⟨#[]⟩, .map none] 116) := ⟨_, rfl⟩
     have hB5 : Below wr.heap.size wr W5 := by rw [hW5]; exact belowA hB4 _
     have AS : Hid (∀ W', Below W5.heap.size W5 W' → (W'.cell? ⟨w1.heap.size, 0, none⟩ = some (.bool true) ∧ W'.cell? ⟨w1.heap.size, 1, none⟩ = some (.string ⟨#[]⟩) ∧ W'.cell? ⟨w1.heap.size, 2, none⟩ = some (.map (some (A ⟨#[47]⟩))))) := fun W' hW => ⟨below_cell (belowT hB5 hW) y0, below_cell (belowT hB5 hW) y1, below_cell (belowT hB5 hW) y2⟩; have AZ : Hid (∀ W', Below W5.heap.size W5 W' → (W'.cell? ⟨w2.heap.size, 0, none⟩ = some (.iface 207 (.agg #[])) ∧ W'.cell? ⟨w2.heap.size, 1, none⟩ = some (.map (some aj)))) := fun W' hW => ⟨below_cell (belowT hB5 hW) z0, below_cell (belowT hB5 hW) z1⟩; have HUp := hidE (fun (W : World) => iPathUp_any s (by omega) W); rw [← hW5]; clear hW5 y0 y1 y2 z0 z1 z2 z3 s0
     rename_i Qx Kx hKx
     cases hdr : dirE fs (upS s) with
     | true =>
      rw [hdr] at hdir; obtain ⟨xx, hxx⟩ := atE_dir (A := A) hdr; have hdv : dirV fs A (upS s) = .agg #[.bool true, .string xx, .map (some (A (upS s)))] := by unfold dirV; rw [dirC_dir hdr, if_pos rfl, hxx]
      have hev : errV ae (dirC fs (upS s)) = .nilIface := by rw [dirC_dir hdr]; rfl
      rw [hdv, hev] at HDi; have hdm : dm fs s = ⟨s, 3, ⟨#[]⟩⟩ := by unfold dm; rw [hlk]
      have HPk := hidE (fun (W' : World) (hB : Below wr.heap.size wr W') => HPut.out W' hB hdir); have HStk := hidE (HStep.out hdir); rw [hdm] at HPk HStk; dsimp only at HPk; rw [Mk.sign3] at HPk; have HSk : Hid ((ss.take (k + 1)).filter (kept fs) = (ss.take k).filter (kept fs) ++ [s]) := by show _ = _; rw [HSub.out, hdir]; rfl
      clear hdm hdir hdr hlk hxx hdv hev HPut HStep HSub HDrs hD HJ
      have HK : Hid (∀ (b : Nat) (W : World), Below W5.heap.size W5 W → Kx { tmps := #[.slice a es.length cap, .slice a' fs.length cap', undef, undef, .slice none 0 0, .pointer (some ⟨w1.heap.size, 0, none⟩), .bool true, .pointer (some ⟨w2.heap.size, 0, none⟩), undef, .string s, .pointer (some ⟨w4.heap.size, 0, none⟩), .bool false, .pointer (some ⟨b, 0, none⟩), .nilIface, .tuple #[treeV A, .bool true], .slice a' fs.length cap', .tuple #[treeV A, .bool true], treeV A, .bool true, .bool true, .bool false, .agg #[.iface 207 (.agg #[]), .map (some aj)], .slice a es.length cap, .slice a' fs.length cap', .slice (some ⟨gs, 0, none⟩) ss.length cs, .int .i64 ss.length, .int .i64 k, .bool true, .pointer (some ⟨gs, k, none⟩), .string s, .tuple #[zeroN, .bool false], treeV A, .string s, .tuple #[zeroN, .bool false], zeroN, .bool false, .bool false, u37, u38, u39, u40, u41, .tuple #[.agg #[.bool true, .string xx, .map (some (A (upS s)))], .nilIface], treeV A, .string s, .string (upS s), .tuple #[.agg #[.bool true, .string xx, .map (some (A (upS s)))], .nilIface], .agg #[.bool true, .string xx, .map (some (A (upS s)))], .nilIface, u49, u50, u51, u52, u53, u54, u55, u56, undef, undef], defers := [] } W) := by
       intro b W hBW; refine hKx _ _ ?_; clear hKx; obtain ⟨q0, q1⟩ := AZ.out W hBW; have HBW := hidE hBW; go_wp2_with (first | (go_at_call 110; refine (HPk.out _ (belowT hB5 HBW.out)).mono ?_; rintro e w7 ⟨hT7, J', l', hJ', rfl, hR7, hTr7, hPU7⟩) | fail)
       have hTT : Turn W1.heap.size w3 w7 := (HT.out.trans (Turn.of_below (belowT hB5 HBW.out) hbr)).trans hT7; go_roundw
       case rel => exact ⟨k + 1, by omega, by go_num, ⟨J', l', hJ'.trans hJ0, hR7.mono (by omega), hTr7, by rw [HSk.out]; exact HStk.out l' hPU7 hTr7.sort⟩, hTT⟩
       case measure => simp [RowKit.intOf]; omega
      clear hKx
      go_region_held3 (fun W' => W'.cell? ⟨w1.heap.size, 0, none⟩ = some (.bool true) ∧ W'.cell? ⟨w1.heap.size, 1, none⟩ = some (.string ⟨#[]⟩) ∧ W'.cell? ⟨w1.heap.size, 2, none⟩ = some (.map (some (A ⟨#[47]⟩))))
       ((refine AS.out _ ?_; repeat (first | exact Below.refl _ _ | apply belowA | refine belowT ?_ hB7 | refine belowT ?_ hB6 | apply Below.drew | refine set3_below ?_ (by first | exact Nat.le_refl _ | (have h3 := hB6.size; have h4 := hB7.size; simp at h3 h4 ⊢; omega)) _ _ _)))
       (first
        | (go_at_call 113; refine (HUp.out _).mono ?_; rintro e w6 ⟨rfl, hB6⟩; obtain ⟨bc3, bf3⟩ := bcellN hB6; have l3 := hB6.size; (try simp at l3); (try (have z0 := bc3 W5.heap.size 0 (lt_allocD _ _); have z1 := bc3 W5.heap.size 1 (lt_allocD _ _); have z2 := bc3 W5.heap.size 2 (lt_allocD _ _); have z3 := bf3 W5.heap.size 0 (lt_allocD _ _); have z4 := bf3 W5.heap.size 1 (lt_allocD _ _); have z5 := bf3 W5.heap.size 2 (lt_allocD _ _); simp at z0 z1 z2 z3 z4 z5)); clear bc3 bf3)
        | (go_at_call 112; refine (HDi.out _ (belowT hB5 (by repeat (first | exact Below.refl _ _ | apply belowA | refine belowT ?_ hB6 | apply Below.drew)))).mono ?_; rintro e w7 ⟨rfl, hB7⟩; obtain ⟨bc4, bf4⟩ := bcellN hB7; have l4 := hB7.size; (try simp at l4); (try (have z0 := bc4 w6.heap.size 0 (lt_alloc _ _); have z1 := bc4 w6.heap.size 1 (lt_alloc _ _); have z2 := bc4 w6.heap.size 2 (lt_alloc _ _); have z3 := bf4 w6.heap.size 0 (lt_alloc _ _); have z4 := bf4 w6.heap.size 1 (lt_alloc _ _); have z5 := bf4 w6.heap.size 2 (lt_alloc _ _); simp at z0 z1 z2 z3 z4 z5)); (try (have v0 := (bc4 W5.heap.size 0 l3).trans z0; have v1 := (bc4 W5.heap.size 1 l3).trans z1; have v2 := (bc4 W5.heap.size 2 l3).trans z2; have v3 := (bf4 W5.heap.size 0 l3).trans z3; have v4 := (bf4 W5.heap.size 1 l3).trans z4; have v5 := (bf4 W5.heap.size 2 l3).trans z5)); clear bc4 bf4))
      all_goals exact HK.out _ _ (by repeat (first | exact Below.refl _ _ | apply belowA | refine belowT ?_ hB7 | refine belowT ?_ hB6 | apply Below.drew | refine set3_below ?_ (by first | exact Nat.le_refl _ | (have h3 := hB6.size; have h4 := hB7.size; simp at h3 h4 ⊢; omega)) _ _ _))
     | false =>
      rw [hdr] at hdir; have hc0 : dirC fs (upS s) ≠ 0 := fun h => by rw [dirC_zero h] at hdr; cases hdr
      have hdv : dirV fs A (upS s) = zeroN := by unfold dirV; rw [if_neg hc0]
      rw [hdv, errV_no hc0] at HDi; obtain ⟨ec, hec⟩ : ∃ ec, dirC fs (upS s) = ec := ⟨_, rfl⟩
      rw [hec] at HDi; have HSk : Hid ((ss.take (k + 1)).filter (kept fs) = (ss.take k).filter (kept fs)) := by show _ = _; rw [HSub.out, hdir]; simp
      have HJ2 := hidE (show ∃ J l, J ⟨#[47]⟩ = aj ∧ Mk.Rep wr W1.heap.size (12 * k) l J ∧ Mk.TrM l ∧ IsD fs ((ss.take k).filter (kept fs)) l from ⟨J, l, hJ0, hJR, hTl, hD⟩); clear hdir hdr hlk hdv hc0 hec HPut HStep HSub HDrs hD HJ
      have HK : Hid (∀ (b : Nat) (W : World), Below W5.heap.size W5 W → Kx { tmps := #[.slice a es.length cap, .slice a' fs.length cap', undef, undef, .slice none 0 0, .pointer (some ⟨w1.heap.size, 0, none⟩), .bool true, .pointer (some ⟨w2.heap.size, 0, none⟩), undef, .string s, .pointer (some ⟨w4.heap.size, 0, none⟩), .bool false, .pointer (some ⟨b, 0, none⟩), .iface 302 (.pointer (some (ae ec))), .tuple #[treeV A, .bool true], .slice a' fs.length cap', .tuple #[treeV A, .bool true], treeV A, .bool true, .bool true, .bool false, .agg #[.iface 207 (.agg #[]), .map (some aj)], .slice a es.length cap, .slice a' fs.length cap', .slice (some ⟨gs, 0, none⟩) ss.length cs, .int .i64 ss.length, .int .i64 k, .bool true, .pointer (some ⟨gs, k, none⟩), .string s, .tuple #[zeroN, .bool false], treeV A, .string s, .tuple #[zeroN, .bool false], zeroN, .bool false, .bool false, u37, u38, u39, u40, u41, .tuple #[zeroN, .iface 302 (.pointer (some (ae ec)))], treeV A, .string s, .string (upS s), .tuple #[zeroN, .iface 302 (.pointer (some (ae ec)))], zeroN, .iface 302 (.pointer (some (ae ec))), u49, u50, u51, u52, u53, u54, u55, u56, undef, undef], defers := [] } W) := by
       intro b W hBW; refine hKx _ _ ?_; clear hKx; have HBW := hidE hBW; obtain ⟨J2, l2, e1, e2, e3, e4⟩ := HJ2.out; go_wp2
       go_roundw
       case rel => exact ⟨k + 1, by omega, by go_num, ⟨J2, l2, e1, (e2.below (belowT hB5 HBW.out)).mono (by omega), e3, by rw [HSk.out]; exact e4⟩, HT.out.trans (Turn.of_below (belowT hB5 HBW.out) hbr)⟩
       case measure => simp [RowKit.intOf]; omega
      clear hKx
      go_region_held3 (fun W' => W'.cell? ⟨w1.heap.size, 0, none⟩ = some (.bool true) ∧ W'.cell? ⟨w1.heap.size, 1, none⟩ = some (.string ⟨#[]⟩) ∧ W'.cell? ⟨w1.heap.size, 2, none⟩ = some (.map (some (A ⟨#[47]⟩))))
       ((refine AS.out _ ?_; repeat (first | exact Below.refl _ _ | apply belowA | refine belowT ?_ hB7 | refine belowT ?_ hB6 | apply Below.drew | refine set3_below ?_ (by first | exact Nat.le_refl _ | (have h3 := hB6.size; have h4 := hB7.size; simp at h3 h4 ⊢; omega)) _ _ _)))
       (first
        | (go_at_call 113; refine (HUp.out _).mono ?_; rintro e w6 ⟨rfl, hB6⟩; obtain ⟨bc3, bf3⟩ := bcellN hB6; have l3 := hB6.size; (try simp at l3); (try (have z0 := bc3 W5.heap.size 0 (lt_allocD _ _); have z1 := bc3 W5.heap.size 1 (lt_allocD _ _); have z2 := bc3 W5.heap.size 2 (lt_allocD _ _); have z3 := bf3 W5.heap.size 0 (lt_allocD _ _); have z4 := bf3 W5.heap.size 1 (lt_allocD _ _); have z5 := bf3 W5.heap.size 2 (lt_allocD _ _); simp at z0 z1 z2 z3 z4 z5)); clear bc3 bf3)
        | (go_at_call 112; refine (HDi.out _ (belowT hB5 (by repeat (first | exact Below.refl _ _ | apply belowA | refine belowT ?_ hB6 | apply Below.drew)))).mono ?_; rintro e w7 ⟨rfl, hB7⟩; obtain ⟨bc4, bf4⟩ := bcellN hB7; have l4 := hB7.size; (try simp at l4); (try (have z0 := bc4 w6.heap.size 0 (lt_alloc _ _); have z1 := bc4 w6.heap.size 1 (lt_alloc _ _); have z2 := bc4 w6.heap.size 2 (lt_alloc _ _); have z3 := bf4 w6.heap.size 0 (lt_alloc _ _); have z4 := bf4 w6.heap.size 1 (lt_alloc _ _); have z5 := bf4 w6.heap.size 2 (lt_alloc _ _); simp at z0 z1 z2 z3 z4 z5)); (try (have v0 := (bc4 W5.heap.size 0 l3).trans z0; have v1 := (bc4 W5.heap.size 1 l3).trans z1; have v2 := (bc4 W5.heap.size 2 l3).trans z2; have v3 := (bf4 W5.heap.size 0 l3).trans z3; have v4 := (bf4 W5.heap.size 1 l3).trans z4; have v5 := (bf4 W5.heap.size 2 l3).trans z5)); clear bc4 bf4))
      all_goals exact HK.out _ _ (by repeat (first | exact Below.refl _ _ | apply belowA | refine belowT ?_ hB7 | refine belowT ?_ hB6 | apply Below.drew | refine set3_below ?_ (by first | exact Nat.le_refl _ | (have h3 := hB6.size; have h4 := hB7.size; simp at h3 h4 ⊢; omega)) _ _ _))
   ·
    have hke : k = ss.length := by omega
    subst hke; obtain ⟨J, l, hJ0, hJR, hTl, hD⟩ := HJ.out; rw [List.take_length] at hD; have hls : l = ss.foldl (diff1 fs) [] := hD.uniq (by have := diff_is U ss [] [] (IsD.nil fs) HPa.out; simpa using this); have hla : Mk.layV J = .agg #[.iface 207 (.agg #[]), .map (some aj)] := by unfold Mk.layV; rw [hJ0]
    have hpl : ∀ m ∈ l, m.d ≠ 1 → m.x = ⟨#[]⟩ := fun m hm h1 => by
     have := ((hD.mem m).1 hm).2; rw [this] at h1 ⊢
     revert h1
     unfold dm; cases hlk : lookE fs m.p with
     | none => intro _; rfl
     | some e =>
      dsimp only; intro h1; cases hd : e.d with
      | true => exact (U.data e (look_mem hlk).1).2 hd
      | false => rw [hd] at h1; exact absurd rfl h1
    have hll : l.length ≤ 1000 := by rw [hls]; have := diff_len fs ss HPa.out; omega
    have HMa := hidE (Mk.marks_any wr W1.heap.size (12 * ss.length) l J hTl hpl hJR (by omega) hll); rw [hla] at HMa; have HBw2 := hidE (show Below w.heap.size w wr from HB3.out.trans (HT.out.below.mono HWb.out)); have HLs := hidE (HDf.out.trans hls.symm); obtain ⟨z0, z1, z2, z3⟩ := HX3.out.turn HT.out; clear hls hpl hll hD hTl hJR HJ; go_wp2_with (first | (go_at_call 114; refine HMa.out.mono ?_; rintro e w9 ⟨v9, rfl, ho9, hB9⟩) | fail)
    go_ret
    exact ⟨v9, rfl, by rw [HLs.out]; exact ho9.lower (base' := w.heap.size) HBw2.out.size, belowT HBw2.out hB9⟩
end Go.Proofs.YteppodogghjfhaaGreatDoor.Ly
