/-
  Plain facts on difference layers: they are right, they make the one tree of the other, and there is nothing in them where the trees are the same.
-/
import Derived.Test.YteppodogghjfhabGreatDoorHLyDfI
import Derived.Test.YteppodogghjfhabGreatDoorHPk25
import Derived.Deep.RegionHeld3
import Derived.Test.YteppodogghjfhabGreatDoorHPk23
import Derived.Test.YteppodogghjfhabGreatDoorHPk22
import Derived.Test.YteppodogghjfhabGreatDoorHPk07
import Derived.Test.YteppodogghjfhabGreatDoorHPk10
import Derived.Test.YteppodogghjfhabGreatDoorHPk05
namespace Go.Proofs.YteppodogghjfhabGreatDoor.Ly
open Go.Lib

theorem onE_no {l : List Mk.E} {t : List E} (h : onB l t = false) : onE l t = [] := by unfold onE; rw [h]; rfl
theorem nodup_sub {α : Type} [DecidableEq α] : ∀ (l r : List α), l.Nodup → (∀ x ∈ l, x ∈ r) → l.length ≤ r.length
  | [], _, _, _ => Nat.zero_le _
  | x :: l, r, h, hs => by
    obtain ⟨h1, h2⟩ := List.nodup_cons.1 h
    have hx := hs x (List.mem_cons_self ..)
    have := nodup_sub l (r.erase x) h2 (fun y hy => by
      have hne : y ≠ x := fun e => h1 (by rw [← e]; exact hy)
      exact (List.mem_erase_of_ne hne).2 (hs y (List.mem_cons_of_mem _ hy)))
    rw [List.length_erase_of_mem hx] at this
    have hp := List.length_pos_of_mem hx
    rw [List.length_cons]; omega
structure DfP (a b : List E) : Prop where
  T : TrE a
  U : TrE b
  la : a.length ≤ 16
  lb : b.length ≤ 16
def ksD (a b : List E) : List ByteArray := (turnE a b).filter (kept b)
theorem DfP.of {a b : List E} (ha : treeE a = true) (hb : treeE b = true) : DfP a b := ⟨(treeE_tr ha).1, (treeE_tr hb).1, (treeE_tr ha).2, (treeE_tr hb).2⟩
theorem DfP.paths {a b : List E} (P : DfP a b) : ∀ s ∈ turnE a b, pathB s = true := fun s hs => by
  have hd := (turnE_mem P.T P.U s).1 hs
  cases h : lookE a s with
  | some e => exact look_path P.T h
  | none =>
    cases h' : lookE b s with
    | some e => exact look_path P.U h'
    | none => exact absurd (h.trans h'.symm) hd
theorem DfP.isD {a b : List E} (P : DfP a b) : IsD b (ksD a b) (diffM a b) := by
  have := diff_is P.U (turnE a b) [] [] (IsD.nil b) P.paths
  rw [List.nil_append] at this
  exact this
theorem DfP.ks_mem {a b : List E} (P : DfP a b) (s : ByteArray) : s ∈ ksD a b ↔ differ a b s ∧ kept b s = true := by
  unfold ksD; rw [List.mem_filter, turnE_mem P.T P.U]
theorem DfP.ks_ok {a b : List E} (P : DfP a b) : ∀ s ∈ ksD a b, pathB s = true ∧ kept b s = true := fun s hs =>
  ⟨P.paths s (List.mem_filter.1 hs).1, (List.mem_filter.1 hs).2⟩
theorem dm_plain {b : List E} (U : TrE b) (s : ByteArray) : (dm b s).d ≠ 1 → (dm b s).x = ⟨#[]⟩ := by
  unfold dm
  cases hlk : lookE b s with
  | none => intro _; rfl
  | some e =>
    dsimp only
    intro h1
    cases hd : e.d with
    | true => exact (U.data e (look_mem hlk).1).2 hd
    | false => rw [hd] at h1; exact absurd rfl h1
theorem dm_data {b : List E} (U : TrE b) (s : ByteArray) : dataB (dm b s).x = true := by
  unfold dm
  cases hlk : lookE b s with
  | none => rfl
  | some e => exact (U.data e (look_mem hlk).1).1
theorem dm_three (b : List E) (s : ByteArray) : (dm b s).d = 1 ∨ (dm b s).d = 2 ∨ (dm b s).d = 3 := by
  unfold dm
  split
  · dsimp only; split
    · exact .inr (.inl rfl)
    · exact .inl rfl
  · exact .inr (.inr rfl)
theorem dm_two {b : List E} {s : ByteArray} (h : (dm b s).d = 2) : ∃ e, lookE b s = some e ∧ e.d = true := by
  unfold dm at h
  cases hlk : lookE b s with
  | none =>
    rw [hlk] at h
    dsimp only at h
    exact absurd h (by decide)
  | some e =>
    rw [hlk] at h
    dsimp only at h
    refine ⟨e, rfl, ?_⟩
    cases hd : e.d with
    | true => rfl
    | false => rw [hd] at h; exact absurd h (by decide)
theorem DfP.rt {a b : List E} (P : DfP a b) : RtM (diffM a b) where
  tr := P.isD.tr P.U P.ks_ok
  data m hm := by rw [((P.isD.mem m).1 hm).2]; exact dm_data P.U _
  plain m hm h := by rw [((P.isD.mem m).1 hm).2] at h ⊢; exact dm_plain P.U _ h
  bare m _ k hk h4 _ := by
    rw [((P.isD.mem k).1 hk).2] at h4
    rcases dm_three b k.p with h | h | h <;> rw [h] at h4 <;> exact absurd h4 (by decide)
theorem DfP.in_trees {a b : List E} (P : DfP a b) {m : Mk.E} (hm : m ∈ diffM a b) : (∃ e ∈ a, e.p = m.p) ∨ (∃ e ∈ b, e.p = m.p) := by
  obtain ⟨⟨s, hs, g⟩, _⟩ := (P.isD.mem m).1 hm
  obtain ⟨h1, h2⟩ := (P.ks_mem s).1 hs
  rcases g with g | ⟨g1, g2⟩
  · cases h : lookE a s with
    | some e => obtain ⟨k1, k2⟩ := look_mem h; exact .inl ⟨e, k1, by rw [k2, g]⟩
    | none =>
      cases h' : lookE b s with
      | some e => obtain ⟨k1, k2⟩ := look_mem h'; exact .inr ⟨e, k1, by rw [k2, g]⟩
      | none => exact absurd (h.trans h'.symm) h1
  · obtain ⟨e, k1, _⟩ := above_dir P.U s.size (Nat.le_refl _) (P.ks_ok s hs).1 (kept_up P.U h2) g1 g2
    obtain ⟨k2, k3⟩ := look_mem k1
    exact .inr ⟨e, k2, k3⟩
theorem DfP.len {a b : List E} (P : DfP a b) : (diffM a b).length ≤ 32 := by
  have hn : ((diffM a b).map (·.p)).Nodup := by
    have hs := P.isD.sort
    have : ((diffM a b).map (·.p)).Pairwise less := List.pairwise_map.2 hs
    exact this.imp fun {x y} h e => by rw [e] at h; exact less_irrefl _ h
  have := nodup_sub ((diffM a b).map (·.p)) (a.map (·.p) ++ b.map (·.p)) hn (fun x hx => by
    obtain ⟨m, hm, rfl⟩ := List.mem_map.1 hx
    rw [List.mem_append, List.mem_map, List.mem_map]
    exact P.in_trees hm)
  rw [List.length_map, List.length_append, List.length_map, List.length_map] at this
  have := P.la; have := P.lb
  omega
theorem DfP.lay {a b : List E} (P : DfP a b) : Mk.layB (diffM a b) = true := rt_lay P.rt P.len
theorem ent_dm {b : List E} (U : TrE b) (s : ByteArray) : entM (dm b s) = lookE b s := by
  unfold dm
  cases hlk : lookE b s with
  | none => rfl
  | some e =>
    obtain ⟨h1, h2⟩ := look_mem hlk
    obtain ⟨p, d, x⟩ := e
    cases d with
    | true =>
      have := (U.data _ h1).2 rfl
      dsimp only at this h2
      subst h2 this
      rfl
    | false => dsimp only at h2; subst h2; rfl
/-- Above what is in the one tree and has no directory to be in in the other one. -/
theorem cut_at {a b : List E} (T : TrE a) : ∀ (n : Nat) (s : ByteArray), s.size ≤ n → (∃ e, lookE a s = some e) → dirE b (upS s) = false → ∃ u e, pathB u = true ∧ underI s u = true ∧ lookE a u = some e ∧ e.d = true ∧ dirE b (upS u) = true ∧ dirE b u = false
  | n, s, hn, ⟨e, he⟩, hd => by
    obtain ⟨h1, h2⟩ := look_mem he
    have hp : pathB s = true := look_path T he
    have hlt := Mk.up_lt hp
    have hur : upS s ≠ ⟨#[47]⟩ := fun q => by rw [q] at hd; rw [look_dir (.inl rfl)] at hd; cases hd
    have hu : pathB (upS s) = true := (stemOk_is (up_facts hp).1).resolve_left hur
    have hup := T.up e h1
    rw [h2] at hup
    rcases dir_look hup with q | ⟨f, f1, f2⟩
    · exact absurd q hur
    · cases hdu : dirE b (upS (upS s)) with
      | true => exact ⟨upS s, f, hu, (under_up hp).2 (.inl rfl), f1, f2, hdu, hd⟩
      | false =>
        match n, hn with
        | 0, hn => omega
        | n + 1, hn =>
          obtain ⟨u, e', g1, g2, g3⟩ := cut_at T n (upS s) (by omega) ⟨f, f1⟩ hdu
          exact ⟨u, e', g1, (under_up hp).2 (.inr g2), g3⟩
/-- A difference layer on the one tree is the other one. -/
theorem DfP.on {a b : List E} (P : DfP a b) : onM (diffM a b) a = b := by
  have D := P.isD
  have R := P.rt
  refine look_ext (on_rise P.T.sort) P.U.sort fun s => ?_
  cases hs : pathB s with
  | false => rw [look_bad (on_tr R.data R.tr P.T) hs, look_bad P.U hs]
  | true =>
    rw [on_look R.tr P.T]
    rcases D.look s with hn | hn
    · rw [hn]
      dsimp only
      have hnr : ¬ reach (ksD a b) s := fun h => (D.look_iff s).2 h hn
      cases hh : Mk.hidesM (diffM a b) s with
      | true =>
        rw [if_pos rfl]
        obtain ⟨m, hm, h1, h2⟩ := (hides_iff R.tr hs).1 hh
        rcases h2 with h2 | h2
        · exact absurd h2 (Mk.look_none.1 hn m hm)
        · have hmd := ((D.mem m).1 hm).2
          cases hl : lookE b s with
          | none => rfl
          | some e =>
            exfalso
            obtain ⟨k1, k2⟩ := look_mem hl
            obtain ⟨f, f1, f2⟩ := up_there P.U (R.tr.path m hm) s.size e (by rw [k2]; exact Nat.le_refl _) k1 (by rw [k2]; exact h2)
            rw [hmd, dm_dir P.U f1 f2] at h1
            exact h1 rfl
      | false =>
        rw [if_neg (by simp)]
        cases Classical.em (lookE a s = lookE b s) with
        | inl h => exact h
        | inr hdf =>
          exfalso
          by_cases hk : kept b s = true
          · exact hnr ⟨s, (P.ks_mem s).2 ⟨hdf, hk⟩, .inl rfl⟩
          · unfold kept at hk
            rw [Bool.or_eq_true, not_or] at hk
            have hb : lookE b s = none := by
              cases q : lookE b s with
              | none => rfl
              | some e => rw [q] at hk; exact absurd rfl hk.1
            have hda : ∃ e, lookE a s = some e := by
              cases q : lookE a s with
              | none => exact absurd (q.trans hb.symm) hdf
              | some e => exact ⟨e, rfl⟩
            obtain ⟨u, e, u1, u2, u3, u4, u5, u6⟩ := cut_at P.T s.size s (Nat.le_refl _) hda (by simpa using hk.2)
            have hdu : differ a b u := fun q => by
              rw [u3] at q
              rw [look_dir (.inr ⟨e, q.symm, u4⟩)] at u6; cases u6
            have hku : u ∈ ksD a b := (P.ks_mem u).2 ⟨hdu, by unfold kept; rw [u5, Bool.or_true]⟩
            have hmu : dm b u ∈ diffM a b := (D.mem _).2 ⟨by rw [dm_p]; exact ⟨u, hku, .inl rfl⟩, by rw [dm_p]⟩
            have h2 : (dm b u).d ≠ 2 := fun q => by
              obtain ⟨f, f1, f2⟩ := dm_two q
              rw [look_dir (.inr ⟨f, f1, f2⟩)] at u6; cases u6
            have : Mk.hidesM (diffM a b) s = true := (hides_iff R.tr hs).2 ⟨_, hmu, h2, .inr (by rw [dm_p]; exact u2)⟩
            rw [hh] at this; cases this
    · rw [hn]; exact ent_dm P.U s
/-- What LayerDiff and LayerOn tell of right trees. -/
theorem diff_yes {a b : List E} (ha : treeE a = true) (hb : treeE b = true) : diffE a b = diffM a b := by unfold diffE; rw [ha, hb]; rfl
theorem diff_no {a b : List E} (h : (treeE a && treeE b) = false) : diffE a b = [] := by unfold diffE; rw [h]; rfl
theorem diff_sz {a b : List E} (hz : ∀ e ∈ a, e.p.size ≤ 16777216 ∧ e.x.size ≤ 16777216) (hz' : ∀ e ∈ b, e.p.size ≤ 16777216 ∧ e.x.size ≤ 16777216) : (diffE a b).length ≤ 32 ∧ ∀ m ∈ diffE a b, m.p.size ≤ 16777216 ∧ m.x.size ≤ 16777216 := by
  cases h : (treeE a && treeE b) with
  | false => rw [diff_no h]; exact ⟨Nat.zero_le _, fun e he => by cases he⟩
  | true =>
    rw [Bool.and_eq_true] at h
    have P := DfP.of h.1 h.2
    rw [diff_yes h.1 h.2]
    refine ⟨P.len, fun m hm => ⟨?_, ?_⟩⟩
    · rcases P.in_trees hm with ⟨e, he, q⟩ | ⟨e, he, q⟩
      · rw [← q]; exact (hz e he).1
      · rw [← q]; exact (hz' e he).1
    · rw [((P.isD.mem m).1 hm).2]
      unfold dm
      cases hlk : lookE b m.p with
      | none => exact Nat.zero_le _
      | some e => exact (hz' e (look_mem hlk).1).2
end Go.Proofs.YteppodogghjfhabGreatDoor.Ly

/-
  The walk of the model's LayerDiff.
-/
namespace Go.Proofs.YteppodogghjfhabGreatDoor.Ly
open Go.RowKit Go.Lib Go.Sort

set_option maxHeartbeats 1000000 in
set_option maxRecDepth 100000 in
theorem l3UpsG_any : ∀ (n : Nat) (w : World) (base : Nat) (v : Value) (es : List Mk.E) (s : ByteArray), s.size < n → pathB s = true → s.size ≤ 16777216 → es.length + n ≤ 2000 → base ≤ w.heap.size → Mk.LieB w base v es →
    Calls Tryz.prog 62 #[v, .string s] w fun e w' => ∃ (v' : Value), e = .returned v' ∧ Mk.LieB w' base v' (upsM n es s) ∧ Below w.heap.size w w'
  | 0, _, _, _, _, _, h, _, _, _, _, _ => by omega
  | n + 1, w, base, v, es, s, hn, hp, hs16, hl, hb, hL => by
    have hlt := Mk.up_lt hp
    obtain ⟨a, g, o, cap, rfl, ha, hE, hcap, hgb⟩ := hL
    have HE := hidE hE
    have HA := hidE ha
    have HG := hidE hgb
    clear hE ha hgb
    go_enter Tryz.func62, Tryz.ntmps62
    go_wp2_with fail
    refine (sPathUp_any s (by omega) _).mono ?_
    rintro e w1 ⟨rfl, hB1⟩
    have HB1 := hidE hB1
    have HE1 := hidE (HE.out.below hB1)
    clear hB1
    by_cases hr : upS s = ⟨#[47]⟩
    · have HU : Hid (upsM (n + 1) es s = es) := by show _ = _; unfold upsM; rw [if_pos hr]
      have hr2 : (upS s).toList = [47] := by rw [hr, Lib.toList_data]
      have hr3 : ((upS s).toList == [47]) = true := by rw [hr2]; rfl
      clear hr
      go_wp2
      go_ret
      exact ⟨_, rfl, by rw [HU.out]; exact ⟨_, g, o, cap, rfl, HA.out, HE1.out, hcap, HG.out⟩, HB1.out⟩
    · have hu : pathB (upS s) = true := (stemOk_is (up_facts hp).1).resolve_left hr
      have hr2 : ¬ (upS s).toList = [47] := fun q => hr ((isRoot_iff _).1 (by unfold isRoot; rw [q]; rfl))
      have hr3 : ((upS s).toList == [47]) = false := by rw [beq_eq_false_iff_ne]; exact hr2
      have HU : Hid (upsM (n + 1) es s = upsM n (if Mk.kindM es (upS s) = 0 then Mk.putE es ⟨upS s, 2, ⟨#[]⟩⟩ else es) (upS s)) := by show _ = _; rw [upsM, if_neg hr]
      clear hr
      have HKi := hidE (Mk.l3Kind_any w1 a g o cap es (upS s) (by omega) HA.out HE1.out)
      have hw1 := HB1.out.size
      by_cases hk : Mk.kindM es (upS s) = 0
      · have HU2 := HU.out
        rw [if_pos hk] at HU2
        have HU3 := hidE HU2
        rw [hk] at HKi
        have HPu := hidE (Mk.l3Put_any w1 a g o cap es (upS s) 2 ⟨#[]⟩ (by omega) hcap HA.out HE1.out)
        have hpl := Mk.put_len es ⟨upS s, 2, ⟨#[]⟩⟩
        clear HU HU2 hk
        go_wp2_with (first | (go_at_call 77; refine HKi.out.mono ?_; rintro e w2 ⟨rfl, rfl⟩) | (go_at_call 63; refine HPu.out.mono ?_; rintro e w3 ⟨v3, rfl, ho3, hB3⟩) | (go_at_call 62; refine (l3UpsG_any n _ base v3 _ (upS s) (by omega) hu (by omega) (by omega) (Nat.le_trans hb (Nat.le_trans hw1 hB3.size)) (ho3.lieB.lower (Nat.le_trans hb hw1))).mono ?_; rintro e w4 ⟨v4, rfl, hL4, hB4⟩) | fail)
        go_ret
        exact ⟨_, rfl, by rw [HU3.out]; exact hL4, Mk.tBelow (Mk.tBelow HB1.out hB3) hB4⟩
      · have HU2 := HU.out
        rw [if_neg hk] at HU2
        have HU3 := hidE HU2
        have hk' : (Mk.kindM es (upS s) == 0) = false := by rw [beq_eq_false_iff_ne]; exact hk
        have HL1 : Hid (Mk.LieB w1 base (.slice a es.length cap) es) := ⟨_, g, o, cap, rfl, HA.out, HE1.out, hcap, HG.out⟩
        clear HU HU2
        go_wp2_with (first | (go_at_call 77; refine HKi.out.mono ?_; rintro e w2 ⟨rfl, rfl⟩) | (go_at_call 62; refine (l3UpsG_any n _ base _ es (upS s) (by omega) hu (by omega) (by omega) (Nat.le_trans hb hw1) HL1.out).mono ?_; rintro e w4 ⟨v4, rfl, hL4, hB4⟩) | fail)
        go_ret
        exact ⟨_, rfl, by rw [HU3.out]; exact hL4, Mk.tBelow HB1.out hB4⟩

theorem put1B {W : World} {b : Nat} {u v x : Value} (h : Mk.Box3 W b u v x) (y : Value) : Mk.Box3 (W.setCell ⟨b, 1, none⟩ y) b u y x :=
  ⟨(World.cell?_setCell_other _ _ _ _ (fun q => by have e := congrArg Addr.off q; dsimp only at e; omega)).trans h.c0, World.cell?_setCell_same' _ _ _ (by rw [h.c1]; rfl), (World.cell?_setCell_other _ _ _ _ (fun q => by have e := congrArg Addr.off q; dsimp only at e; omega)).trans h.c2, by rw [World.frozen?_setCell]; exact h.f0, by rw [World.frozen?_setCell]; exact h.f1, by rw [World.frozen?_setCell]; exact h.f2⟩
theorem fold1_succ {to : List E} {ss : List ByteArray} {k : Nat} (h : k < ss.length) : (ss.take (k + 1)).foldl (diff1 to) [] = diff1 to ((ss.take k).foldl (diff1 to) []) ss[k] := by
  rw [List.take_succ_eq_append_getElem h, List.foldl_append]; rfl

set_option maxHeartbeats 4000000 in
set_option maxRecDepth 100000 in
theorem l3Diff_any (w : World) (a : Option Addr) (g o cap : Nat) (es : List E) (a' : Option Addr) (g' o' cap' : Nat) (fs : List E) (hte : treeE es = true) (htf : treeE fs = true) (hcap : es.length ≤ cap) (ha : 0 < es.length → a = some ⟨g, o, none⟩) (ha' : 0 < fs.length → a' = some ⟨g', o', none⟩) (hE : Ents w g o es) (hF : Ents w g' o' fs) :
    Calls Tryz.prog 44 #[.slice a es.length cap, .slice a' fs.length cap'] w fun r w' => ∃ v, r = .returned v ∧ Mk.LieB w' w.heap.size v (diffM es fs) ∧ Below w.heap.size w w' := by
  have hl := (treeE_tr hte).2
  have hl' := (treeE_tr htf).2
  have hfacts := turned_facts (es := es) htf
  have hte2 : turnedE es fs = turnE es fs := by unfold turnedE; rw [hte, htf]; rfl
  rw [hte2] at hfacts
  have hdf : diffM es fs = (turnE es fs).foldl (diff1 fs) [] := rfl
  obtain ⟨W0, hW0⟩ : ∃ W0, W0 = w.alloc (.cells #[] 74) := ⟨_, rfl⟩
  have HTu := hidE (fun (W : World) (hW : Below w.heap.size w W) => l2Turned_any W a g o cap es a' g' o' cap' fs (by omega) (by omega) hcap ha ha' (hE.below hW) (hF.below hW))
  have HF := hidE (fun (W : World) (hW : Below w.heap.size w W) => hF.below hW)
  obtain ⟨ss, hss⟩ : ∃ ss, turnE es fs = ss := ⟨_, rfl⟩
  rw [hss] at HTu hfacts hdf
  rw [hdf]
  obtain ⟨-, hpaths, hlen, -⟩ := hfacts
  have hsl : ss.length ≤ 32 := hlen
  have HPa := hidE hpaths
  clear hE hF hss hte2 hdf hpaths hlen
  go_enter Tryz.func44, Tryz.ntmps44
  go_wp2_with fail
  refine (HTu.out _ (by repeat (first | exact Below.refl _ _ | refine Below.alloc ?_ (Nat.le_refl _) _))).mono ?_
  rintro e w1 ⟨v1, rfl, ho1, hB1⟩
  obtain ⟨av, gs, cs, rfl, has, hst⟩ := StrB.of_row ho1
  have hB01 : Below w.heap.size w w1 := ((Below.refl _ w).alloc (Nat.le_refl _) _).trans (hB1.mono (by simp))
  have HB1 := hidE hB01
  have HS1 := hidE hst
  have hL0 : Hid (Mk.LieB w1 w.heap.size (.slice (some ⟨w.heap.size, 0, none⟩) 0 0) []) := ⟨_, 0, 0, 0, rfl, fun h => absurd h (by simp), fun i hi => absurd hi (by simp), Nat.le_refl _, fun h => absurd h (by simp)⟩
  clear hB1 ho1 hst HTu hB01 hW0
  go_wp2
  go_loopw [5, 7] (fun v iv wl => ∃ k : Nat, k ≤ ss.length ∧ iv = .int .i64 k ∧ Hid (Mk.LieB wl w.heap.size v ((ss.take k).foldl (diff1 fs) [])) ∧ Hid (Below w1.heap.size w1 wl)) (fun _ iv _ => ss.length - (RowKit.intOf iv).toNat)
  case atStart => exact ⟨0, Nat.zero_le _, rfl, hL0, Below.refl _ _⟩
  case round =>
    obtain ⟨k, hk, rfl, HL, HB⟩ := hrel
    by_cases hlt : k < ss.length
    · obtain rfl := has (by omega)
      have HBw := hidE (belowT HB1.out HB.out)
      have s0 := (HS1.out.below HB.out) k hlt
      have hps := HPa.out ss[k] (List.getElem_mem _)
      have hsz : ss[k].size ≤ 12 := path_sizeD hps
      have hfl := diff_len fs (ss.take k) (fun s hs => HPa.out s (List.mem_of_mem_take hs))
      rw [List.length_take] at hfl
      have HK := hidE (fold1_succ (to := fs) hlt)
      obtain ⟨pre, hpre⟩ : ∃ pre, (ss.take k).foldl (diff1 fs) [] = pre := ⟨_, rfl⟩
      rw [hpre] at HL HK hfl
      clear hpre
      have HSs := hidE (fun (W' : World) (h : Below wr.heap.size wr W') => ((HS1.out.below HB.out).below h) k hlt)
      obtain ⟨s, hs⟩ : ∃ s, ss[k] = s := ⟨_, rfl⟩
      rw [hs] at s0 hps hsz HK HSs
      clear hs
      obtain ⟨a5, g5, o5, cap5, rfl, ha5, hE5, hcap5, hgb5⟩ := HL.out
      have HGe := hidE (l2Get_any wr a' g' o' cap' fs s (by omega) ha' (HF.out _ HBw.out))
      have hbr := HBw.out.size
      have HPu := hidE (fun (W' : World) (h : Below wr.heap.size wr W') (d : Int) (x : ByteArray) => Mk.l3Put_any W' a5 g5 o5 cap5 pre s d x (by omega) hcap5 ha5 (hE5.below h))
      have HUs := hidE (fun (W' : World) (v : Value) (e : Mk.E) (hb : w.heap.size ≤ W'.heap.size) (hL : Mk.LieB W' w.heap.size v (Mk.putE pre e)) => l3UpsG_any (s.size + 1) W' w.heap.size v (Mk.putE pre e) s (Nat.lt_succ_self _) hps (by omega) (by have := Mk.put_len pre e; omega) hb hL)
      have HL5 : Hid (Mk.LieB wr w.heap.size (.slice a5 pre.length cap5) pre) := ⟨a5, g5, o5, cap5, rfl, ha5, hE5, hcap5, hgb5⟩
      clear hE5 ha5 hgb5 HL
      cases hlk : lookE fs s with
      | some f =>
        have hkp : kept fs s = true := by unfold kept; rw [hlk]; rfl
        have hdm : dm fs s = ⟨s, if f.d = true then 2 else 1, f.x⟩ := by unfold dm; rw [hlk]
        rw [get_yes hps hlk] at HGe
        obtain ⟨fp, fd, fx⟩ := f
        have HK2 : Hid ((ss.take (k + 1)).foldl (diff1 fs) [] = upsM (s.size + 1) (Mk.putE pre ⟨s, if fd = true then 2 else 1, fx⟩) s) := by show _ = _; rw [HK.out]; unfold diff1; rw [if_pos hkp, hdm]
        clear HK hkp hdm hlk
        go_wp2_with (first | (go_at_call 59; refine HGe.out.mono ?_; rintro e w2 ⟨rfl, hB2⟩; have s2 := HSs.out _ (belowA hB2 (.cells #[.string fp, .bool fd, .string fx] 72)); have s3 := HSs.out _ (belowA (belowA hB2 (.cells #[.string fp, .bool fd, .string fx] 72)) (.cells #[.string s, .int .i64 3, .string ⟨#[]⟩] 74))) | fail)
        go_region
        have hB4 : Below wr.heap.size wr ((w2.alloc (.cells #[.string fp, .bool fd, .string fx] 72)).alloc (.cells #[.string s, .int .i64 1, .string fx] 74)).drew := (belowA (belowA hB2 _) _).drew
        have BM0 := Mk.Box3.new (w2.alloc (.cells #[.string fp, .bool fd, .string fx] 72)) (.string s) (.int .i64 1) (.string fx) 74
        rw [World.size_alloc] at BM0
        have BM1 : Mk.Box3 ((w2.alloc (.cells #[.string fp, .bool fd, .string fx] 72)).alloc (.cells #[.string s, .int .i64 1, .string fx] 74)).drew (w2.heap.size + 1) (.string s) (.int .i64 1) (.string fx) := ⟨BM0.c0, BM0.c1, BM0.c2, BM0.f0, BM0.f1, BM0.f2⟩
        have e1 : ((w2.alloc (.cells #[.string fp, .bool fd, .string fx] 72)).alloc (.cells #[.string s, .int .i64 1, .string fx] 74)).drew.cell? ⟨w2.heap.size, 1, none⟩ = some (.bool fd) := by simp
        obtain ⟨W4, hW4⟩ : ∃ W4, W4 = ((w2.alloc (.cells #[.string fp, .bool fd, .string fx] 72)).alloc (.cells #[.string s, .int .i64 1, .string fx] 74)).drew := ⟨_, rfl⟩
        rw [← hW4] at hB4 BM1 e1 ⊢
        have HBW4 := hidE hB4
        clear hW4 BM0 s2 s3 s0 hB4
        cases fd with
        | true =>
          rw [if_pos rfl] at HK2
          have BM := put1B BM1 (.int .i64 2)
          have hBs : Below wr.heap.size wr (W4.setCell ⟨w2.heap.size + 1, 1, none⟩ (.int .i64 2)) := HBW4.out.setCell (p := ⟨w2.heap.size + 1, 1, none⟩) (by have := hB2.size; show _ ≤ w2.heap.size + 1; omega) _
          obtain ⟨c0, c1, c2, f0, f1, f2⟩ := BM1
          go_wp2
          obtain ⟨W5, hW5⟩ : ∃ W5, W5 = W4.setCell ⟨w2.heap.size + 1, 1, none⟩ (.int .i64 2) := ⟨_, rfl⟩
          rw [← hW5] at hBs BM ⊢
          have HBW5 := hidE hBs
          clear hW5 hBs c0 c1 c2 f0 f1 f2 e1
          have AS := hidE (fun (W' : World) (hW : Below W5.heap.size W5 W') => (show W'.cell? ⟨w2.heap.size + 1, 0, none⟩ = some (.string s) ∧ W'.cell? ⟨w2.heap.size + 1, 1, none⟩ = some (.int .i64 2) ∧ W'.cell? ⟨w2.heap.size + 1, 2, none⟩ = some (.string fx) ∧ W'.cell? ⟨gs, k, none⟩ = some (.string s) from ⟨(BM.below hW).c0, (BM.below hW).c1, (BM.below hW).c2, HSs.out _ (belowT HBW5.out hW)⟩))
          go_region_held3 (fun W' => W'.cell? ⟨w2.heap.size + 1, 0, none⟩ = some (.string s) ∧ W'.cell? ⟨w2.heap.size + 1, 1, none⟩ = some (.int .i64 2) ∧ W'.cell? ⟨w2.heap.size + 1, 2, none⟩ = some (.string fx) ∧ W'.cell? ⟨gs, k, none⟩ = some (.string s))
            ((refine AS.out _ ?_; repeat (first | exact Below.refl _ _ | refine belowT ?_ hB7 | refine belowT ?_ hB6 | apply Below.drew)))
            (first
              | (go_at_call 63; refine (HPu.out _ (belowT HBW5.out (by repeat (first | exact Below.refl _ _ | apply Below.drew))) 2 fx).mono ?_; rintro e w6 ⟨v6, rfl, ho6, hB6⟩)
              | (go_at_call 62; refine (HUs.out _ _ ⟨s, 2, fx⟩ (Nat.le_trans hbr (belowT (belowT HBW5.out (by repeat (first | exact Below.refl _ _ | apply Below.drew))) hB6).size) (ho6.lieB.lower (Nat.le_trans hbr (Below.size (belowT HBW5.out (by repeat (first | exact Below.refl _ _ | apply Below.drew))))))).mono ?_; rintro e w7 ⟨v7, rfl, hL7, hB7⟩))
          all_goals
            have hB67 : Below W5.heap.size W5 w7 := by repeat (first | exact Below.refl _ _ | refine belowT ?_ hB7 | refine belowT ?_ hB6 | apply Below.drew)
            go_wp2
            go_roundw
            case rel => exact ⟨k + 1, by omega, by go_num, by rw [HK2.out]; exact hL7, belowT HB.out (belowT HBW5.out hB67)⟩
            case measure => simp [RowKit.intOf]; omega
        | false =>
          rw [if_neg (by decide)] at HK2
          have BM := BM1
          have HBM := hidE BM1
          clear BM1
          go_wp2
          have AS := hidE (fun (W' : World) (hW : Below W4.heap.size W4 W') => (show W'.cell? ⟨w2.heap.size + 1, 0, none⟩ = some (.string s) ∧ W'.cell? ⟨w2.heap.size + 1, 1, none⟩ = some (.int .i64 1) ∧ W'.cell? ⟨w2.heap.size + 1, 2, none⟩ = some (.string fx) ∧ W'.cell? ⟨gs, k, none⟩ = some (.string s) from ⟨(BM.below hW).c0, (BM.below hW).c1, (BM.below hW).c2, HSs.out _ (belowT HBW4.out hW)⟩))
          go_region_held3 (fun W' => W'.cell? ⟨w2.heap.size + 1, 0, none⟩ = some (.string s) ∧ W'.cell? ⟨w2.heap.size + 1, 1, none⟩ = some (.int .i64 1) ∧ W'.cell? ⟨w2.heap.size + 1, 2, none⟩ = some (.string fx) ∧ W'.cell? ⟨gs, k, none⟩ = some (.string s))
            ((refine AS.out _ ?_; repeat (first | exact Below.refl _ _ | refine belowT ?_ hB7 | refine belowT ?_ hB6 | apply Below.drew)))
            (first
              | (go_at_call 63; refine (HPu.out _ (belowT HBW4.out (by repeat (first | exact Below.refl _ _ | apply Below.drew))) 1 fx).mono ?_; rintro e w6 ⟨v6, rfl, ho6, hB6⟩)
              | (go_at_call 62; refine (HUs.out _ _ ⟨s, 1, fx⟩ (Nat.le_trans hbr (belowT (belowT HBW4.out (by repeat (first | exact Below.refl _ _ | apply Below.drew))) hB6).size) (ho6.lieB.lower (Nat.le_trans hbr (Below.size (belowT HBW4.out (by repeat (first | exact Below.refl _ _ | apply Below.drew))))))).mono ?_; rintro e w7 ⟨v7, rfl, hL7, hB7⟩))
          all_goals
            have hB67 : Below W4.heap.size W4 w7 := by repeat (first | exact Below.refl _ _ | refine belowT ?_ hB7 | refine belowT ?_ hB6 | apply Below.drew)
            go_wp2
            go_roundw
            case rel => exact ⟨k + 1, by omega, by go_num, by rw [HK2.out]; exact hL7, belowT HB.out (belowT HBW4.out hB67)⟩
            case measure => simp [RowKit.intOf]; omega
      | none =>
        have hdir : kept fs s = dirE fs (upS s) := by unfold kept; rw [hlk]; rfl
        have hdm : dm fs s = ⟨s, 3, ⟨#[]⟩⟩ := by unfold dm; rw [hlk]
        rw [get_no hps hlk] at HGe
        obtain ⟨ne, hne⟩ : ∃ ne, noneE = ne := ⟨_, rfl⟩
        rw [hne] at HGe
        obtain ⟨np, nd, nx⟩ := ne
        have HDr := hidE (fun (W' : World) (h : Below wr.heap.size wr W') => l2Dir_any W' a' g' o' cap' fs (upS s) (by omega) ha' (HF.out _ (belowT HBw.out h)))
        have HUp := hidE (fun (W' : World) => sPathUp_any s (by omega) W')
        clear hne hlk
        have fine : Hid (∀ W', Below wr.heap.size wr W' → W'.cell? ⟨gs, k, none⟩ = some (.string s)) := fun W' h => HSs.out W' h
        cases hdr : dirE fs (upS s) with
        | true =>
          rw [hdr] at hdir HDr
          have HK2 : Hid ((ss.take (k + 1)).foldl (diff1 fs) [] = upsM (s.size + 1) (Mk.putE pre ⟨s, 3, ⟨#[]⟩⟩) s) := by show _ = _; rw [HK.out]; unfold diff1; rw [if_pos hdir, hdm]
          clear HK hdir hdm hdr
          go_wp2_with (first
            | (go_at_call 59; refine HGe.out.mono ?_; rintro e w2 ⟨rfl, hB2⟩; have s2 := HSs.out _ (belowA hB2 (.cells #[.string np, .bool nd, .string nx] 72)); have s3 := HSs.out _ (belowA (belowA hB2 (.cells #[.string np, .bool nd, .string nx] 72)) (.cells #[.string s, .int .i64 3, .string ⟨#[]⟩] 74)))
            | (go_at_call 61; refine (HUp.out _).mono ?_; rintro e w3 ⟨rfl, hB3⟩)
            | (go_at_call 60; refine (HDr.out _ (belowT (belowA (belowA hB2 _) _) hB3)).mono ?_; rintro e w8 ⟨rfl, hw8⟩; rw [hw8]; clear hw8)
            | fail)
          have BM0 := Mk.Box3.new (w2.alloc (.cells #[.string np, .bool nd, .string nx] 72)) (.string s) (.int .i64 3) (.string ⟨#[]⟩) 74
          rw [World.size_alloc] at BM0
          have BM := BM0.below hB3
          have HBw3 := hidE (belowT (belowA (belowA hB2 _) _) hB3)
          clear BM0 s2 s3 s0
          have AS := hidE (fun (W' : World) (hW : Below w3.heap.size w3 W') => (show W'.cell? ⟨w2.heap.size + 1, 0, none⟩ = some (.string s) ∧ W'.cell? ⟨w2.heap.size + 1, 1, none⟩ = some (.int .i64 3) ∧ W'.cell? ⟨w2.heap.size + 1, 2, none⟩ = some (.string ⟨#[]⟩) ∧ W'.cell? ⟨gs, k, none⟩ = some (.string s) from ⟨(BM.below hW).c0, (BM.below hW).c1, (BM.below hW).c2, HSs.out _ (belowT HBw3.out hW)⟩))
          go_region_held3 (fun W' => W'.cell? ⟨w2.heap.size + 1, 0, none⟩ = some (.string s) ∧ W'.cell? ⟨w2.heap.size + 1, 1, none⟩ = some (.int .i64 3) ∧ W'.cell? ⟨w2.heap.size + 1, 2, none⟩ = some (.string ⟨#[]⟩) ∧ W'.cell? ⟨gs, k, none⟩ = some (.string s))
            ((refine AS.out _ ?_; repeat (first | exact Below.refl _ _ | refine belowT ?_ hB7 | refine belowT ?_ hB6 | apply Below.drew)))
            (first
              | (go_at_call 63; refine (HPu.out _ (belowT HBw3.out (by repeat (first | exact Below.refl _ _ | apply Below.drew))) 3 ⟨#[]⟩).mono ?_; rintro e w6 ⟨v6, rfl, ho6, hB6⟩)
              | (go_at_call 62; refine (HUs.out _ _ ⟨s, 3, ⟨#[]⟩⟩ (Nat.le_trans hbr (belowT (belowT HBw3.out (by repeat (first | exact Below.refl _ _ | apply Below.drew))) hB6).size) (ho6.lieB.lower (Nat.le_trans hbr (Below.size (belowT HBw3.out (by repeat (first | exact Below.refl _ _ | apply Below.drew))))))).mono ?_; rintro e w7 ⟨v7, rfl, hL7, hB7⟩))
          all_goals
            have hB67 : Below w3.heap.size w3 w7 := by repeat (first | exact Below.refl _ _ | refine belowT ?_ hB7 | refine belowT ?_ hB6 | apply Below.drew)
            go_wp2
            go_roundw
            case rel => exact ⟨k + 1, by omega, by go_num, by rw [HK2.out]; exact hL7, belowT HB.out (belowT HBw3.out hB67)⟩
            case measure => simp [RowKit.intOf]; omega
        | false =>
          rw [hdr] at hdir HDr
          have HK2 : Hid ((ss.take (k + 1)).foldl (diff1 fs) [] = pre) := by show _ = _; rw [HK.out]; unfold diff1; rw [if_neg (by rw [hdir]; decide)]
          have HLp := hidE (show Mk.LieB wr w.heap.size (.slice a5 pre.length cap5) pre from HL5.out)
          clear HK hdir hdm hdr
          go_wp2_with (first
            | (go_at_call 59; refine HGe.out.mono ?_; rintro e w2 ⟨rfl, hB2⟩; have s2 := HSs.out _ (belowA hB2 (.cells #[.string np, .bool nd, .string nx] 72)); have s3 := HSs.out _ (belowA (belowA hB2 (.cells #[.string np, .bool nd, .string nx] 72)) (.cells #[.string s, .int .i64 3, .string ⟨#[]⟩] 74)))
            | (go_at_call 61; refine (HUp.out _).mono ?_; rintro e w3 ⟨rfl, hB3⟩)
            | (go_at_call 60; refine (HDr.out _ (belowT (belowA (belowA hB2 _) _) hB3)).mono ?_; rintro e w8 ⟨rfl, hw8⟩; rw [hw8]; clear hw8)
            | fail)
          have hBf := belowT (belowA (belowA hB2 (.cells #[.string np, .bool nd, .string nx] 72)) (.cells #[.string s, .int .i64 3, .string ⟨#[]⟩] 74)) hB3
          go_roundw
          case rel => exact ⟨k + 1, by omega, by go_num, by rw [HK2.out]; exact HLp.out.below hBf, belowT HB.out hBf⟩
          case measure => simp [RowKit.intOf]; omega
    · go_wp2
      go_ret
      rw [List.take_of_length_le (by omega)] at HL
      exact ⟨_, rfl, HL.out, belowT HB1.out HB.out⟩

end Go.Proofs.YteppodogghjfhabGreatDoor.Ly
