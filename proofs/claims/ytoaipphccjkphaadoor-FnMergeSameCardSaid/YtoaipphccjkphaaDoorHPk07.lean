import Derived.Test.YtoaipphccjkphaaDoorHFresh
import Derived.Test.YtoaipphccjkphaaDoorHPk06
namespace Go.Proofs.YtoaipphccjkphaaDoor
open Go.RowKit Go.Shelf Go.Lib
attribute [local go_sem] Oper.semAt_some
theorem newDir_any (w : World) :
  Calls Tryd.prog 54 #[] w fun e w' => e = .returned (.agg #[.bool true, .string ⟨#[]⟩, .map (some (w.heap.size + 1))]) ∧ MapIs w' (w.heap.size + 1) 0 (fun _ => none) ∧ Below w.heap.size w w' := by
 have hmm := @run_makeMap Tryd.prog; go_enter Tryd.func54, Tryd.ntmps54
 go_wp2
 refine bodyPost_ret (v := .agg #[.bool true, .string ⟨#[]⟩, .map (some (w.heap.size + 1))]) (by simp [results, Tryd.results54, go_sem]) rfl ⟨rfl, ?_, ?_⟩
 ·
  have := MapIs.made (w.alloc (.cells #[.bool true, .string ⟨#[]⟩, .map (some (w.heap.size + 1))] 62))
  rwa [World.size_alloc] at this
 ·
  exact ((Below.refl _ w).alloc (Nat.le_refl _) _).alloc (by simp) _
theorem bcellN {W w1 : World} (hb : Below W.heap.size W w1) : (∀ b o, b < W.heap.size → w1.cell? ⟨b, o, none⟩ = W.cell? ⟨b, o, none⟩) ∧ (∀ b o, b < W.heap.size → w1.frozen? ⟨b, o, none⟩ = W.frozen? ⟨b, o, none⟩) :=
 ⟨fun b o h => hb.cell (p := ⟨b, o, none⟩) h, fun b o h => hb.frozen (p := ⟨b, o, none⟩) h⟩
abbrev set3 (W : World) (b : Nat) (u v x : Value) : World := ((W.setCell ⟨b, 0, none⟩ u).setCell ⟨b, 1, none⟩ v).setCell ⟨b, 2, none⟩ x
theorem set3_cells {W : World} {b : Nat} {p q r : Value} (h0 : W.cell? ⟨b, 0, none⟩ = some p) (h1 : W.cell? ⟨b, 1, none⟩ = some q) (h2 : W.cell? ⟨b, 2, none⟩ = some r) (u v x : Value) :
  (set3 W b u v x).cell? ⟨b, 0, none⟩ = some u ∧ (set3 W b u v x).cell? ⟨b, 1, none⟩ = some v ∧ (set3 W b u v x).cell? ⟨b, 2, none⟩ = some x := by
 have n01 : ∀ (W : World) (u : Value), (W.setCell ⟨b, 1, none⟩ u).cell? ⟨b, 0, none⟩ = W.cell? ⟨b, 0, none⟩ := fun W u => World.cell?_setCell_other _ _ _ _ (by simp); have n02 : ∀ (W : World) (u : Value), (W.setCell ⟨b, 2, none⟩ u).cell? ⟨b, 0, none⟩ = W.cell? ⟨b, 0, none⟩ := fun W u => World.cell?_setCell_other _ _ _ _ (by simp); have n12 : ∀ (W : World) (u : Value), (W.setCell ⟨b, 2, none⟩ u).cell? ⟨b, 1, none⟩ = W.cell? ⟨b, 1, none⟩ := fun W u => World.cell?_setCell_other _ _ _ _ (by simp); have n10 : ∀ (W : World) (u : Value), (W.setCell ⟨b, 0, none⟩ u).cell? ⟨b, 1, none⟩ = W.cell? ⟨b, 1, none⟩ := fun W u => World.cell?_setCell_other _ _ _ _ (by simp); have n20 : ∀ (W : World) (u : Value), (W.setCell ⟨b, 0, none⟩ u).cell? ⟨b, 2, none⟩ = W.cell? ⟨b, 2, none⟩ := fun W u => World.cell?_setCell_other _ _ _ _ (by simp); have n21 : ∀ (W : World) (u : Value), (W.setCell ⟨b, 1, none⟩ u).cell? ⟨b, 2, none⟩ = W.cell? ⟨b, 2, none⟩ := fun W u => World.cell?_setCell_other _ _ _ _ (by simp); refine ⟨?_, ?_, ?_⟩
 ·
  rw [n02, n01]; exact World.cell?_setCell_same' _ _ _ (by rw [h0]; rfl)
 ·
  rw [n12]; exact World.cell?_setCell_same' _ _ _ (by rw [n10, h1]; rfl)
 ·
  exact World.cell?_setCell_same' _ _ _ (by rw [n21, n20, h2]; rfl)
theorem set3_below {W w : World} {b n : Nat} (h : Below n w W) (hb : n ≤ b) (u v x : Value) : Below n w (set3 W b u v x) :=
 ((h.setCell (p := ⟨b, 0, none⟩) hb u).setCell (p := ⟨b, 1, none⟩) hb v).setCell (p := ⟨b, 2, none⟩) hb x
theorem atSet3 {W w : World} {n b : Nat} {p q r u v x : Value} {C : World → Prop} (h0 : W.cell? ⟨b, 0, none⟩ = some p) (h1 : W.cell? ⟨b, 1, none⟩ = some q) (h2 : W.cell? ⟨b, 2, none⟩ = some r) (hB : Below n w W) (hb : n ≤ b)
  (k : ∀ Wf, Wf.cell? ⟨b, 0, none⟩ = some u → Wf.cell? ⟨b, 1, none⟩ = some v → Wf.cell? ⟨b, 2, none⟩ = some x → Below n w Wf → C Wf) : C (set3 W b u v x) := by
 obtain ⟨s0, s1, s2⟩ := set3_cells h0 h1 h2 u v x; exact k _ s0 s1 s2 (set3_below hB hb u v x)
theorem set3_keeps (W : World) (b : Nat) (u v x : Value) : KeepsOthers W (set3 W b u v x) :=
 ((KeepsOthers.setCell _ _ _).trans (KeepsOthers.setCell _ _ _)).trans (KeepsOthers.setCell _ _ _)
theorem set3_kpt (W : World) (b : Nat) (u v x : Value) (Bn : Nat) (h : b ≠ Bn) : Kpt Bn W (set3 W b u v x) :=
 ((kpt_setCell W ⟨b, 0, none⟩ u Bn h).t (kpt_setCell _ ⟨b, 1, none⟩ v Bn h)).t (kpt_setCell _ ⟨b, 2, none⟩ x Bn h)
theorem set3_other (W : World) (b : Nat) (u v x : Value) (c o : Nat) (h : c ≠ b) : (set3 W b u v x).cell? ⟨c, o, none⟩ = W.cell? ⟨c, o, none⟩ := by
 show (((W.setCell _ _).setCell _ _).setCell _ _).cell? _ = _
 rw [cell_other _ _ _ _ _ h, cell_other _ _ _ _ _ h, cell_other _ _ _ _ _ h]
def Stands (es : List E) (xs : List (Int × ByteArray)) (e : E) : Prop := (xs = [] ∧ e = rootE) ∨ (xs ≠ [] ∧ lookE es (chain xs) = some e)
def atE (es : List E) (A : ByteArray → Nat) (s : ByteArray) : Value × Bool :=
 if isRoot s = true then (treeV A, true) else match lookE es s with
 | some e => (nodeV e (A s), true)
 | none => (zeroN, false)
set_option maxHeartbeats 1000000 in
set_option maxRecDepth 100000 in
theorem at_any (w : World) (base N : Nat) (es : List E) (A : ByteArray → Nat) (T : TrE es) (R : Rep w base N es A) (s : ByteArray) (hs : s.size ≤ 4611686018427387904) :
  Calls Tryd.prog 32 #[treeV A, .string s] w fun e w' => e = .returned (.tuple #[(atE es A s).1, .bool (atE es A s).2]) ∧ Below w.heap.size w w' := by
 cases hr : (s.toList == [47]) with
 | true =>
  have e : atE es A s = (treeV A, true) := by unfold atE isRoot; rw [hr]; rfl
  rw [e]; go_enter Tryd.func32, Tryd.ntmps32
  go_wp2
  exact bodyPost_ret (v := .tuple #[treeV A, .bool true]) (by simp [results, Tryd.results32, go_sem]) rfl ⟨rfl, ((Below.refl _ w).alloc (Nat.le_refl _) _).alloc (by simp) _⟩
 | false =>
  cases hp : pathB s with
  | false =>
   have e : atE es A s = (zeroN, false) := by unfold atE isRoot; rw [hr, look_bad T hp]; rfl
   rw [e]; go_enter Tryd.func32, Tryd.ntmps32
   have HO := hid (fun W => hp ▸ ok_any s hs W); go_wp2_with (go_at_call 56; refine (HO.out _).mono ?_; rintro e w1 ⟨rfl, hB1⟩; obtain ⟨bc, bf⟩ := bcellN hB1)
   have k0 := bc (w.heap.size + 1) 0 (by simp); have k1 := bc (w.heap.size + 1) 1 (by simp); have k2 := bc (w.heap.size + 1) 2 (by simp); simp at k0 k1 k2; obtain ⟨s0, s1, s2⟩ := set3_cells k0 k1 k2 (.bool false) (.string ⟨#[]⟩) (.map none); have hBw : Below w.heap.size w w1 := (((Below.refl _ w).alloc (Nat.le_refl _) _).alloc (by simp) _).trans (hB1.mono (by simp; omega)); exact bodyPost_ret (v := .tuple #[zeroN, .bool false]) (by simp [results, Tryd.results32, go_sem, s0, s1, s2]) rfl ⟨rfl, set3_below hBw (by omega) _ _ _⟩
  | true =>
   refine (callsIn_wide (n := 3)).1 ?_; refine callsIn_of_wp_marks Tryd.func32 rfl trivial ?_ rfl; simp only [Tryd.ntmps32, List.size_toArray, List.length_cons, List.length_nil, Nat.reduceAdd, Nat.reduceSub, Array.replicate_succ, Array.replicate_zero, List.push_toArray, List.append_toArray, List.nil_append, List.cons_append]; have HO := hid (fun W => hp ▸ ok_any s hs W)
   gi_wp2_with (first | (refine ⟨trivial, ?_⟩; gi_at_call 57; refine (names_in Fence.wide _ trivial rfl _ _).mono ?_; rintro e w' ⟨rfl, rfl⟩) | (refine ⟨trivial, ?_⟩; gi_at_call 56; refine (callsIn_wide.2 (HO.out _)).mono ?_; rintro e w1 ⟨rfl, hB1⟩; obtain ⟨bc, bf⟩ := bcellN hB1))
   have k0 := bc (w.heap.size + 1) 0 (by simp); have k1 := bc (w.heap.size + 1) 1 (by simp); have k2 := bc (w.heap.size + 1) 2 (by simp); have kf0 := bf (w.heap.size + 1) 0 (by simp); have kf1 := bf (w.heap.size + 1) 1 (by simp); have kf2 := bf (w.heap.size + 1) 2 (by simp); simp at k0 k1 k2 kf0 kf1 kf2; have hBw : Below w.heap.size w w1 := (((Below.refl _ w).alloc (Nat.le_refl _) _).alloc (by simp) _).trans (hB1.mono (by simp; omega)); have hlt : w.heap.size + 1 < w1.heap.size := by have := hB1.size; simp at this; omega
   clear bc bf; have c2 := cellNew ((w1.alloc (.cells #[.bool true, .string ⟨#[]⟩, .map (some (A ⟨#[47]⟩))] 62)).alloc (.cells #[.bool true] 4)) (.string s) 95; simp only [World.size_alloc] at c2; have hBx : Below w1.heap.size w1 (((w1.alloc (.cells #[.bool true, .string ⟨#[]⟩, .map (some (A ⟨#[47]⟩))] 62)).alloc (.cells #[.bool true] 4)).alloc (.cells #[.string s] 95)) := (((Below.refl _ w1).alloc (Nat.le_refl _) _).alloc (by simp) _).alloc (by simp; omega) _; have p0 : (w1.alloc (.cells #[.bool true, .string ⟨#[]⟩, .map (some (A ⟨#[47]⟩))] 62)).cell? ⟨w1.heap.size, 0, none⟩ = some (.bool true) := by simp
   have p1 : (w1.alloc (.cells #[.bool true, .string ⟨#[]⟩, .map (some (A ⟨#[47]⟩))] 62)).cell? ⟨w1.heap.size, 1, none⟩ = some (.string ⟨#[]⟩) := by simp
   have p2 : (w1.alloc (.cells #[.bool true, .string ⟨#[]⟩, .map (some (A ⟨#[47]⟩))] 62)).cell? ⟨w1.heap.size, 2, none⟩ = some (.map (some (A ⟨#[47]⟩))) := by simp
   have p3 := cellNew (w1.alloc (.cells #[.bool true, .string ⟨#[]⟩, .map (some (A ⟨#[47]⟩))] 62)) (.bool true) 4; have q3 := frozenNew (w1.alloc (.cells #[.bool true, .string ⟨#[]⟩, .map (some (A ⟨#[47]⟩))] 62)) (.bool true) 4; simp only [World.size_alloc] at p3 q3
   refine wpIn_rangeFunc_ownF rfl (by omega) (gf := 74) (lb := #[.pointer (some ⟨w1.heap.size + 1 + 1, 0, none⟩)]) rfl trivial (enters_of Tryd.func74 (by kernel_rfl) rfl)
    (names_stopsI Fence.wide _ trivial rfl (by omega) (w1.heap.size + 1 + 1) s hs _ (by simp) c2) Kpt.t Kpt.b (Below.refl _ _) (fun _ => rfl)
    (fun pre W => (∃ e : E, Hid (Stands es (pre.map Subtype.val) e) ∧ W.cell? ⟨w1.heap.size, 0, none⟩ = some (.bool e.d) ∧ W.frozen? ⟨w1.heap.size, 0, none⟩ = false ∧ W.cell? ⟨w1.heap.size, 1, none⟩ = some (.string e.x) ∧ W.frozen? ⟨w1.heap.size, 1, none⟩ = false ∧
     W.cell? ⟨w1.heap.size, 2, none⟩ = some (.map (optV e.d (A (chain (pre.map Subtype.val))))) ∧ W.frozen? ⟨w1.heap.size, 2, none⟩ = false ∧ W.cell? ⟨w1.heap.size + 1, 0, none⟩ = some (.bool true) ∧ W.frozen? ⟨w1.heap.size + 1, 0, none⟩ = false) ∧ Below w1.heap.size w1 W)
    (fun c pre W => (c = .exit 0 ∧ Hid (lookE es (chain (pre.map Subtype.val)) = none ∧ pre ≠ []) ∧ W.cell? ⟨w1.heap.size, 0, none⟩ = some (.bool false) ∧ W.cell? ⟨w1.heap.size, 1, none⟩ = some (.string ⟨#[]⟩) ∧ W.cell? ⟨w1.heap.size, 2, none⟩ = some (.map none) ∧ W.cell? ⟨w1.heap.size + 1, 0, none⟩ = some (.bool false)) ∧ Below w1.heap.size w1 W)
    (OwnFrom.and (Own.from (fun s A B row hs hg hr => by
     obtain ⟨e, h1, h2, h3, h4, h5, h6, h7, h8, h9⟩ := hs
     exact ⟨e, h1, cell_kept h2 hg hr, (frozen_kept h2 hg hr).trans h3, cell_kept h4 hg hr, (frozen_kept h4 hg hr).trans h5, cell_kept h6 hg hr, (frozen_kept h6 hg hr).trans h7, cell_kept h8 hg hr, (frozen_kept h8 hg hr).trans h9⟩) _) (ownFrom_below (Nat.le_refl _) (by simp; omega)))
    (fun c => OwnFrom.and (Own.from (fun s A B row hs hg hr => ⟨hs.1, hs.2.1, cell_kept hs.2.2.1 hg hr, cell_kept hs.2.2.2.1 hg hr, cell_kept hs.2.2.2.2.1 hg hr, cell_kept hs.2.2.2.2.2 hg hr⟩) _) (ownFrom_below (Nat.le_refl _) (by simp; omega)))
    ⟨⟨rootE, .inl ⟨rfl, rfl⟩, cellOn _ (cellOn _ p0), frozenOn _ (cellOn _ p0) (frozenOn _ p0 (by simp)), cellOn _ (cellOn _ p1), frozenOn _ (cellOn _ p1) (frozenOn _ p1 (by simp)), cellOn _ (cellOn _ p2), frozenOn _ (cellOn _ p2) (frozenOn _ p2 (by simp)), cellOn _ p3, frozenOn _ p3 q3⟩, hBx⟩
    (fun x => { tmps := #[treeV A, .string s, .pointer (some ⟨w.heap.size, 0, none⟩), undef, .pointer (some ⟨w.heap.size + 1, 0, none⟩), .bool false, .string s, .pointer (some ⟨w1.heap.size, 0, none⟩), .pointer (some ⟨w1.heap.size + 1, 0, none⟩), undef, .string x.1.2, .string s, .string s, .bool false, undef, undef, .string s, .bool true, .bool false, undef, .pointer (some ⟨w.heap.size, 0, none⟩), treeV A, .string s, .func (.func 74) #[] #[.pointer (some ⟨w1.heap.size + 1 + 1, 0, none⟩)], .int .i64 x.1.1, .string x.1.2, undef, undef, undef, undef, undef, undef, undef, undef, undef, undef, undef], defers := [] }) ?assign ?body ?done ?stop
   case assign =>
    intro l x W K hK
    gi_wp2
    exact hK
   case body =>
    rintro l pre x W ⟨⟨e, HS, d0, g0, d1, g1, d2, g2, d3, g3⟩, hB⟩ _; have hn := item_name hp x.2
    have hnz : x.1.2.size ≤ maxLen := by
     unfold nameB at hn; rw [Bool.and_eq_true] at hn; have := (of_decide_eq_true hn.1).2; unfold maxLen; omega
    have RW := (R.below hBw).below hB
    have hst : stemOk (chain (pre.map Subtype.val)) = true := by
     rcases HS.out with ⟨h1, _⟩ | ⟨_, h2⟩
     ·
      rw [h1]; unfold stemOk; rw [show chain [] = ⟨#[47]⟩ from rfl, root_root]; rfl
     ·
      exact stemOk_path (look_path T h2)
    have hch : chain ((pre ++ [x]).map Subtype.val) = joinI (chain (pre.map Subtype.val)) x.1.2 := by rw [mapSnoc, chain_snoc]
    have miss : lookE es (joinI (chain (pre.map Subtype.val)) x.1.2) = none → (∀ m, W.cell? ⟨w1.heap.size, 2, none⟩ = some m → (Instr.lookup 60 m (.string x.1.2) true).run Tryd.prog W = .ok (.tuple #[zeroN, .bool false]) W) := by
     intro hlk m hm; rw [d2] at hm; obtain rfl := Option.some.inj hm; cases hd : e.d with
     | false => rw [optV_file]; exact look_no W hnz
     | true =>
      have hdir : dirE es (chain (pre.map Subtype.val)) = true := look_dir (HS.out.imp (fun h => by rw [h.1]; rfl) (fun h => ⟨e, h.2, hd⟩)); rw [optV_dir, (RW.kids _ hdir).look hnz]; unfold kidF; rw [hn, if_pos rfl, hlk]; rfl
    cases hlk : lookE es (joinI (chain (pre.map Subtype.val)) x.1.2) with
    | none =>
     have hl := miss hlk _ d2; have HX : Hid (lookE es (chain ((pre ++ [x]).map Subtype.val)) = none ∧ pre ++ [x] ≠ []) := ⟨by rw [hch]; exact hlk, by simp⟩
     obtain ⟨s0, s1, s2⟩ := set3_cells d0 d1 d2 (.bool false) (.string ⟨#[]⟩) (.map none); have s3 := (set3_other W w1.heap.size (.bool false) (.string ⟨#[]⟩) (.map none) (w1.heap.size + 1) 0 (by simp)).trans d3; clear miss hlk hch hst RW
     gi_wp2
     exact ⟨(set3_keeps _ _ _ _ _).trans (KeepsOthers.setCell _ _ _), ⟨rfl, HX, (cell_other _ _ _ _ _ (by simp)).trans s0, (cell_other _ _ _ _ _ (by simp)).trans s1, (cell_other _ _ _ _ _ (by simp)).trans s2, World.cell?_setCell_same' _ _ _ (by rw [s3]; rfl)⟩,
      (set3_below hB (Nat.le_refl _) _ _ _).setCell (p := ⟨w1.heap.size + 1, 0, none⟩) (by simp) _⟩
    | some f =>
     have hdir := look_kid T hst hn hlk
     have hd : e.d = true := by
      rcases HS.out with ⟨_, h2⟩ | ⟨h1, h2⟩
      ·
       rw [h2]; rfl
      ·
       rcases dir_look hdir with h3 | ⟨g, h3, h4⟩
       ·
        rw [h3, look_bad T root_no_path] at h2; cases h2
       ·
        rw [h2] at h3; cases h3; exact h4
     have hl := (RW.kids _ hdir).look hnz
     have hk : kidF es A (chain (pre.map Subtype.val)) x.1.2 = some (nodeV f (A (joinI (chain (pre.map Subtype.val)) x.1.2))) := by
      unfold kidF; rw [hn, if_pos rfl, hlk]; rfl
     rw [hk] at hl; simp only [Option.getD_some, Option.isSome_some, nodeV] at hl; rw [hd, optV_dir] at d2; have HX : Hid (Stands es ((pre ++ [x]).map Subtype.val) f) := .inr ⟨by simp, by rw [hch]; exact hlk⟩; have HC := hid hch; obtain ⟨s0, s1, s2⟩ := set3_cells d0 d1 d2 (.bool f.d) (.string f.x) (.map (optV f.d (A (joinI (chain (pre.map Subtype.val)) x.1.2)))); have s3 := (set3_other W w1.heap.size (.bool f.d) (.string f.x) (.map (optV f.d (A (joinI (chain (pre.map Subtype.val)) x.1.2)))) (w1.heap.size + 1) 0 (by simp)).trans d3; clear miss hlk hch hst RW hdir hk HS hd
     gi_wp2
     have fz : ∀ o c, ((set3 W w1.heap.size (.bool f.d) (.string f.x) (.map (optV f.d (A (joinI (chain (pre.map Subtype.val)) x.1.2))))).setCell ⟨w1.heap.size + 1, 0, none⟩ (.bool true)).frozen? ⟨o, c, none⟩ = W.frozen? ⟨o, c, none⟩ := fun o c => by
      rw [World.frozen?_setCell, World.frozen?_setCell, World.frozen?_setCell, World.frozen?_setCell]
     exact ⟨(set3_keeps _ _ _ _ _).trans (KeepsOthers.setCell _ _ _), (set3_kpt W w1.heap.size _ _ _ (w1.heap.size + 1 + 1) (by omega)).t (kpt_setCell _ ⟨w1.heap.size + 1, 0, none⟩ _ _ (by simp)),
      ⟨f, HX, (cell_other _ _ _ _ _ (by simp)).trans s0, (fz _ _).trans g0, (cell_other _ _ _ _ _ (by simp)).trans s1, (fz _ _).trans g1, by rw [HC.out]; exact (cell_other _ _ _ _ _ (by simp)).trans s2, (fz _ _).trans g2, World.cell?_setCell_same' _ _ _ (by rw [s3]; rfl), (fz _ _).trans g3⟩,
      (set3_below hB (Nat.le_refl _) _ _ _).setCell (p := ⟨w1.heap.size + 1, 0, none⟩) (by simp) _⟩
   case done =>
    rintro D ys W hD hys ⟨⟨e, HS, d0, g0, d1, g1, d2, g2, d3, g3⟩, hB⟩ hK; have m0 := (hB.cell (p := ⟨w.heap.size + 1, 0, none⟩) hlt).trans k0; have m1 := (hB.cell (p := ⟨w.heap.size + 1, 1, none⟩) hlt).trans k1; have m2 := (hB.cell (p := ⟨w.heap.size + 1, 2, none⟩) hlt).trans k2; have f0 := (hB.frozen (p := ⟨w.heap.size + 1, 0, none⟩) hlt).trans kf0; have f1 := (hB.frozen (p := ⟨w.heap.size + 1, 1, none⟩) hlt).trans kf1; have f2 := (hB.frozen (p := ⟨w.heap.size + 1, 2, none⟩) hlt).trans kf2; rw [hys] at d2
    gi_wp2
    gi_region
    gi_wp2
    have hat : atE es A s = (nodeV e (A s), true) := by
     have hse : lookE es s = some e := by
      rcases HS.out with ⟨h1, _⟩ | ⟨_, h2⟩
      ·
       rw [hys] at h1; exact absurd h1 (items_ne s)
      ·
       rw [hys, chain_items hp] at h2; exact h2
     unfold atE isRoot; rw [hr, hse]; rfl
    rw [hat]; rw [chain_items hp]; obtain ⟨s0, s1, s2⟩ := set3_cells m0 m1 m2 (.bool e.d) (.string e.x) (.map (optV e.d (A s))); have hK' : (set3 W (w.heap.size + 1) (.bool e.d) (.string e.x) (.map (optV e.d (A s)))).drew.heap[D]? = some (.deferred (some [])) := (set3_keeps W (w.heap.size + 1) _ _ _).same D _ hK rfl; refine ⟨by simp, .inl ⟨_, _, rfl, run_takeDeferred hK', ?_⟩⟩; have r0 := cell_kept (W := (set3 W (w.heap.size + 1) (.bool e.d) (.string e.x) (.map (optV e.d (A s)))).drew) s0 (grownBy_putObj' _ D (.deferred none)) (fun r e => by cases e; exact ⟨_, hK', rfl⟩); have r1 := cell_kept (W := (set3 W (w.heap.size + 1) (.bool e.d) (.string e.x) (.map (optV e.d (A s)))).drew) s1 (grownBy_putObj' _ D (.deferred none)) (fun r e => by cases e; exact ⟨_, hK', rfl⟩); have r2 := cell_kept (W := (set3 W (w.heap.size + 1) (.bool e.d) (.string e.x) (.map (optV e.d (A s)))).drew) s2 (grownBy_putObj' _ D (.deferred none)) (fun r e => by cases e; exact ⟨_, hK', rfl⟩); have hBW : Below w.heap.size w W := hBw.trans (hB.mono (by omega)); refine ⟨.tuple #[nodeV e (A s), .bool true], ?_, rfl, ((set3_below hBW (by omega) _ _ _).drew).trans (belowK_b (w := w) (Nat.le_refl _) _ D _ _ (by simp at hD; omega) hK' rfl rfl)⟩; simp [results, Tryd.f32, go_sem, r0, r1, r2, nodeV]
   case stop =>
    rintro D c pre W hD hpre ⟨⟨rfl, HX, d0, d1, d2, d3⟩, hB⟩ hK; have m0 := (hB.cell (p := ⟨w.heap.size + 1, 0, none⟩) hlt).trans k0; have m1 := (hB.cell (p := ⟨w.heap.size + 1, 1, none⟩) hlt).trans k1; have m2 := (hB.cell (p := ⟨w.heap.size + 1, 2, none⟩) hlt).trans k2; have f0 := (hB.frozen (p := ⟨w.heap.size + 1, 0, none⟩) hlt).trans kf0; have f1 := (hB.frozen (p := ⟨w.heap.size + 1, 1, none⟩) hlt).trans kf1; have f2 := (hB.frozen (p := ⟨w.heap.size + 1, 2, none⟩) hlt).trans kf2
    gi_wp2
    gi_region
    gi_wp2
    have hat : atE es A s = (zeroN, false) := by
     have hne : pre.map Subtype.val ≠ [] := fun h => HX.out.2 (List.map_eq_nil_iff.1 h); have hse : lookE es s = none := gone_below T (chain_path hp hpre hne) (chain_over hp hpre hne) HX.out.1; unfold atE isRoot; rw [hr, hse]; rfl
    rw [hat]; obtain ⟨s0, s1, s2⟩ := set3_cells m0 m1 m2 (.bool false) (.string ⟨#[]⟩) (.map none); have hK' : (set3 W (w.heap.size + 1) (.bool false) (.string ⟨#[]⟩) (.map none)).drew.heap[D]? = some (.deferred (some [])) := (set3_keeps W (w.heap.size + 1) _ _ _).same D _ hK rfl; refine ⟨by simp, .inl ⟨_, _, rfl, run_takeDeferred hK', ?_⟩⟩; have r0 := cell_kept (W := (set3 W (w.heap.size + 1) (.bool false) (.string ⟨#[]⟩) (.map none)).drew) s0 (grownBy_putObj' _ D (.deferred none)) (fun r e => by cases e; exact ⟨_, hK', rfl⟩); have r1 := cell_kept (W := (set3 W (w.heap.size + 1) (.bool false) (.string ⟨#[]⟩) (.map none)).drew) s1 (grownBy_putObj' _ D (.deferred none)) (fun r e => by cases e; exact ⟨_, hK', rfl⟩); have r2 := cell_kept (W := (set3 W (w.heap.size + 1) (.bool false) (.string ⟨#[]⟩) (.map none)).drew) s2 (grownBy_putObj' _ D (.deferred none)) (fun r e => by cases e; exact ⟨_, hK', rfl⟩); have hBW : Below w.heap.size w W := hBw.trans (hB.mono (by omega)); refine ⟨.tuple #[zeroN, .bool false], ?_, rfl, ((set3_below hBW (by omega) _ _ _).drew).trans (belowK_b (w := w) (Nat.le_refl _) _ D _ _ (by simp at hD; omega) hK' rfl rfl)⟩; simp [results, Tryd.f32, go_sem, r0, r1, r2]
end Go.Proofs.YtoaipphccjkphaaDoor
namespace Go.Proofs.YtoaipphccjkphaaDoor
open Go.RowKit Go.Shelf Go.Lib
attribute [local go_sem] Oper.semAt_some
theorem newFile_any (x : ByteArray) (hx : x.size ≤ 281474976710656) (w : World) :
  Calls Tryd.prog 72 #[.string x] w fun e w' => e = .returned (.agg #[.bool false, .string x, .map none]) ∧ Below w.heap.size w w' := by
 go_enter Tryd.func72, Tryd.ntmps72
 go_wp2_with (first | (go_at_call 58; refine (sClone_any _ _ hx).mono ?_; rintro e w1 ⟨rfl, hB1⟩; obtain ⟨bc, bf⟩ := bcellN hB1) | go_in)
 have k0 := bc w.heap.size 0 (by simp); have k1 := bc w.heap.size 1 (by simp); have k2 := bc w.heap.size 2 (by simp); simp at k0 k1 k2; obtain ⟨s0, s1, s2⟩ := set3_cells k0 k1 k2 (.bool false) (.string x) (.map none); have hBw : Below w.heap.size w w1 := ((Below.refl _ w).alloc (Nat.le_refl _) _).trans (hB1.mono (by simp)); exact bodyPost_ret (v := .agg #[.bool false, .string x, .map none]) (by simp [results, Tryd.results72, go_sem, s0, s1, s2]) rfl ⟨rfl, set3_below hBw (Nat.le_refl _) _ _ _⟩
def dirC (es : List E) (s : ByteArray) : Int := if (getE es s).2 = false then 2 else if (getE es s).1.d = false then 3 else 0
def errV (ae : Int → Addr) (c : Int) : Value := if c = 0 then .nilIface else .iface 132 (.pointer (some (ae c)))
structure Errs2 (w : World) (ae : Int → Addr) : Prop where
 noneC : w.cell? ⟨1, 0, none⟩ = some (.iface 132 (.pointer (some (ae 2))))
 fileC : w.cell? ⟨2, 0, none⟩ = some (.iface 132 (.pointer (some (ae 3))))
theorem Errs2.below {w w' : World} {ae : Int → Addr} (h : Errs2 w ae) (hb : Below w.heap.size w w') : Errs2 w' ae := ⟨below_cell hb h.noneC, below_cell hb h.fileC⟩
theorem boxOn {W w1 : World} (hB : Below W.heap.size W w1) {b : Nat} (hb : b < W.heap.size) {p q r : Value} (h : ∀ j u, #[p, q, r][j]? = some u → W.cell? ⟨b, j, none⟩ = some u ∧ W.frozen? ⟨b, j, none⟩ = false) :
  (w1.cell? ⟨b, 0, none⟩ = some p ∧ w1.cell? ⟨b, 1, none⟩ = some q ∧ w1.cell? ⟨b, 2, none⟩ = some r) ∧
  (∀ o, (w1.alloc o).cell? ⟨b, 0, none⟩ = some p) ∧ (∀ o, (w1.alloc o).cell? ⟨b, 1, none⟩ = some q) ∧ (∀ o, (w1.alloc o).cell? ⟨b, 2, none⟩ = some r) ∧
  (∀ o, (w1.alloc o).frozen? ⟨b, 0, none⟩ = false) ∧ (∀ o, (w1.alloc o).frozen? ⟨b, 1, none⟩ = false) ∧ (∀ o, (w1.alloc o).frozen? ⟨b, 2, none⟩ = false) := by
 have c0 := (hB.cell (p := ⟨b, 0, none⟩) hb).trans (h 0 p rfl).1; have c1 := (hB.cell (p := ⟨b, 1, none⟩) hb).trans (h 1 q rfl).1; have c2 := (hB.cell (p := ⟨b, 2, none⟩) hb).trans (h 2 r rfl).1; have f0 := (hB.frozen (p := ⟨b, 0, none⟩) hb).trans (h 0 p rfl).2; have f1 := (hB.frozen (p := ⟨b, 1, none⟩) hb).trans (h 1 q rfl).2; have f2 := (hB.frozen (p := ⟨b, 2, none⟩) hb).trans (h 2 r rfl).2; exact ⟨⟨c0, c1, c2⟩, fun o => cellOn o c0, fun o => cellOn o c1, fun o => cellOn o c2, fun o => frozenOn o c0 f0, fun o => frozenOn o c1 f1, fun o => frozenOn o c2 f2⟩
theorem box3one (w : World) (T : TypeId) (p q r : Value) : ∀ j u, #[p, q, r][j]? = some u → (w.alloc (.cells #[p, q, r] T)).cell? ⟨w.heap.size, j, none⟩ = some u ∧ (w.alloc (.cells #[p, q, r] T)).frozen? ⟨w.heap.size, j, none⟩ = false := by
 intro j u
 match j with
 | 0 => simp
 | 1 => simp
 | 2 => simp
 | _ + 3 => simp
theorem box3in (w : World) (o : Obj) (T : TypeId) (p q r : Value) : ∀ j u, #[p, q, r][j]? = some u → ((w.alloc o).alloc (.cells #[p, q, r] T)).cell? ⟨w.heap.size + 1, j, none⟩ = some u ∧ ((w.alloc o).alloc (.cells #[p, q, r] T)).frozen? ⟨w.heap.size + 1, j, none⟩ = false := by
 intro j u
 match j with
 | 0 => simp
 | 1 => simp
 | 2 => simp
 | _ + 3 => simp
def dirV (es : List E) (A : ByteArray → Nat) (s : ByteArray) : Value := if dirC es s = 0 then (atE es A s).1 else zeroN
theorem dirC_dir {es : List E} {s : ByteArray} (h : dirE es s = true) : dirC es s = 0 := by
 unfold dirC; by_cases hr : isRoot s = true
 ·
  rw [getE_root hr]; rfl
 ·
  have hr' : isRoot s = false := by simpa using hr
  rw [getE_look hr']; rcases dir_look h with e | ⟨e, h1, h2⟩
  ·
   exact absurd ((isRoot_iff s).2 e) hr
  ·
   rw [h1]; simp [h2]
theorem dirC_zero {es : List E} {s : ByteArray} (h : dirC es s = 0) : dirE es s = true := by
 unfold dirC at h; by_cases hr : isRoot s = true
 ·
  exact look_dir (.inl ((isRoot_iff s).1 hr))
 ·
  have hr' : isRoot s = false := by simpa using hr
  rw [getE_look hr'] at h; cases hl : lookE es s with
  | none => rw [hl] at h; simp at h
  | some e =>
   rw [hl] at h; refine look_dir (.inr ⟨e, hl, ?_⟩); cases hd : e.d with
   | true => rfl
   | false => simp [hd] at h
theorem atE_dir {es : List E} {A : ByteArray → Nat} {s : ByteArray} (h : dirE es s = true) : ∃ x, atE es A s = (.agg #[.bool true, .string x, .map (some (A s))], true) := by
 unfold atE; by_cases hr : isRoot s = true
 ·
  rw [if_pos hr]; have := (isRoot_iff s).1 hr; exact ⟨⟨#[]⟩, by rw [this]⟩
 ·
  rw [if_neg hr]; rcases dir_look h with e | ⟨e, h1, h2⟩
  ·
   exact absurd ((isRoot_iff s).2 e) hr
  ·
   rw [h1]; exact ⟨e.x, by show (nodeV e (A s), true) = _; unfold nodeV; rw [h2]; rfl⟩
set_option maxHeartbeats 1000000 in
set_option maxRecDepth 100000 in
theorem dirAt_any (w : World) (base N : Nat) (es : List E) (A : ByteArray → Nat) (ae : Int → Addr) (T : TrE es) (R : Rep w base N es A) (hE : Errs2 w ae) (s : ByteArray) (hs : s.size ≤ 4611686018427387904) :
  Calls Tryd.prog 69 #[treeV A, .string s] w fun e w' => e = .returned (.tuple #[dirV es A s, errV ae (dirC es s)]) ∧ Below w.heap.size w w' := by
 have HA := hid (fun (W : World) (hW : Rep W base N es A) => at_any W base N es A T hW s hs); have W0 : Below w.heap.size w ((w.alloc (.cells #[.bool true, .string ⟨#[]⟩, .map (some (A ⟨#[47]⟩))] 64)).alloc (.cells #[.bool false, .string ⟨#[]⟩, .map none] 62)) := ((Below.refl _ w).alloc (Nat.le_refl _) _).alloc (by simp) _; have q1 : ¬ 1 = w.heap.size + 1 := by have := cell_lt hE.noneC; omega
 have q2 : ¬ 2 = w.heap.size + 1 := by have := cell_lt hE.fileC; omega
 simp at q1 q2; have HR := hid (R.below W0); have HEr := hid (hE.below W0); clear hE R; by_cases hd : dirE es s = true
 ·
  obtain ⟨x, hx⟩ := atE_dir (A := A) hd; have hv : dirV es A s = .agg #[.bool true, .string x, .map (some (A s))] := by unfold dirV; rw [dirC_dir hd, if_pos rfl, hx]
  rw [hv, dirC_dir hd]; rw [hx] at HA; go_enter Tryd.func69, Tryd.ntmps69
  go_wp2_with (first | (go_at_call 32; refine (HA.out _ HR.out).mono ?_; rintro e w1 ⟨rfl, hB1⟩; obtain ⟨⟨k0, k1, k2⟩, a0, a1, a2, b0, b1, b2⟩ := boxOn (b := w.heap.size + 1) (p := .bool false) (q := .string ⟨#[]⟩) (r := .map none) hB1 (by simp) (box3in w _ _ _ _ _); have HE2 := HEr.out.below hB1; have n2 := HE2.noneC; have n3 := HE2.fileC; have n2' := fun o => cellOn o n2; have n3' := fun o => cellOn o n3) | fail)
  have hBw : Below w.heap.size w w1 := W0.trans (hB1.mono (by simp; omega)); refine atSet3 (C := bodyPost Tryd.prog Tryd.f69 _ _ _) (a0 _) (a1 _) (a2 _) (hBw.alloc hBw.size _) (Nat.le_succ _) ?_; intro Wf s0 s1 s2 hBf; exact bodyPost_ret (v := .tuple #[.agg #[.bool true, .string x, .map (some (A s))], .nilIface]) (by simp [results, Tryd.results69, go_sem, s0, s1, s2]) rfl ⟨by unfold errV; rfl, hBf⟩
 ·
  have hd' : dirE es s = false := by simpa using hd
  have hr : isRoot s = false := by
   rw [dirE_look, Bool.or_eq_false_iff] at hd'; exact hd'.1
  cases hl : lookE es s with
  | none =>
   have hc : dirC es s = 2 := by unfold dirC; rw [getE_look hr, hl]; rfl
   have hx : atE es A s = (zeroN, false) := by unfold atE; rw [hr, hl]; rfl
   have hv : dirV es A s = zeroN := by unfold dirV; rw [hc]; rfl
   rw [hv, hc]; rw [hx] at HA; go_enter Tryd.func69, Tryd.ntmps69
   go_wp2_with (first | (go_at_call 32; refine (HA.out _ HR.out).mono ?_; rintro e w1 ⟨rfl, hB1⟩; obtain ⟨⟨k0, k1, k2⟩, a0, a1, a2, b0, b1, b2⟩ := boxOn (b := w.heap.size + 1) (p := .bool false) (q := .string ⟨#[]⟩) (r := .map none) hB1 (by simp) (box3in w _ _ _ _ _); have HE2 := HEr.out.below hB1; have n2 := HE2.noneC; have n3 := HE2.fileC; have n2' := fun o => cellOn o n2; have n3' := fun o => cellOn o n3) | fail)
   have hBw : Below w.heap.size w w1 := W0.trans (hB1.mono (by simp; omega))
   go_region
   go_wp2
   refine atSet3 (C := fun X => bodyPost Tryd.prog Tryd.f69 _ _ _ X.drew) (a0 _) (a1 _) (a2 _) (hBw.alloc hBw.size _) (Nat.le_succ _) ?_; intro Wf s0 s1 s2 hBf; exact bodyPost_ret (v := .tuple #[zeroN, .iface 132 (.pointer (some (ae 2)))]) (by simp [results, Tryd.results69, go_sem, s0, s1, s2]) rfl ⟨by unfold errV; rfl, hBf.drew⟩
  | some f =>
   have hd2 : f.d = false := by
    rw [dirE_look, hl, Bool.or_eq_false_iff] at hd'; exact hd'.2
   have hc : dirC es s = 3 := by unfold dirC; rw [getE_look hr, hl]; simp [hd2]
   have hx : atE es A s = (.agg #[.bool false, .string f.x, .map none], true) := by unfold atE; rw [hr, hl]; show (nodeV f (A s), true) = _; unfold nodeV; rw [hd2]; rfl
   have hv : dirV es A s = zeroN := by unfold dirV; rw [hc]; rfl
   rw [hv, hc]; rw [hx] at HA; go_enter Tryd.func69, Tryd.ntmps69
   go_wp2_with (first | (go_at_call 32; refine (HA.out _ HR.out).mono ?_; rintro e w1 ⟨rfl, hB1⟩; obtain ⟨⟨k0, k1, k2⟩, a0, a1, a2, b0, b1, b2⟩ := boxOn (b := w.heap.size + 1) (p := .bool false) (q := .string ⟨#[]⟩) (r := .map none) hB1 (by simp) (box3in w _ _ _ _ _); have HE2 := HEr.out.below hB1; have n2 := HE2.noneC; have n3 := HE2.fileC; have n2' := fun o => cellOn o n2; have n3' := fun o => cellOn o n3) | fail)
   have hBw : Below w.heap.size w w1 := W0.trans (hB1.mono (by simp; omega))
   go_region
   go_wp2
   refine atSet3 (C := fun X => bodyPost Tryd.prog Tryd.f69 _ _ _ X.drew) (a0 _) (a1 _) (a2 _) (hBw.alloc hBw.size _) (Nat.le_succ _) ?_; intro Wf s0 s1 s2 hBf; exact bodyPost_ret (v := .tuple #[zeroN, .iface 132 (.pointer (some (ae 3)))]) (by simp [results, Tryd.results69, go_sem, s0, s1, s2]) rfl ⟨by unfold errV; rfl, hBf.drew⟩
end Go.Proofs.YtoaipphccjkphaaDoor
namespace Go.Proofs.YtoaipphccjkphaaDoor
open Go.RowKit Go.Shelf Go.Lib
attribute [local go_sem] Oper.semAt_some
set_option maxHeartbeats 1000000 in
set_option maxRecDepth 100000 in
theorem lastStroke_any (s : ByteArray) (hs : s.size ≤ 16777216) (w : World) :
  Calls Tryd.prog 85 #[.string s] w fun e w' => e = .returned (.int .i64 (lastS s)) ∧ Below w.heap.size w w' := by
 refine (callsIn_wide (n := 3)).1 ?_; refine callsIn_of_wp_marks Tryd.func85 rfl trivial ?_ rfl; simp only [Tryd.ntmps85, List.size_toArray, List.length_cons, List.length_nil, Nat.reduceAdd, Nat.reduceSub, Array.replicate_succ, Array.replicate_zero, List.push_toArray, List.append_toArray, List.nil_append, List.cons_append]
 gi_wp2_with (refine ⟨trivial, ?_⟩; gi_at_call 57; refine (names_in Fence.wide _ trivial rfl _ _).mono ?_; rintro e w' ⟨rfl, rfl⟩)
 have c0 := cellNew w (.int .i64 (-1)) 3; have f0 := frozenNew w (.int .i64 (-1)) 3; have c2 := cellNew (w.alloc (.cells #[.int .i64 (-1)] 3)) (.string s) 95; simp only [World.size_alloc] at c2; have hB0 : Below w.heap.size w ((w.alloc (.cells #[.int .i64 (-1)] 3)).alloc (.cells #[.string s] 95)) := ((Below.refl _ w).alloc (Nat.le_refl _) _).alloc (by simp) _
 refine wpIn_rangeFunc_ownF rfl (by omega) (gf := 74) (lb := #[.pointer (some ⟨w.heap.size + 1, 0, none⟩)]) rfl trivial (enters_of Tryd.func74 (by kernel_rfl) rfl)
  (names_stops Fence.wide _ trivial rfl (by omega) (w.heap.size + 1) s (by omega) _ (by simp) c2) Kpt.t Kpt.b (Below.refl _ _) (fun _ => rfl)
  (fun pre W => (W.cell? ⟨w.heap.size, 0, none⟩ = some (.int .i64 (lastOf pre)) ∧ W.frozen? ⟨w.heap.size, 0, none⟩ = false) ∧ Below w.heap.size w W)
  (fun _ _ _ => False)
  (OwnFrom.and (Own.from (fun s A B row hs hg hr => ⟨cell_kept hs.1 hg hr, (frozen_kept hs.1 hg hr).trans hs.2⟩) _) (ownFrom_below (Nat.le_refl _) (by simp; omega)))
  (fun _ _ _ _ _ hs _ _ => hs)
  ⟨⟨cellOn _ c0, frozenOn _ c0 f0⟩, hB0⟩
  (fun x => { tmps := #[.string s, undef, .int .i64 0, .pointer (some ⟨w.heap.size, 0, none⟩), .int .i64 x.1, .string s, .func (.func 74) #[] #[.pointer (some ⟨w.heap.size + 1, 0, none⟩)], .int .i64 x.1, .string x.2, undef, undef], defers := [] }) ?assign ?body ?done ?stop
 case assign =>
  intro l x W K hK
  gi_wp2
  exact hK
 case body =>
  rintro l pre ⟨k, nm⟩ W ⟨⟨hl, hfl⟩, hB⟩ hlen
  gi_wp2
  exact ⟨KeepsOthers.setCell _ _ _, kpt_setCell _ _ _ _ (by simp), ⟨(World.cell?_setCell_same' _ _ _ (by rw [hl]; rfl)).trans (by rw [lastOf_snoc]), by rw [World.frozen?_setCell]; exact hfl⟩, hB.setCell (p := ⟨w.heap.size, 0, none⟩) (Nat.le_refl _) _⟩
 case done =>
  rintro D ys W hD rfl ⟨⟨hc, _⟩, hB⟩ hK
  gi_wp2
  refine ⟨by simp, .inl ⟨_, _, rfl, run_takeDeferred hK, ?_⟩⟩; exact ⟨_, results_tmp rfl _ _ _, rfl, hB.trans (belowK_b (w := w) (Nat.le_refl _) W D _ _ (by simp at hD; omega) hK rfl rfl)⟩
 case stop =>
  rintro D c pre W _ _ h _; exact h.elim
theorem iPathUp_any (s : ByteArray) (hs : s.size ≤ 16777216) (w : World) :
  Calls Tryd.prog 70 #[.string s] w fun e w' => e = .returned (.string (upS s)) ∧ Below w.heap.size w w' := by
 cases hb : pathB s with
 | true =>
  have hl := lastS_range s hb; by_cases h0 : lastS s = 0
  ·
   go_enter Tryd.func70, Tryd.ntmps70
   go_wp2_with (first | (go_at_call 56; refine (ok_any _ (by omega) _).mono ?_; rintro e w1 ⟨rfl, hB1⟩) | (go_at_call 85; refine (lastStroke_any _ (by omega) _).mono ?_; rintro e w2 ⟨rfl, hB2⟩))
   go_ret
   exact ⟨ret_str (by unfold upS; rw [hb, if_pos rfl, if_pos h0]), hB1.trans (hB2.mono hB1.size)⟩
  ·
   have h0' : (lastS s == 0) = false := by rw [beq_eq_false_iff_ne]; exact h0
   have hz : (s.extract 0 (lastS s).toNat).size ≤ 281474976710656 := by rw [ByteArray.size_extract]; omega
   go_enter Tryd.func70, Tryd.ntmps70
   go_wp2_with (first | (go_at_call 56; refine (ok_any _ (by omega) _).mono ?_; rintro e w1 ⟨rfl, hB1⟩) | (go_at_call 85; refine (lastStroke_any _ (by omega) _).mono ?_; rintro e w2 ⟨rfl, hB2⟩) | (go_at_call 86; refine (fresh_any _ hz _).mono ?_; rintro e w3 ⟨rfl, hB3⟩))
   go_ret
   exact ⟨ret_str (by unfold upS; rw [hb, if_pos rfl, if_neg h0]), (hB1.trans (hB2.mono hB1.size)).trans (hB3.mono (Nat.le_trans hB1.size hB2.size))⟩
 | false =>
  go_enter Tryd.func70, Tryd.ntmps70
  go_wp2_with (first | (go_at_call 56; refine (ok_any _ (by omega) _).mono ?_; rintro e w1 ⟨rfl, hB1⟩))
  go_ret
  exact ⟨ret_str (by unfold upS; rw [hb]; rfl), hB1⟩
theorem iPathName_any (s : ByteArray) (hs : s.size ≤ 16777216) (w : World) :
  Calls Tryd.prog 71 #[.string s] w fun e w' => e = .returned (.string (nmS s)) ∧ Below w.heap.size w w' := by
 cases hb : pathB s with
 | true =>
  have hl := lastS_range s hb; have hz : (s.extract (lastS s + 1).toNat s.size).size ≤ 281474976710656 := by rw [ByteArray.size_extract]; omega
  go_enter Tryd.func71, Tryd.ntmps71
  go_wp2_with (first | (go_at_call 56; refine (ok_any _ (by omega) _).mono ?_; rintro e w1 ⟨rfl, hB1⟩) | (go_at_call 85; refine (lastStroke_any _ (by omega) _).mono ?_; rintro e w2 ⟨rfl, hB2⟩) | (go_at_call 86; refine (fresh_any _ hz _).mono ?_; rintro e w3 ⟨rfl, hB3⟩))
  go_ret
  exact ⟨ret_str (by unfold nmS; rw [hb, if_pos rfl]), (hB1.trans (hB2.mono hB1.size)).trans (hB3.mono (Nat.le_trans hB1.size hB2.size))⟩
 | false =>
  go_enter Tryd.func71, Tryd.ntmps71
  go_wp2_with (first | (go_at_call 56; refine (ok_any _ (by omega) _).mono ?_; rintro e w1 ⟨rfl, hB1⟩))
  go_ret
  exact ⟨ret_str (by unfold nmS; rw [hb]; rfl), hB1⟩
end Go.Proofs.YtoaipphccjkphaaDoor
