/-
  The walk of the program's own: whether a layer hides what is beneath at a path.
-/
import Derived.Test.YtocfbplaieonkaaGreatHPk18
namespace Go.Proofs.YtocfbplaieonkaaGreat.Mk
open Go.RowKit Go.Shelf Go.Lib

attribute [local go_sem] Oper.semAt_some

set_option maxHeartbeats 4000000 in
set_option maxRecDepth 100000 in
theorem hides_any (base N : Nat) (es : List E) (A : ByteArray → Nat) (T : TrM es) (w : World) (R : Rep w base N es A) (s : ByteArray) (hs : s.size ≤ 16777216) :
    Calls Tryz.prog 53 #[layV A, .string s] w fun e w' => e = .returned (.bool ((ups s).any (tellM es (fun d => d != 2)))) ∧ Below w.heap.size w w' := by
  refine (callsIn_wide (n := 3)).1 ?_
  refine callsIn_of_wp_marks Tryz.func53 rfl trivial ?_ rfl
  simp only [Tryz.ntmps53, List.size_toArray, List.length_cons, List.length_nil, Nat.reduceAdd, Nat.reduceSub, Array.replicate_succ, Array.replicate_zero, List.push_toArray, List.append_toArray, List.nil_append, List.cons_append]
  gi_wp2_with (refine ⟨trivial, ?_⟩; gi_at_call 54; refine (callsIn_wide.2 (upward_any _ _)).mono ?_; rintro e w1 ⟨rfl, rfl⟩)
  obtain ⟨bn, hbnE⟩ : ∃ bn, bn = w.heap.size + 1 + 1 := ⟨_, rfl⟩
  obtain ⟨W0, hW0⟩ : ∃ W0, W0 = ((w.alloc (.cells #[.iface 78 (.agg #[]), .map (some (A ⟨#[47]⟩))] 45)).alloc (.cells #[.bool false] 4)).alloc (.cells #[.string s] 9) := ⟨_, rfl⟩
  have hB0 : Below w.heap.size w W0 := by rw [hW0]; exact belowA (belowA (belowA (Below.refl _ w) _) _) _
  have cN := cellNew (w.alloc (.cells #[.iface 78 (.agg #[]), .map (some (A ⟨#[47]⟩))] 45)) (.bool false) 4
  have fN := frozenNew (w.alloc (.cells #[.iface 78 (.agg #[]), .map (some (A ⟨#[47]⟩))] 45)) (.bool false) 4
  have cS := cellNew ((w.alloc (.cells #[.iface 78 (.agg #[]), .map (some (A ⟨#[47]⟩))] 45)).alloc (.cells #[.bool false] 4)) (.string s) 9
  simp only [World.size_alloc] at cN fN cS
  have hR0 : RSt w.heap.size A false W0 := by rw [hW0]; exact ⟨cellOn _ cN, frozenOn _ cN fN, ((Box2.new w _ _ _).on _).on _⟩
  have cb : W0.cell? ⟨bn, 0, none⟩ = some (.string s) := by rw [hW0, hbnE]; exact cS
  have hbn : bn < W0.heap.size := by rw [hW0, hbnE]; simp
  have hle : w.heap.size ≤ W0.heap.size := hB0.size
  rw [← hW0, ← hbnE]
  clear hW0 hbnE cN fN cS
  refine wpIn_rangeFunc_ownF rfl (by omega) (gf := 64) (lb := #[.pointer (some ⟨bn, 0, none⟩)]) rfl trivial (enters_of Tryz.func64 (by kernel_rfl) rfl)
    (ups_stops _ (by omega) bn s hs _ hbn cb) (fun _ _ => trivial) (fun _ _ _ _ _ _ _ _ => trivial) (Below.refl _ _) (fun _ => rfl)
    (fun pre W => (RSt w.heap.size A false W ∧ Hid ((pre.map Subtype.val).any (tellM es (fun d => d != 2)) = false)) ∧ Below w.heap.size w W)
    (fun c pre W => (c = .ret ∧ RSt w.heap.size A true W ∧ Hid ((pre.map Subtype.val).any (tellM es (fun d => d != 2)) = true)) ∧ Below w.heap.size w W)
    (OwnFrom.and (Own.from (fun s A B row hs hg hr => ⟨hs.1.kept hg hr, hs.2⟩) _) (ownFrom_below (Nat.le_refl _) hle))
    (fun c => OwnFrom.and (Own.from (fun s A B row hs hg hr => ⟨hs.1, hs.2.1.kept hg hr, hs.2.2⟩) _) (ownFrom_below (Nat.le_refl _) hle))
    ⟨⟨hR0, rfl⟩, hB0⟩
    (fun x => { tmps := #[layV A, .string s, .pointer (some ⟨w.heap.size, 0, none⟩), undef, .pointer (some ⟨w.heap.size + 1, 0, none⟩), .string x.1, undef, undef, .string s, .func (.func 64) #[] #[.pointer (some ⟨bn, 0, none⟩)], .string x.1, undef, undef, undef, undef, undef, undef, undef, undef, undef, undef, undef, undef], defers := [] }) ?assign ?body ?done ?stop
  case assign =>
    intro l x W K hK
    gi_wp2
    exact hK
  case body =>
    rintro l pre x W ⟨⟨hSt, HA⟩, hB⟩ _
    obtain ⟨hpx, hsx⟩ := ups_small x.2
    have hxz : x.1.size ≤ 16777216 := by omega
    have HAt := hid (at_any base N es A T (x.1.size + 1) W (R.below hB) x.1 (Nat.lt_succ_self _) hxz)
    have HSt := hid hSt
    have HB := hid hB
    have sn : Hid (∀ b, tellM es (fun d => d != 2) x.1 = b → ((pre ++ [x]).map Subtype.val).any (tellM es (fun d => d != 2)) = b) := fun b hb => by
      rw [List.map_append, List.map_singleton, any_snoc, HA.out, hb, Bool.false_or]
    obtain ⟨sr, srf, ⟨c0, c1, f0, f1⟩⟩ := hSt
    cases hlk : lookE es x.1 with
    | none =>
      have HX := hid (sn.out false (by unfold tellM; rw [hlk]))
      rw [atV_none (path_not_root hpx) hlk] at HAt
      clear hlk hpx
      gi_wp2_with (refine ⟨trivial, ?_⟩; gi_at_call 35; refine (callsIn_wide.2 HAt.out).mono ?_; rintro e w2 ⟨rfl, hB2⟩)
      all_goals refine ⟨fun _ _ => trivial, ?_⟩
      all_goals gi_wp2
      all_goals exact ⟨keeps_of_below (belowA hB2 _), trivial, ⟨HSt.out.below (belowA hB2 _), HX⟩, belowT HB.out (belowA hB2 _)⟩
    | some e =>
      have hk := T.kind e (look_mem hlk).1
      have ht : tellM es (fun d => d != 2) x.1 = (fun d : Int => d != 2) e.d := by unfold tellM; rw [hlk]
      rw [atV_some T hlk] at HAt
      unfold nodeV at HAt
      obtain ⟨d, hd⟩ : ∃ d, e.d = d := ⟨_, rfl⟩
      rw [hd] at HAt hk ht
      obtain ⟨xx, hxx⟩ : ∃ xx, e.x = xx := ⟨_, rfl⟩
      rw [hxx] at HAt
      clear hlk hpx hd hxx
      rcases (by omega : d = 1 ∨ d = 2 ∨ d = 3 ∨ d = 4) with rfl | rfl | rfl | rfl
      · have HX := hid (sn.out true (ht.trans rfl))
        have hm : ∀ W, (method 247 80 (.agg #[.string xx]) "loop.example/pargeting/impl.hides").run Tryz.prog W = .ok (114, .agg #[.string xx]) W := fun _ => by kernel_rfl
        rw [sign1] at HAt
        gi_wp2_with (first | (refine ⟨trivial, ?_⟩; gi_at_call 35; refine (callsIn_wide.2 HAt.out).mono ?_; rintro e w2 ⟨rfl, hB2⟩) | (refine ⟨trivial, ?_⟩; gi_at_call 114; refine (callsIn_wide.2 (hides1_any _ _)).mono ?_; rintro e w3 ⟨rfl, hB3⟩; obtain ⟨kr, krf, -⟩ := (HSt.out.below (belowA hB2 _)).below hB3))
        exact ⟨(keeps_of_below (belowT (belowA hB2 _) hB3)).trans (KeepsOthers.setCell _ _ _), ⟨rfl, ((HSt.out.below (belowA hB2 _)).below hB3).set true, HX⟩, (belowT (belowT HB.out (belowA hB2 _)) hB3).setCell (p := ⟨w.heap.size + 1, 0, none⟩) (by simp) _⟩
      · have HX := hid (sn.out false (ht.trans rfl))
        have hm : ∀ W, (method 247 78 (.agg #[]) "loop.example/pargeting/impl.hides").run Tryz.prog W = .ok (111, .agg #[]) W := fun _ => by kernel_rfl
        rw [sign2] at HAt
        gi_wp2_with (first | (refine ⟨trivial, ?_⟩; gi_at_call 35; refine (callsIn_wide.2 HAt.out).mono ?_; rintro e w2 ⟨rfl, hB2⟩) | (refine ⟨trivial, ?_⟩; gi_at_call 111; refine (callsIn_wide.2 (hides2_any _)).mono ?_; rintro e w3 ⟨rfl, hB3⟩; obtain ⟨kr, krf, -⟩ := (HSt.out.below (belowA hB2 _)).below hB3))
        exact ⟨keeps_of_below (belowT (belowA hB2 _) hB3), trivial, ⟨(HSt.out.below (belowA hB2 _)).below hB3, HX⟩, belowT (belowT HB.out (belowA hB2 _)) hB3⟩
      · have HX := hid (sn.out true (ht.trans rfl))
        have hm : ∀ W, (method 247 81 (.agg #[]) "loop.example/pargeting/impl.hides").run Tryz.prog W = .ok (118, .agg #[]) W := fun _ => by kernel_rfl
        rw [sign3] at HAt
        gi_wp2_with (first | (refine ⟨trivial, ?_⟩; gi_at_call 35; refine (callsIn_wide.2 HAt.out).mono ?_; rintro e w2 ⟨rfl, hB2⟩) | (refine ⟨trivial, ?_⟩; gi_at_call 118; refine (callsIn_wide.2 (hides3_any _)).mono ?_; rintro e w3 ⟨rfl, hB3⟩; obtain ⟨kr, krf, -⟩ := (HSt.out.below (belowA hB2 _)).below hB3))
        exact ⟨(keeps_of_below (belowT (belowA hB2 _) hB3)).trans (KeepsOthers.setCell _ _ _), ⟨rfl, ((HSt.out.below (belowA hB2 _)).below hB3).set true, HX⟩, (belowT (belowT HB.out (belowA hB2 _)) hB3).setCell (p := ⟨w.heap.size + 1, 0, none⟩) (by simp) _⟩
      · have HX := hid (sn.out true (ht.trans rfl))
        have hm : ∀ W, (method 247 69 (.agg #[]) "loop.example/pargeting/impl.hides").run Tryz.prog W = .ok (107, .agg #[]) W := fun _ => by kernel_rfl
        rw [sign4] at HAt
        gi_wp2_with (first | (refine ⟨trivial, ?_⟩; gi_at_call 35; refine (callsIn_wide.2 HAt.out).mono ?_; rintro e w2 ⟨rfl, hB2⟩) | (refine ⟨trivial, ?_⟩; gi_at_call 107; refine (callsIn_wide.2 (hides4_any _)).mono ?_; rintro e w3 ⟨rfl, hB3⟩; obtain ⟨kr, krf, -⟩ := (HSt.out.below (belowA hB2 _)).below hB3))
        exact ⟨(keeps_of_below (belowT (belowA hB2 _) hB3)).trans (KeepsOthers.setCell _ _ _), ⟨rfl, ((HSt.out.below (belowA hB2 _)).below hB3).set true, HX⟩, (belowT (belowT HB.out (belowA hB2 _)) hB3).setCell (p := ⟨w.heap.size + 1, 0, none⟩) (by simp) _⟩
  case done =>
    rintro D ys W hD hys ⟨⟨hSt, HA⟩, hB⟩ hK
    have he : (ups s).any (tellM es (fun d => d != 2)) = false := by rw [← hys]; exact HA.out
    have hS2 := hSt.set false
    have hB2 := hB.setCell (p := ⟨w.heap.size + 1, 0, none⟩) (by simp) (.bool false)
    obtain ⟨sr, srf, -⟩ := hSt
    gi_wp2
    have hK' := (KeepsOthers.setCell W ⟨w.heap.size + 1, 0, none⟩ (.bool false)).same D _ hK rfl
    refine ⟨by simp, .inl ⟨_, _, rfl, run_takeDeferred hK', ?_⟩⟩
    have r0 := cell_kept hS2.r (grownBy_putObj' _ D (.deferred none)) (fun r e => by cases e; exact ⟨_, hK', rfl⟩)
    refine ⟨.bool false, ?_, by rw [he], hB2.trans (belowK_b (w := w) (Nat.le_refl _) _ D _ _ (by have := hB0.size; omega) hK' rfl rfl)⟩
    simp [results, Tryz.f53, go_sem, r0]
  case stop =>
    rintro D c pre W hD hpre ⟨⟨rfl, hSt, HA⟩, hB⟩ hK
    have he : (ups s).any (tellM es (fun d => d != 2)) = true := any_pre hpre HA.out
    gi_wp2
    refine ⟨by simp, .inl ⟨_, _, rfl, run_takeDeferred hK, ?_⟩⟩
    have r0 := cell_kept hSt.r (grownBy_putObj' _ D (.deferred none)) (fun r e => by cases e; exact ⟨_, hK, rfl⟩)
    refine ⟨.bool true, ?_, by rw [he], hB.trans (belowK_b (w := w) (Nat.le_refl _) _ D _ _ (by have := hB0.size; omega) hK rfl rfl)⟩
    simp [results, Tryz.f53, go_sem, r0]
end Go.Proofs.YtocfbplaieonkaaGreat.Mk
