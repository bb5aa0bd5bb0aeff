/-
  The walk of the program's own: whether a path is below a bare mark.
-/
import Derived.Test.YtocfbplaieonkaaGreatHPk18
import Derived.Test.YtocfbplaieonkaaGreatHMkEqS
namespace Go.Proofs.YtocfbplaieonkaaGreat.Mk
open Go.RowKit Go.Shelf Go.Lib

attribute [local go_sem] Oper.semAt_some

set_option maxHeartbeats 4000000 in
set_option maxRecDepth 100000 in
theorem bares_any (base N : Nat) (es : List E) (A : ByteArray → Nat) (T : TrM es) (w : World) (R : Rep w base N es A) (s : ByteArray) (hs : s.size ≤ 16777216) :
    Calls Tryz.prog 37 #[layV A, .string s] w fun e w' => e = .returned (.bool ((ups (upS s)).any (tellM es (fun d => d == 4)))) ∧ Below w.heap.size w w' := by
  refine (callsIn_wide (n := 3)).1 ?_
  refine callsIn_of_wp_marks Tryz.func37 rfl trivial ?_ rfl
  simp only [Tryz.ntmps37, List.size_toArray, List.length_cons, List.length_nil, Nat.reduceAdd, Nat.reduceSub, Array.replicate_succ, Array.replicate_zero, List.push_toArray, List.append_toArray, List.nil_append, List.cons_append]
  gi_wp2_with (first | (refine ⟨trivial, ?_⟩; gi_at_call 47; refine (callsIn_wide.2 (iPathUp_any s hs _)).mono ?_; rintro e w0 ⟨rfl, hB⟩) | (refine ⟨trivial, ?_⟩; gi_at_call 54; refine (callsIn_wide.2 (upward_any _ _)).mono ?_; rintro e w1 ⟨rfl, rfl⟩))
  obtain ⟨bn, hbnE⟩ : ∃ bn, bn = w0.heap.size := ⟨_, rfl⟩
  obtain ⟨W0, hW0⟩ : ∃ W0, W0 = w0.alloc (.cells #[.string (upS s)] 9) := ⟨_, rfl⟩
  have hB0 : Below w.heap.size w W0 := by rw [hW0]; exact belowA (belowT (belowA (belowA (Below.refl _ w) _) _) hB) _
  have cN := cellNew (w.alloc (.cells #[.iface 78 (.agg #[]), .map (some (A ⟨#[47]⟩))] 45)) (.bool false) 4
  have fN := frozenNew (w.alloc (.cells #[.iface 78 (.agg #[]), .map (some (A ⟨#[47]⟩))] 45)) (.bool false) 4
  simp only [World.size_alloc] at cN fN
  have hR0 : RSt w.heap.size A false W0 := by rw [hW0]; exact RSt.below (RSt.below ⟨cN, fN, (Box2.new w _ _ _).on _⟩ hB) (belowA (Below.refl _ w0) _)
  have cb : W0.cell? ⟨bn, 0, none⟩ = some (.string (upS s)) := by rw [hW0, hbnE]; exact cellNew w0 _ _
  have hbn : bn < W0.heap.size := by rw [hW0, hbnE]; simp
  have hle : w.heap.size ≤ W0.heap.size := hB0.size
  have husz : (upS s).size ≤ 16777216 := by
    cases hp : pathB s with
    | true => have := up_lt hp; omega
    | false => rw [up_bad hp]; exact Nat.zero_le _
  rw [← hW0, ← hbnE]
  clear hW0 hbnE cN fN hB
  refine wpIn_rangeFunc_ownF rfl (by omega) (gf := 64) (lb := #[.pointer (some ⟨bn, 0, none⟩)]) rfl trivial (enters_of Tryz.func64 (by kernel_rfl) rfl)
    (ups_stops _ (by omega) bn (upS s) husz _ hbn cb) (fun _ _ => trivial) (fun _ _ _ _ _ _ _ _ => trivial) (Below.refl _ _) (fun _ => rfl)
    (fun pre W => (RSt w.heap.size A false W ∧ Hid ((pre.map Subtype.val).any (tellM es (fun d => d == 4)) = false)) ∧ Below w.heap.size w W)
    (fun c pre W => (c = .ret ∧ RSt w.heap.size A true W ∧ Hid ((pre.map Subtype.val).any (tellM es (fun d => d == 4)) = true)) ∧ Below w.heap.size w W)
    (OwnFrom.and (Own.from (fun s A B row hs hg hr => ⟨hs.1.kept hg hr, hs.2⟩) _) (ownFrom_below (Nat.le_refl _) hle))
    (fun c => OwnFrom.and (Own.from (fun s A B row hs hg hr => ⟨hs.1, hs.2.1.kept hg hr, hs.2.2⟩) _) (ownFrom_below (Nat.le_refl _) hle))
    ⟨⟨hR0, rfl⟩, hB0⟩
    (fun x => { tmps := #[layV A, .string s, .pointer (some ⟨w.heap.size, 0, none⟩), undef, .pointer (some ⟨w.heap.size + 1, 0, none⟩), .string x.1, undef, undef, .string s, .string (upS s), .func (.func 64) #[] #[.pointer (some ⟨bn, 0, none⟩)], .string x.1, undef, undef, undef, undef, undef, undef, undef, undef, undef, undef, undef, undef, undef, undef], defers := [] }) ?assign ?body ?done ?stop
  case assign =>
    intro l x W K hK
    gi_wp2
    exact hK
  case body =>
    rintro l pre x W ⟨⟨hSt, HA⟩, hB⟩ _
    obtain ⟨hpx, hsx⟩ := ups_small x.2
    have hxz : x.1.size ≤ 16777216 := by omega
    have HAt := hid (at_any base N es A T (x.1.size + 1) W (R.below hB) x.1 (Nat.lt_succ_self _) hxz)
    have HSt := hid hSt
    have HB := hid hB
    have sn : Hid (∀ b, tellM es (fun d => d == 4) x.1 = b → ((pre ++ [x]).map Subtype.val).any (tellM es (fun d => d == 4)) = b) := fun b hb => by
      rw [List.map_append, List.map_singleton, any_snoc, HA.out, hb, Bool.false_or]
    obtain ⟨sr, srf, ⟨c0, c1, f0, f1⟩⟩ := hSt
    cases hlk : lookE es x.1 with
    | none =>
      have HX := hid (sn.out false (by unfold tellM; rw [hlk]))
      rw [atV_none (path_not_root hpx) hlk] at HAt
      clear hlk hpx
      gi_wp2_with (refine ⟨trivial, ?_⟩; gi_at_call 35; refine (callsIn_wide.2 HAt.out).mono ?_; rintro e w2 ⟨rfl, hB2⟩)
      all_goals exact ⟨keeps_of_below (belowA hB2 _), trivial, ⟨HSt.out.below (belowA hB2 _), HX⟩, belowT HB.out (belowA hB2 _)⟩
    | some e =>
      have hk := T.kind e (look_mem hlk).1
      have ht : tellM es (fun d => d == 4) x.1 = (fun d : Int => d == 4) e.d := by unfold tellM; rw [hlk]
      rw [atV_some T hlk] at HAt
      unfold nodeV at HAt
      obtain ⟨d, hd⟩ : ∃ d, e.d = d := ⟨_, rfl⟩
      rw [hd] at HAt hk ht
      obtain ⟨xx, hxx⟩ : ∃ xx, e.x = xx := ⟨_, rfl⟩
      rw [hxx] at HAt
      clear hlk hpx hd hxx
      rcases (by omega : d = 1 ∨ d = 2 ∨ d = 3 ∨ d = 4) with rfl | rfl | rfl | rfl
      · have HX := hid (sn.out false (ht.trans rfl))
        have hq : ∀ W, (binOp .eql 40 (signV 1 xx) (.iface 69 (.agg #[]))).run Tryz.prog W = .ok (.bool false) W := fun W => eqs14 xx W
        rw [sign1] at HAt hq
        have hg := guards
        gi_wp2_with (refine ⟨trivial, ?_⟩; gi_at_call 35; refine (callsIn_wide.2 HAt.out).mono ?_; rintro e w2 ⟨rfl, hB2⟩; obtain ⟨kr, krf, -⟩ := HSt.out.below (belowA hB2 (.cells #[signV 1 xx, .map (some (A x.1))] 43)); rw [sign1] at kr krf)
        exact ⟨keeps_of_below (belowA hB2 _), trivial, ⟨HSt.out.below (belowA hB2 _), HX⟩, belowT HB.out (belowA hB2 _)⟩
      · have HX := hid (sn.out false (ht.trans rfl))
        have hq : ∀ W, (binOp .eql 40 (signV 2 xx) (.iface 69 (.agg #[]))).run Tryz.prog W = .ok (.bool false) W := fun W => eqs24 W
        rw [sign2] at HAt hq
        have hg := guards
        gi_wp2_with (refine ⟨trivial, ?_⟩; gi_at_call 35; refine (callsIn_wide.2 HAt.out).mono ?_; rintro e w2 ⟨rfl, hB2⟩; obtain ⟨kr, krf, -⟩ := HSt.out.below (belowA hB2 (.cells #[signV 2 xx, .map (some (A x.1))] 43)); rw [sign2] at kr krf)
        exact ⟨keeps_of_below (belowA hB2 _), trivial, ⟨HSt.out.below (belowA hB2 _), HX⟩, belowT HB.out (belowA hB2 _)⟩
      · have HX := hid (sn.out false (ht.trans rfl))
        have hq : ∀ W, (binOp .eql 40 (signV 3 xx) (.iface 69 (.agg #[]))).run Tryz.prog W = .ok (.bool false) W := fun W => eqs34 W
        rw [sign3] at HAt hq
        have hg := guards
        gi_wp2_with (refine ⟨trivial, ?_⟩; gi_at_call 35; refine (callsIn_wide.2 HAt.out).mono ?_; rintro e w2 ⟨rfl, hB2⟩; obtain ⟨kr, krf, -⟩ := HSt.out.below (belowA hB2 (.cells #[signV 3 xx, .map (some (A x.1))] 43)); rw [sign3] at kr krf)
        exact ⟨keeps_of_below (belowA hB2 _), trivial, ⟨HSt.out.below (belowA hB2 _), HX⟩, belowT HB.out (belowA hB2 _)⟩
      · have HX := hid (sn.out true (ht.trans rfl))
        have hq : ∀ W, (binOp .eql 40 (signV 4 xx) (.iface 69 (.agg #[]))).run Tryz.prog W = .ok (.bool true) W := fun W => eqs44 W
        rw [sign4] at HAt hq
        have hg := guards
        gi_wp2_with (refine ⟨trivial, ?_⟩; gi_at_call 35; refine (callsIn_wide.2 HAt.out).mono ?_; rintro e w2 ⟨rfl, hB2⟩; obtain ⟨kr, krf, -⟩ := HSt.out.below (belowA hB2 (.cells #[signV 4 xx, .map (some (A x.1))] 43)); rw [sign4] at kr krf)
        exact ⟨(keeps_of_below (belowA hB2 _)).trans (KeepsOthers.setCell _ _ _), ⟨rfl, (HSt.out.below (belowA hB2 _)).set true, HX⟩, (belowT HB.out (belowA hB2 _)).setCell (p := ⟨w.heap.size + 1, 0, none⟩) (by simp) _⟩
  case done =>
    rintro D ys W hD hys ⟨⟨hSt, HA⟩, hB⟩ hK
    have he : (ups (upS s)).any (tellM es (fun d => d == 4)) = false := by rw [← hys]; exact HA.out
    have hS2 := hSt.set false
    have hB2 := hB.setCell (p := ⟨w.heap.size + 1, 0, none⟩) (by simp) (.bool false)
    obtain ⟨sr, srf, -⟩ := hSt
    gi_wp2
    have hK' := (KeepsOthers.setCell W ⟨w.heap.size + 1, 0, none⟩ (.bool false)).same D _ hK rfl
    refine ⟨by simp, .inl ⟨_, _, rfl, run_takeDeferred hK', ?_⟩⟩
    have r0 := cell_kept hS2.r (grownBy_putObj' _ D (.deferred none)) (fun r e => by cases e; exact ⟨_, hK', rfl⟩)
    refine ⟨.bool false, ?_, by rw [he], hB2.trans (belowK_b (w := w) (Nat.le_refl _) _ D _ _ (by have := hB0.size; omega) hK' rfl rfl)⟩
    simp [results, Tryz.f37, go_sem, r0]
  case stop =>
    rintro D c pre W hD hpre ⟨⟨rfl, hSt, HA⟩, hB⟩ hK
    have he : (ups (upS s)).any (tellM es (fun d => d == 4)) = true := any_pre hpre HA.out
    gi_wp2
    refine ⟨by simp, .inl ⟨_, _, rfl, run_takeDeferred hK, ?_⟩⟩
    have r0 := cell_kept hSt.r (grownBy_putObj' _ D (.deferred none)) (fun r e => by cases e; exact ⟨_, hK, rfl⟩)
    refine ⟨.bool true, ?_, by rw [he], hB.trans (belowK_b (w := w) (Nat.le_refl _) _ D _ _ (by have := hB0.size; omega) hK rfl rfl)⟩
    simp [results, Tryz.f37, go_sem, r0]
end Go.Proofs.YtocfbplaieonkaaGreat.Mk
