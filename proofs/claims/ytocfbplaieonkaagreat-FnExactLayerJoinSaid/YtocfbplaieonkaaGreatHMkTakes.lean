/-
  The walk of the program's own: whether a sign may stand at a path.
-/
import Derived.Test.YtocfbplaieonkaaGreatHMkBares
namespace Go.Proofs.YtocfbplaieonkaaGreat.Mk
open Go.RowKit Go.Shelf Go.Lib

attribute [local go_sem] Oper.semAt_some

theorem atV_sign {es : List E} {A : ByteArray → Nat} {p : ByteArray} (T : TrM es) (hz : ∀ e ∈ es, e.x.size ≤ 16777216) (h : AtM es (upS p)) :
    ∃ d x, atV es A (upS p) = (.agg #[signV d x, .map (some (A (upS p)))], true) ∧ (1 ≤ d ∧ d ≤ 4) ∧ x.size ≤ 16777216 ∧ inM es p = dirK d := by
  rcases h with q | ⟨e, h⟩
  · refine ⟨2, ⟨#[]⟩, ?_, by omega, Nat.zero_le _, ?_⟩
    · rw [atV_root ((isRoot_iff _).2 q), q]; rfl
    · rw [inM_look.2 (.inl q)]; rfl
  · refine ⟨e.d, e.x, atV_some T h, T.kind e (look_mem h).1, hz e (look_mem h).1, ?_⟩
    rw [Bool.eq_iff_iff, inM_look]
    constructor
    · rintro (q | ⟨f, h1, h2⟩)
      · rw [q, look_bad T root_no_path] at h; cases h
      · rw [h] at h1; cases h1; exact h2
    · intro hd
      exact .inr ⟨e, h, hd⟩
theorem inM_not {es : List E} {p : ByteArray} (h : ¬ AtM es (upS p)) : inM es p = false := by
  cases hi : inM es p with
  | false => rfl
  | true => exact absurd ((inM_look.1 hi).imp id fun ⟨f, h1, _⟩ => ⟨f, h1⟩) h
theorem upS_le (p : ByteArray) (hp : p.size ≤ 16777216) : (upS p).size ≤ 16777216 := by
  cases h : pathB p with
  | true => have := up_lt h; omega
  | false => rw [up_bad h]; exact Nat.zero_le _

set_option maxHeartbeats 4000000 in
set_option maxRecDepth 100000 in
theorem takes_any (base N : Nat) (es : List E) (A : ByteArray → Nat) (T : TrM es) (hz : ∀ e ∈ es, e.x.size ≤ 16777216) (w : World) (R : Rep w base N es A) (p : ByteArray) (hp : p.size ≤ 16777216) (d : Int) (x : ByteArray) (hx : x.size ≤ 16777216) (hd : 1 ≤ d ∧ d ≤ 4) :
    Calls Tryz.prog 32 #[layV A, .string p, signV d x] w fun e w' => e = .returned (.bool (takesM es p d)) ∧ Below w.heap.size w w' := by
  obtain ⟨t, u, htu⟩ := sign_is d x
  have HTK : Hid (takesM es p d = (inM es p && (!bareM es p || decide (d ≤ 2)))) := rfl
  have HIB := hid (fun W => inBare_any d x hx hd W)
  have HD := hid hd
  have HTU := hid htu
  rw [htu] at HIB
  rw [htu]
  have B1 := Box2.new w (.iface 78 (.agg #[])) (.map (some (A ⟨#[47]⟩))) 45
  obtain ⟨w1, hw1⟩ : ∃ w1, w1 = w.alloc (.cells #[.iface 78 (.agg #[]), .map (some (A ⟨#[47]⟩))] 45) := ⟨_, rfl⟩
  have hBw : Below w.heap.size w w1 := by rw [hw1]; exact belowA (Below.refl _ w) _
  rw [← hw1] at B1
  have HB1 := hid B1
  have AS : Hid (∀ W', Below w1.heap.size w1 W' → (W'.cell? ⟨w.heap.size, 0, none⟩ = some (.iface 78 (.agg #[])) ∧ W'.cell? ⟨w.heap.size, 1, none⟩ = some (.map (some (A ⟨#[47]⟩))))) := fun W' hW => ⟨(B1.below hW).c0, (B1.below hW).c1⟩
  have AR : Hid (∀ W', Below w1.heap.size w1 W' → Rep W' base N es A) := fun W' hW => (R.below hBw).below hW
  have HU := hid (fun W => iPathUp_any p (by omega) W)
  have hus := upS_le p hp
  have HAt := hid (fun (W : World) (hW : Rep W base N es A) => at_any base N es A T ((upS p).size + 1) W hW (upS p) (Nat.lt_succ_self _) hus)
  have HBa := hid (fun (W : World) (hW : Rep W base N es A) => bares_any base N es A T W hW p (by omega))
  clear htu
  by_cases hA : AtM es (upS p)
  · obtain ⟨du, xu, hv, hdu, hxu, hin⟩ := atV_sign (A := A) T hz hA
    obtain ⟨tu, uu, hsu⟩ := sign_is du xu
    have HSD := hid (fun W => showsDir_any du xu hxu hdu W)
    rw [hv, hsu] at HAt
    rw [hsu] at HSD
    clear hv hsu hA
    cases hdk : dirK du with
    | false =>
      rw [hdk] at HSD hin
      have HR : Hid (takesM es p d = false) := by show _ = _; rw [HTK.out, hin]; rfl
      clear hdk hin
      go_enter Tryz.func32, Tryz.ntmps32
      go_wp2_with fail
      rw [← hw1]
      clear hw1
      rename_i Qx Kx hKx
      have HK : Hid (∀ (b : Nat) (W : World), Below w1.heap.size w1 W → Box2 W b (.iface tu uu) (.map (some (A (upS p)))) → Kx { tmps := #[layV A, .string p, .iface t u, .pointer (some ⟨w.heap.size, 0, none⟩), undef, undef, .bool false, .pointer (some ⟨b, 0, none⟩), .bool true, undef, undef, .tuple #[.agg #[.iface tu uu, .map (some (A (upS p)))], .bool true], .agg #[.iface 78 (.agg #[]), .map (some (A ⟨#[47]⟩))], .string p, .string (upS p), .tuple #[.agg #[.iface tu uu, .map (some (A (upS p)))], .bool true], .agg #[.iface tu uu, .map (some (A (upS p)))], .bool true, undef, undef, undef, undef, undef, undef, undef, undef, undef, undef, undef, undef, undef, undef, undef, undef, undef, undef, undef, undef, undef, undef, undef], defers := [] } W) := by
        intro b W hBW hbx
        refine hKx _ _ ?_
        clear hKx
        have HBW := hid (belowT hBw hBW)
        have HBX := hid hbx
        have HLY := hid (HB1.out.below hBW)
        obtain ⟨x0, x1, x2, x3⟩ := hbx
        go_wp2_with (first | (go_at_call 48; refine (HSD.out _).mono ?_; rintro e w5 ⟨rfl, hB5⟩; obtain ⟨l0, l1, l2, l3⟩ := HLY.out.below hB5) | fail)
        go_ret
        exact ⟨by rw [HR.out]; rfl, belowT HBW.out hB5⟩
      clear hKx
      go_region_held3 (fun W' => W'.cell? ⟨w.heap.size, 0, none⟩ = some (.iface 78 (.agg #[])) ∧ W'.cell? ⟨w.heap.size, 1, none⟩ = some (.map (some (A ⟨#[47]⟩))))
        ((refine AS.out _ ?_; repeat (first | exact Below.refl _ _ | apply belowA | refine belowT ?_ hB4 | refine belowT ?_ hB3 | apply Below.drew | refine set2_below ?_ (by first | exact Nat.le_refl _ | (have h3 := hB3.size; have h4 := hB4.size; simp at h3 h4 ⊢; omega)) _ _)))
        (first | (go_at_call 47; refine (HU.out _).mono ?_; rintro e w3 ⟨rfl, hB3⟩; obtain ⟨bc3, bf3⟩ := bcellN hB3; have l3 := hB3.size; (try simp at l3); (try (have z0 := bc3 w1.heap.size 0 (lt_allocD _ _); have z1 := bc3 w1.heap.size 1 (lt_allocD _ _); have z2 := bf3 w1.heap.size 0 (lt_allocD _ _); have z3 := bf3 w1.heap.size 1 (lt_allocD _ _); simp at z0 z1 z2 z3)); clear bc3 bf3) | (go_at_call 35; refine (HAt.out _ (AR.out _ (by repeat (first | exact Below.refl _ _ | apply belowA | refine belowT ?_ hB3 | apply Below.drew)))).mono ?_; rintro e w4 ⟨rfl, hB4⟩; obtain ⟨bc4, bf4⟩ := bcellN hB4; have l4 := hB4.size; (try simp at l4); (try (have z0 := bc4 w3.heap.size 0 (lt_alloc _ _); have z1 := bc4 w3.heap.size 1 (lt_alloc _ _); have z2 := bf4 w3.heap.size 0 (lt_alloc _ _); have z3 := bf4 w3.heap.size 1 (lt_alloc _ _); simp at z0 z1 z2 z3)); (try (have v0 := (bc4 w1.heap.size 0 l3).trans z0; have v1 := (bc4 w1.heap.size 1 l3).trans z1; have v2 := (bf4 w1.heap.size 0 l3).trans z2; have v3 := (bf4 w1.heap.size 1 l3).trans z3)); clear bc4 bf4))
      all_goals refine HK.out _ _ (by repeat (first | exact Below.refl _ _ | apply belowA | refine belowT ?_ hB4 | refine belowT ?_ hB3 | apply Below.drew | refine set2_below ?_ (by first | exact Nat.le_refl _ | (have h3 := hB3.size; have h4 := hB4.size; simp at h3 h4 ⊢; omega)) _ _)) ?_
      all_goals first | exact Box2.set ⟨v0, v1, v2, v3⟩ _ _ | exact Box2.set ⟨z0, z1, z2, z3⟩ _ _ | exact Box2.new _ _ _ _
    | true =>
      rw [hdk] at HSD hin
      have hpb := inM_path T hin
      rw [bares_is T hpb] at HBa
      have HR1 : Hid (takesM es p d = (!bareM es p || decide (d ≤ 2))) := by show _ = _; rw [HTK.out, hin]; rfl
      clear hdk hin hpb
      cases hba : bareM es p with
      | false =>
        rw [hba] at HBa
        have HR : Hid (takesM es p d = true) := by show _ = _; rw [HR1.out, hba]; rfl
        clear hba
        go_enter Tryz.func32, Tryz.ntmps32
        go_wp2_with fail
        rw [← hw1]
        clear hw1
        rename_i Qx Kx hKx
        have HK : Hid (∀ (b : Nat) (W : World), Below w1.heap.size w1 W → Box2 W b (.iface tu uu) (.map (some (A (upS p)))) → Kx { tmps := #[layV A, .string p, .iface t u, .pointer (some ⟨w.heap.size, 0, none⟩), undef, undef, .bool false, .pointer (some ⟨b, 0, none⟩), .bool true, undef, undef, .tuple #[.agg #[.iface tu uu, .map (some (A (upS p)))], .bool true], .agg #[.iface 78 (.agg #[]), .map (some (A ⟨#[47]⟩))], .string p, .string (upS p), .tuple #[.agg #[.iface tu uu, .map (some (A (upS p)))], .bool true], .agg #[.iface tu uu, .map (some (A (upS p)))], .bool true, undef, undef, undef, undef, undef, undef, undef, undef, undef, undef, undef, undef, undef, undef, undef, undef, undef, undef, undef, undef, undef, undef, undef], defers := [] } W) := by
          intro b W hBW hbx
          refine hKx _ _ ?_
          clear hKx
          have HBW := hid (belowT hBw hBW)
          have HBX := hid hbx
          have HLY := hid (HB1.out.below hBW)
          obtain ⟨x0, x1, x2, x3⟩ := hbx
          go_wp2_with (first | (go_at_call 48; refine (HSD.out _).mono ?_; rintro e w5 ⟨rfl, hB5⟩; obtain ⟨l0, l1, l2, l3⟩ := HLY.out.below hB5) | (go_at_call 37; refine (HBa.out _ (AR.out _ (belowT hBW hB5))).mono ?_; rintro e w6 ⟨rfl, hB6⟩) | fail)
          go_ret
          exact ⟨by rw [HR.out]; rfl, belowT (belowT HBW.out hB5) hB6⟩
        clear hKx
        go_region_held3 (fun W' => W'.cell? ⟨w.heap.size, 0, none⟩ = some (.iface 78 (.agg #[])) ∧ W'.cell? ⟨w.heap.size, 1, none⟩ = some (.map (some (A ⟨#[47]⟩))))
          ((refine AS.out _ ?_; repeat (first | exact Below.refl _ _ | apply belowA | refine belowT ?_ hB4 | refine belowT ?_ hB3 | apply Below.drew | refine set2_below ?_ (by first | exact Nat.le_refl _ | (have h3 := hB3.size; have h4 := hB4.size; simp at h3 h4 ⊢; omega)) _ _)))
          (first | (go_at_call 47; refine (HU.out _).mono ?_; rintro e w3 ⟨rfl, hB3⟩; obtain ⟨bc3, bf3⟩ := bcellN hB3; have l3 := hB3.size; (try simp at l3); (try (have z0 := bc3 w1.heap.size 0 (lt_allocD _ _); have z1 := bc3 w1.heap.size 1 (lt_allocD _ _); have z2 := bf3 w1.heap.size 0 (lt_allocD _ _); have z3 := bf3 w1.heap.size 1 (lt_allocD _ _); simp at z0 z1 z2 z3)); clear bc3 bf3) | (go_at_call 35; refine (HAt.out _ (AR.out _ (by repeat (first | exact Below.refl _ _ | apply belowA | refine belowT ?_ hB3 | apply Below.drew)))).mono ?_; rintro e w4 ⟨rfl, hB4⟩; obtain ⟨bc4, bf4⟩ := bcellN hB4; have l4 := hB4.size; (try simp at l4); (try (have z0 := bc4 w3.heap.size 0 (lt_alloc _ _); have z1 := bc4 w3.heap.size 1 (lt_alloc _ _); have z2 := bf4 w3.heap.size 0 (lt_alloc _ _); have z3 := bf4 w3.heap.size 1 (lt_alloc _ _); simp at z0 z1 z2 z3)); (try (have v0 := (bc4 w1.heap.size 0 l3).trans z0; have v1 := (bc4 w1.heap.size 1 l3).trans z1; have v2 := (bf4 w1.heap.size 0 l3).trans z2; have v3 := (bf4 w1.heap.size 1 l3).trans z3)); clear bc4 bf4))
        all_goals refine HK.out _ _ (by repeat (first | exact Below.refl _ _ | apply belowA | refine belowT ?_ hB4 | refine belowT ?_ hB3 | apply Below.drew | refine set2_below ?_ (by first | exact Nat.le_refl _ | (have h3 := hB3.size; have h4 := hB4.size; simp at h3 h4 ⊢; omega)) _ _)) ?_
        all_goals first | exact Box2.set ⟨v0, v1, v2, v3⟩ _ _ | exact Box2.set ⟨z0, z1, z2, z3⟩ _ _ | exact Box2.new _ _ _ _
      | true =>
        rw [hba] at HBa
        have HR2 : Hid (takesM es p d = decide (d ≤ 2)) := by show _ = _; rw [HR1.out, hba]; rfl
        clear hba
        rcases (by omega : d = 1 ∨ d = 2 ∨ d = 3 ∨ d = 4) with rfl | rfl | rfl | rfl
        · have HR : Hid (takesM es p 1 = true) := by show _ = _; rw [HR2.out]; rfl
          have e2 : inB 1 x = (.iface 80 (.agg #[.string x]), true) := rfl
          rw [e2] at HIB
          have e3 := HTU.out
          rw [sign1] at e3
          injection e3 with e4 e5
          subst e4
          subst e5
          clear e2 HTU
          have hg := guards
          have hq := eqs11 x
          go_enter Tryz.func32, Tryz.ntmps32
          go_wp2_with fail
          rw [← hw1]
          clear hw1
          rename_i Qx Kx hKx
          have HK : Hid (∀ (b : Nat) (W : World), Below w1.heap.size w1 W → Box2 W b (.iface tu uu) (.map (some (A (upS p)))) → Kx { tmps := #[layV A, .string p, .iface 80 (.agg #[.string x]), .pointer (some ⟨w.heap.size, 0, none⟩), undef, undef, .bool false, .pointer (some ⟨b, 0, none⟩), .bool true, undef, undef, .tuple #[.agg #[.iface tu uu, .map (some (A (upS p)))], .bool true], .agg #[.iface 78 (.agg #[]), .map (some (A ⟨#[47]⟩))], .string p, .string (upS p), .tuple #[.agg #[.iface tu uu, .map (some (A (upS p)))], .bool true], .agg #[.iface tu uu, .map (some (A (upS p)))], .bool true, undef, undef, undef, undef, undef, undef, undef, undef, undef, undef, undef, undef, undef, undef, undef, undef, undef, undef, undef, undef, undef, undef, undef], defers := [] } W) := by
            intro b W hBW hbx
            refine hKx _ _ ?_
            clear hKx
            have HBW := hid (belowT hBw hBW)
            have HBX := hid hbx
            have HLY := hid (HB1.out.below hBW)
            obtain ⟨x0, x1, x2, x3⟩ := hbx
            go_wp2_with (first | (go_at_call 48; refine (HSD.out _).mono ?_; rintro e w5 ⟨rfl, hB5⟩; obtain ⟨l0, l1, l2, l3⟩ := HLY.out.below hB5) | (go_at_call 37; refine (HBa.out _ (AR.out _ (belowT hBW hB5))).mono ?_; rintro e w6 ⟨rfl, hB6⟩) | (go_at_call 38; refine (HIB.out _).mono ?_; rintro e w7 ⟨rfl, hB7⟩) | fail)
            go_ret
            exact ⟨by rw [HR.out]; rfl, belowT (belowT (belowT HBW.out hB5) hB6) hB7⟩
          clear hKx
          go_region_held3 (fun W' => W'.cell? ⟨w.heap.size, 0, none⟩ = some (.iface 78 (.agg #[])) ∧ W'.cell? ⟨w.heap.size, 1, none⟩ = some (.map (some (A ⟨#[47]⟩))))
            ((refine AS.out _ ?_; repeat (first | exact Below.refl _ _ | apply belowA | refine belowT ?_ hB4 | refine belowT ?_ hB3 | apply Below.drew | refine set2_below ?_ (by first | exact Nat.le_refl _ | (have h3 := hB3.size; have h4 := hB4.size; simp at h3 h4 ⊢; omega)) _ _)))
            (first | (go_at_call 47; refine (HU.out _).mono ?_; rintro e w3 ⟨rfl, hB3⟩; obtain ⟨bc3, bf3⟩ := bcellN hB3; have l3 := hB3.size; (try simp at l3); (try (have z0 := bc3 w1.heap.size 0 (lt_allocD _ _); have z1 := bc3 w1.heap.size 1 (lt_allocD _ _); have z2 := bf3 w1.heap.size 0 (lt_allocD _ _); have z3 := bf3 w1.heap.size 1 (lt_allocD _ _); simp at z0 z1 z2 z3)); clear bc3 bf3) | (go_at_call 35; refine (HAt.out _ (AR.out _ (by repeat (first | exact Below.refl _ _ | apply belowA | refine belowT ?_ hB3 | apply Below.drew)))).mono ?_; rintro e w4 ⟨rfl, hB4⟩; obtain ⟨bc4, bf4⟩ := bcellN hB4; have l4 := hB4.size; (try simp at l4); (try (have z0 := bc4 w3.heap.size 0 (lt_alloc _ _); have z1 := bc4 w3.heap.size 1 (lt_alloc _ _); have z2 := bf4 w3.heap.size 0 (lt_alloc _ _); have z3 := bf4 w3.heap.size 1 (lt_alloc _ _); simp at z0 z1 z2 z3)); (try (have v0 := (bc4 w1.heap.size 0 l3).trans z0; have v1 := (bc4 w1.heap.size 1 l3).trans z1; have v2 := (bf4 w1.heap.size 0 l3).trans z2; have v3 := (bf4 w1.heap.size 1 l3).trans z3)); clear bc4 bf4))
          all_goals refine HK.out _ _ (by repeat (first | exact Below.refl _ _ | apply belowA | refine belowT ?_ hB4 | refine belowT ?_ hB3 | apply Below.drew | refine set2_below ?_ (by first | exact Nat.le_refl _ | (have h3 := hB3.size; have h4 := hB4.size; simp at h3 h4 ⊢; omega)) _ _)) ?_
          all_goals first | exact Box2.set ⟨v0, v1, v2, v3⟩ _ _ | exact Box2.set ⟨z0, z1, z2, z3⟩ _ _ | exact Box2.new _ _ _ _
        · have HR : Hid (takesM es p 2 = true) := by show _ = _; rw [HR2.out]; rfl
          have e2 : inB 2 x = (.iface 78 (.agg #[]), true) := rfl
          rw [e2] at HIB
          have e3 := HTU.out
          rw [sign2] at e3
          injection e3 with e4 e5
          subst e4
          subst e5
          clear e2 HTU
          have hg := guards
          have hq := eqs22
          go_enter Tryz.func32, Tryz.ntmps32
          go_wp2_with fail
          rw [← hw1]
          clear hw1
          rename_i Qx Kx hKx
          have HK : Hid (∀ (b : Nat) (W : World), Below w1.heap.size w1 W → Box2 W b (.iface tu uu) (.map (some (A (upS p)))) → Kx { tmps := #[layV A, .string p, .iface 78 (.agg #[]), .pointer (some ⟨w.heap.size, 0, none⟩), undef, undef, .bool false, .pointer (some ⟨b, 0, none⟩), .bool true, undef, undef, .tuple #[.agg #[.iface tu uu, .map (some (A (upS p)))], .bool true], .agg #[.iface 78 (.agg #[]), .map (some (A ⟨#[47]⟩))], .string p, .string (upS p), .tuple #[.agg #[.iface tu uu, .map (some (A (upS p)))], .bool true], .agg #[.iface tu uu, .map (some (A (upS p)))], .bool true, undef, undef, undef, undef, undef, undef, undef, undef, undef, undef, undef, undef, undef, undef, undef, undef, undef, undef, undef, undef, undef, undef, undef], defers := [] } W) := by
            intro b W hBW hbx
            refine hKx _ _ ?_
            clear hKx
            have HBW := hid (belowT hBw hBW)
            have HBX := hid hbx
            have HLY := hid (HB1.out.below hBW)
            obtain ⟨x0, x1, x2, x3⟩ := hbx
            go_wp2_with (first | (go_at_call 48; refine (HSD.out _).mono ?_; rintro e w5 ⟨rfl, hB5⟩; obtain ⟨l0, l1, l2, l3⟩ := HLY.out.below hB5) | (go_at_call 37; refine (HBa.out _ (AR.out _ (belowT hBW hB5))).mono ?_; rintro e w6 ⟨rfl, hB6⟩) | (go_at_call 38; refine (HIB.out _).mono ?_; rintro e w7 ⟨rfl, hB7⟩) | fail)
            go_ret
            exact ⟨by rw [HR.out]; rfl, belowT (belowT (belowT HBW.out hB5) hB6) hB7⟩
          clear hKx
          go_region_held3 (fun W' => W'.cell? ⟨w.heap.size, 0, none⟩ = some (.iface 78 (.agg #[])) ∧ W'.cell? ⟨w.heap.size, 1, none⟩ = some (.map (some (A ⟨#[47]⟩))))
            ((refine AS.out _ ?_; repeat (first | exact Below.refl _ _ | apply belowA | refine belowT ?_ hB4 | refine belowT ?_ hB3 | apply Below.drew | refine set2_below ?_ (by first | exact Nat.le_refl _ | (have h3 := hB3.size; have h4 := hB4.size; simp at h3 h4 ⊢; omega)) _ _)))
            (first | (go_at_call 47; refine (HU.out _).mono ?_; rintro e w3 ⟨rfl, hB3⟩; obtain ⟨bc3, bf3⟩ := bcellN hB3; have l3 := hB3.size; (try simp at l3); (try (have z0 := bc3 w1.heap.size 0 (lt_allocD _ _); have z1 := bc3 w1.heap.size 1 (lt_allocD _ _); have z2 := bf3 w1.heap.size 0 (lt_allocD _ _); have z3 := bf3 w1.heap.size 1 (lt_allocD _ _); simp at z0 z1 z2 z3)); clear bc3 bf3) | (go_at_call 35; refine (HAt.out _ (AR.out _ (by repeat (first | exact Below.refl _ _ | apply belowA | refine belowT ?_ hB3 | apply Below.drew)))).mono ?_; rintro e w4 ⟨rfl, hB4⟩; obtain ⟨bc4, bf4⟩ := bcellN hB4; have l4 := hB4.size; (try simp at l4); (try (have z0 := bc4 w3.heap.size 0 (lt_alloc _ _); have z1 := bc4 w3.heap.size 1 (lt_alloc _ _); have z2 := bf4 w3.heap.size 0 (lt_alloc _ _); have z3 := bf4 w3.heap.size 1 (lt_alloc _ _); simp at z0 z1 z2 z3)); (try (have v0 := (bc4 w1.heap.size 0 l3).trans z0; have v1 := (bc4 w1.heap.size 1 l3).trans z1; have v2 := (bf4 w1.heap.size 0 l3).trans z2; have v3 := (bf4 w1.heap.size 1 l3).trans z3)); clear bc4 bf4))
          all_goals refine HK.out _ _ (by repeat (first | exact Below.refl _ _ | apply belowA | refine belowT ?_ hB4 | refine belowT ?_ hB3 | apply Below.drew | refine set2_below ?_ (by first | exact Nat.le_refl _ | (have h3 := hB3.size; have h4 := hB4.size; simp at h3 h4 ⊢; omega)) _ _)) ?_
          all_goals first | exact Box2.set ⟨v0, v1, v2, v3⟩ _ _ | exact Box2.set ⟨z0, z1, z2, z3⟩ _ _ | exact Box2.new _ _ _ _
        · have HR : Hid (takesM es p 3 = false) := by show _ = _; rw [HR2.out]; rfl
          have e2 : inB 3 x = (.nilIface, false) := rfl
          rw [e2] at HIB
          have e3 := HTU.out
          rw [sign3] at e3
          injection e3 with e4 e5
          subst e4
          subst e5
          clear e2 HTU
          have hg := guards
          have hq := eqs22
          go_enter Tryz.func32, Tryz.ntmps32
          go_wp2_with fail
          rw [← hw1]
          clear hw1
          rename_i Qx Kx hKx
          have HK : Hid (∀ (b : Nat) (W : World), Below w1.heap.size w1 W → Box2 W b (.iface tu uu) (.map (some (A (upS p)))) → Kx { tmps := #[layV A, .string p, .iface 81 (.agg #[]), .pointer (some ⟨w.heap.size, 0, none⟩), undef, undef, .bool false, .pointer (some ⟨b, 0, none⟩), .bool true, undef, undef, .tuple #[.agg #[.iface tu uu, .map (some (A (upS p)))], .bool true], .agg #[.iface 78 (.agg #[]), .map (some (A ⟨#[47]⟩))], .string p, .string (upS p), .tuple #[.agg #[.iface tu uu, .map (some (A (upS p)))], .bool true], .agg #[.iface tu uu, .map (some (A (upS p)))], .bool true, undef, undef, undef, undef, undef, undef, undef, undef, undef, undef, undef, undef, undef, undef, undef, undef, undef, undef, undef, undef, undef, undef, undef], defers := [] } W) := by
            intro b W hBW hbx
            refine hKx _ _ ?_
            clear hKx
            have HBW := hid (belowT hBw hBW)
            have HBX := hid hbx
            have HLY := hid (HB1.out.below hBW)
            obtain ⟨x0, x1, x2, x3⟩ := hbx
            go_wp2_with (first | (go_at_call 48; refine (HSD.out _).mono ?_; rintro e w5 ⟨rfl, hB5⟩; obtain ⟨l0, l1, l2, l3⟩ := HLY.out.below hB5) | (go_at_call 37; refine (HBa.out _ (AR.out _ (belowT hBW hB5))).mono ?_; rintro e w6 ⟨rfl, hB6⟩) | (go_at_call 38; refine (HIB.out _).mono ?_; rintro e w7 ⟨rfl, hB7⟩) | fail)
            go_ret
            exact ⟨by rw [HR.out]; rfl, belowT (belowT (belowT HBW.out hB5) hB6) hB7⟩
          clear hKx
          go_region_held3 (fun W' => W'.cell? ⟨w.heap.size, 0, none⟩ = some (.iface 78 (.agg #[])) ∧ W'.cell? ⟨w.heap.size, 1, none⟩ = some (.map (some (A ⟨#[47]⟩))))
            ((refine AS.out _ ?_; repeat (first | exact Below.refl _ _ | apply belowA | refine belowT ?_ hB4 | refine belowT ?_ hB3 | apply Below.drew | refine set2_below ?_ (by first | exact Nat.le_refl _ | (have h3 := hB3.size; have h4 := hB4.size; simp at h3 h4 ⊢; omega)) _ _)))
            (first | (go_at_call 47; refine (HU.out _).mono ?_; rintro e w3 ⟨rfl, hB3⟩; obtain ⟨bc3, bf3⟩ := bcellN hB3; have l3 := hB3.size; (try simp at l3); (try (have z0 := bc3 w1.heap.size 0 (lt_allocD _ _); have z1 := bc3 w1.heap.size 1 (lt_allocD _ _); have z2 := bf3 w1.heap.size 0 (lt_allocD _ _); have z3 := bf3 w1.heap.size 1 (lt_allocD _ _); simp at z0 z1 z2 z3)); clear bc3 bf3) | (go_at_call 35; refine (HAt.out _ (AR.out _ (by repeat (first | exact Below.refl _ _ | apply belowA | refine belowT ?_ hB3 | apply Below.drew)))).mono ?_; rintro e w4 ⟨rfl, hB4⟩; obtain ⟨bc4, bf4⟩ := bcellN hB4; have l4 := hB4.size; (try simp at l4); (try (have z0 := bc4 w3.heap.size 0 (lt_alloc _ _); have z1 := bc4 w3.heap.size 1 (lt_alloc _ _); have z2 := bf4 w3.heap.size 0 (lt_alloc _ _); have z3 := bf4 w3.heap.size 1 (lt_alloc _ _); simp at z0 z1 z2 z3)); (try (have v0 := (bc4 w1.heap.size 0 l3).trans z0; have v1 := (bc4 w1.heap.size 1 l3).trans z1; have v2 := (bf4 w1.heap.size 0 l3).trans z2; have v3 := (bf4 w1.heap.size 1 l3).trans z3)); clear bc4 bf4))
          all_goals refine HK.out _ _ (by repeat (first | exact Below.refl _ _ | apply belowA | refine belowT ?_ hB4 | refine belowT ?_ hB3 | apply Below.drew | refine set2_below ?_ (by first | exact Nat.le_refl _ | (have h3 := hB3.size; have h4 := hB4.size; simp at h3 h4 ⊢; omega)) _ _)) ?_
          all_goals first | exact Box2.set ⟨v0, v1, v2, v3⟩ _ _ | exact Box2.set ⟨z0, z1, z2, z3⟩ _ _ | exact Box2.new _ _ _ _
        · have HR : Hid (takesM es p 4 = false) := by show _ = _; rw [HR2.out]; rfl
          have e2 : inB 4 x = (.iface 78 (.agg #[]), true) := rfl
          rw [e2] at HIB
          have e3 := HTU.out
          rw [sign4] at e3
          injection e3 with e4 e5
          subst e4
          subst e5
          clear e2 HTU
          have hg := guards
          have hq := eqs24
          go_enter Tryz.func32, Tryz.ntmps32
          go_wp2_with fail
          rw [← hw1]
          clear hw1
          rename_i Qx Kx hKx
          have HK : Hid (∀ (b : Nat) (W : World), Below w1.heap.size w1 W → Box2 W b (.iface tu uu) (.map (some (A (upS p)))) → Kx { tmps := #[layV A, .string p, .iface 69 (.agg #[]), .pointer (some ⟨w.heap.size, 0, none⟩), undef, undef, .bool false, .pointer (some ⟨b, 0, none⟩), .bool true, undef, undef, .tuple #[.agg #[.iface tu uu, .map (some (A (upS p)))], .bool true], .agg #[.iface 78 (.agg #[]), .map (some (A ⟨#[47]⟩))], .string p, .string (upS p), .tuple #[.agg #[.iface tu uu, .map (some (A (upS p)))], .bool true], .agg #[.iface tu uu, .map (some (A (upS p)))], .bool true, undef, undef, undef, undef, undef, undef, undef, undef, undef, undef, undef, undef, undef, undef, undef, undef, undef, undef, undef, undef, undef, undef, undef], defers := [] } W) := by
            intro b W hBW hbx
            refine hKx _ _ ?_
            clear hKx
            have HBW := hid (belowT hBw hBW)
            have HBX := hid hbx
            have HLY := hid (HB1.out.below hBW)
            obtain ⟨x0, x1, x2, x3⟩ := hbx
            go_wp2_with (first | (go_at_call 48; refine (HSD.out _).mono ?_; rintro e w5 ⟨rfl, hB5⟩; obtain ⟨l0, l1, l2, l3⟩ := HLY.out.below hB5) | (go_at_call 37; refine (HBa.out _ (AR.out _ (belowT hBW hB5))).mono ?_; rintro e w6 ⟨rfl, hB6⟩) | (go_at_call 38; refine (HIB.out _).mono ?_; rintro e w7 ⟨rfl, hB7⟩) | fail)
            go_ret
            exact ⟨by rw [HR.out]; rfl, belowT (belowT (belowT HBW.out hB5) hB6) hB7⟩
          clear hKx
          go_region_held3 (fun W' => W'.cell? ⟨w.heap.size, 0, none⟩ = some (.iface 78 (.agg #[])) ∧ W'.cell? ⟨w.heap.size, 1, none⟩ = some (.map (some (A ⟨#[47]⟩))))
            ((refine AS.out _ ?_; repeat (first | exact Below.refl _ _ | apply belowA | refine belowT ?_ hB4 | refine belowT ?_ hB3 | apply Below.drew | refine set2_below ?_ (by first | exact Nat.le_refl _ | (have h3 := hB3.size; have h4 := hB4.size; simp at h3 h4 ⊢; omega)) _ _)))
            (first | (go_at_call 47; refine (HU.out _).mono ?_; rintro e w3 ⟨rfl, hB3⟩; obtain ⟨bc3, bf3⟩ := bcellN hB3; have l3 := hB3.size; (try simp at l3); (try (have z0 := bc3 w1.heap.size 0 (lt_allocD _ _); have z1 := bc3 w1.heap.size 1 (lt_allocD _ _); have z2 := bf3 w1.heap.size 0 (lt_allocD _ _); have z3 := bf3 w1.heap.size 1 (lt_allocD _ _); simp at z0 z1 z2 z3)); clear bc3 bf3) | (go_at_call 35; refine (HAt.out _ (AR.out _ (by repeat (first | exact Below.refl _ _ | apply belowA | refine belowT ?_ hB3 | apply Below.drew)))).mono ?_; rintro e w4 ⟨rfl, hB4⟩; obtain ⟨bc4, bf4⟩ := bcellN hB4; have l4 := hB4.size; (try simp at l4); (try (have z0 := bc4 w3.heap.size 0 (lt_alloc _ _); have z1 := bc4 w3.heap.size 1 (lt_alloc _ _); have z2 := bf4 w3.heap.size 0 (lt_alloc _ _); have z3 := bf4 w3.heap.size 1 (lt_alloc _ _); simp at z0 z1 z2 z3)); (try (have v0 := (bc4 w1.heap.size 0 l3).trans z0; have v1 := (bc4 w1.heap.size 1 l3).trans z1; have v2 := (bf4 w1.heap.size 0 l3).trans z2; have v3 := (bf4 w1.heap.size 1 l3).trans z3)); clear bc4 bf4))
          all_goals refine HK.out _ _ (by repeat (first | exact Below.refl _ _ | apply belowA | refine belowT ?_ hB4 | refine belowT ?_ hB3 | apply Below.drew | refine set2_below ?_ (by first | exact Nat.le_refl _ | (have h3 := hB3.size; have h4 := hB4.size; simp at h3 h4 ⊢; omega)) _ _)) ?_
          all_goals first | exact Box2.set ⟨v0, v1, v2, v3⟩ _ _ | exact Box2.set ⟨z0, z1, z2, z3⟩ _ _ | exact Box2.new _ _ _ _
  · rw [atV_not (A := A) hA] at HAt
    have HR : Hid (takesM es p d = false) := by show _ = _; rw [HTK.out, inM_not hA]; rfl
    clear hA
    go_enter Tryz.func32, Tryz.ntmps32
    go_wp2_with fail
    rw [← hw1]
    clear hw1
    rename_i Qx Kx hKx
    have HK : Hid (∀ (b : Nat) (W : World), Below w1.heap.size w1 W → Box2 W b (.nilIface) (.map (none)) → Kx { tmps := #[layV A, .string p, .iface t u, .pointer (some ⟨w.heap.size, 0, none⟩), undef, undef, .bool false, .pointer (some ⟨b, 0, none⟩), .bool false, undef, undef, .tuple #[.agg #[.nilIface, .map (none)], .bool false], .agg #[.iface 78 (.agg #[]), .map (some (A ⟨#[47]⟩))], .string p, .string (upS p), .tuple #[.agg #[.nilIface, .map (none)], .bool false], .agg #[.nilIface, .map (none)], .bool false, undef, undef, undef, undef, undef, undef, undef, undef, undef, undef, undef, undef, undef, undef, undef, undef, undef, undef, undef, undef, undef, undef, undef], defers := [] } W) := by
      intro b W hBW hbx
      refine hKx _ _ ?_
      clear hKx
      have HBW := hid (belowT hBw hBW)
      have HBX := hid hbx
      have HLY := hid (HB1.out.below hBW)
      obtain ⟨x0, x1, x2, x3⟩ := hbx
      go_wp2
      go_ret
      exact ⟨by rw [HR.out]; rfl, HBW.out⟩
    clear hKx
    go_region_held3 (fun W' => W'.cell? ⟨w.heap.size, 0, none⟩ = some (.iface 78 (.agg #[])) ∧ W'.cell? ⟨w.heap.size, 1, none⟩ = some (.map (some (A ⟨#[47]⟩))))
      ((refine AS.out _ ?_; repeat (first | exact Below.refl _ _ | apply belowA | refine belowT ?_ hB4 | refine belowT ?_ hB3 | apply Below.drew | refine set2_below ?_ (by first | exact Nat.le_refl _ | (have h3 := hB3.size; have h4 := hB4.size; simp at h3 h4 ⊢; omega)) _ _)))
      (first | (go_at_call 47; refine (HU.out _).mono ?_; rintro e w3 ⟨rfl, hB3⟩; obtain ⟨bc3, bf3⟩ := bcellN hB3; have l3 := hB3.size; (try simp at l3); (try (have z0 := bc3 w1.heap.size 0 (lt_allocD _ _); have z1 := bc3 w1.heap.size 1 (lt_allocD _ _); have z2 := bf3 w1.heap.size 0 (lt_allocD _ _); have z3 := bf3 w1.heap.size 1 (lt_allocD _ _); simp at z0 z1 z2 z3)); clear bc3 bf3) | (go_at_call 35; refine (HAt.out _ (AR.out _ (by repeat (first | exact Below.refl _ _ | apply belowA | refine belowT ?_ hB3 | apply Below.drew)))).mono ?_; rintro e w4 ⟨rfl, hB4⟩; obtain ⟨bc4, bf4⟩ := bcellN hB4; have l4 := hB4.size; (try simp at l4); (try (have z0 := bc4 w3.heap.size 0 (lt_alloc _ _); have z1 := bc4 w3.heap.size 1 (lt_alloc _ _); have z2 := bf4 w3.heap.size 0 (lt_alloc _ _); have z3 := bf4 w3.heap.size 1 (lt_alloc _ _); simp at z0 z1 z2 z3)); (try (have v0 := (bc4 w1.heap.size 0 l3).trans z0; have v1 := (bc4 w1.heap.size 1 l3).trans z1; have v2 := (bf4 w1.heap.size 0 l3).trans z2; have v3 := (bf4 w1.heap.size 1 l3).trans z3)); clear bc4 bf4))
    all_goals refine HK.out _ _ (by repeat (first | exact Below.refl _ _ | apply belowA | refine belowT ?_ hB4 | refine belowT ?_ hB3 | apply Below.drew | refine set2_below ?_ (by first | exact Nat.le_refl _ | (have h3 := hB3.size; have h4 := hB4.size; simp at h3 h4 ⊢; omega)) _ _)) ?_
    all_goals first | exact Box2.set ⟨v0, v1, v2, v3⟩ _ _ | exact Box2.set ⟨z0, z1, z2, z3⟩ _ _ | exact Box2.new _ _ _ _
end Go.Proofs.YtocfbplaieonkaaGreat.Mk
