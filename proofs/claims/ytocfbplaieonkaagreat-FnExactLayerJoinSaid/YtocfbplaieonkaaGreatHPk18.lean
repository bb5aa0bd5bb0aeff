/-
  The walk of the program's own: what a layer has at a path.
-/
import Derived.Deep.RegionHeld3
import Derived.Test.YtocfbplaieonkaaGreatHPk06
import Derived.Test.YtocfbplaieonkaaGreatHPk11
import Derived.Test.YtocfbplaieonkaaGreatHPk05
namespace Go.Proofs.YtocfbplaieonkaaGreat.Mk
open Go.RowKit Go.Shelf Go.Lib

attribute [local go_sem] Oper.semAt_some

theorem belowA {w X : World} (h : Below w.heap.size w X) (o : Obj) : Below w.heap.size w (X.alloc o) := h.alloc h.size o
theorem belowT {w X Y : World} (h : Below w.heap.size w X) (k : Below X.heap.size X Y) : Below w.heap.size w Y := h.trans (k.mono h.size)
theorem lt_alloc (w : World) (o : Obj) : w.heap.size < (w.alloc o).heap.size := by simp
theorem lt_allocD (w : World) (o : Obj) : w.heap.size < (w.drew.alloc o).heap.size := by simp
theorem bcellN {W w1 : World} (hb : Below W.heap.size W w1) : (∀ b o, b < W.heap.size → w1.cell? ⟨b, o, none⟩ = W.cell? ⟨b, o, none⟩) ∧ (∀ b o, b < W.heap.size → w1.frozen? ⟨b, o, none⟩ = W.frozen? ⟨b, o, none⟩) :=
  ⟨fun b o h => hb.cell (p := ⟨b, o, none⟩) h, fun b o h => hb.frozen (p := ⟨b, o, none⟩) h⟩

/-- What is told of a path. -/
def atV (es : List E) (A : ByteArray → Nat) (s : ByteArray) : Value × Bool :=
  if isRoot s = true then (layV A, true) else match lookE es s with
  | some e => (nodeV e.d e.x (A s), true)
  | none => (zeroN, false)
theorem atV_root {es : List E} {A : ByteArray → Nat} {s : ByteArray} (h : isRoot s = true) : atV es A s = (layV A, true) := by unfold atV; rw [if_pos h]
theorem atV_some {es : List E} {A : ByteArray → Nat} {s : ByteArray} {e : E} (T : TrM es) (h : lookE es s = some e) : atV es A s = (nodeV e.d e.x (A s), true) := by
  unfold atV
  rw [if_neg (by rw [path_not_root (look_path T h)]; decide), h]
theorem atV_none {es : List E} {A : ByteArray → Nat} {s : ByteArray} (h : isRoot s = false) (h2 : lookE es s = none) : atV es A s = (zeroN, false) := by
  unfold atV
  rw [if_neg (by rw [h]; decide), h2]
theorem atV_there {es : List E} {A : ByteArray → Nat} {s : ByteArray} (T : TrM es) (h : AtM es s) : ∃ t u, atV es A s = (.agg #[.iface t u, .map (some (A s))], true) := by
  rcases h with rfl | ⟨e, h⟩
  · exact ⟨_, _, atV_root ((isRoot_iff _).2 rfl)⟩
  · obtain ⟨t, u, hs⟩ := sign_is e.d e.x
    exact ⟨t, u, by rw [atV_some T h]; unfold nodeV; rw [hs]⟩
theorem atV_not {es : List E} {A : ByteArray → Nat} {s : ByteArray} (h : ¬ AtM es s) : atV es A s = (zeroN, false) := by
  refine atV_none ?_ ?_
  · cases hr : isRoot s with
    | false => rfl
    | true => exact absurd (.inl ((isRoot_iff _).1 hr)) h
  · cases hl : lookE es s with
    | none => rfl
    | some e => exact absurd (.inr ⟨e, hl⟩) h
theorem name_max {s : ByteArray} (hp : pathB s = true) : (nmS s).size ≤ maxLen := by
  have := (up_facts hp).2.2.1
  unfold nameB at this
  rw [Bool.and_eq_true] at this
  have := (of_decide_eq_true this.1).2
  unfold maxLen; omega
theorem kid_at {es : List E} {A : ByteArray → Nat} {s : ByteArray} (hp : pathB s = true) : kidF es A (upS s) (nmS s) = (lookE es s).map (fun e => nodeV e.d e.x (A s)) := by
  unfold kidF
  rw [if_pos (up_facts hp).2.2.1, up_join hp]

set_option maxHeartbeats 2000000 in
set_option maxRecDepth 100000 in
theorem at_any (base N : Nat) (es : List E) (A : ByteArray → Nat) (T : TrM es) : ∀ (n : Nat) (w : World) (_ : Rep w base N es A) (s : ByteArray) (_ : s.size < n) (_ : s.size ≤ 16777216),
    Calls Tryz.prog 35 #[layV A, .string s] w fun e w' => e = .returned (.tuple #[(atV es A s).1, .bool (atV es A s).2]) ∧ Below w.heap.size w w'
  | 0, _, _, _, hn, _ => by omega
  | n + 1, w, R, s, hn, hs => by
    cases hr : (s.toList == [47]) with
    | true =>
      rw [atV_root hr]
      go_enter Tryz.func35, Tryz.ntmps35
      go_wp2
      exact bodyPost_ret (v := .tuple #[layV A, .bool true]) (by simp [results, Tryz.results35, go_sem]) rfl ⟨rfl, ((Below.refl _ w).alloc (Nat.le_refl _) _).alloc (by simp) _⟩
    | false =>
      have B1 := ((Box2.new w (.iface 78 (.agg #[])) (.map (some (A ⟨#[47]⟩))) 45).on (.cells #[.nilIface, .map none] 43))
      have B2 := Box2.new (w.alloc (.cells #[.iface 78 (.agg #[]), .map (some (A ⟨#[47]⟩))] 45)) .nilIface (.map none) 43
      simp only [World.size_alloc] at B2
      cases hp : pathB s with
      | false =>
        rw [atV_none hr (look_bad T hp)]
        go_enter Tryz.func35, Tryz.ntmps35
        have HO := hid (fun W => hp ▸ pOk_any s hs W)
        go_wp2_with (go_at_call 52; refine (HO.out _).mono ?_; rintro e w1 ⟨rfl, hB1⟩; obtain ⟨c0, c1, f0, f1⟩ := B2.below hB1)
        have hBw : Below w.heap.size w w1 := (((Below.refl _ w).alloc (Nat.le_refl _) _).alloc (by simp) _).trans (hB1.mono (by simp; omega))
        refine atSet2 (C := bodyPost Tryz.prog Tryz.f35 _ _ _) (B2.below hB1) hBw (Nat.le_succ _) ?_
        intro Wf s0 hBf _ _
        exact bodyPost_ret (v := .tuple #[zeroN, .bool false]) (by simp [results, Tryz.results35, go_sem, s0.c0, s0.c1]) rfl ⟨rfl, hBf⟩
      | true =>
        have HO := hid (fun W => hp ▸ pOk_any s hs W)
        have HU := hid (fun W => iPathUp_any s hs W)
        have HN := hid (fun W => iPathName_any s hs W)
        have hlt := up_lt hp
        have HAt := hid (fun (W : World) (hW : Rep W base N es A) => at_any base N es A T n W hW (upS s) (by omega) (by omega))
        have HV0 : Hid (isRoot s = false) := hr
        have HL : Hid (∀ W', Rep W' base N es A → AtM es (upS s) → (Instr.lookup 41 (.map (some (A (upS s)))) (.string (nmS s)) true).run Tryz.prog W' = .ok (.tuple #[((lookE es s).map (fun e => nodeV e.d e.x (A s))).getD zeroN, .bool ((lookE es s).map (fun e => nodeV e.d e.x (A s))).isSome]) W') := fun W' hW hA => by
          have := (hW.kids _ hA).look (name_max hp)
          rwa [kid_at hp] at this
        have HP := hid hp
        go_enter Tryz.func35, Tryz.ntmps35
        go_wp2_with fail
        refine (HO.out _).mono ?_
        rintro e w1 ⟨rfl, hB1⟩
        have B1' := B1.below hB1
        have HB2 := hid (B2.below hB1)
        have hBw : Below w.heap.size w w1 := (((Below.refl _ w).alloc (Nat.le_refl _) _).alloc (by simp) _).trans (hB1.mono (by simp; omega))
        have AS : Hid (∀ W', Below w1.heap.size w1 W' → (W'.cell? ⟨w.heap.size, 0, none⟩ = some (.iface 78 (.agg #[])) ∧ W'.cell? ⟨w.heap.size, 1, none⟩ = some (.map (some (A ⟨#[47]⟩))))) := fun W' hW => ⟨(B1'.below hW).c0, (B1'.below hW).c1⟩
        have AR : Hid (∀ W', Below w1.heap.size w1 W' → Rep W' base N es A) := fun W' hW => (R.below hBw).below hW
        have HRB : Hid (∀ W', Below w1.heap.size w1 W' → Box2 W' (w.heap.size + 1) .nilIface (.map none)) := fun W' hW => HB2.out.below hW
        obtain ⟨c0, c1, f0, f1⟩ := B1'
        clear B1 B2 hB1 hlt hp
        by_cases hA : AtM es (upS s)
        · obtain ⟨t, u, hv⟩ := atV_there (A := A) T hA
          rw [hv] at HAt
          cases hlk : lookE es s with
          | none =>
            have HV : Hid (atV es A s = (zeroN, false)) := atV_none HV0.out hlk
            have AL : Hid (∀ W', Below w1.heap.size w1 W' → (Instr.lookup 41 (.map (some (A (upS s)))) (.string (nmS s)) true).run Tryz.prog W' = .ok (.tuple #[zeroN, .bool false]) W') := fun W' hW => by
              have := HL.out W' (AR.out W' hW) hA
              rwa [hlk] at this
            clear hlk hv hA HL
            go_wp2_with fail
            rename_i Qx Kx hKx
            have HK : Hid (∀ (b : Nat) (W : World), Below w1.heap.size w1 W → Box2 W b (.iface t u) (.map (some (A (upS s)))) → Kx { tmps := #[layV A, .string s, .pointer (some ⟨w.heap.size, 0, none⟩), undef, .pointer (some ⟨w.heap.size + 1, 0, none⟩), .bool false, .pointer (some ⟨b, 0, none⟩), .bool true, undef, undef, .string s, .bool false, undef, undef, .string s, .bool true, .bool false, undef, .tuple #[.agg #[.iface t u, .map (some (A (upS s)))], .bool true], .agg #[.iface 78 (.agg #[]), .map (some (A ⟨#[47]⟩))], .string s, .string (upS s), .tuple #[.agg #[.iface t u, .map (some (A (upS s)))], .bool true], .agg #[.iface t u, .map (some (A (upS s)))], .bool true, undef, undef, undef, undef, undef, undef, undef, undef, undef, undef], defers := [] } W) := by
              intro b W hBW hbx
              refine hKx _ _ ?_
              clear hKx
              have AS2 : Hid (∀ W', Below W.heap.size W W' → (W'.cell? ⟨b, 1, none⟩ = some (.map (some (A (upS s)))))) := fun W' hW => (hbx.below hW).c1
              have AL2 : Hid (∀ W', Below W.heap.size W W' → (Instr.lookup 41 (.map (some (A (upS s)))) (.string (nmS s)) true).run Tryz.prog W' = .ok (.tuple #[.agg #[.nilIface, .map (none)], .bool false]) W') := fun W' hW => AL.out W' (belowT hBW hW)
              have HRes := hid ((HRB.out _ hBW))
              have HBW := hid (belowT hBw hBW)
              obtain ⟨x0, x1, x2, x3⟩ := hbx
              go_wp2_with fail
              rename_i K2 hK2
              have HK2 : Hid (∀ (b2 : Nat) (W2 : World), Below W.heap.size W W2 → Box2 W2 b2 (.nilIface) (.map (none)) → K2 { tmps := #[layV A, .string s, .pointer (some ⟨w.heap.size, 0, none⟩), undef, .pointer (some ⟨w.heap.size + 1, 0, none⟩), .bool false, .pointer (some ⟨b, 0, none⟩), .bool true, .pointer (some ⟨b2, 0, none⟩), .bool false, .string s, .bool false, undef, undef, .string s, .bool true, .bool false, undef, .tuple #[.agg #[.iface t u, .map (some (A (upS s)))], .bool true], .agg #[.iface 78 (.agg #[]), .map (some (A ⟨#[47]⟩))], .string s, .string (upS s), .tuple #[.agg #[.iface t u, .map (some (A (upS s)))], .bool true], .agg #[.iface t u, .map (some (A (upS s)))], .bool true, .tuple #[.agg #[.nilIface, .map (none)], .bool false], .pointer (some ⟨b, 1, none⟩), .map (some (A (upS s))), .string s, .string (nmS s), .tuple #[.agg #[.nilIface, .map (none)], .bool false], .agg #[.nilIface, .map (none)], .bool false, undef, undef], defers := [] } W2) := by
                intro b2 W2 hBW2 hb2
                refine hK2 _ _ ?_
                have hr2 := HRes.out.below hBW2
                have hBr := belowT HBW.out hBW2
                obtain ⟨q0, q1, q2, q3⟩ := hb2
                obtain ⟨r0, r1, r2, r3⟩ := hr2
                go_wp2
                refine atSet2 (C := bodyPost Tryz.prog Tryz.f35 _ _ _) ⟨r0, r1, r2, r3⟩ hBr (Nat.le_succ _) ?_
                intro Wf s0 hBf _ _
                refine bodyPost_ret (v := .tuple #[.agg #[.nilIface, .map (none)], .bool false]) (by simp [results, Tryz.results35, go_sem, s0.c0, s0.c1]) rfl ⟨?_, hBf⟩
                rw [HV.out]
              clear hK2
              go_region_held3 (fun W' => W'.cell? ⟨b, 1, none⟩ = some (.map (some (A (upS s)))))
                ((refine AS2.out _ ?_; repeat (first | exact Below.refl _ _ | apply belowA | refine belowT ?_ hB5 | apply Below.drew | refine set2_below ?_ (by first | exact Nat.le_refl _ | (have h5 := hB5.size; simp at h5 ⊢; omega)) _ _)))
                (first | (go_at_call 49; refine (HN.out _).mono ?_; rintro e w5 ⟨rfl, hB5⟩; have l5 := hB5.size; (try simp at l5); (obtain ⟨bc5, bf5⟩ := bcellN hB5); (try (have z0 := bc5 W.heap.size 0 (lt_allocD _ _); have z1 := bc5 W.heap.size 1 (lt_allocD _ _); have z2 := bf5 W.heap.size 0 (lt_allocD _ _); have z3 := bf5 W.heap.size 1 (lt_allocD _ _); simp at z0 z1 z2 z3)); clear bc5 bf5; have hl5 := AL2.out w5 (by repeat (first | exact Below.refl _ _ | apply belowA | refine belowT ?_ hB5 | apply Below.drew | refine set2_below ?_ (by first | exact Nat.le_refl _ | (have h5 := hB5.size; simp at h5 ⊢; omega)) _ _)); have hl6 := AL2.out (w5.alloc (.cells #[.nilIface, .map none] 43)) (by repeat (first | exact Below.refl _ _ | apply belowA | refine belowT ?_ hB5 | apply Below.drew | refine set2_below ?_ (by first | exact Nat.le_refl _ | (have h5 := hB5.size; simp at h5 ⊢; omega)) _ _))))
              all_goals refine HK2.out _ _ (by repeat (first | exact Below.refl _ _ | apply belowA | refine belowT ?_ hB5 | apply Below.drew | refine set2_below ?_ (by first | exact Nat.le_refl _ | (have h5 := hB5.size; simp at h5 ⊢; omega)) _ _)) ?_
              all_goals first | exact Box2.set ⟨z0, z1, z2, z3⟩ _ _ | exact Box2.set (Box2.new _ _ _ _) _ _ | exact Box2.new _ _ _ _
            clear hKx
            go_region_held3 (fun W' => W'.cell? ⟨w.heap.size, 0, none⟩ = some (.iface 78 (.agg #[])) ∧ W'.cell? ⟨w.heap.size, 1, none⟩ = some (.map (some (A ⟨#[47]⟩))))
              ((refine AS.out _ ?_; repeat (first | exact Below.refl _ _ | apply belowA | refine belowT ?_ hB4 | refine belowT ?_ hB3 | apply Below.drew | refine set2_below ?_ (by first | exact Nat.le_refl _ | (have h3 := hB3.size; have h4 := hB4.size; simp at h3 h4 ⊢; omega)) _ _)))
              (first | (go_at_call 47; refine (HU.out _).mono ?_; rintro e w3 ⟨rfl, hB3⟩; obtain ⟨bc3, bf3⟩ := bcellN hB3; have l3 := hB3.size; (try simp at l3); (try (have z0 := bc3 w1.heap.size 0 (lt_allocD _ _); have z1 := bc3 w1.heap.size 1 (lt_allocD _ _); have z2 := bf3 w1.heap.size 0 (lt_allocD _ _); have z3 := bf3 w1.heap.size 1 (lt_allocD _ _); simp at z0 z1 z2 z3)); clear bc3 bf3) | (go_at_call 35; refine (HAt.out _ (AR.out _ (by repeat (first | exact Below.refl _ _ | apply belowA | refine belowT ?_ hB3 | apply Below.drew)))).mono ?_; rintro e w4 ⟨rfl, hB4⟩; obtain ⟨bc4, bf4⟩ := bcellN hB4; have l4 := hB4.size; (try simp at l4); (try (have z0 := bc4 w3.heap.size 0 (lt_alloc _ _); have z1 := bc4 w3.heap.size 1 (lt_alloc _ _); have z2 := bf4 w3.heap.size 0 (lt_alloc _ _); have z3 := bf4 w3.heap.size 1 (lt_alloc _ _); simp at z0 z1 z2 z3)); (try (have v0 := (bc4 w1.heap.size 0 l3).trans z0; have v1 := (bc4 w1.heap.size 1 l3).trans z1; have v2 := (bf4 w1.heap.size 0 l3).trans z2; have v3 := (bf4 w1.heap.size 1 l3).trans z3)); clear bc4 bf4))
            all_goals refine HK.out _ _ (by repeat (first | exact Below.refl _ _ | apply belowA | refine belowT ?_ hB4 | refine belowT ?_ hB3 | apply Below.drew | refine set2_below ?_ (by first | exact Nat.le_refl _ | (have h3 := hB3.size; have h4 := hB4.size; simp at h3 h4 ⊢; omega)) _ _)) ?_
            all_goals first | exact Box2.set ⟨v0, v1, v2, v3⟩ _ _ | exact Box2.set ⟨z0, z1, z2, z3⟩ _ _ | exact Box2.new _ _ _ _
          | some e =>
            obtain ⟨t2, u2, hs2⟩ := sign_is e.d e.x
            have HV : Hid (atV es A s = (.agg #[.iface t2 u2, .map (some (A s))], true)) := by
              show _ = _
              rw [atV_some T hlk]; unfold nodeV; rw [hs2]
            have AL : Hid (∀ W', Below w1.heap.size w1 W' → (Instr.lookup 41 (.map (some (A (upS s)))) (.string (nmS s)) true).run Tryz.prog W' = .ok (.tuple #[.agg #[.iface t2 u2, .map (some (A s))], .bool true]) W') := fun W' hW => by
              have := HL.out W' (AR.out W' hW) hA
              rw [hlk] at this
              rw [this]
              show _ = Result.ok (Value.tuple #[Value.agg #[.iface t2 u2, .map (some (A s))], .bool true]) W'
              rw [← hs2]; rfl
            clear hlk hv hA HL hs2
            go_wp2_with fail
            rename_i Qx Kx hKx
            have HK : Hid (∀ (b : Nat) (W : World), Below w1.heap.size w1 W → Box2 W b (.iface t u) (.map (some (A (upS s)))) → Kx { tmps := #[layV A, .string s, .pointer (some ⟨w.heap.size, 0, none⟩), undef, .pointer (some ⟨w.heap.size + 1, 0, none⟩), .bool false, .pointer (some ⟨b, 0, none⟩), .bool true, undef, undef, .string s, .bool false, undef, undef, .string s, .bool true, .bool false, undef, .tuple #[.agg #[.iface t u, .map (some (A (upS s)))], .bool true], .agg #[.iface 78 (.agg #[]), .map (some (A ⟨#[47]⟩))], .string s, .string (upS s), .tuple #[.agg #[.iface t u, .map (some (A (upS s)))], .bool true], .agg #[.iface t u, .map (some (A (upS s)))], .bool true, undef, undef, undef, undef, undef, undef, undef, undef, undef, undef], defers := [] } W) := by
              intro b W hBW hbx
              refine hKx _ _ ?_
              clear hKx
              have AS2 : Hid (∀ W', Below W.heap.size W W' → (W'.cell? ⟨b, 1, none⟩ = some (.map (some (A (upS s)))))) := fun W' hW => (hbx.below hW).c1
              have AL2 : Hid (∀ W', Below W.heap.size W W' → (Instr.lookup 41 (.map (some (A (upS s)))) (.string (nmS s)) true).run Tryz.prog W' = .ok (.tuple #[.agg #[.iface t2 u2, .map (some (A s))], .bool true]) W') := fun W' hW => AL.out W' (belowT hBW hW)
              have HRes := hid ((HRB.out _ hBW))
              have HBW := hid (belowT hBw hBW)
              obtain ⟨x0, x1, x2, x3⟩ := hbx
              go_wp2_with fail
              rename_i K2 hK2
              have HK2 : Hid (∀ (b2 : Nat) (W2 : World), Below W.heap.size W W2 → Box2 W2 b2 (.iface t2 u2) (.map (some (A s))) → K2 { tmps := #[layV A, .string s, .pointer (some ⟨w.heap.size, 0, none⟩), undef, .pointer (some ⟨w.heap.size + 1, 0, none⟩), .bool false, .pointer (some ⟨b, 0, none⟩), .bool true, .pointer (some ⟨b2, 0, none⟩), .bool true, .string s, .bool false, undef, undef, .string s, .bool true, .bool false, undef, .tuple #[.agg #[.iface t u, .map (some (A (upS s)))], .bool true], .agg #[.iface 78 (.agg #[]), .map (some (A ⟨#[47]⟩))], .string s, .string (upS s), .tuple #[.agg #[.iface t u, .map (some (A (upS s)))], .bool true], .agg #[.iface t u, .map (some (A (upS s)))], .bool true, .tuple #[.agg #[.iface t2 u2, .map (some (A s))], .bool true], .pointer (some ⟨b, 1, none⟩), .map (some (A (upS s))), .string s, .string (nmS s), .tuple #[.agg #[.iface t2 u2, .map (some (A s))], .bool true], .agg #[.iface t2 u2, .map (some (A s))], .bool true, undef, undef], defers := [] } W2) := by
                intro b2 W2 hBW2 hb2
                refine hK2 _ _ ?_
                have hr2 := HRes.out.below hBW2
                have hBr := belowT HBW.out hBW2
                obtain ⟨q0, q1, q2, q3⟩ := hb2
                obtain ⟨r0, r1, r2, r3⟩ := hr2
                go_wp2
                refine atSet2 (C := bodyPost Tryz.prog Tryz.f35 _ _ _) ⟨r0, r1, r2, r3⟩ hBr (Nat.le_succ _) ?_
                intro Wf s0 hBf _ _
                refine bodyPost_ret (v := .tuple #[.agg #[.iface t2 u2, .map (some (A s))], .bool true]) (by simp [results, Tryz.results35, go_sem, s0.c0, s0.c1]) rfl ⟨?_, hBf⟩
                rw [HV.out]
              clear hK2
              go_region_held3 (fun W' => W'.cell? ⟨b, 1, none⟩ = some (.map (some (A (upS s)))))
                ((refine AS2.out _ ?_; repeat (first | exact Below.refl _ _ | apply belowA | refine belowT ?_ hB5 | apply Below.drew | refine set2_below ?_ (by first | exact Nat.le_refl _ | (have h5 := hB5.size; simp at h5 ⊢; omega)) _ _)))
                (first | (go_at_call 49; refine (HN.out _).mono ?_; rintro e w5 ⟨rfl, hB5⟩; have l5 := hB5.size; (try simp at l5); (obtain ⟨bc5, bf5⟩ := bcellN hB5); (try (have z0 := bc5 W.heap.size 0 (lt_allocD _ _); have z1 := bc5 W.heap.size 1 (lt_allocD _ _); have z2 := bf5 W.heap.size 0 (lt_allocD _ _); have z3 := bf5 W.heap.size 1 (lt_allocD _ _); simp at z0 z1 z2 z3)); clear bc5 bf5; have hl5 := AL2.out w5 (by repeat (first | exact Below.refl _ _ | apply belowA | refine belowT ?_ hB5 | apply Below.drew | refine set2_below ?_ (by first | exact Nat.le_refl _ | (have h5 := hB5.size; simp at h5 ⊢; omega)) _ _)); have hl6 := AL2.out (w5.alloc (.cells #[.nilIface, .map none] 43)) (by repeat (first | exact Below.refl _ _ | apply belowA | refine belowT ?_ hB5 | apply Below.drew | refine set2_below ?_ (by first | exact Nat.le_refl _ | (have h5 := hB5.size; simp at h5 ⊢; omega)) _ _))))
              all_goals refine HK2.out _ _ (by repeat (first | exact Below.refl _ _ | apply belowA | refine belowT ?_ hB5 | apply Below.drew | refine set2_below ?_ (by first | exact Nat.le_refl _ | (have h5 := hB5.size; simp at h5 ⊢; omega)) _ _)) ?_
              all_goals first | exact Box2.set ⟨z0, z1, z2, z3⟩ _ _ | exact Box2.set (Box2.new _ _ _ _) _ _ | exact Box2.new _ _ _ _
            clear hKx
            go_region_held3 (fun W' => W'.cell? ⟨w.heap.size, 0, none⟩ = some (.iface 78 (.agg #[])) ∧ W'.cell? ⟨w.heap.size, 1, none⟩ = some (.map (some (A ⟨#[47]⟩))))
              ((refine AS.out _ ?_; repeat (first | exact Below.refl _ _ | apply belowA | refine belowT ?_ hB4 | refine belowT ?_ hB3 | apply Below.drew | refine set2_below ?_ (by first | exact Nat.le_refl _ | (have h3 := hB3.size; have h4 := hB4.size; simp at h3 h4 ⊢; omega)) _ _)))
              (first | (go_at_call 47; refine (HU.out _).mono ?_; rintro e w3 ⟨rfl, hB3⟩; obtain ⟨bc3, bf3⟩ := bcellN hB3; have l3 := hB3.size; (try simp at l3); (try (have z0 := bc3 w1.heap.size 0 (lt_allocD _ _); have z1 := bc3 w1.heap.size 1 (lt_allocD _ _); have z2 := bf3 w1.heap.size 0 (lt_allocD _ _); have z3 := bf3 w1.heap.size 1 (lt_allocD _ _); simp at z0 z1 z2 z3)); clear bc3 bf3) | (go_at_call 35; refine (HAt.out _ (AR.out _ (by repeat (first | exact Below.refl _ _ | apply belowA | refine belowT ?_ hB3 | apply Below.drew)))).mono ?_; rintro e w4 ⟨rfl, hB4⟩; obtain ⟨bc4, bf4⟩ := bcellN hB4; have l4 := hB4.size; (try simp at l4); (try (have z0 := bc4 w3.heap.size 0 (lt_alloc _ _); have z1 := bc4 w3.heap.size 1 (lt_alloc _ _); have z2 := bf4 w3.heap.size 0 (lt_alloc _ _); have z3 := bf4 w3.heap.size 1 (lt_alloc _ _); simp at z0 z1 z2 z3)); (try (have v0 := (bc4 w1.heap.size 0 l3).trans z0; have v1 := (bc4 w1.heap.size 1 l3).trans z1; have v2 := (bf4 w1.heap.size 0 l3).trans z2; have v3 := (bf4 w1.heap.size 1 l3).trans z3)); clear bc4 bf4))
            all_goals refine HK.out _ _ (by repeat (first | exact Below.refl _ _ | apply belowA | refine belowT ?_ hB4 | refine belowT ?_ hB3 | apply Below.drew | refine set2_below ?_ (by first | exact Nat.le_refl _ | (have h3 := hB3.size; have h4 := hB4.size; simp at h3 h4 ⊢; omega)) _ _)) ?_
            all_goals first | exact Box2.set ⟨v0, v1, v2, v3⟩ _ _ | exact Box2.set ⟨z0, z1, z2, z3⟩ _ _ | exact Box2.new _ _ _ _
        · have hv := atV_not (A := A) hA
          rw [hv] at HAt
          have HV : Hid (atV es A s = (zeroN, false)) := atV_none HV0.out (look_up T (by
            cases hl : lookE es (upS s) with
            | none => rfl
            | some e => exact absurd (.inr ⟨e, hl⟩) hA) (fun q => hA (.inl q)))
          have AL : Hid (∀ W', Below w1.heap.size w1 W' → (Instr.lookup 41 (.map none) (.string (nmS s)) true).run Tryz.prog W' = .ok (.tuple #[zeroN, .bool false]) W') := fun W' _ => look_no W' (name_max HP.out)
          clear hv hA HL
          go_wp2_with fail
          rename_i Qx Kx hKx
          have HK : Hid (∀ (b : Nat) (W : World), Below w1.heap.size w1 W → Box2 W b (.nilIface) (.map (none)) → Kx { tmps := #[layV A, .string s, .pointer (some ⟨w.heap.size, 0, none⟩), undef, .pointer (some ⟨w.heap.size + 1, 0, none⟩), .bool false, .pointer (some ⟨b, 0, none⟩), .bool false, undef, undef, .string s, .bool false, undef, undef, .string s, .bool true, .bool false, undef, .tuple #[.agg #[.nilIface, .map (none)], .bool false], .agg #[.iface 78 (.agg #[]), .map (some (A ⟨#[47]⟩))], .string s, .string (upS s), .tuple #[.agg #[.nilIface, .map (none)], .bool false], .agg #[.nilIface, .map (none)], .bool false, undef, undef, undef, undef, undef, undef, undef, undef, undef, undef], defers := [] } W) := by
            intro b W hBW hbx
            refine hKx _ _ ?_
            clear hKx
            have AS2 : Hid (∀ W', Below W.heap.size W W' → (W'.cell? ⟨b, 1, none⟩ = some (.map (none)))) := fun W' hW => (hbx.below hW).c1
            have AL2 : Hid (∀ W', Below W.heap.size W W' → (Instr.lookup 41 (.map (none)) (.string (nmS s)) true).run Tryz.prog W' = .ok (.tuple #[.agg #[.nilIface, .map (none)], .bool false]) W') := fun W' hW => AL.out W' (belowT hBW hW)
            have HRes := hid ((HRB.out _ hBW))
            have HBW := hid (belowT hBw hBW)
            obtain ⟨x0, x1, x2, x3⟩ := hbx
            go_wp2_with fail
            rename_i K2 hK2
            have HK2 : Hid (∀ (b2 : Nat) (W2 : World), Below W.heap.size W W2 → Box2 W2 b2 (.nilIface) (.map (none)) → K2 { tmps := #[layV A, .string s, .pointer (some ⟨w.heap.size, 0, none⟩), undef, .pointer (some ⟨w.heap.size + 1, 0, none⟩), .bool false, .pointer (some ⟨b, 0, none⟩), .bool false, .pointer (some ⟨b2, 0, none⟩), .bool false, .string s, .bool false, undef, undef, .string s, .bool true, .bool false, undef, .tuple #[.agg #[.nilIface, .map (none)], .bool false], .agg #[.iface 78 (.agg #[]), .map (some (A ⟨#[47]⟩))], .string s, .string (upS s), .tuple #[.agg #[.nilIface, .map (none)], .bool false], .agg #[.nilIface, .map (none)], .bool false, .tuple #[.agg #[.nilIface, .map (none)], .bool false], .pointer (some ⟨b, 1, none⟩), .map (none), .string s, .string (nmS s), .tuple #[.agg #[.nilIface, .map (none)], .bool false], .agg #[.nilIface, .map (none)], .bool false, undef, undef], defers := [] } W2) := by
              intro b2 W2 hBW2 hb2
              refine hK2 _ _ ?_
              have hr2 := HRes.out.below hBW2
              have hBr := belowT HBW.out hBW2
              obtain ⟨q0, q1, q2, q3⟩ := hb2
              obtain ⟨r0, r1, r2, r3⟩ := hr2
              go_wp2
              refine atSet2 (C := bodyPost Tryz.prog Tryz.f35 _ _ _) ⟨r0, r1, r2, r3⟩ hBr (Nat.le_succ _) ?_
              intro Wf s0 hBf _ _
              refine bodyPost_ret (v := .tuple #[.agg #[.nilIface, .map (none)], .bool false]) (by simp [results, Tryz.results35, go_sem, s0.c0, s0.c1]) rfl ⟨?_, hBf⟩
              rw [HV.out]
            clear hK2
            go_region_held3 (fun W' => W'.cell? ⟨b, 1, none⟩ = some (.map (none)))
              ((refine AS2.out _ ?_; repeat (first | exact Below.refl _ _ | apply belowA | refine belowT ?_ hB5 | apply Below.drew | refine set2_below ?_ (by first | exact Nat.le_refl _ | (have h5 := hB5.size; simp at h5 ⊢; omega)) _ _)))
              (first | (go_at_call 49; refine (HN.out _).mono ?_; rintro e w5 ⟨rfl, hB5⟩; have l5 := hB5.size; (try simp at l5); (obtain ⟨bc5, bf5⟩ := bcellN hB5); (try (have z0 := bc5 W.heap.size 0 (lt_allocD _ _); have z1 := bc5 W.heap.size 1 (lt_allocD _ _); have z2 := bf5 W.heap.size 0 (lt_allocD _ _); have z3 := bf5 W.heap.size 1 (lt_allocD _ _); simp at z0 z1 z2 z3)); clear bc5 bf5; have hl5 := AL2.out w5 (by repeat (first | exact Below.refl _ _ | apply belowA | refine belowT ?_ hB5 | apply Below.drew | refine set2_below ?_ (by first | exact Nat.le_refl _ | (have h5 := hB5.size; simp at h5 ⊢; omega)) _ _)); have hl6 := AL2.out (w5.alloc (.cells #[.nilIface, .map none] 43)) (by repeat (first | exact Below.refl _ _ | apply belowA | refine belowT ?_ hB5 | apply Below.drew | refine set2_below ?_ (by first | exact Nat.le_refl _ | (have h5 := hB5.size; simp at h5 ⊢; omega)) _ _))))
            all_goals refine HK2.out _ _ (by repeat (first | exact Below.refl _ _ | apply belowA | refine belowT ?_ hB5 | apply Below.drew | refine set2_below ?_ (by first | exact Nat.le_refl _ | (have h5 := hB5.size; simp at h5 ⊢; omega)) _ _)) ?_
            all_goals first | exact Box2.set ⟨z0, z1, z2, z3⟩ _ _ | exact Box2.set (Box2.new _ _ _ _) _ _ | exact Box2.new _ _ _ _
          clear hKx
          go_region_held3 (fun W' => W'.cell? ⟨w.heap.size, 0, none⟩ = some (.iface 78 (.agg #[])) ∧ W'.cell? ⟨w.heap.size, 1, none⟩ = some (.map (some (A ⟨#[47]⟩))))
            ((refine AS.out _ ?_; repeat (first | exact Below.refl _ _ | apply belowA | refine belowT ?_ hB4 | refine belowT ?_ hB3 | apply Below.drew | refine set2_below ?_ (by first | exact Nat.le_refl _ | (have h3 := hB3.size; have h4 := hB4.size; simp at h3 h4 ⊢; omega)) _ _)))
            (first | (go_at_call 47; refine (HU.out _).mono ?_; rintro e w3 ⟨rfl, hB3⟩; obtain ⟨bc3, bf3⟩ := bcellN hB3; have l3 := hB3.size; (try simp at l3); (try (have z0 := bc3 w1.heap.size 0 (lt_allocD _ _); have z1 := bc3 w1.heap.size 1 (lt_allocD _ _); have z2 := bf3 w1.heap.size 0 (lt_allocD _ _); have z3 := bf3 w1.heap.size 1 (lt_allocD _ _); simp at z0 z1 z2 z3)); clear bc3 bf3) | (go_at_call 35; refine (HAt.out _ (AR.out _ (by repeat (first | exact Below.refl _ _ | apply belowA | refine belowT ?_ hB3 | apply Below.drew)))).mono ?_; rintro e w4 ⟨rfl, hB4⟩; obtain ⟨bc4, bf4⟩ := bcellN hB4; have l4 := hB4.size; (try simp at l4); (try (have z0 := bc4 w3.heap.size 0 (lt_alloc _ _); have z1 := bc4 w3.heap.size 1 (lt_alloc _ _); have z2 := bf4 w3.heap.size 0 (lt_alloc _ _); have z3 := bf4 w3.heap.size 1 (lt_alloc _ _); simp at z0 z1 z2 z3)); (try (have v0 := (bc4 w1.heap.size 0 l3).trans z0; have v1 := (bc4 w1.heap.size 1 l3).trans z1; have v2 := (bf4 w1.heap.size 0 l3).trans z2; have v3 := (bf4 w1.heap.size 1 l3).trans z3)); clear bc4 bf4))
          all_goals refine HK.out _ _ (by repeat (first | exact Below.refl _ _ | apply belowA | refine belowT ?_ hB4 | refine belowT ?_ hB3 | apply Below.drew | refine set2_below ?_ (by first | exact Nat.le_refl _ | (have h3 := hB3.size; have h4 := hB4.size; simp at h3 h4 ⊢; omega)) _ _)) ?_
          all_goals first | exact Box2.set ⟨v0, v1, v2, v3⟩ _ _ | exact Box2.set ⟨z0, z1, z2, z3⟩ _ _ | exact Box2.new _ _ _ _
end Go.Proofs.YtocfbplaieonkaaGreat.Mk

/-
  The walks of the program's own small functions on signs.
-/
namespace Go.Proofs.YtocfbplaieonkaaGreat.Mk
open Go.RowKit Go.Shelf Go.Lib

attribute [local go_sem] Oper.semAt_some

theorem newDir_any (w : World) :
    Calls Tryz.prog 110 #[] w fun e w' => (∃ a, e = .returned (.agg #[.bool true, .string ⟨#[]⟩, .map (some a)])) ∧ Below w.heap.size w w' := by
  have hmm := @run_makeMap Tryz.prog
  go_enter Tryz.func110, Tryz.ntmps110
  go_wp2
  refine bodyPost_ret (v := .agg #[.bool true, .string ⟨#[]⟩, .map (some (w.heap.size + 1))]) (by simp [results, Tryz.results110, go_sem]) rfl ⟨⟨_, rfl⟩, ?_⟩
  exact ((Below.refl _ w).alloc (Nat.le_refl _) _).alloc (by simp) _

set_option maxHeartbeats 400000 in
theorem newNode_any (t : TypeId) (u : Value) (w : World) :
    Calls Tryz.prog 44 #[.iface t u] w fun e w' => e = .returned (.agg #[.iface t u, .map (some (w.heap.size + 1))]) ∧ MapIs w' (w.heap.size + 1) 0 (fun _ => none) ∧ Below w.heap.size w w' := by
  have hmm := @run_makeMap Tryz.prog
  go_enter Tryz.func44, Tryz.ntmps44
  go_wp2
  refine bodyPost_ret (v := .agg #[.iface t u, .map (some (w.heap.size + 1))]) (by simp [results, Tryz.results44, go_sem]) rfl ⟨rfl, ?_, ?_⟩
  · have := MapIs.made (w.alloc (.cells #[.iface t u, .map (some (w.heap.size + 1))] 43))
    rwa [World.size_alloc] at this
  · exact ((Below.refl _ w).alloc (Nat.le_refl _) _).alloc (by simp) _

set_option maxHeartbeats 400000 in
theorem newLayer_any (w : World) :
    Calls Tryz.prog 30 #[] w fun e w' => (∃ a, w.heap.size ≤ a ∧ e = .returned (.agg #[.iface 78 (.agg #[]), .map (some a)]) ∧ MapIs w' a 0 (fun _ => none)) ∧ Below w.heap.size w w' := by
  have B := Box2.new w .nilIface (.map none) 45
  go_enter Tryz.func30, Tryz.ntmps30
  go_wp2_with (first | (go_at_call 44; refine (newNode_any _ _ _).mono ?_; rintro e w1 ⟨rfl, hM1, hB1⟩; obtain ⟨c0, c1, c2, c3⟩ := B.below hB1) | fail)
  have hBw := belowT (belowA (Below.refl _ w) _) hB1
  refine atSet2 (C := bodyPost Tryz.prog Tryz.f30 _ _ _) (B.below hB1) hBw (Nat.le_refl _) ?_
  intro Wf s0 hBf hK _
  simp only [World.size_alloc] at hM1
  exact bodyPost_ret (v := .agg #[.iface 78 (.agg #[]), .map (some (w.heap.size + 1 + 1))]) (by simp [results, Tryz.results30, go_sem, s0.c0, s0.c1]) rfl ⟨⟨_, by omega, rfl, hM1.keeps hK⟩, hBf⟩

theorem clone_any (x : ByteArray) (hx : x.size ≤ 16777216) (w : World) :
    Calls Tryz.prog 45 #[.string x] w fun e w' => e = .returned (.string x) ∧ Below w.heap.size w w' := by
  go_enter Tryz.func45, Tryz.ntmps45
  go_wp2_with (first | (go_at_call 58; refine (sClone_any _ _ (by omega)).mono ?_; rintro e w' ⟨rfl, hB⟩) | go_in)
  go_ret
  exact ⟨rfl, hB⟩

theorem newFile_any (x : ByteArray) (hx : x.size ≤ 16777216) (w : World) :
    Calls Tryz.prog 117 #[.string x] w fun e w' => e = .returned (.agg #[.bool false, .string x, .map none]) ∧ Below w.heap.size w w' := by
  have B := Box3.new w (.bool false) (.string ⟨#[]⟩) (.map none) 89
  go_enter Tryz.func117, Tryz.ntmps117
  go_wp2_with (first | (go_at_call 45; refine (clone_any _ hx _).mono ?_; rintro e w1 ⟨rfl, hB1⟩; obtain ⟨k0, k1, k2, f0, f1, f2⟩ := B.below hB1) | fail)
  refine atSet3 (C := bodyPost Tryz.prog Tryz.f117 _ _ _) (B.below hB1) (belowT (belowA (Below.refl _ w) _) hB1) (Nat.le_refl _) ?_
  intro Wf s0 hBf _
  exact bodyPost_ret (v := .agg #[.bool false, .string x, .map none]) (by simp [results, Tryz.results117, go_sem, s0.c0, s0.c1, s0.c2]) rfl ⟨rfl, hBf⟩
set_option maxHeartbeats 400000 in
theorem showsF_any (x : ByteArray) (hx : x.size ≤ 16777216) (w : World) :
    Calls Tryz.prog 116 #[.agg #[.string x]] w fun e w' => e = .returned (.tuple #[.agg #[.bool false, .string x, .map none], .bool true]) ∧ Below w.heap.size w w' := by
  have B := Box3.new (w.alloc (.cells #[.string x] 80)) (.bool false) (.string ⟨#[]⟩) (.map none) 89
  simp only [World.size_alloc] at B
  go_enter Tryz.func116, Tryz.ntmps116
  go_wp2_with (first | (go_at_call 117; refine (newFile_any _ hx _).mono ?_; rintro e w1 ⟨rfl, hB1⟩; obtain ⟨k0, k1, k2, f0, f1, f2⟩ := B.below hB1) | fail)
  refine atSet3 (C := bodyPost Tryz.prog Tryz.f116 _ _ _) (B.below hB1) (belowT (belowA (belowA (Below.refl _ w) _) _) hB1) (Nat.le_succ _) ?_
  intro Wf s0 hBf _
  exact bodyPost_ret (v := .tuple #[.agg #[.bool false, .string x, .map none], .bool true]) (by simp [results, Tryz.results116, go_sem, s0.c0, s0.c1, s0.c2]) rfl ⟨rfl, hBf⟩
set_option maxHeartbeats 400000 in
theorem showsD_any (w : World) :
    Calls Tryz.prog 113 #[.agg #[]] w fun e w' => (∃ a, e = .returned (.tuple #[.agg #[.bool true, .string ⟨#[]⟩, .map (some a)], .bool true])) ∧ Below w.heap.size w w' := by
  have B := Box3.new (w.alloc (.cells #[] 78)) (.bool false) (.string ⟨#[]⟩) (.map none) 89
  simp only [World.size_alloc] at B
  go_enter Tryz.func113, Tryz.ntmps113
  go_wp2_with (first | (go_at_call 110; refine (newDir_any _).mono ?_; rintro e w1 ⟨⟨aa, rfl⟩, hB1⟩; obtain ⟨k0, k1, k2, f0, f1, f2⟩ := B.below hB1) | fail)
  refine atSet3 (C := bodyPost Tryz.prog Tryz.f113 _ _ _) (B.below hB1) (belowT (belowA (belowA (Below.refl _ w) _) _) hB1) (Nat.le_succ _) ?_
  intro Wf s0 hBf _
  exact bodyPost_ret (v := .tuple #[.agg #[.bool true, .string ⟨#[]⟩, .map (some aa)], .bool true]) (by simp [results, Tryz.results113, go_sem, s0.c0, s0.c1, s0.c2]) rfl ⟨⟨_, rfl⟩, hBf⟩
set_option maxHeartbeats 400000 in
theorem showsB_any (w : World) :
    Calls Tryz.prog 109 #[.agg #[]] w fun e w' => (∃ a, e = .returned (.tuple #[.agg #[.bool true, .string ⟨#[]⟩, .map (some a)], .bool true])) ∧ Below w.heap.size w w' := by
  have B := Box3.new (w.alloc (.cells #[] 69)) (.bool false) (.string ⟨#[]⟩) (.map none) 89
  simp only [World.size_alloc] at B
  go_enter Tryz.func109, Tryz.ntmps109
  go_wp2_with (first | (go_at_call 110; refine (newDir_any _).mono ?_; rintro e w1 ⟨⟨aa, rfl⟩, hB1⟩; obtain ⟨k0, k1, k2, f0, f1, f2⟩ := B.below hB1) | fail)
  refine atSet3 (C := bodyPost Tryz.prog Tryz.f109 _ _ _) (B.below hB1) (belowT (belowA (belowA (Below.refl _ w) _) _) hB1) (Nat.le_succ _) ?_
  intro Wf s0 hBf _
  exact bodyPost_ret (v := .tuple #[.agg #[.bool true, .string ⟨#[]⟩, .map (some aa)], .bool true]) (by simp [results, Tryz.results109, go_sem, s0.c0, s0.c1, s0.c2]) rfl ⟨⟨_, rfl⟩, hBf⟩
set_option maxHeartbeats 400000 in
theorem showsG_any (w : World) :
    Calls Tryz.prog 120 #[.agg #[]] w fun e w' => e = .returned (.tuple #[.agg #[.bool false, .string ⟨#[]⟩, .map none], .bool false]) ∧ Below w.heap.size w w' := by
  go_enter Tryz.func120, Tryz.ntmps120
  go_wp2
  exact bodyPost_ret (v := .tuple #[.agg #[.bool false, .string ⟨#[]⟩, .map none], .bool false]) (by simp [results, Tryz.results120, go_sem]) rfl ⟨rfl, belowA (belowA (Below.refl _ w) _) _⟩
theorem hides1_any (x : ByteArray) (w : World) : Calls Tryz.prog 114 #[.agg #[.string x]] w fun e w' => e = .returned (.bool true) ∧ Below w.heap.size w w' := by
  go_enter Tryz.func114, Tryz.ntmps114
  go_wp2
  go_ret
  exact ⟨rfl, belowA (Below.refl _ w) _⟩
theorem hides2_any (w : World) : Calls Tryz.prog 111 #[.agg #[]] w fun e w' => e = .returned (.bool false) ∧ Below w.heap.size w w' := by
  go_enter Tryz.func111, Tryz.ntmps111
  go_wp2
  go_ret
  exact ⟨rfl, belowA (Below.refl _ w) _⟩
theorem hides3_any (w : World) : Calls Tryz.prog 118 #[.agg #[]] w fun e w' => e = .returned (.bool true) ∧ Below w.heap.size w w' := by
  go_enter Tryz.func118, Tryz.ntmps118
  go_wp2
  go_ret
  exact ⟨rfl, belowA (Below.refl _ w) _⟩
theorem hides4_any (w : World) : Calls Tryz.prog 107 #[.agg #[]] w fun e w' => e = .returned (.bool true) ∧ Below w.heap.size w w' := by
  go_enter Tryz.func107, Tryz.ntmps107
  go_wp2
  go_ret
  exact ⟨rfl, belowA (Below.refl _ w) _⟩

set_option maxHeartbeats 1000000 in
theorem showsDir_any (d : Int) (x : ByteArray) (hx : x.size ≤ 16777216) (hd : 1 ≤ d ∧ d ≤ 4) (w : World) :
    Calls Tryz.prog 48 #[signV d x] w fun e w' => e = .returned (.bool (dirK d)) ∧ Below w.heap.size w w' := by
  rcases (by omega : d = 1 ∨ d = 2 ∨ d = 3 ∨ d = 4) with rfl | rfl | rfl | rfl
  · have hm : ∀ W, (method 247 80 (.agg #[.string x]) "loop.example/pargeting/impl.shows").run Tryz.prog W = .ok (116, .agg #[.string x]) W := fun _ => by kernel_rfl
    rw [sign1]
    go_enter Tryz.func48, Tryz.ntmps48
    go_wp2_with (first | (go_at_call 116; refine (showsF_any _ hx _).mono ?_; rintro e w1 ⟨rfl, hB1⟩) | fail)
    go_ret
    exact ⟨rfl, belowA hB1 _⟩
  · have hm : ∀ W, (method 247 78 (.agg #[]) "loop.example/pargeting/impl.shows").run Tryz.prog W = .ok (113, .agg #[]) W := fun _ => by kernel_rfl
    rw [sign2]
    go_enter Tryz.func48, Tryz.ntmps48
    go_wp2_with (first | (go_at_call 113; refine (showsD_any _).mono ?_; rintro e w1 ⟨⟨aa, rfl⟩, hB1⟩) | fail)
    go_ret
    exact ⟨rfl, belowA hB1 _⟩
  · have hm : ∀ W, (method 247 81 (.agg #[]) "loop.example/pargeting/impl.shows").run Tryz.prog W = .ok (120, .agg #[]) W := fun _ => by kernel_rfl
    rw [sign3]
    go_enter Tryz.func48, Tryz.ntmps48
    go_wp2_with (first | (go_at_call 120; refine (showsG_any _).mono ?_; rintro e w1 ⟨rfl, hB1⟩) | fail)
    go_ret
    exact ⟨rfl, belowA hB1 _⟩
  · have hm : ∀ W, (method 247 69 (.agg #[]) "loop.example/pargeting/impl.shows").run Tryz.prog W = .ok (109, .agg #[]) W := fun _ => by kernel_rfl
    rw [sign4]
    go_enter Tryz.func48, Tryz.ntmps48
    go_wp2_with (first | (go_at_call 109; refine (showsB_any _).mono ?_; rintro e w1 ⟨⟨aa, rfl⟩, hB1⟩) | fail)
    go_ret
    exact ⟨rfl, belowA hB1 _⟩

set_option maxHeartbeats 1000000 in
theorem signOfNode1_any (x : ByteArray) (w : World) :
    Calls Tryz.prog 55 #[.agg #[.bool false, .string x, .map none]] w fun e w' => e = .returned (signV 1 x) ∧ Below w.heap.size w w' := by
  rw [sign1]
  go_enter Tryz.func55, Tryz.ntmps55
  go_wp2
  go_ret
  exact ⟨rfl, belowA (Below.refl _ w) _⟩
set_option maxHeartbeats 1000000 in
theorem signOfNode2_any (a : Nat) (x : ByteArray) (w : World) :
    Calls Tryz.prog 55 #[.agg #[.bool true, .string x, .map (some a)]] w fun e w' => e = .returned (signV 2 x) ∧ Below w.heap.size w w' := by
  rw [sign2]
  go_enter Tryz.func55, Tryz.ntmps55
  go_wp2
  go_ret
  exact ⟨rfl, belowA (Below.refl _ w) _⟩
end Go.Proofs.YtocfbplaieonkaaGreat.Mk

/-
  The walks of the program's own: what is left of a sign below a bare one, and the sign of a mark.
-/
namespace Go.Proofs.YtocfbplaieonkaaGreat.Mk
open Go.RowKit Go.Shelf Go.Lib

attribute [local go_sem] Oper.semAt_some

theorem belowN {B : Nat} {a w : World} (h : Below B a w) (n : Nat) : Below B a (w.drewN n) := h.trans ⟨rfl, rfl, rfl, Nat.le_refl _, fun _ _ => rfl⟩
/-- What is left of a sign below a bare one. -/
def inB (d : Int) (x : ByteArray) : Value × Bool := if d = 1 then (signV 1 x, true) else if d = 3 then (.nilIface, false) else (.iface 78 (.agg #[]), true)

set_option maxHeartbeats 1000000 in
theorem inBare_any (d : Int) (x : ByteArray) (hx : x.size ≤ 16777216) (hd : 1 ≤ d ∧ d ≤ 4) (w : World) :
    Calls Tryz.prog 38 #[signV d x] w fun e w' => e = .returned (.tuple #[(inB d x).1, .bool (inB d x).2]) ∧ Below w.heap.size w w' := by
  rcases (by omega : d = 1 ∨ d = 2 ∨ d = 3 ∨ d = 4) with rfl | rfl | rfl | rfl
  · have hm : ∀ W, (method 247 80 (.agg #[.string x]) "loop.example/pargeting/impl.shows").run Tryz.prog W = .ok (116, .agg #[.string x]) W := fun _ => by kernel_rfl
    rw [sign1]
    go_enter Tryz.func38, Tryz.ntmps38
    go_wp2_with (first | (go_at_call 116; refine (showsF_any _ hx _).mono ?_; rintro e w1 ⟨rfl, hB1⟩) | (go_at_call 55; refine (signOfNode1_any _ _).mono ?_; rintro e w2 ⟨rfl, hB2⟩) | fail)
    refine bodyPost_ret (v := .tuple #[.iface 80 (.agg #[.string x]), .bool true]) (by simp [results, Tryz.results38, go_sem, sign1]) rfl ⟨rfl, belowT (belowA hB1 _) hB2⟩
  · have hm : ∀ W, (method 247 78 (.agg #[]) "loop.example/pargeting/impl.shows").run Tryz.prog W = .ok (113, .agg #[]) W := fun _ => by kernel_rfl
    rw [sign2]
    go_enter Tryz.func38, Tryz.ntmps38
    go_wp2_with (first | (go_at_call 113; refine (showsD_any _).mono ?_; rintro e w1 ⟨⟨aa, rfl⟩, hB1⟩) | (go_at_call 55; refine (signOfNode2_any _ _ _).mono ?_; rintro e w2 ⟨rfl, hB2⟩) | fail)
    refine bodyPost_ret (v := .tuple #[.iface 78 (.agg #[]), .bool true]) (by simp [results, Tryz.results38, go_sem, sign2]) rfl ⟨rfl, belowT (belowA hB1 _) hB2⟩
  · have hm : ∀ W, (method 247 81 (.agg #[]) "loop.example/pargeting/impl.shows").run Tryz.prog W = .ok (120, .agg #[]) W := fun _ => by kernel_rfl
    rw [sign3]
    go_enter Tryz.func38, Tryz.ntmps38
    go_wp2_with (first | (go_at_call 120; refine (showsG_any _).mono ?_; rintro e w1 ⟨rfl, hB1⟩) | fail)
    refine bodyPost_ret (v := .tuple #[.nilIface, .bool false]) (by simp [results, Tryz.results38, go_sem]) rfl ⟨rfl, belowA hB1 _⟩
  · have hm : ∀ W, (method 247 69 (.agg #[]) "loop.example/pargeting/impl.shows").run Tryz.prog W = .ok (109, .agg #[]) W := fun _ => by kernel_rfl
    rw [sign4]
    go_enter Tryz.func38, Tryz.ntmps38
    go_wp2_with (first | (go_at_call 109; refine (showsB_any _).mono ?_; rintro e w1 ⟨⟨aa, rfl⟩, hB1⟩) | (go_at_call 55; refine (signOfNode2_any _ _ _).mono ?_; rintro e w2 ⟨rfl, hB2⟩) | fail)
    refine bodyPost_ret (v := .tuple #[.iface 78 (.agg #[]), .bool true]) (by simp [results, Tryz.results38, go_sem, sign2]) rfl ⟨rfl, belowT (belowA hB1 _) hB2⟩

/-- The sign of a mark. -/
def signM (d : Int) (x : ByteArray) : Value := if 1 ≤ d ∧ d ≤ 4 then signV d x else .nilIface
theorem signM_in {d : Int} (h : 1 ≤ d ∧ d ≤ 4) (x : ByteArray) : signM d x = signV d x := if_pos h
set_option maxHeartbeats 1000000 in
theorem signOf_any (p : ByteArray) (d : Int) (x : ByteArray) (hx : x.size ≤ 16777216) (w : World) :
    Calls Tryz.prog 31 #[.agg #[.string p, .int .i64 d, .string x]] w fun e w' => e = .returned (.tuple #[signM d x, .bool (signB d x)]) ∧ Below w.heap.size w w' := by
  have B := Box3.new w (.string p) (.int .i64 d) (.string x) 37
  by_cases h1 : d = 1
  · subst h1
    have e1 : signB 1 x = dataB x := rfl
    rw [e1, signM_in (by omega), sign1]
    go_enter Tryz.func31, Tryz.ntmps31
    have AS : Hid (∀ W', Below (w.alloc (.cells #[.string p, .int .i64 1, .string x] 37)).heap.size (w.alloc (.cells #[.string p, .int .i64 1, .string x] 37)) W' → W'.cell? ⟨w.heap.size, 2, none⟩ = some (.string x)) := fun W' hW => (B.below hW).c2
    go_wp2
    go_region_held3 (fun W' => W'.cell? ⟨w.heap.size, 2, none⟩ = some (.string x))
      ((refine AS.out _ ?_; repeat (first | exact Below.refl _ _ | refine belowT ?_ hB2 | refine belowT ?_ hB1 | apply Below.drew)))
      (first | (go_at_call 45; refine (clone_any _ hx _).mono ?_; rintro e w1 ⟨rfl, hB1⟩) | (go_at_call 46; refine (dataOk_any _ _).mono ?_; rintro e w2 ⟨rfl, hB2⟩))
    all_goals go_wp2
    all_goals exact bodyPost_ret (v := .tuple #[.iface 80 (.agg #[.string x]), .bool (dataB x)]) (by simp [results, Tryz.results31, go_sem]) rfl ⟨rfl, belowT (belowT (belowA (Below.refl _ w) _).drew hB1) hB2⟩
  · have h1' : (d == 1) = false := by simpa using h1
    have e0 : signB d x = (((d == 2) || ((d == 3) || (d == 4))) && (x.toList == [])) := by unfold signB; rw [if_neg h1]
    rw [e0]
    by_cases h2 : d = 2
    · subst h2
      rw [signM_in (by omega), sign2]
      go_enter Tryz.func31, Tryz.ntmps31
      go_wp2
      go_quiet (fail)
      go_wp2
      refine bodyPost_ret (v := .tuple #[.iface 78 (.agg #[]), .bool (x.toList == [])]) (by simp [results, Tryz.results31, go_sem]) rfl ⟨by simp, belowN (belowA (Below.refl _ w) _) _⟩
    · have h2' : (d == 2) = false := by simpa using h2
      by_cases h3 : d = 3
      · subst h3
        rw [signM_in (by omega), sign3]
        go_enter Tryz.func31, Tryz.ntmps31
        go_wp2
        go_quiet (fail)
        go_wp2
        refine bodyPost_ret (v := .tuple #[.iface 81 (.agg #[]), .bool (x.toList == [])]) (by simp [results, Tryz.results31, go_sem]) rfl ⟨by simp, belowN (belowA (Below.refl _ w) _) _⟩
      · have h3' : (d == 3) = false := by simpa using h3
        by_cases h4 : d = 4
        · subst h4
          rw [signM_in (by omega), sign4]
          go_enter Tryz.func31, Tryz.ntmps31
          go_wp2
          go_quiet (fail)
          go_wp2
          refine bodyPost_ret (v := .tuple #[.iface 69 (.agg #[]), .bool (x.toList == [])]) (by simp [results, Tryz.results31, go_sem]) rfl ⟨by simp, belowN (belowA (Below.refl _ w) _) _⟩
        · have h4' : (d == 4) = false := by simpa using h4
          have e1 : signM d x = .nilIface := if_neg (by omega)
          rw [e1, h2', h3', h4']
          go_enter Tryz.func31, Tryz.ntmps31
          go_wp2
          refine bodyPost_ret (v := .tuple #[.nilIface, .bool false]) (by simp [results, Tryz.results31, go_sem]) rfl ⟨rfl, belowA (Below.refl _ w) _⟩
end Go.Proofs.YtocfbplaieonkaaGreat.Mk

/-
  The walk of the program's own: a path and all that it is below, yielded.
-/
namespace Go.Proofs.YtocfbplaieonkaaGreat.Mk
open Go.RowKit Go.Shelf Go.Lib

attribute [local go_sem] Oper.semAt_some

theorem abides_below {β : Type} {B : Nat} {J : β → World → Prop} (hJ : AbidesFrom B J) {s : β} {W W' : World} (h : J s W) (hb : Below W.heap.size W W') : J s W' :=
  hJ s W W' none h ⟨hb.os, hb.tape, hb.output, hb.size, fun k hk _ => hb.block k hk⟩ (fun r e => by cases e)
abbrev ItemU (s : ByteArray) : Type := { x : ByteArray // x ∈ ups s }
abbrev encsU {s : ByteArray} (x : ItemU s) : Array Value := #[.string x.1]
def KpU (_ _ : World) : Prop := True
theorem inUps {s a : ByteArray} {pre : List ByteArray} (hp : pathB a = true) (h : pre ++ ups a = ups s) : a ∈ ups s := by
  rw [← h, ups_yes hp]; simp

set_option maxHeartbeats 1000000 in
set_option maxRecDepth 100000 in
theorem ups_stops (n : Nat) (hn : 1 ≤ n) (Bn : Nat) (s : ByteArray) (hs : s.size ≤ 16777216) (w : World) (hBn : Bn < w.heap.size) (hb : w.cell? ⟨Bn, 0, none⟩ = some (.string s)) :
    SeqStopsK Fence.wide n Tryz.prog 64 #[.pointer (some ⟨Bn, 0, none⟩)] (encsU (s := s)) KpU (fun xs => xs.map Subtype.val = ups s) (fun pre => pre.map Subtype.val <+: ups s) (ups s).length w := fun l J Jx W hW hJ hJx hY h0 => by
  have hbW : W.cell? ⟨Bn, 0, none⟩ = some (.string s) := (hW.cell (p := ⟨Bn, 0, none⟩) hBn).trans hb
  clear hb hW
  refine callsIn_of_wp Tryz.func64 rfl trivial ?_ rfl
  simp only [Tryz.ntmps64, List.size_toArray, List.length_cons, List.length_nil, Nat.reduceAdd, Nat.reduceSub, Array.replicate_succ, Array.replicate_zero, List.push_toArray, List.append_toArray, List.nil_append, List.cons_append]
  have HY := hid hY
  have HJ := hid hJ
  clear hY hJ hJx
  gi_wp2
  gi_loopg [3] (ups s).length (fun gf st wx => ∃ (a : ByteArray) (pre : List (ItemU s)), st = .string a ∧ a.size ≤ 16777216 ∧ J pre wx ∧ (ups a).length ≤ gf ∧ Hid (pre.map Subtype.val ++ ups a = ups s))
  case atStart => exact ⟨s, [], rfl, hs, h0, Nat.le_refl _, rfl⟩
  case round =>
    obtain ⟨a, pre, rfl, ha, hJs, hfu, HI⟩ := hrel
    have HO := hid (fun W => pOk_any a ha W)
    cases hp : pathB a with
    | false =>
      rw [hp] at HO
      have HE : Hid (pre.map Subtype.val = ups s) := by
        show _ = _
        have := HI.out
        rwa [ups_no hp, List.append_nil] at this
      gi_wp2_with (refine ⟨trivial, ?_⟩; gi_at_call 52; refine (callsIn_wide.2 (HO.out _)).mono ?_; rintro e w1 ⟨rfl, hB1⟩)
      refine ⟨fun _ h => (by cases h), ?_⟩
      gi_wp2
      go_end0
      exact ⟨⟨_, rfl⟩, .inl ⟨pre, HE.out, abides_below HJ.out hJs hB1⟩⟩
    | true =>
      rw [hp] at HO
      have HP := hid hp
      have hup := up_lt hp
      have HU := hid (fun W => iPathUp_any a ha W)
      have hin := inUps hp HI.out
      have hlen : pre.length < (ups s).length := by
        have := congrArg List.length HI.out
        rw [List.length_append, List.length_map, ups_yes hp] at this
        simp at this
        omega
      have HI3 : Hid ((pre ++ [(⟨a, hin⟩ : ItemU s)]).map Subtype.val ++ ups (upS a) = ups s) := by
        show _ = _
        refine Eq.trans ?_ HI.out
        rw [ups_yes hp]; simp
      have hfu2 : (ups (upS a)).length + 1 ≤ gk := by
        have := hfu
        rw [ups_yes hp] at this
        simpa using this
      obtain ⟨g', rfl⟩ : ∃ g', gk = g' + 1 := ⟨gk - 1, by omega⟩
      clear HI hp hfu
      gi_wp2_with (refine ⟨trivial, ?_⟩; gi_at_call 52; refine (callsIn_wide.2 (HO.out _)).mono ?_; rintro e w1 ⟨rfl, hB1⟩; obtain ⟨fn, tmps, assign, body, hy, hR⟩ := HY.out pre ⟨a, hin⟩ w1 (abides_below HJ.out hJs hB1) hlen; dsimp only [encsU] at hy)
      refine hR.mono ?_
      rintro e W3 (⟨rfl, hJ3, -⟩ | ⟨rfl, hJx3⟩)
      · gi_wp2_with (refine ⟨trivial, ?_⟩; gi_at_call 47; refine (callsIn_wide.2 (HU.out _)).mono ?_; rintro e w4 ⟨rfl, hB4⟩)
        gi_roundg g'
        case measure => omega
        case rel => exact ⟨upS a, _, rfl, by omega, abides_below HJ.out hJ3 hB4, by omega, HI3⟩
      · gi_wp2
        go_end0
        exact ⟨⟨_, rfl⟩, .inr ⟨_, ⟨_, HI3.out⟩, hJx3⟩⟩
theorem upward_any (s : ByteArray) (w : World) :
    Calls Tryz.prog 54 #[.string s] w fun e w' => e = .returned (.func (.func 64) #[] #[.pointer (some ⟨w.heap.size, 0, none⟩)]) ∧ w' = w.alloc (.cells #[.string s] 9) := by
  go_enter Tryz.func54, Tryz.ntmps54
  go_wp2
  go_ret
  exact ⟨rfl, rfl⟩
end Go.Proofs.YtocfbplaieonkaaGreat.Mk

/-
  What the rounds over what is above a path keep.
-/
namespace Go.Proofs.YtocfbplaieonkaaGreat.Mk
open Go.RowKit Go.Shelf Go.Lib

theorem ups_small {s x : ByteArray} (h : x ∈ ups s) : pathB x = true ∧ x.size ≤ s.size := by
  obtain ⟨_, h2, h3⟩ := (mem_ups _ s x (Nat.le_refl _)).1 h
  refine ⟨h2, ?_⟩
  rcases h3 with rfl | h3
  · exact Nat.le_refl _
  · have := ((underI_iff _ _).1 h3).2.2.1
    rw [stem_path h2] at this; omega
theorem keeps_of_below {W W' : World} (h : Below W.heap.size W W') : KeepsOthers W W' := ⟨h.size, fun k _ hk _ => (h.block k (Array.getElem?_eq_some_iff.1 hk).1).trans hk⟩
theorem Box2.kept {W W' : World} {row : Option Nat} {b : Nat} {u v : Value} (h : Box2 W b u v) (hg : W.grownBy W' row) (hr : ∀ r, row = some r → ∃ o : Obj, W.heap[r]? = some o ∧ o.isCells = false) : Box2 W' b u v :=
  ⟨cell_kept h.c0 hg hr, cell_kept h.c1 hg hr, (frozen_kept h.c0 hg hr).trans h.f0, (frozen_kept h.c1 hg hr).trans h.f1⟩
/-- What a round finds: the answer's box with what it holds, and the layer's box. -/
structure RSt (b : Nat) (A : ByteArray → Nat) (v : Bool) (W : World) : Prop where
  r : W.cell? ⟨b + 1, 0, none⟩ = some (.bool v)
  rf : W.frozen? ⟨b + 1, 0, none⟩ = false
  bx : Box2 W b (.iface 78 (.agg #[])) (.map (some (A ⟨#[47]⟩)))
theorem RSt.below {b : Nat} {A : ByteArray → Nat} {v : Bool} {W W' : World} (h : RSt b A v W) (hB : Below W.heap.size W W') : RSt b A v W' :=
  ⟨(hB.cell (p := ⟨b + 1, 0, none⟩) (World.block_lt_of_cell? W ⟨b + 1, 0, none⟩ h.r)).trans h.r, (hB.frozen (p := ⟨b + 1, 0, none⟩) (World.block_lt_of_cell? W ⟨b + 1, 0, none⟩ h.r)).trans h.rf, h.bx.below hB⟩
theorem RSt.kept {b : Nat} {A : ByteArray → Nat} {v : Bool} {W W' : World} {row : Option Nat} (h : RSt b A v W) (hg : W.grownBy W' row) (hr : ∀ r, row = some r → ∃ o : Obj, W.heap[r]? = some o ∧ o.isCells = false) : RSt b A v W' :=
  ⟨cell_kept h.r hg hr, (frozen_kept h.r hg hr).trans h.rf, h.bx.kept hg hr⟩
theorem RSt.set {b : Nat} {A : ByteArray → Nat} {v : Bool} {W : World} (h : RSt b A v W) (u : Bool) : RSt b A u (W.setCell ⟨b + 1, 0, none⟩ (.bool u)) :=
  ⟨World.cell?_setCell_same' _ _ _ (by rw [h.r]; rfl), by rw [World.frozen?_setCell]; exact h.rf, ⟨(cell_other _ _ _ _ _ (by simp)).trans h.bx.c0, (cell_other _ _ _ _ _ (by simp)).trans h.bx.c1, by rw [World.frozen?_setCell]; exact h.bx.f0, by rw [World.frozen?_setCell]; exact h.bx.f1⟩⟩
theorem any_snoc {α : Type} (f : α → Bool) (xs : List α) (x : α) : (xs ++ [x]).any f = (xs.any f || f x) := by simp
theorem any_pre {α : Type} {f : α → Bool} {xs ys : List α} (h : xs <+: ys) (k : xs.any f = true) : ys.any f = true := by
  obtain ⟨r, rfl⟩ := h
  rw [List.any_append, k]; rfl
end Go.Proofs.YtocfbplaieonkaaGreat.Mk
