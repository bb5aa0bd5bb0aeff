/-
  The walk of the program's own: what a layer has at a path.
-/
import Derived.Deep.RegionHeld3
import Derived.Test.YtkjpmngohocmlabGreatHPk06
import Derived.Test.YtkjpmngohocmlabGreatHPk11
import Derived.Test.YtkjpmngohocmlabGreatHPk05
import Derived.Test.YtkjpmngohocmlabGreatHPk10
import Derived.Test.YtkjpmngohocmlabGreatHPk09
import Derived.Test.YtkjpmngohocmlabGreatHPk01
namespace Go.Proofs.YtkjpmngohocmlabGreat.Mk
open Go.RowKit Go.Shelf Go.Lib

attribute [local go_sem] Oper.semAt_some

theorem belowA {w X : World} (h : Below w.heap.size w X) (o : Obj) : Below w.heap.size w (X.alloc o) := h.alloc h.size o
theorem belowT {w X Y : World} (h : Below w.heap.size w X) (k : Below X.heap.size X Y) : Below w.heap.size w Y := h.trans (k.mono h.size)
theorem lt_alloc (w : World) (o : Obj) : w.heap.size < (w.alloc o).heap.size := by simp
theorem lt_allocD (w : World) (o : Obj) : w.heap.size < (w.drew.alloc o).heap.size := by simp
theorem bcellN {W w1 : World} (hb : Below W.heap.size W w1) : (∀ b o, b < W.heap.size → w1.cell? ⟨b, o, none⟩ = W.cell? ⟨b, o, none⟩) ∧ (∀ b o, b < W.heap.size → w1.frozen? ⟨b, o, none⟩ = W.frozen? ⟨b, o, none⟩) :=
  ⟨fun b o h => hb.cell (p := ⟨b, o, none⟩) h, fun b o h => hb.frozen (p := ⟨b, o, none⟩) h⟩

/-- What is told of a path. -/
def atV (es : List E) (A : ByteArray → Nat) (s : ByteArray) : Value × Bool :=
  if isRoot s = true then (layV A, true) else match lookE es s with
  | some e => (nodeV e.d e.x (A s), true)
  | none => (zeroN, false)
theorem atV_root {es : List E} {A : ByteArray → Nat} {s : ByteArray} (h : isRoot s = true) : atV es A s = (layV A, true) := by unfold atV; rw [if_pos h]
theorem atV_some {es : List E} {A : ByteArray → Nat} {s : ByteArray} {e : E} (T : TrM es) (h : lookE es s = some e) : atV es A s = (nodeV e.d e.x (A s), true) := by
  unfold atV
  rw [if_neg (by rw [path_not_root (look_path T h)]; decide), h]
theorem atV_none {es : List E} {A : ByteArray → Nat} {s : ByteArray} (h : isRoot s = false) (h2 : lookE es s = none) : atV es A s = (zeroN, false) := by
  unfold atV
  rw [if_neg (by rw [h]; decide), h2]
theorem atV_there {es : List E} {A : ByteArray → Nat} {s : ByteArray} (T : TrM es) (h : AtM es s) : ∃ t u, atV es A s = (.agg #[.iface t u, .map (some (A s))], true) := by
  rcases h with rfl | ⟨e, h⟩
  · exact ⟨_, _, atV_root ((isRoot_iff _).2 rfl)⟩
  · obtain ⟨t, u, hs⟩ := sign_is e.d e.x
    exact ⟨t, u, by rw [atV_some T h]; unfold nodeV; rw [hs]⟩
theorem atV_not {es : List E} {A : ByteArray → Nat} {s : ByteArray} (h : ¬ AtM es s) : atV es A s = (zeroN, false) := by
  refine atV_none ?_ ?_
  · cases hr : isRoot s with
    | false => rfl
    | true => exact absurd (.inl ((isRoot_iff _).1 hr)) h
  · cases hl : lookE es s with
    | none => rfl
    | some e => exact absurd (.inr ⟨e, hl⟩) h
theorem name_max {s : ByteArray} (hp : pathB s = true) : (nmS s).size ≤ maxLen := by
  have := (up_facts hp).2.2.1
  unfold nameB at this
  rw [Bool.and_eq_true] at this
  have := (of_decide_eq_true this.1).2
  unfold maxLen; omega
theorem kid_at {es : List E} {A : ByteArray → Nat} {s : ByteArray} (hp : pathB s = true) : kidF es A (upS s) (nmS s) = (lookE es s).map (fun e => nodeV e.d e.x (A s)) := by
  unfold kidF
  rw [if_pos (up_facts hp).2.2.1, up_join hp]

set_option maxHeartbeats 2000000 in
set_option maxRecDepth 100000 in
theorem at_any (base N : Nat) (es : List E) (A : ByteArray → Nat) (T : TrM es) : ∀ (n : Nat) (w : World) (_ : Rep w base N es A) (s : ByteArray) (_ : s.size < n) (_ : s.size ≤ 16777216),
    Calls Tryz.prog 35 #[layV A, .string s] w fun e w' => e = .returned (.tuple #[(atV es A s).1, .bool (atV es A s).2]) ∧ Below w.heap.size w w'
  | 0, _, _, _, hn, _ => by omega
  | n + 1, w, R, s, hn, hs => by
    cases hr : (s.toList == [47]) with
    | true =>
      rw [atV_root hr]
      go_enter Tryz.func35, Tryz.ntmps35
      go_wp2
      exact bodyPost_ret (v := .tuple #[layV A, .bool true]) (by simp [results, Tryz.results35, go_sem]) rfl ⟨rfl, ((Below.refl _ w).alloc (Nat.le_refl _) _).alloc (by simp) _⟩
    | false =>
      have B1 := ((Box2.new w (.iface 83 (.agg #[])) (.map (some (A ⟨#[47]⟩))) 41).on (.cells #[.nilIface, .map none] 39))
      have B2 := Box2.new (w.alloc (.cells #[.iface 83 (.agg #[]), .map (some (A ⟨#[47]⟩))] 41)) .nilIface (.map none) 39
      simp only [World.size_alloc] at B2
      cases hp : pathB s with
      | false =>
        rw [atV_none hr (look_bad T hp)]
        go_enter Tryz.func35, Tryz.ntmps35
        have HO := hid (fun W => hp ▸ pOk_any s hs W)
        go_wp2_with (go_at_call 54; refine (HO.out _).mono ?_; rintro e w1 ⟨rfl, hB1⟩; obtain ⟨c0, c1, f0, f1⟩ := B2.below hB1)
        have hBw : Below w.heap.size w w1 := (((Below.refl _ w).alloc (Nat.le_refl _) _).alloc (by simp) _).trans (hB1.mono (by simp; omega))
        refine atSet2 (C := bodyPost Tryz.prog Tryz.f35 _ _ _) (B2.below hB1) hBw (Nat.le_succ _) ?_
        intro Wf s0 hBf _ _
        exact bodyPost_ret (v := .tuple #[zeroN, .bool false]) (by simp [results, Tryz.results35, go_sem, s0.c0, s0.c1]) rfl ⟨rfl, hBf⟩
      | true =>
        have HO := hid (fun W => hp ▸ pOk_any s hs W)
        have HU := hid (fun W => iPathUp_any s hs W)
        have HN := hid (fun W => iPathName_any s hs W)
        have hlt := up_lt hp
        have HAt := hid (fun (W : World) (hW : Rep W base N es A) => at_any base N es A T n W hW (upS s) (by omega) (by omega))
        have HV0 : Hid (isRoot s = false) := hr
        have HL : Hid (∀ W', Rep W' base N es A → AtM es (upS s) → (Instr.lookup 37 (.map (some (A (upS s)))) (.string (nmS s)) true).run Tryz.prog W' = .ok (.tuple #[((lookE es s).map (fun e => nodeV e.d e.x (A s))).getD zeroN, .bool ((lookE es s).map (fun e => nodeV e.d e.x (A s))).isSome]) W') := fun W' hW hA => by
          have := (hW.kids _ hA).look (name_max hp)
          rwa [kid_at hp] at this
        have HP := hid hp
        go_enter Tryz.func35, Tryz.ntmps35
        go_wp2_with fail
        refine (HO.out _).mono ?_
        rintro e w1 ⟨rfl, hB1⟩
        have B1' := B1.below hB1
        have HB2 := hid (B2.below hB1)
        have hBw : Below w.heap.size w w1 := (((Below.refl _ w).alloc (Nat.le_refl _) _).alloc (by simp) _).trans (hB1.mono (by simp; omega))
        have AS : Hid (∀ W', Below w1.heap.size w1 W' → (W'.cell? ⟨w.heap.size, 0, none⟩ = some (.iface 83 (.agg #[])) ∧ W'.cell? ⟨w.heap.size, 1, none⟩ = some (.map (some (A ⟨#[47]⟩))))) := fun W' hW => ⟨(B1'.below hW).c0, (B1'.below hW).c1⟩
        have AR : Hid (∀ W', Below w1.heap.size w1 W' → Rep W' base N es A) := fun W' hW => (R.below hBw).below hW
        have HRB : Hid (∀ W', Below w1.heap.size w1 W' → Box2 W' (w.heap.size + 1) .nilIface (.map none)) := fun W' hW => HB2.out.below hW
        obtain ⟨c0, c1, f0, f1⟩ := B1'
        clear B1 B2 hB1 hlt hp
        by_cases hA : AtM es (upS s)
        · obtain ⟨t, u, hv⟩ := atV_there (A := A) T hA
          rw [hv] at HAt
          cases hlk : lookE es s with
          | none =>
            have HV : Hid (atV es A s = (zeroN, false)) := atV_none HV0.out hlk
            have AL : Hid (∀ W', Below w1.heap.size w1 W' → (Instr.lookup 37 (.map (some (A (upS s)))) (.string (nmS s)) true).run Tryz.prog W' = .ok (.tuple #[zeroN, .bool false]) W') := fun W' hW => by
              have := HL.out W' (AR.out W' hW) hA
              rwa [hlk] at this
            clear hlk hv hA HL
            go_wp2_with fail
            rename_i Qx Kx hKx
            have HK : Hid (∀ (b : Nat) (W : World), Below w1.heap.size w1 W → Box2 W b (.iface t u) (.map (some (A (upS s)))) → Kx { tmps := #[layV A, .string s, .pointer (some ⟨w.heap.size, 0, none⟩), undef, .pointer (some ⟨w.heap.size + 1, 0, none⟩), .bool false, .pointer (some ⟨b, 0, none⟩), .bool true, undef, undef, .string s, .bool false, undef, undef, .string s, .bool true, .bool false, undef, .tuple #[.agg #[.iface t u, .map (some (A (upS s)))], .bool true], .agg #[.iface 83 (.agg #[]), .map (some (A ⟨#[47]⟩))], .string s, .string (upS s), .tuple #[.agg #[.iface t u, .map (some (A (upS s)))], .bool true], .agg #[.iface t u, .map (some (A (upS s)))], .bool true, undef, undef, undef, undef, undef, undef, undef, undef, undef, undef], defers := [] } W) := by
              intro b W hBW hbx
              refine hKx _ _ ?_
              clear hKx
              have AS2 : Hid (∀ W', Below W.heap.size W W' → (W'.cell? ⟨b, 1, none⟩ = some (.map (some (A (upS s)))))) := fun W' hW => (hbx.below hW).c1
              have AL2 : Hid (∀ W', Below W.heap.size W W' → (Instr.lookup 37 (.map (some (A (upS s)))) (.string (nmS s)) true).run Tryz.prog W' = .ok (.tuple #[.agg #[.nilIface, .map (none)], .bool false]) W') := fun W' hW => AL.out W' (belowT hBW hW)
              have HRes := hid ((HRB.out _ hBW))
              have HBW := hid (belowT hBw hBW)
              obtain ⟨x0, x1, x2, x3⟩ := hbx
              go_wp2_with fail
              rename_i K2 hK2
              have HK2 : Hid (∀ (b2 : Nat) (W2 : World), Below W.heap.size W W2 → Box2 W2 b2 (.nilIface) (.map (none)) → K2 { tmps := #[layV A, .string s, .pointer (some ⟨w.heap.size, 0, none⟩), undef, .pointer (some ⟨w.heap.size + 1, 0, none⟩), .bool false, .pointer (some ⟨b, 0, none⟩), .bool true, .pointer (some ⟨b2, 0, none⟩), .bool false, .string s, .bool false, undef, undef, .string s, .bool true, .bool false, undef, .tuple #[.agg #[.iface t u, .map (some (A (upS s)))], .bool true], .agg #[.iface 83 (.agg #[]), .map (some (A ⟨#[47]⟩))], .string s, .string (upS s), .tuple #[.agg #[.iface t u, .map (some (A (upS s)))], .bool true], .agg #[.iface t u, .map (some (A (upS s)))], .bool true, .tuple #[.agg #[.nilIface, .map (none)], .bool false], .pointer (some ⟨b, 1, none⟩), .map (some (A (upS s))), .string s, .string (nmS s), .tuple #[.agg #[.nilIface, .map (none)], .bool false], .agg #[.nilIface, .map (none)], .bool false, undef, undef], defers := [] } W2) := by
                intro b2 W2 hBW2 hb2
                refine hK2 _ _ ?_
                have hr2 := HRes.out.below hBW2
                have hBr := belowT HBW.out hBW2
                obtain ⟨q0, q1, q2, q3⟩ := hb2
                obtain ⟨r0, r1, r2, r3⟩ := hr2
                go_wp2
                refine atSet2 (C := bodyPost Tryz.prog Tryz.f35 _ _ _) ⟨r0, r1, r2, r3⟩ hBr (Nat.le_succ _) ?_
                intro Wf s0 hBf _ _
                refine bodyPost_ret (v := .tuple #[.agg #[.nilIface, .map (none)], .bool false]) (by simp [results, Tryz.results35, go_sem, s0.c0, s0.c1]) rfl ⟨?_, hBf⟩
                rw [HV.out]
              clear hK2
              go_region_held3 (fun W' => W'.cell? ⟨b, 1, none⟩ = some (.map (some (A (upS s)))))
                ((refine AS2.out _ ?_; repeat (first | exact Below.refl _ _ | apply belowA | refine belowT ?_ hB5 | apply Below.drew | refine set2_below ?_ (by first | exact Nat.le_refl _ | (have h5 := hB5.size; simp at h5 ⊢; omega)) _ _)))
                (first | (go_at_call 51; refine (HN.out _).mono ?_; rintro e w5 ⟨rfl, hB5⟩; have l5 := hB5.size; (try simp at l5); (obtain ⟨bc5, bf5⟩ := bcellN hB5); (try (have z0 := bc5 W.heap.size 0 (lt_allocD _ _); have z1 := bc5 W.heap.size 1 (lt_allocD _ _); have z2 := bf5 W.heap.size 0 (lt_allocD _ _); have z3 := bf5 W.heap.size 1 (lt_allocD _ _); simp at z0 z1 z2 z3)); clear bc5 bf5; have hl5 := AL2.out w5 (by repeat (first | exact Below.refl _ _ | apply belowA | refine belowT ?_ hB5 | apply Below.drew | refine set2_below ?_ (by first | exact Nat.le_refl _ | (have h5 := hB5.size; simp at h5 ⊢; omega)) _ _)); have hl6 := AL2.out (w5.alloc (.cells #[.nilIface, .map none] 39)) (by repeat (first | exact Below.refl _ _ | apply belowA | refine belowT ?_ hB5 | apply Below.drew | refine set2_below ?_ (by first | exact Nat.le_refl _ | (have h5 := hB5.size; simp at h5 ⊢; omega)) _ _))))
              all_goals refine HK2.out _ _ (by repeat (first | exact Below.refl _ _ | apply belowA | refine belowT ?_ hB5 | apply Below.drew | refine set2_below ?_ (by first | exact Nat.le_refl _ | (have h5 := hB5.size; simp at h5 ⊢; omega)) _ _)) ?_
              all_goals first | exact Box2.set ⟨z0, z1, z2, z3⟩ _ _ | exact Box2.set (Box2.new _ _ _ _) _ _ | exact Box2.new _ _ _ _
            clear hKx
            go_region_held3 (fun W' => W'.cell? ⟨w.heap.size, 0, none⟩ = some (.iface 83 (.agg #[])) ∧ W'.cell? ⟨w.heap.size, 1, none⟩ = some (.map (some (A ⟨#[47]⟩))))
              ((refine AS.out _ ?_; repeat (first | exact Below.refl _ _ | apply belowA | refine belowT ?_ hB4 | refine belowT ?_ hB3 | apply Below.drew | refine set2_below ?_ (by first | exact Nat.le_refl _ | (have h3 := hB3.size; have h4 := hB4.size; simp at h3 h4 ⊢; omega)) _ _)))
              (first | (go_at_call 49; refine (HU.out _).mono ?_; rintro e w3 ⟨rfl, hB3⟩; obtain ⟨bc3, bf3⟩ := bcellN hB3; have l3 := hB3.size; (try simp at l3); (try (have z0 := bc3 w1.heap.size 0 (lt_allocD _ _); have z1 := bc3 w1.heap.size 1 (lt_allocD _ _); have z2 := bf3 w1.heap.size 0 (lt_allocD _ _); have z3 := bf3 w1.heap.size 1 (lt_allocD _ _); simp at z0 z1 z2 z3)); clear bc3 bf3) | (go_at_call 35; refine (HAt.out _ (AR.out _ (by repeat (first | exact Below.refl _ _ | apply belowA | refine belowT ?_ hB3 | apply Below.drew)))).mono ?_; rintro e w4 ⟨rfl, hB4⟩; obtain ⟨bc4, bf4⟩ := bcellN hB4; have l4 := hB4.size; (try simp at l4); (try (have z0 := bc4 w3.heap.size 0 (lt_alloc _ _); have z1 := bc4 w3.heap.size 1 (lt_alloc _ _); have z2 := bf4 w3.heap.size 0 (lt_alloc _ _); have z3 := bf4 w3.heap.size 1 (lt_alloc _ _); simp at z0 z1 z2 z3)); (try (have v0 := (bc4 w1.heap.size 0 l3).trans z0; have v1 := (bc4 w1.heap.size 1 l3).trans z1; have v2 := (bf4 w1.heap.size 0 l3).trans z2; have v3 := (bf4 w1.heap.size 1 l3).trans z3)); clear bc4 bf4))
            all_goals refine HK.out _ _ (by repeat (first | exact Below.refl _ _ | apply belowA | refine belowT ?_ hB4 | refine belowT ?_ hB3 | apply Below.drew | refine set2_below ?_ (by first | exact Nat.le_refl _ | (have h3 := hB3.size; have h4 := hB4.size; simp at h3 h4 ⊢; omega)) _ _)) ?_
            all_goals first | exact Box2.set ⟨v0, v1, v2, v3⟩ _ _ | exact Box2.set ⟨z0, z1, z2, z3⟩ _ _ | exact Box2.new _ _ _ _
          | some e =>
            obtain ⟨t2, u2, hs2⟩ := sign_is e.d e.x
            have HV : Hid (atV es A s = (.agg #[.iface t2 u2, .map (some (A s))], true)) := by
              show _ = _
              rw [atV_some T hlk]; unfold nodeV; rw [hs2]
            have AL : Hid (∀ W', Below w1.heap.size w1 W' → (Instr.lookup 37 (.map (some (A (upS s)))) (.string (nmS s)) true).run Tryz.prog W' = .ok (.tuple #[.agg #[.iface t2 u2, .map (some (A s))], .bool true]) W') := fun W' hW => by
              have := HL.out W' (AR.out W' hW) hA
              rw [hlk] at this
              rw [this]
              show _ = Result.ok (Value.tuple #[Value.agg #[.iface t2 u2, .map (some (A s))], .bool true]) W'
              rw [← hs2]; rfl
            clear hlk hv hA HL hs2
            go_wp2_with fail
            rename_i Qx Kx hKx
            have HK : Hid (∀ (b : Nat) (W : World), Below w1.heap.size w1 W → Box2 W b (.iface t u) (.map (some (A (upS s)))) → Kx { tmps := #[layV A, .string s, .pointer (some ⟨w.heap.size, 0, none⟩), undef, .pointer (some ⟨w.heap.size + 1, 0, none⟩), .bool false, .pointer (some ⟨b, 0, none⟩), .bool true, undef, undef, .string s, .bool false, undef, undef, .string s, .bool true, .bool false, undef, .tuple #[.agg #[.iface t u, .map (some (A (upS s)))], .bool true], .agg #[.iface 83 (.agg #[]), .map (some (A ⟨#[47]⟩))], .string s, .string (upS s), .tuple #[.agg #[.iface t u, .map (some (A (upS s)))], .bool true], .agg #[.iface t u, .map (some (A (upS s)))], .bool true, undef, undef, undef, undef, undef, undef, undef, undef, undef, undef], defers := [] } W) := by
              intro b W hBW hbx
              refine hKx _ _ ?_
              clear hKx
              have AS2 : Hid (∀ W', Below W.heap.size W W' → (W'.cell? ⟨b, 1, none⟩ = some (.map (some (A (upS s)))))) := fun W' hW => (hbx.below hW).c1
              have AL2 : Hid (∀ W', Below W.heap.size W W' → (Instr.lookup 37 (.map (some (A (upS s)))) (.string (nmS s)) true).run Tryz.prog W' = .ok (.tuple #[.agg #[.iface t2 u2, .map (some (A s))], .bool true]) W') := fun W' hW => AL.out W' (belowT hBW hW)
              have HRes := hid ((HRB.out _ hBW))
              have HBW := hid (belowT hBw hBW)
              obtain ⟨x0, x1, x2, x3⟩ := hbx
              go_wp2_with fail
              rename_i K2 hK2
              have HK2 : Hid (∀ (b2 : Nat) (W2 : World), Below W.heap.size W W2 → Box2 W2 b2 (.iface t2 u2) (.map (some (A s))) → K2 { tmps := #[layV A, .string s, .pointer (some ⟨w.heap.size, 0, none⟩), undef, .pointer (some ⟨w.heap.size + 1, 0, none⟩), .bool false, .pointer (some ⟨b, 0, none⟩), .bool true, .pointer (some ⟨b2, 0, none⟩), .bool true, .string s, .bool false, undef, undef, .string s, .bool true, .bool false, undef, .tuple #[.agg #[.iface t u, .map (some (A (upS s)))], .bool true], .agg #[.iface 83 (.agg #[]), .map (some (A ⟨#[47]⟩))], .string s, .string (upS s), .tuple #[.agg #[.iface t u, .map (some (A (upS s)))], .bool true], .agg #[.iface t u, .map (some (A (upS s)))], .bool true, .tuple #[.agg #[.iface t2 u2, .map (some (A s))], .bool true], .pointer (some ⟨b, 1, none⟩), .map (some (A (upS s))), .string s, .string (nmS s), .tuple #[.agg #[.iface t2 u2, .map (some (A s))], .bool true], .agg #[.iface t2 u2, .map (some (A s))], .bool true, undef, undef], defers := [] } W2) := by
                intro b2 W2 hBW2 hb2
                refine hK2 _ _ ?_
                have hr2 := HRes.out.below hBW2
                have hBr := belowT HBW.out hBW2
                obtain ⟨q0, q1, q2, q3⟩ := hb2
                obtain ⟨r0, r1, r2, r3⟩ := hr2
                go_wp2
                refine atSet2 (C := bodyPost Tryz.prog Tryz.f35 _ _ _) ⟨r0, r1, r2, r3⟩ hBr (Nat.le_succ _) ?_
                intro Wf s0 hBf _ _
                refine bodyPost_ret (v := .tuple #[.agg #[.iface t2 u2, .map (some (A s))], .bool true]) (by simp [results, Tryz.results35, go_sem, s0.c0, s0.c1]) rfl ⟨?_, hBf⟩
                rw [HV.out]
              clear hK2
              go_region_held3 (fun W' => W'.cell? ⟨b, 1, none⟩ = some (.map (some (A (upS s)))))
                ((refine AS2.out _ ?_; repeat (first | exact Below.refl _ _ | apply belowA | refine belowT ?_ hB5 | apply Below.drew | refine set2_below ?_ (by first | exact Nat.le_refl _ | (have h5 := hB5.size; simp at h5 ⊢; omega)) _ _)))
                (first | (go_at_call 51; refine (HN.out _).mono ?_; rintro e w5 ⟨rfl, hB5⟩; have l5 := hB5.size; (try simp at l5); (obtain ⟨bc5, bf5⟩ := bcellN hB5); (try (have z0 := bc5 W.heap.size 0 (lt_allocD _ _); have z1 := bc5 W.heap.size 1 (lt_allocD _ _); have z2 := bf5 W.heap.size 0 (lt_allocD _ _); have z3 := bf5 W.heap.size 1 (lt_allocD _ _); simp at z0 z1 z2 z3)); clear bc5 bf5; have hl5 := AL2.out w5 (by repeat (first | exact Below.refl _ _ | apply belowA | refine belowT ?_ hB5 | apply Below.drew | refine set2_below ?_ (by first | exact Nat.le_refl _ | (have h5 := hB5.size; simp at h5 ⊢; omega)) _ _)); have hl6 := AL2.out (w5.alloc (.cells #[.nilIface, .map none] 39)) (by repeat (first | exact Below.refl _ _ | apply belowA | refine belowT ?_ hB5 | apply Below.drew | refine set2_below ?_ (by first | exact Nat.le_refl _ | (have h5 := hB5.size; simp at h5 ⊢; omega)) _ _))))
              all_goals refine HK2.out _ _ (by repeat (first | exact Below.refl _ _ | apply belowA | refine belowT ?_ hB5 | apply Below.drew | refine set2_below ?_ (by first | exact Nat.le_refl _ | (have h5 := hB5.size; simp at h5 ⊢; omega)) _ _)) ?_
              all_goals first | exact Box2.set ⟨z0, z1, z2, z3⟩ _ _ | exact Box2.set (Box2.new _ _ _ _) _ _ | exact Box2.new _ _ _ _
            clear hKx
            go_region_held3 (fun W' => W'.cell? ⟨w.heap.size, 0, none⟩ = some (.iface 83 (.agg #[])) ∧ W'.cell? ⟨w.heap.size, 1, none⟩ = some (.map (some (A ⟨#[47]⟩))))
              ((refine AS.out _ ?_; repeat (first | exact Below.refl _ _ | apply belowA | refine belowT ?_ hB4 | refine belowT ?_ hB3 | apply Below.drew | refine set2_below ?_ (by first | exact Nat.le_refl _ | (have h3 := hB3.size; have h4 := hB4.size; simp at h3 h4 ⊢; omega)) _ _)))
              (first | (go_at_call 49; refine (HU.out _).mono ?_; rintro e w3 ⟨rfl, hB3⟩; obtain ⟨bc3, bf3⟩ := bcellN hB3; have l3 := hB3.size; (try simp at l3); (try (have z0 := bc3 w1.heap.size 0 (lt_allocD _ _); have z1 := bc3 w1.heap.size 1 (lt_allocD _ _); have z2 := bf3 w1.heap.size 0 (lt_allocD _ _); have z3 := bf3 w1.heap.size 1 (lt_allocD _ _); simp at z0 z1 z2 z3)); clear bc3 bf3) | (go_at_call 35; refine (HAt.out _ (AR.out _ (by repeat (first | exact Below.refl _ _ | apply belowA | refine belowT ?_ hB3 | apply Below.drew)))).mono ?_; rintro e w4 ⟨rfl, hB4⟩; obtain ⟨bc4, bf4⟩ := bcellN hB4; have l4 := hB4.size; (try simp at l4); (try (have z0 := bc4 w3.heap.size 0 (lt_alloc _ _); have z1 := bc4 w3.heap.size 1 (lt_alloc _ _); have z2 := bf4 w3.heap.size 0 (lt_alloc _ _); have z3 := bf4 w3.heap.size 1 (lt_alloc _ _); simp at z0 z1 z2 z3)); (try (have v0 := (bc4 w1.heap.size 0 l3).trans z0; have v1 := (bc4 w1.heap.size 1 l3).trans z1; have v2 := (bf4 w1.heap.size 0 l3).trans z2; have v3 := (bf4 w1.heap.size 1 l3).trans z3)); clear bc4 bf4))
            all_goals refine HK.out _ _ (by repeat (first | exact Below.refl _ _ | apply belowA | refine belowT ?_ hB4 | refine belowT ?_ hB3 | apply Below.drew | refine set2_below ?_ (by first | exact Nat.le_refl _ | (have h3 := hB3.size; have h4 := hB4.size; simp at h3 h4 ⊢; omega)) _ _)) ?_
            all_goals first | exact Box2.set ⟨v0, v1, v2, v3⟩ _ _ | exact Box2.set ⟨z0, z1, z2, z3⟩ _ _ | exact Box2.new _ _ _ _
        · have hv := atV_not (A := A) hA
          rw [hv] at HAt
          have HV : Hid (atV es A s = (zeroN, false)) := atV_none HV0.out (look_up T (by
            cases hl : lookE es (upS s) with
            | none => rfl
            | some e => exact absurd (.inr ⟨e, hl⟩) hA) (fun q => hA (.inl q)))
          have AL : Hid (∀ W', Below w1.heap.size w1 W' → (Instr.lookup 37 (.map none) (.string (nmS s)) true).run Tryz.prog W' = .ok (.tuple #[zeroN, .bool false]) W') := fun W' _ => look_no W' (name_max HP.out)
          clear hv hA HL
          go_wp2_with fail
          rename_i Qx Kx hKx
          have HK : Hid (∀ (b : Nat) (W : World), Below w1.heap.size w1 W → Box2 W b (.nilIface) (.map (none)) → Kx { tmps := #[layV A, .string s, .pointer (some ⟨w.heap.size, 0, none⟩), undef, .pointer (some ⟨w.heap.size + 1, 0, none⟩), .bool false, .pointer (some ⟨b, 0, none⟩), .bool false, undef, undef, .string s, .bool false, undef, undef, .string s, .bool true, .bool false, undef, .tuple #[.agg #[.nilIface, .map (none)], .bool false], .agg #[.iface 83 (.agg #[]), .map (some (A ⟨#[47]⟩))], .string s, .string (upS s), .tuple #[.agg #[.nilIface, .map (none)], .bool false], .agg #[.nilIface, .map (none)], .bool false, undef, undef, undef, undef, undef, undef, undef, undef, undef, undef], defers := [] } W) := by
            intro b W hBW hbx
            refine hKx _ _ ?_
            clear hKx
            have AS2 : Hid (∀ W', Below W.heap.size W W' → (W'.cell? ⟨b, 1, none⟩ = some (.map (none)))) := fun W' hW => (hbx.below hW).c1
            have AL2 : Hid (∀ W', Below W.heap.size W W' → (Instr.lookup 37 (.map (none)) (.string (nmS s)) true).run Tryz.prog W' = .ok (.tuple #[.agg #[.nilIface, .map (none)], .bool false]) W') := fun W' hW => AL.out W' (belowT hBW hW)
            have HRes := hid ((HRB.out _ hBW))
            have HBW := hid (belowT hBw hBW)
            obtain ⟨x0, x1, x2, x3⟩ := hbx
            go_wp2_with fail
            rename_i K2 hK2
            have HK2 : Hid (∀ (b2 : Nat) (W2 : World), Below W.heap.size W W2 → Box2 W2 b2 (.nilIface) (.map (none)) → K2 { tmps := #[layV A, .string s, .pointer (some ⟨w.heap.size, 0, none⟩), undef, .pointer (some ⟨w.heap.size + 1, 0, none⟩), .bool false, .pointer (some ⟨b, 0, none⟩), .bool false, .pointer (some ⟨b2, 0, none⟩), .bool false, .string s, .bool false, undef, undef, .string s, .bool true, .bool false, undef, .tuple #[.agg #[.nilIface, .map (none)], .bool false], .agg #[.iface 83 (.agg #[]), .map (some (A ⟨#[47]⟩))], .string s, .string (upS s), .tuple #[.agg #[.nilIface, .map (none)], .bool false], .agg #[.nilIface, .map (none)], .bool false, .tuple #[.agg #[.nilIface, .map (none)], .bool false], .pointer (some ⟨b, 1, none⟩), .map (none), .string s, .string (nmS s), .tuple #[.agg #[.nilIface, .map (none)], .bool false], .agg #[.nilIface, .map (none)], .bool false, undef, undef], defers := [] } W2) := by
              intro b2 W2 hBW2 hb2
              refine hK2 _ _ ?_
              have hr2 := HRes.out.below hBW2
              have hBr := belowT HBW.out hBW2
              obtain ⟨q0, q1, q2, q3⟩ := hb2
              obtain ⟨r0, r1, r2, r3⟩ := hr2
              go_wp2
              refine atSet2 (C := bodyPost Tryz.prog Tryz.f35 _ _ _) ⟨r0, r1, r2, r3⟩ hBr (Nat.le_succ _) ?_
              intro Wf s0 hBf _ _
              refine bodyPost_ret (v := .tuple #[.agg #[.nilIface, .map (none)], .bool false]) (by simp [results, Tryz.results35, go_sem, s0.c0, s0.c1]) rfl ⟨?_, hBf⟩
              rw [HV.out]
            clear hK2
            go_region_held3 (fun W' => W'.cell? ⟨b, 1, none⟩ = some (.map (none)))
              ((refine AS2.out _ ?_; repeat (first | exact Below.refl _ _ | apply belowA | refine belowT ?_ hB5 | apply Below.drew | refine set2_below ?_ (by first | exact Nat.le_refl _ | (have h5 := hB5.size; simp at h5 ⊢; omega)) _ _)))
              (first | (go_at_call 51; refine (HN.out _).mono ?_; rintro e w5 ⟨rfl, hB5⟩; have l5 := hB5.size; (try simp at l5); (obtain ⟨bc5, bf5⟩ := bcellN hB5); (try (have z0 := bc5 W.heap.size 0 (lt_allocD _ _); have z1 := bc5 W.heap.size 1 (lt_allocD _ _); have z2 := bf5 W.heap.size 0 (lt_allocD _ _); have z3 := bf5 W.heap.size 1 (lt_allocD _ _); simp at z0 z1 z2 z3)); clear bc5 bf5; have hl5 := AL2.out w5 (by repeat (first | exact Below.refl _ _ | apply belowA | refine belowT ?_ hB5 | apply Below.drew | refine set2_below ?_ (by first | exact Nat.le_refl _ | (have h5 := hB5.size; simp at h5 ⊢; omega)) _ _)); have hl6 := AL2.out (w5.alloc (.cells #[.nilIface, .map none] 39)) (by repeat (first | exact Below.refl _ _ | apply belowA | refine belowT ?_ hB5 | apply Below.drew | refine set2_below ?_ (by first | exact Nat.le_refl _ | (have h5 := hB5.size; simp at h5 ⊢; omega)) _ _))))
            all_goals refine HK2.out _ _ (by repeat (first | exact Below.refl _ _ | apply belowA | refine belowT ?_ hB5 | apply Below.drew | refine set2_below ?_ (by first | exact Nat.le_refl _ | (have h5 := hB5.size; simp at h5 ⊢; omega)) _ _)) ?_
            all_goals first | exact Box2.set ⟨z0, z1, z2, z3⟩ _ _ | exact Box2.set (Box2.new _ _ _ _) _ _ | exact Box2.new _ _ _ _
          clear hKx
          go_region_held3 (fun W' => W'.cell? ⟨w.heap.size, 0, none⟩ = some (.iface 83 (.agg #[])) ∧ W'.cell? ⟨w.heap.size, 1, none⟩ = some (.map (some (A ⟨#[47]⟩))))
            ((refine AS.out _ ?_; repeat (first | exact Below.refl _ _ | apply belowA | refine belowT ?_ hB4 | refine belowT ?_ hB3 | apply Below.drew | refine set2_below ?_ (by first | exact Nat.le_refl _ | (have h3 := hB3.size; have h4 := hB4.size; simp at h3 h4 ⊢; omega)) _ _)))
            (first | (go_at_call 49; refine (HU.out _).mono ?_; rintro e w3 ⟨rfl, hB3⟩; obtain ⟨bc3, bf3⟩ := bcellN hB3; have l3 := hB3.size; (try simp at l3); (try (have z0 := bc3 w1.heap.size 0 (lt_allocD _ _); have z1 := bc3 w1.heap.size 1 (lt_allocD _ _); have z2 := bf3 w1.heap.size 0 (lt_allocD _ _); have z3 := bf3 w1.heap.size 1 (lt_allocD _ _); simp at z0 z1 z2 z3)); clear bc3 bf3) | (go_at_call 35; refine (HAt.out _ (AR.out _ (by repeat (first | exact Below.refl _ _ | apply belowA | refine belowT ?_ hB3 | apply Below.drew)))).mono ?_; rintro e w4 ⟨rfl, hB4⟩; obtain ⟨bc4, bf4⟩ := bcellN hB4; have l4 := hB4.size; (try simp at l4); (try (have z0 := bc4 w3.heap.size 0 (lt_alloc _ _); have z1 := bc4 w3.heap.size 1 (lt_alloc _ _); have z2 := bf4 w3.heap.size 0 (lt_alloc _ _); have z3 := bf4 w3.heap.size 1 (lt_alloc _ _); simp at z0 z1 z2 z3)); (try (have v0 := (bc4 w1.heap.size 0 l3).trans z0; have v1 := (bc4 w1.heap.size 1 l3).trans z1; have v2 := (bf4 w1.heap.size 0 l3).trans z2; have v3 := (bf4 w1.heap.size 1 l3).trans z3)); clear bc4 bf4))
          all_goals refine HK.out _ _ (by repeat (first | exact Below.refl _ _ | apply belowA | refine belowT ?_ hB4 | refine belowT ?_ hB3 | apply Below.drew | refine set2_below ?_ (by first | exact Nat.le_refl _ | (have h3 := hB3.size; have h4 := hB4.size; simp at h3 h4 ⊢; omega)) _ _)) ?_
          all_goals first | exact Box2.set ⟨v0, v1, v2, v3⟩ _ _ | exact Box2.set ⟨z0, z1, z2, z3⟩ _ _ | exact Box2.new _ _ _ _
end Go.Proofs.YtkjpmngohocmlabGreat.Mk

/-
  The walks of the program's own small functions on signs.
-/
namespace Go.Proofs.YtkjpmngohocmlabGreat.Mk
open Go.RowKit Go.Shelf Go.Lib

attribute [local go_sem] Oper.semAt_some

theorem newDir_any (w : World) :
    Calls Tryz.prog 114 #[] w fun e w' => (∃ a, e = .returned (.agg #[.bool true, .string ⟨#[]⟩, .map (some a)])) ∧ Below w.heap.size w w' := by
  have hmm := @run_makeMap Tryz.prog
  go_enter Tryz.func114, Tryz.ntmps114
  go_wp2
  refine bodyPost_ret (v := .agg #[.bool true, .string ⟨#[]⟩, .map (some (w.heap.size + 1))]) (by simp [results, Tryz.results114, go_sem]) rfl ⟨⟨_, rfl⟩, ?_⟩
  exact ((Below.refl _ w).alloc (Nat.le_refl _) _).alloc (by simp) _

set_option maxHeartbeats 400000 in
theorem newNode_any (t : TypeId) (u : Value) (w : World) :
    Calls Tryz.prog 46 #[.iface t u] w fun e w' => e = .returned (.agg #[.iface t u, .map (some (w.heap.size + 1))]) ∧ MapIs w' (w.heap.size + 1) 0 (fun _ => none) ∧ Below w.heap.size w w' := by
  have hmm := @run_makeMap Tryz.prog
  go_enter Tryz.func46, Tryz.ntmps46
  go_wp2
  refine bodyPost_ret (v := .agg #[.iface t u, .map (some (w.heap.size + 1))]) (by simp [results, Tryz.results46, go_sem]) rfl ⟨rfl, ?_, ?_⟩
  · have := MapIs.made (w.alloc (.cells #[.iface t u, .map (some (w.heap.size + 1))] 39))
    rwa [World.size_alloc] at this
  · exact ((Below.refl _ w).alloc (Nat.le_refl _) _).alloc (by simp) _

set_option maxHeartbeats 400000 in
theorem newLayer_any (w : World) :
    Calls Tryz.prog 30 #[] w fun e w' => (∃ a, w.heap.size ≤ a ∧ e = .returned (.agg #[.iface 83 (.agg #[]), .map (some a)]) ∧ MapIs w' a 0 (fun _ => none)) ∧ Below w.heap.size w w' := by
  have B := Box2.new w .nilIface (.map none) 41
  go_enter Tryz.func30, Tryz.ntmps30
  go_wp2_with (first | (go_at_call 46; refine (newNode_any _ _ _).mono ?_; rintro e w1 ⟨rfl, hM1, hB1⟩; obtain ⟨c0, c1, c2, c3⟩ := B.below hB1) | fail)
  have hBw := belowT (belowA (Below.refl _ w) _) hB1
  refine atSet2 (C := bodyPost Tryz.prog Tryz.f30 _ _ _) (B.below hB1) hBw (Nat.le_refl _) ?_
  intro Wf s0 hBf hK _
  simp only [World.size_alloc] at hM1
  exact bodyPost_ret (v := .agg #[.iface 83 (.agg #[]), .map (some (w.heap.size + 1 + 1))]) (by simp [results, Tryz.results30, go_sem, s0.c0, s0.c1]) rfl ⟨⟨_, by omega, rfl, hM1.keeps hK⟩, hBf⟩

theorem clone_any (x : ByteArray) (hx : x.size ≤ 16777216) (w : World) :
    Calls Tryz.prog 47 #[.string x] w fun e w' => e = .returned (.string x) ∧ Below w.heap.size w w' := by
  go_enter Tryz.func47, Tryz.ntmps47
  go_wp2_with (first | (go_at_call 61; refine (sClone_any _ _ (by omega)).mono ?_; rintro e w' ⟨rfl, hB⟩) | go_in)
  go_ret
  exact ⟨rfl, hB⟩

theorem newFile_any (x : ByteArray) (hx : x.size ≤ 16777216) (w : World) :
    Calls Tryz.prog 121 #[.string x] w fun e w' => e = .returned (.agg #[.bool false, .string x, .map none]) ∧ Below w.heap.size w w' := by
  have B := Box3.new w (.bool false) (.string ⟨#[]⟩) (.map none) 94
  go_enter Tryz.func121, Tryz.ntmps121
  go_wp2_with (first | (go_at_call 47; refine (clone_any _ hx _).mono ?_; rintro e w1 ⟨rfl, hB1⟩; obtain ⟨k0, k1, k2, f0, f1, f2⟩ := B.below hB1) | fail)
  refine atSet3 (C := bodyPost Tryz.prog Tryz.f121 _ _ _) (B.below hB1) (belowT (belowA (Below.refl _ w) _) hB1) (Nat.le_refl _) ?_
  intro Wf s0 hBf _
  exact bodyPost_ret (v := .agg #[.bool false, .string x, .map none]) (by simp [results, Tryz.results121, go_sem, s0.c0, s0.c1, s0.c2]) rfl ⟨rfl, hBf⟩
set_option maxHeartbeats 400000 in
theorem showsF_any (x : ByteArray) (hx : x.size ≤ 16777216) (w : World) :
    Calls Tryz.prog 120 #[.agg #[.string x]] w fun e w' => e = .returned (.tuple #[.agg #[.bool false, .string x, .map none], .bool true]) ∧ Below w.heap.size w w' := by
  have B := Box3.new (w.alloc (.cells #[.string x] 85)) (.bool false) (.string ⟨#[]⟩) (.map none) 94
  simp only [World.size_alloc] at B
  go_enter Tryz.func120, Tryz.ntmps120
  go_wp2_with (first | (go_at_call 121; refine (newFile_any _ hx _).mono ?_; rintro e w1 ⟨rfl, hB1⟩; obtain ⟨k0, k1, k2, f0, f1, f2⟩ := B.below hB1) | fail)
  refine atSet3 (C := bodyPost Tryz.prog Tryz.f120 _ _ _) (B.below hB1) (belowT (belowA (belowA (Below.refl _ w) _) _) hB1) (Nat.le_succ _) ?_
  intro Wf s0 hBf _
  exact bodyPost_ret (v := .tuple #[.agg #[.bool false, .string x, .map none], .bool true]) (by simp [results, Tryz.results120, go_sem, s0.c0, s0.c1, s0.c2]) rfl ⟨rfl, hBf⟩
set_option maxHeartbeats 400000 in
theorem showsD_any (w : World) :
    Calls Tryz.prog 117 #[.agg #[]] w fun e w' => (∃ a, e = .returned (.tuple #[.agg #[.bool true, .string ⟨#[]⟩, .map (some a)], .bool true])) ∧ Below w.heap.size w w' := by
  have B := Box3.new (w.alloc (.cells #[] 83)) (.bool false) (.string ⟨#[]⟩) (.map none) 94
  simp only [World.size_alloc] at B
  go_enter Tryz.func117, Tryz.ntmps117
  go_wp2_with (first | (go_at_call 114; refine (newDir_any _).mono ?_; rintro e w1 ⟨⟨aa, rfl⟩, hB1⟩; obtain ⟨k0, k1, k2, f0, f1, f2⟩ := B.below hB1) | fail)
  refine atSet3 (C := bodyPost Tryz.prog Tryz.f117 _ _ _) (B.below hB1) (belowT (belowA (belowA (Below.refl _ w) _) _) hB1) (Nat.le_succ _) ?_
  intro Wf s0 hBf _
  exact bodyPost_ret (v := .tuple #[.agg #[.bool true, .string ⟨#[]⟩, .map (some aa)], .bool true]) (by simp [results, Tryz.results117, go_sem, s0.c0, s0.c1, s0.c2]) rfl ⟨⟨_, rfl⟩, hBf⟩
set_option maxHeartbeats 400000 in
theorem showsB_any (w : World) :
    Calls Tryz.prog 113 #[.agg #[]] w fun e w' => (∃ a, e = .returned (.tuple #[.agg #[.bool true, .string ⟨#[]⟩, .map (some a)], .bool true])) ∧ Below w.heap.size w w' := by
  have B := Box3.new (w.alloc (.cells #[] 74)) (.bool false) (.string ⟨#[]⟩) (.map none) 94
  simp only [World.size_alloc] at B
  go_enter Tryz.func113, Tryz.ntmps113
  go_wp2_with (first | (go_at_call 114; refine (newDir_any _).mono ?_; rintro e w1 ⟨⟨aa, rfl⟩, hB1⟩; obtain ⟨k0, k1, k2, f0, f1, f2⟩ := B.below hB1) | fail)
  refine atSet3 (C := bodyPost Tryz.prog Tryz.f113 _ _ _) (B.below hB1) (belowT (belowA (belowA (Below.refl _ w) _) _) hB1) (Nat.le_succ _) ?_
  intro Wf s0 hBf _
  exact bodyPost_ret (v := .tuple #[.agg #[.bool true, .string ⟨#[]⟩, .map (some aa)], .bool true]) (by simp [results, Tryz.results113, go_sem, s0.c0, s0.c1, s0.c2]) rfl ⟨⟨_, rfl⟩, hBf⟩
set_option maxHeartbeats 400000 in
theorem showsG_any (w : World) :
    Calls Tryz.prog 124 #[.agg #[]] w fun e w' => e = .returned (.tuple #[.agg #[.bool false, .string ⟨#[]⟩, .map none], .bool false]) ∧ Below w.heap.size w w' := by
  go_enter Tryz.func124, Tryz.ntmps124
  go_wp2
  exact bodyPost_ret (v := .tuple #[.agg #[.bool false, .string ⟨#[]⟩, .map none], .bool false]) (by simp [results, Tryz.results124, go_sem]) rfl ⟨rfl, belowA (belowA (Below.refl _ w) _) _⟩
theorem hides1_any (x : ByteArray) (w : World) : Calls Tryz.prog 118 #[.agg #[.string x]] w fun e w' => e = .returned (.bool true) ∧ Below w.heap.size w w' := by
  go_enter Tryz.func118, Tryz.ntmps118
  go_wp2
  go_ret
  exact ⟨rfl, belowA (Below.refl _ w) _⟩
theorem hides2_any (w : World) : Calls Tryz.prog 115 #[.agg #[]] w fun e w' => e = .returned (.bool false) ∧ Below w.heap.size w w' := by
  go_enter Tryz.func115, Tryz.ntmps115
  go_wp2
  go_ret
  exact ⟨rfl, belowA (Below.refl _ w) _⟩
theorem hides3_any (w : World) : Calls Tryz.prog 122 #[.agg #[]] w fun e w' => e = .returned (.bool true) ∧ Below w.heap.size w w' := by
  go_enter Tryz.func122, Tryz.ntmps122
  go_wp2
  go_ret
  exact ⟨rfl, belowA (Below.refl _ w) _⟩
theorem hides4_any (w : World) : Calls Tryz.prog 111 #[.agg #[]] w fun e w' => e = .returned (.bool true) ∧ Below w.heap.size w w' := by
  go_enter Tryz.func111, Tryz.ntmps111
  go_wp2
  go_ret
  exact ⟨rfl, belowA (Below.refl _ w) _⟩

set_option maxHeartbeats 1000000 in
theorem showsDir_any (d : Int) (x : ByteArray) (hx : x.size ≤ 16777216) (hd : 1 ≤ d ∧ d ≤ 4) (w : World) :
    Calls Tryz.prog 50 #[signV d x] w fun e w' => e = .returned (.bool (dirK d)) ∧ Below w.heap.size w w' := by
  rcases (by omega : d = 1 ∨ d = 2 ∨ d = 3 ∨ d = 4) with rfl | rfl | rfl | rfl
  · have hm : ∀ W, (method 252 85 (.agg #[.string x]) "loop.example/pargeting/impl.shows").run Tryz.prog W = .ok (120, .agg #[.string x]) W := fun _ => by kernel_rfl
    rw [sign1]
    go_enter Tryz.func50, Tryz.ntmps50
    go_wp2_with (first | (go_at_call 120; refine (showsF_any _ hx _).mono ?_; rintro e w1 ⟨rfl, hB1⟩) | fail)
    go_ret
    exact ⟨rfl, belowA hB1 _⟩
  · have hm : ∀ W, (method 252 83 (.agg #[]) "loop.example/pargeting/impl.shows").run Tryz.prog W = .ok (117, .agg #[]) W := fun _ => by kernel_rfl
    rw [sign2]
    go_enter Tryz.func50, Tryz.ntmps50
    go_wp2_with (first | (go_at_call 117; refine (showsD_any _).mono ?_; rintro e w1 ⟨⟨aa, rfl⟩, hB1⟩) | fail)
    go_ret
    exact ⟨rfl, belowA hB1 _⟩
  · have hm : ∀ W, (method 252 86 (.agg #[]) "loop.example/pargeting/impl.shows").run Tryz.prog W = .ok (124, .agg #[]) W := fun _ => by kernel_rfl
    rw [sign3]
    go_enter Tryz.func50, Tryz.ntmps50
    go_wp2_with (first | (go_at_call 124; refine (showsG_any _).mono ?_; rintro e w1 ⟨rfl, hB1⟩) | fail)
    go_ret
    exact ⟨rfl, belowA hB1 _⟩
  · have hm : ∀ W, (method 252 74 (.agg #[]) "loop.example/pargeting/impl.shows").run Tryz.prog W = .ok (113, .agg #[]) W := fun _ => by kernel_rfl
    rw [sign4]
    go_enter Tryz.func50, Tryz.ntmps50
    go_wp2_with (first | (go_at_call 113; refine (showsB_any _).mono ?_; rintro e w1 ⟨⟨aa, rfl⟩, hB1⟩) | fail)
    go_ret
    exact ⟨rfl, belowA hB1 _⟩

set_option maxHeartbeats 1000000 in
theorem signOfNode1_any (x : ByteArray) (w : World) :
    Calls Tryz.prog 57 #[.agg #[.bool false, .string x, .map none]] w fun e w' => e = .returned (signV 1 x) ∧ Below w.heap.size w w' := by
  rw [sign1]
  go_enter Tryz.func57, Tryz.ntmps57
  go_wp2
  go_ret
  exact ⟨rfl, belowA (Below.refl _ w) _⟩
set_option maxHeartbeats 1000000 in
theorem signOfNode2_any (a : Nat) (x : ByteArray) (w : World) :
    Calls Tryz.prog 57 #[.agg #[.bool true, .string x, .map (some a)]] w fun e w' => e = .returned (signV 2 x) ∧ Below w.heap.size w w' := by
  rw [sign2]
  go_enter Tryz.func57, Tryz.ntmps57
  go_wp2
  go_ret
  exact ⟨rfl, belowA (Below.refl _ w) _⟩
end Go.Proofs.YtkjpmngohocmlabGreat.Mk

/-
  The walks of the program's own: what is left of a sign below a bare one, and the sign of a mark.
-/
namespace Go.Proofs.YtkjpmngohocmlabGreat.Mk
open Go.RowKit Go.Shelf Go.Lib

attribute [local go_sem] Oper.semAt_some

theorem belowN {B : Nat} {a w : World} (h : Below B a w) (n : Nat) : Below B a (w.drewN n) := h.trans ⟨rfl, rfl, rfl, Nat.le_refl _, fun _ _ => rfl⟩
/-- What is left of a sign below a bare one. -/
def inB (d : Int) (x : ByteArray) : Value × Bool := if d = 1 then (signV 1 x, true) else if d = 3 then (.nilIface, false) else (.iface 83 (.agg #[]), true)

set_option maxHeartbeats 1000000 in
theorem inBare_any (d : Int) (x : ByteArray) (hx : x.size ≤ 16777216) (hd : 1 ≤ d ∧ d ≤ 4) (w : World) :
    Calls Tryz.prog 38 #[signV d x] w fun e w' => e = .returned (.tuple #[(inB d x).1, .bool (inB d x).2]) ∧ Below w.heap.size w w' := by
  rcases (by omega : d = 1 ∨ d = 2 ∨ d = 3 ∨ d = 4) with rfl | rfl | rfl | rfl
  · have hm : ∀ W, (method 252 85 (.agg #[.string x]) "loop.example/pargeting/impl.shows").run Tryz.prog W = .ok (120, .agg #[.string x]) W := fun _ => by kernel_rfl
    rw [sign1]
    go_enter Tryz.func38, Tryz.ntmps38
    go_wp2_with (first | (go_at_call 120; refine (showsF_any _ hx _).mono ?_; rintro e w1 ⟨rfl, hB1⟩) | (go_at_call 57; refine (signOfNode1_any _ _).mono ?_; rintro e w2 ⟨rfl, hB2⟩) | fail)
    refine bodyPost_ret (v := .tuple #[.iface 85 (.agg #[.string x]), .bool true]) (by simp [results, Tryz.results38, go_sem, sign1]) rfl ⟨rfl, belowT (belowA hB1 _) hB2⟩
  · have hm : ∀ W, (method 252 83 (.agg #[]) "loop.example/pargeting/impl.shows").run Tryz.prog W = .ok (117, .agg #[]) W := fun _ => by kernel_rfl
    rw [sign2]
    go_enter Tryz.func38, Tryz.ntmps38
    go_wp2_with (first | (go_at_call 117; refine (showsD_any _).mono ?_; rintro e w1 ⟨⟨aa, rfl⟩, hB1⟩) | (go_at_call 57; refine (signOfNode2_any _ _ _).mono ?_; rintro e w2 ⟨rfl, hB2⟩) | fail)
    refine bodyPost_ret (v := .tuple #[.iface 83 (.agg #[]), .bool true]) (by simp [results, Tryz.results38, go_sem, sign2]) rfl ⟨rfl, belowT (belowA hB1 _) hB2⟩
  · have hm : ∀ W, (method 252 86 (.agg #[]) "loop.example/pargeting/impl.shows").run Tryz.prog W = .ok (124, .agg #[]) W := fun _ => by kernel_rfl
    rw [sign3]
    go_enter Tryz.func38, Tryz.ntmps38
    go_wp2_with (first | (go_at_call 124; refine (showsG_any _).mono ?_; rintro e w1 ⟨rfl, hB1⟩) | fail)
    refine bodyPost_ret (v := .tuple #[.nilIface, .bool false]) (by simp [results, Tryz.results38, go_sem]) rfl ⟨rfl, belowA hB1 _⟩
  · have hm : ∀ W, (method 252 74 (.agg #[]) "loop.example/pargeting/impl.shows").run Tryz.prog W = .ok (113, .agg #[]) W := fun _ => by kernel_rfl
    rw [sign4]
    go_enter Tryz.func38, Tryz.ntmps38
    go_wp2_with (first | (go_at_call 113; refine (showsB_any _).mono ?_; rintro e w1 ⟨⟨aa, rfl⟩, hB1⟩) | (go_at_call 57; refine (signOfNode2_any _ _ _).mono ?_; rintro e w2 ⟨rfl, hB2⟩) | fail)
    refine bodyPost_ret (v := .tuple #[.iface 83 (.agg #[]), .bool true]) (by simp [results, Tryz.results38, go_sem, sign2]) rfl ⟨rfl, belowT (belowA hB1 _) hB2⟩

/-- The sign of a mark. -/
def signM (d : Int) (x : ByteArray) : Value := if 1 ≤ d ∧ d ≤ 4 then signV d x else .nilIface
theorem signM_in {d : Int} (h : 1 ≤ d ∧ d ≤ 4) (x : ByteArray) : signM d x = signV d x := if_pos h
set_option maxHeartbeats 1000000 in
theorem signOf_any (p : ByteArray) (d : Int) (x : ByteArray) (hx : x.size ≤ 16777216) (w : World) :
    Calls Tryz.prog 31 #[.agg #[.string p, .int .i64 d, .string x]] w fun e w' => e = .returned (.tuple #[signM d x, .bool (signB d x)]) ∧ Below w.heap.size w w' := by
  have B := Box3.new w (.string p) (.int .i64 d) (.string x) 50
  by_cases h1 : d = 1
  · subst h1
    have e1 : signB 1 x = dataB x := rfl
    rw [e1, signM_in (by omega), sign1]
    go_enter Tryz.func31, Tryz.ntmps31
    have AS : Hid (∀ W', Below (w.alloc (.cells #[.string p, .int .i64 1, .string x] 50)).heap.size (w.alloc (.cells #[.string p, .int .i64 1, .string x] 50)) W' → W'.cell? ⟨w.heap.size, 2, none⟩ = some (.string x)) := fun W' hW => (B.below hW).c2
    go_wp2
    go_region_held3 (fun W' => W'.cell? ⟨w.heap.size, 2, none⟩ = some (.string x))
      ((refine AS.out _ ?_; repeat (first | exact Below.refl _ _ | refine belowT ?_ hB2 | refine belowT ?_ hB1 | apply Below.drew)))
      (first | (go_at_call 47; refine (clone_any _ hx _).mono ?_; rintro e w1 ⟨rfl, hB1⟩) | (go_at_call 48; refine (dataOk_any _ _).mono ?_; rintro e w2 ⟨rfl, hB2⟩))
    all_goals go_wp2
    all_goals exact bodyPost_ret (v := .tuple #[.iface 85 (.agg #[.string x]), .bool (dataB x)]) (by simp [results, Tryz.results31, go_sem]) rfl ⟨rfl, belowT (belowT (belowA (Below.refl _ w) _).drew hB1) hB2⟩
  · have h1' : (d == 1) = false := by simpa using h1
    have e0 : signB d x = (((d == 2) || ((d == 3) || (d == 4))) && (x.toList == [])) := by unfold signB; rw [if_neg h1]
    rw [e0]
    by_cases h2 : d = 2
    · subst h2
      rw [signM_in (by omega), sign2]
      go_enter Tryz.func31, Tryz.ntmps31
      go_wp2
      go_quiet (fail)
      go_wp2
      refine bodyPost_ret (v := .tuple #[.iface 83 (.agg #[]), .bool (x.toList == [])]) (by simp [results, Tryz.results31, go_sem]) rfl ⟨by simp, belowN (belowA (Below.refl _ w) _) _⟩
    · have h2' : (d == 2) = false := by simpa using h2
      by_cases h3 : d = 3
      · subst h3
        rw [signM_in (by omega), sign3]
        go_enter Tryz.func31, Tryz.ntmps31
        go_wp2
        go_quiet (fail)
        go_wp2
        refine bodyPost_ret (v := .tuple #[.iface 86 (.agg #[]), .bool (x.toList == [])]) (by simp [results, Tryz.results31, go_sem]) rfl ⟨by simp, belowN (belowA (Below.refl _ w) _) _⟩
      · have h3' : (d == 3) = false := by simpa using h3
        by_cases h4 : d = 4
        · subst h4
          rw [signM_in (by omega), sign4]
          go_enter Tryz.func31, Tryz.ntmps31
          go_wp2
          go_quiet (fail)
          go_wp2
          refine bodyPost_ret (v := .tuple #[.iface 74 (.agg #[]), .bool (x.toList == [])]) (by simp [results, Tryz.results31, go_sem]) rfl ⟨by simp, belowN (belowA (Below.refl _ w) _) _⟩
        · have h4' : (d == 4) = false := by simpa using h4
          have e1 : signM d x = .nilIface := if_neg (by omega)
          rw [e1, h2', h3', h4']
          go_enter Tryz.func31, Tryz.ntmps31
          go_wp2
          refine bodyPost_ret (v := .tuple #[.nilIface, .bool false]) (by simp [results, Tryz.results31, go_sem]) rfl ⟨rfl, belowA (Below.refl _ w) _⟩
end Go.Proofs.YtkjpmngohocmlabGreat.Mk

/-
  The walk of the program's own: a path and all that it is below, yielded.
-/
namespace Go.Proofs.YtkjpmngohocmlabGreat.Mk
open Go.RowKit Go.Shelf Go.Lib

attribute [local go_sem] Oper.semAt_some

theorem abides_below {β : Type} {B : Nat} {J : β → World → Prop} (hJ : AbidesFrom B J) {s : β} {W W' : World} (h : J s W) (hb : Below W.heap.size W W') : J s W' :=
  hJ s W W' none h ⟨hb.os, hb.tape, hb.output, hb.size, fun k hk _ => hb.block k hk⟩ (fun r e => by cases e)
abbrev ItemU (s : ByteArray) : Type := { x : ByteArray // x ∈ ups s }
abbrev encsU {s : ByteArray} (x : ItemU s) : Array Value := #[.string x.1]
def KpU (_ _ : World) : Prop := True
theorem inUps {s a : ByteArray} {pre : List ByteArray} (hp : pathB a = true) (h : pre ++ ups a = ups s) : a ∈ ups s := by
  rw [← h, ups_yes hp]; simp

set_option maxHeartbeats 1000000 in
set_option maxRecDepth 100000 in
theorem ups_stops (n : Nat) (hn : 1 ≤ n) (Bn : Nat) (s : ByteArray) (hs : s.size ≤ 16777216) (w : World) (hBn : Bn < w.heap.size) (hb : w.cell? ⟨Bn, 0, none⟩ = some (.string s)) :
    SeqStopsK Fence.wide n Tryz.prog 67 #[.pointer (some ⟨Bn, 0, none⟩)] (encsU (s := s)) KpU (fun xs => xs.map Subtype.val = ups s) (fun pre => pre.map Subtype.val <+: ups s) (ups s).length w := fun l J Jx W hW hJ hJx hY h0 => by
  have hbW : W.cell? ⟨Bn, 0, none⟩ = some (.string s) := (hW.cell (p := ⟨Bn, 0, none⟩) hBn).trans hb
  clear hb hW
  refine callsIn_of_wp Tryz.func67 rfl trivial ?_ rfl
  simp only [Tryz.ntmps67, List.size_toArray, List.length_cons, List.length_nil, Nat.reduceAdd, Nat.reduceSub, Array.replicate_succ, Array.replicate_zero, List.push_toArray, List.append_toArray, List.nil_append, List.cons_append]
  have HY := hid hY
  have HJ := hid hJ
  clear hY hJ hJx
  gi_wp2
  gi_loopg [3] (ups s).length (fun gf st wx => ∃ (a : ByteArray) (pre : List (ItemU s)), st = .string a ∧ a.size ≤ 16777216 ∧ J pre wx ∧ (ups a).length ≤ gf ∧ Hid (pre.map Subtype.val ++ ups a = ups s))
  case atStart => exact ⟨s, [], rfl, hs, h0, Nat.le_refl _, rfl⟩
  case round =>
    obtain ⟨a, pre, rfl, ha, hJs, hfu, HI⟩ := hrel
    have HO := hid (fun W => pOk_any a ha W)
    cases hp : pathB a with
    | false =>
      rw [hp] at HO
      have HE : Hid (pre.map Subtype.val = ups s) := by
        show _ = _
        have := HI.out
        rwa [ups_no hp, List.append_nil] at this
      gi_wp2_with (refine ⟨trivial, ?_⟩; gi_at_call 54; refine (callsIn_wide.2 (HO.out _)).mono ?_; rintro e w1 ⟨rfl, hB1⟩)
      refine ⟨fun _ h => (by cases h), ?_⟩
      gi_wp2
      go_end0
      exact ⟨⟨_, rfl⟩, .inl ⟨pre, HE.out, abides_below HJ.out hJs hB1⟩⟩
    | true =>
      rw [hp] at HO
      have HP := hid hp
      have hup := up_lt hp
      have HU := hid (fun W => iPathUp_any a ha W)
      have hin := inUps hp HI.out
      have hlen : pre.length < (ups s).length := by
        have := congrArg List.length HI.out
        rw [List.length_append, List.length_map, ups_yes hp] at this
        simp at this
        omega
      have HI3 : Hid ((pre ++ [(⟨a, hin⟩ : ItemU s)]).map Subtype.val ++ ups (upS a) = ups s) := by
        show _ = _
        refine Eq.trans ?_ HI.out
        rw [ups_yes hp]; simp
      have hfu2 : (ups (upS a)).length + 1 ≤ gk := by
        have := hfu
        rw [ups_yes hp] at this
        simpa using this
      obtain ⟨g', rfl⟩ : ∃ g', gk = g' + 1 := ⟨gk - 1, by omega⟩
      clear HI hp hfu
      gi_wp2_with (refine ⟨trivial, ?_⟩; gi_at_call 54; refine (callsIn_wide.2 (HO.out _)).mono ?_; rintro e w1 ⟨rfl, hB1⟩; obtain ⟨fn, tmps, assign, body, hy, hR⟩ := HY.out pre ⟨a, hin⟩ w1 (abides_below HJ.out hJs hB1) hlen; dsimp only [encsU] at hy)
      refine hR.mono ?_
      rintro e W3 (⟨rfl, hJ3, -⟩ | ⟨rfl, hJx3⟩)
      · gi_wp2_with (refine ⟨trivial, ?_⟩; gi_at_call 49; refine (callsIn_wide.2 (HU.out _)).mono ?_; rintro e w4 ⟨rfl, hB4⟩)
        gi_roundg g'
        case measure => omega
        case rel => exact ⟨upS a, _, rfl, by omega, abides_below HJ.out hJ3 hB4, by omega, HI3⟩
      · gi_wp2
        go_end0
        exact ⟨⟨_, rfl⟩, .inr ⟨_, ⟨_, HI3.out⟩, hJx3⟩⟩
theorem upward_any (s : ByteArray) (w : World) :
    Calls Tryz.prog 56 #[.string s] w fun e w' => e = .returned (.func (.func 67) #[] #[.pointer (some ⟨w.heap.size, 0, none⟩)]) ∧ w' = w.alloc (.cells #[.string s] 9) := by
  go_enter Tryz.func56, Tryz.ntmps56
  go_wp2
  go_ret
  exact ⟨rfl, rfl⟩
end Go.Proofs.YtkjpmngohocmlabGreat.Mk

/-
  What the rounds over what is above a path keep.
-/
namespace Go.Proofs.YtkjpmngohocmlabGreat.Mk
open Go.RowKit Go.Shelf Go.Lib

theorem ups_small {s x : ByteArray} (h : x ∈ ups s) : pathB x = true ∧ x.size ≤ s.size := by
  obtain ⟨_, h2, h3⟩ := (mem_ups _ s x (Nat.le_refl _)).1 h
  refine ⟨h2, ?_⟩
  rcases h3 with rfl | h3
  · exact Nat.le_refl _
  · have := ((underI_iff _ _).1 h3).2.2.1
    rw [stem_path h2] at this; omega
theorem keeps_of_below {W W' : World} (h : Below W.heap.size W W') : KeepsOthers W W' := ⟨h.size, fun k _ hk _ => (h.block k (Array.getElem?_eq_some_iff.1 hk).1).trans hk⟩
theorem Box2.kept {W W' : World} {row : Option Nat} {b : Nat} {u v : Value} (h : Box2 W b u v) (hg : W.grownBy W' row) (hr : ∀ r, row = some r → ∃ o : Obj, W.heap[r]? = some o ∧ o.isCells = false) : Box2 W' b u v :=
  ⟨cell_kept h.c0 hg hr, cell_kept h.c1 hg hr, (frozen_kept h.c0 hg hr).trans h.f0, (frozen_kept h.c1 hg hr).trans h.f1⟩
/-- What a round finds: the answer's box with what it holds, and the layer's box. -/
structure RSt (b : Nat) (A : ByteArray → Nat) (v : Bool) (W : World) : Prop where
  r : W.cell? ⟨b + 1, 0, none⟩ = some (.bool v)
  rf : W.frozen? ⟨b + 1, 0, none⟩ = false
  bx : Box2 W b (.iface 83 (.agg #[])) (.map (some (A ⟨#[47]⟩)))
theorem RSt.below {b : Nat} {A : ByteArray → Nat} {v : Bool} {W W' : World} (h : RSt b A v W) (hB : Below W.heap.size W W') : RSt b A v W' :=
  ⟨(hB.cell (p := ⟨b + 1, 0, none⟩) (World.block_lt_of_cell? W ⟨b + 1, 0, none⟩ h.r)).trans h.r, (hB.frozen (p := ⟨b + 1, 0, none⟩) (World.block_lt_of_cell? W ⟨b + 1, 0, none⟩ h.r)).trans h.rf, h.bx.below hB⟩
theorem RSt.kept {b : Nat} {A : ByteArray → Nat} {v : Bool} {W W' : World} {row : Option Nat} (h : RSt b A v W) (hg : W.grownBy W' row) (hr : ∀ r, row = some r → ∃ o : Obj, W.heap[r]? = some o ∧ o.isCells = false) : RSt b A v W' :=
  ⟨cell_kept h.r hg hr, (frozen_kept h.r hg hr).trans h.rf, h.bx.kept hg hr⟩
theorem RSt.set {b : Nat} {A : ByteArray → Nat} {v : Bool} {W : World} (h : RSt b A v W) (u : Bool) : RSt b A u (W.setCell ⟨b + 1, 0, none⟩ (.bool u)) :=
  ⟨World.cell?_setCell_same' _ _ _ (by rw [h.r]; rfl), by rw [World.frozen?_setCell]; exact h.rf, ⟨(cell_other _ _ _ _ _ (by simp)).trans h.bx.c0, (cell_other _ _ _ _ _ (by simp)).trans h.bx.c1, by rw [World.frozen?_setCell]; exact h.bx.f0, by rw [World.frozen?_setCell]; exact h.bx.f1⟩⟩
theorem any_snoc {α : Type} (f : α → Bool) (xs : List α) (x : α) : (xs ++ [x]).any f = (xs.any f || f x) := by simp
theorem any_pre {α : Type} {f : α → Bool} {xs ys : List α} (h : xs <+: ys) (k : xs.any f = true) : ys.any f = true := by
  obtain ⟨r, rfl⟩ := h
  rw [List.any_append, k]; rfl
end Go.Proofs.YtkjpmngohocmlabGreat.Mk

/-
  The walk of the program's own: whether a path is below a bare mark.
-/
namespace Go.Proofs.YtkjpmngohocmlabGreat.Mk
open Go.RowKit Go.Shelf Go.Lib

attribute [local go_sem] Oper.semAt_some

set_option maxHeartbeats 4000000 in
set_option maxRecDepth 100000 in
theorem bares_any (base N : Nat) (es : List E) (A : ByteArray → Nat) (T : TrM es) (w : World) (R : Rep w base N es A) (s : ByteArray) (hs : s.size ≤ 16777216) :
    Calls Tryz.prog 37 #[layV A, .string s] w fun e w' => e = .returned (.bool ((ups (upS s)).any (tellM es (fun d => d == 4)))) ∧ Below w.heap.size w w' := by
  refine (callsIn_wide (n := 3)).1 ?_
  refine callsIn_of_wp_marks Tryz.func37 rfl trivial ?_ rfl
  simp only [Tryz.ntmps37, List.size_toArray, List.length_cons, List.length_nil, Nat.reduceAdd, Nat.reduceSub, Array.replicate_succ, Array.replicate_zero, List.push_toArray, List.append_toArray, List.nil_append, List.cons_append]
  gi_wp2_with (first | (refine ⟨trivial, ?_⟩; gi_at_call 49; refine (callsIn_wide.2 (iPathUp_any s hs _)).mono ?_; rintro e w0 ⟨rfl, hB⟩) | (refine ⟨trivial, ?_⟩; gi_at_call 56; refine (callsIn_wide.2 (upward_any _ _)).mono ?_; rintro e w1 ⟨rfl, rfl⟩))
  obtain ⟨bn, hbnE⟩ : ∃ bn, bn = w0.heap.size := ⟨_, rfl⟩
  obtain ⟨W0, hW0⟩ : ∃ W0, W0 = w0.alloc (.cells #[.string (upS s)] 9) := ⟨_, rfl⟩
  have hB0 : Below w.heap.size w W0 := by rw [hW0]; exact belowA (belowT (belowA (belowA (Below.refl _ w) _) _) hB) _
  have cN := cellNew (w.alloc (.cells #[.iface 83 (.agg #[]), .map (some (A ⟨#[47]⟩))] 41)) (.bool false) 4
  have fN := frozenNew (w.alloc (.cells #[.iface 83 (.agg #[]), .map (some (A ⟨#[47]⟩))] 41)) (.bool false) 4
  simp only [World.size_alloc] at cN fN
  have hR0 : RSt w.heap.size A false W0 := by rw [hW0]; exact RSt.below (RSt.below ⟨cN, fN, (Box2.new w _ _ _).on _⟩ hB) (belowA (Below.refl _ w0) _)
  have cb : W0.cell? ⟨bn, 0, none⟩ = some (.string (upS s)) := by rw [hW0, hbnE]; exact cellNew w0 _ _
  have hbn : bn < W0.heap.size := by rw [hW0, hbnE]; simp
  have hle : w.heap.size ≤ W0.heap.size := hB0.size
  have husz : (upS s).size ≤ 16777216 := by
    cases hp : pathB s with
    | true => have := up_lt hp; omega
    | false => rw [up_bad hp]; exact Nat.zero_le _
  rw [← hW0, ← hbnE]
  clear hW0 hbnE cN fN hB
  refine wpIn_rangeFunc_ownF rfl (by omega) (gf := 67) (lb := #[.pointer (some ⟨bn, 0, none⟩)]) rfl trivial (enters_of Tryz.func67 (by kernel_rfl) rfl)
    (ups_stops _ (by omega) bn (upS s) husz _ hbn cb) (fun _ _ => trivial) (fun _ _ _ _ _ _ _ _ => trivial) (Below.refl _ _) (fun _ => rfl)
    (fun pre W => (RSt w.heap.size A false W ∧ Hid ((pre.map Subtype.val).any (tellM es (fun d => d == 4)) = false)) ∧ Below w.heap.size w W)
    (fun c pre W => (c = .ret ∧ RSt w.heap.size A true W ∧ Hid ((pre.map Subtype.val).any (tellM es (fun d => d == 4)) = true)) ∧ Below w.heap.size w W)
    (OwnFrom.and (Own.from (fun s A B row hs hg hr => ⟨hs.1.kept hg hr, hs.2⟩) _) (ownFrom_below (Nat.le_refl _) hle))
    (fun c => OwnFrom.and (Own.from (fun s A B row hs hg hr => ⟨hs.1, hs.2.1.kept hg hr, hs.2.2⟩) _) (ownFrom_below (Nat.le_refl _) hle))
    ⟨⟨hR0, rfl⟩, hB0⟩
    (fun x => { tmps := #[layV A, .string s, .pointer (some ⟨w.heap.size, 0, none⟩), undef, .pointer (some ⟨w.heap.size + 1, 0, none⟩), .string x.1, undef, undef, .string s, .string (upS s), .func (.func 67) #[] #[.pointer (some ⟨bn, 0, none⟩)], .string x.1, undef, undef, undef, undef, undef, undef, undef, undef, undef, undef, undef, undef, undef, undef], defers := [] }) ?assign ?body ?done ?stop
  case assign =>
    intro l x W K hK
    gi_wp2
    exact hK
  case body =>
    rintro l pre x W ⟨⟨hSt, HA⟩, hB⟩ _
    obtain ⟨hpx, hsx⟩ := ups_small x.2
    have hxz : x.1.size ≤ 16777216 := by omega
    have HAt := hid (at_any base N es A T (x.1.size + 1) W (R.below hB) x.1 (Nat.lt_succ_self _) hxz)
    have HSt := hid hSt
    have HB := hid hB
    have sn : Hid (∀ b, tellM es (fun d => d == 4) x.1 = b → ((pre ++ [x]).map Subtype.val).any (tellM es (fun d => d == 4)) = b) := fun b hb => by
      rw [List.map_append, List.map_singleton, any_snoc, HA.out, hb, Bool.false_or]
    obtain ⟨sr, srf, ⟨c0, c1, f0, f1⟩⟩ := hSt
    cases hlk : lookE es x.1 with
    | none =>
      have HX := hid (sn.out false (by unfold tellM; rw [hlk]))
      rw [atV_none (path_not_root hpx) hlk] at HAt
      clear hlk hpx
      gi_wp2_with (refine ⟨trivial, ?_⟩; gi_at_call 35; refine (callsIn_wide.2 HAt.out).mono ?_; rintro e w2 ⟨rfl, hB2⟩)
      all_goals exact ⟨keeps_of_below (belowA hB2 _), trivial, ⟨HSt.out.below (belowA hB2 _), HX⟩, belowT HB.out (belowA hB2 _)⟩
    | some e =>
      have hk := T.kind e (look_mem hlk).1
      have ht : tellM es (fun d => d == 4) x.1 = (fun d : Int => d == 4) e.d := by unfold tellM; rw [hlk]
      rw [atV_some T hlk] at HAt
      unfold nodeV at HAt
      obtain ⟨d, hd⟩ : ∃ d, e.d = d := ⟨_, rfl⟩
      rw [hd] at HAt hk ht
      obtain ⟨xx, hxx⟩ : ∃ xx, e.x = xx := ⟨_, rfl⟩
      rw [hxx] at HAt
      clear hlk hpx hd hxx
      rcases (by omega : d = 1 ∨ d = 2 ∨ d = 3 ∨ d = 4) with rfl | rfl | rfl | rfl
      · have HX := hid (sn.out false (ht.trans rfl))
        have hq : ∀ W, (binOp .eql 36 (signV 1 xx) (.iface 74 (.agg #[]))).run Tryz.prog W = .ok (.bool false) W := fun W => eqs14 xx W
        rw [sign1] at HAt hq
        have hg := guards
        gi_wp2_with (refine ⟨trivial, ?_⟩; gi_at_call 35; refine (callsIn_wide.2 HAt.out).mono ?_; rintro e w2 ⟨rfl, hB2⟩; obtain ⟨kr, krf, -⟩ := HSt.out.below (belowA hB2 (.cells #[signV 1 xx, .map (some (A x.1))] 39)); rw [sign1] at kr krf)
        exact ⟨keeps_of_below (belowA hB2 _), trivial, ⟨HSt.out.below (belowA hB2 _), HX⟩, belowT HB.out (belowA hB2 _)⟩
      · have HX := hid (sn.out false (ht.trans rfl))
        have hq : ∀ W, (binOp .eql 36 (signV 2 xx) (.iface 74 (.agg #[]))).run Tryz.prog W = .ok (.bool false) W := fun W => eqs24 W
        rw [sign2] at HAt hq
        have hg := guards
        gi_wp2_with (refine ⟨trivial, ?_⟩; gi_at_call 35; refine (callsIn_wide.2 HAt.out).mono ?_; rintro e w2 ⟨rfl, hB2⟩; obtain ⟨kr, krf, -⟩ := HSt.out.below (belowA hB2 (.cells #[signV 2 xx, .map (some (A x.1))] 39)); rw [sign2] at kr krf)
        exact ⟨keeps_of_below (belowA hB2 _), trivial, ⟨HSt.out.below (belowA hB2 _), HX⟩, belowT HB.out (belowA hB2 _)⟩
      · have HX := hid (sn.out false (ht.trans rfl))
        have hq : ∀ W, (binOp .eql 36 (signV 3 xx) (.iface 74 (.agg #[]))).run Tryz.prog W = .ok (.bool false) W := fun W => eqs34 W
        rw [sign3] at HAt hq
        have hg := guards
        gi_wp2_with (refine ⟨trivial, ?_⟩; gi_at_call 35; refine (callsIn_wide.2 HAt.out).mono ?_; rintro e w2 ⟨rfl, hB2⟩; obtain ⟨kr, krf, -⟩ := HSt.out.below (belowA hB2 (.cells #[signV 3 xx, .map (some (A x.1))] 39)); rw [sign3] at kr krf)
        exact ⟨keeps_of_below (belowA hB2 _), trivial, ⟨HSt.out.below (belowA hB2 _), HX⟩, belowT HB.out (belowA hB2 _)⟩
      · have HX := hid (sn.out true (ht.trans rfl))
        have hq : ∀ W, (binOp .eql 36 (signV 4 xx) (.iface 74 (.agg #[]))).run Tryz.prog W = .ok (.bool true) W := fun W => eqs44 W
        rw [sign4] at HAt hq
        have hg := guards
        gi_wp2_with (refine ⟨trivial, ?_⟩; gi_at_call 35; refine (callsIn_wide.2 HAt.out).mono ?_; rintro e w2 ⟨rfl, hB2⟩; obtain ⟨kr, krf, -⟩ := HSt.out.below (belowA hB2 (.cells #[signV 4 xx, .map (some (A x.1))] 39)); rw [sign4] at kr krf)
        exact ⟨(keeps_of_below (belowA hB2 _)).trans (KeepsOthers.setCell _ _ _), ⟨rfl, (HSt.out.below (belowA hB2 _)).set true, HX⟩, (belowT HB.out (belowA hB2 _)).setCell (p := ⟨w.heap.size + 1, 0, none⟩) (by simp) _⟩
  case done =>
    rintro D ys W hD hys ⟨⟨hSt, HA⟩, hB⟩ hK
    have he : (ups (upS s)).any (tellM es (fun d => d == 4)) = false := by rw [← hys]; exact HA.out
    have hS2 := hSt.set false
    have hB2 := hB.setCell (p := ⟨w.heap.size + 1, 0, none⟩) (by simp) (.bool false)
    obtain ⟨sr, srf, -⟩ := hSt
    gi_wp2
    have hK' := (KeepsOthers.setCell W ⟨w.heap.size + 1, 0, none⟩ (.bool false)).same D _ hK rfl
    refine ⟨by simp, .inl ⟨_, _, rfl, run_takeDeferred hK', ?_⟩⟩
    have r0 := cell_kept hS2.r (grownBy_putObj' _ D (.deferred none)) (fun r e => by cases e; exact ⟨_, hK', rfl⟩)
    refine ⟨.bool false, ?_, by rw [he], hB2.trans (belowK_b (w := w) (Nat.le_refl _) _ D _ _ (by have := hB0.size; omega) hK' rfl rfl)⟩
    simp [results, Tryz.f37, go_sem, r0]
  case stop =>
    rintro D c pre W hD hpre ⟨⟨rfl, hSt, HA⟩, hB⟩ hK
    have he : (ups (upS s)).any (tellM es (fun d => d == 4)) = true := any_pre hpre HA.out
    gi_wp2
    refine ⟨by simp, .inl ⟨_, _, rfl, run_takeDeferred hK, ?_⟩⟩
    have r0 := cell_kept hSt.r (grownBy_putObj' _ D (.deferred none)) (fun r e => by cases e; exact ⟨_, hK, rfl⟩)
    refine ⟨.bool true, ?_, by rw [he], hB.trans (belowK_b (w := w) (Nat.le_refl _) _ D _ _ (by have := hB0.size; omega) hK rfl rfl)⟩
    simp [results, Tryz.f37, go_sem, r0]
end Go.Proofs.YtkjpmngohocmlabGreat.Mk

/-
  The walk of the program's own: whether a sign may stand at a path.
-/
namespace Go.Proofs.YtkjpmngohocmlabGreat.Mk
open Go.RowKit Go.Shelf Go.Lib

attribute [local go_sem] Oper.semAt_some

theorem atV_sign {es : List E} {A : ByteArray → Nat} {p : ByteArray} (T : TrM es) (hz : ∀ e ∈ es, e.x.size ≤ 16777216) (h : AtM es (upS p)) :
    ∃ d x, atV es A (upS p) = (.agg #[signV d x, .map (some (A (upS p)))], true) ∧ (1 ≤ d ∧ d ≤ 4) ∧ x.size ≤ 16777216 ∧ inM es p = dirK d := by
  rcases h with q | ⟨e, h⟩
  · refine ⟨2, ⟨#[]⟩, ?_, by omega, Nat.zero_le _, ?_⟩
    · rw [atV_root ((isRoot_iff _).2 q), q]; rfl
    · rw [inM_look.2 (.inl q)]; rfl
  · refine ⟨e.d, e.x, atV_some T h, T.kind e (look_mem h).1, hz e (look_mem h).1, ?_⟩
    rw [Bool.eq_iff_iff, inM_look]
    constructor
    · rintro (q | ⟨f, h1, h2⟩)
      · rw [q, look_bad T root_no_path] at h; cases h
      · rw [h] at h1; cases h1; exact h2
    · intro hd
      exact .inr ⟨e, h, hd⟩
theorem inM_not {es : List E} {p : ByteArray} (h : ¬ AtM es (upS p)) : inM es p = false := by
  cases hi : inM es p with
  | false => rfl
  | true => exact absurd ((inM_look.1 hi).imp id fun ⟨f, h1, _⟩ => ⟨f, h1⟩) h
theorem upS_le (p : ByteArray) (hp : p.size ≤ 16777216) : (upS p).size ≤ 16777216 := by
  cases h : pathB p with
  | true => have := up_lt h; omega
  | false => rw [up_bad h]; exact Nat.zero_le _

set_option maxHeartbeats 4000000 in
set_option maxRecDepth 100000 in
theorem takes_any (base N : Nat) (es : List E) (A : ByteArray → Nat) (T : TrM es) (hz : ∀ e ∈ es, e.x.size ≤ 16777216) (w : World) (R : Rep w base N es A) (p : ByteArray) (hp : p.size ≤ 16777216) (d : Int) (x : ByteArray) (hx : x.size ≤ 16777216) (hd : 1 ≤ d ∧ d ≤ 4) :
    Calls Tryz.prog 32 #[layV A, .string p, signV d x] w fun e w' => e = .returned (.bool (takesM es p d)) ∧ Below w.heap.size w w' := by
  obtain ⟨t, u, htu⟩ := sign_is d x
  have HTK : Hid (takesM es p d = (inM es p && (!bareM es p || decide (d ≤ 2)))) := rfl
  have HIB := hid (fun W => inBare_any d x hx hd W)
  have HD := hid hd
  have HTU := hid htu
  rw [htu] at HIB
  rw [htu]
  have B1 := Box2.new w (.iface 83 (.agg #[])) (.map (some (A ⟨#[47]⟩))) 41
  obtain ⟨w1, hw1⟩ : ∃ w1, w1 = w.alloc (.cells #[.iface 83 (.agg #[]), .map (some (A ⟨#[47]⟩))] 41) := ⟨_, rfl⟩
  have hBw : Below w.heap.size w w1 := by rw [hw1]; exact belowA (Below.refl _ w) _
  rw [← hw1] at B1
  have HB1 := hid B1
  have AS : Hid (∀ W', Below w1.heap.size w1 W' → (W'.cell? ⟨w.heap.size, 0, none⟩ = some (.iface 83 (.agg #[])) ∧ W'.cell? ⟨w.heap.size, 1, none⟩ = some (.map (some (A ⟨#[47]⟩))))) := fun W' hW => ⟨(B1.below hW).c0, (B1.below hW).c1⟩
  have AR : Hid (∀ W', Below w1.heap.size w1 W' → Rep W' base N es A) := fun W' hW => (R.below hBw).below hW
  have HU := hid (fun W => iPathUp_any p (by omega) W)
  have hus := upS_le p hp
  have HAt := hid (fun (W : World) (hW : Rep W base N es A) => at_any base N es A T ((upS p).size + 1) W hW (upS p) (Nat.lt_succ_self _) hus)
  have HBa := hid (fun (W : World) (hW : Rep W base N es A) => bares_any base N es A T W hW p (by omega))
  clear htu
  by_cases hA : AtM es (upS p)
  · obtain ⟨du, xu, hv, hdu, hxu, hin⟩ := atV_sign (A := A) T hz hA
    obtain ⟨tu, uu, hsu⟩ := sign_is du xu
    have HSD := hid (fun W => showsDir_any du xu hxu hdu W)
    rw [hv, hsu] at HAt
    rw [hsu] at HSD
    clear hv hsu hA
    cases hdk : dirK du with
    | false =>
      rw [hdk] at HSD hin
      have HR : Hid (takesM es p d = false) := by show _ = _; rw [HTK.out, hin]; rfl
      clear hdk hin
      go_enter Tryz.func32, Tryz.ntmps32
      go_wp2_with fail
      rw [← hw1]
      clear hw1
      rename_i Qx Kx hKx
      have HK : Hid (∀ (b : Nat) (W : World), Below w1.heap.size w1 W → Box2 W b (.iface tu uu) (.map (some (A (upS p)))) → Kx { tmps := #[layV A, .string p, .iface t u, .pointer (some ⟨w.heap.size, 0, none⟩), undef, undef, .bool false, .pointer (some ⟨b, 0, none⟩), .bool true, undef, undef, .tuple #[.agg #[.iface tu uu, .map (some (A (upS p)))], .bool true], .agg #[.iface 83 (.agg #[]), .map (some (A ⟨#[47]⟩))], .string p, .string (upS p), .tuple #[.agg #[.iface tu uu, .map (some (A (upS p)))], .bool true], .agg #[.iface tu uu, .map (some (A (upS p)))], .bool true, undef, undef, undef, undef, undef, undef, undef, undef, undef, undef, undef, undef, undef, undef, undef, undef, undef, undef, undef, undef, undef, undef, undef], defers := [] } W) := by
        intro b W hBW hbx
        refine hKx _ _ ?_
        clear hKx
        have HBW := hid (belowT hBw hBW)
        have HBX := hid hbx
        have HLY := hid (HB1.out.below hBW)
        obtain ⟨x0, x1, x2, x3⟩ := hbx
        go_wp2_with (first | (go_at_call 50; refine (HSD.out _).mono ?_; rintro e w5 ⟨rfl, hB5⟩; obtain ⟨l0, l1, l2, l3⟩ := HLY.out.below hB5) | fail)
        go_ret
        exact ⟨by rw [HR.out]; rfl, belowT HBW.out hB5⟩
      clear hKx
      go_region_held3 (fun W' => W'.cell? ⟨w.heap.size, 0, none⟩ = some (.iface 83 (.agg #[])) ∧ W'.cell? ⟨w.heap.size, 1, none⟩ = some (.map (some (A ⟨#[47]⟩))))
        ((refine AS.out _ ?_; repeat (first | exact Below.refl _ _ | apply belowA | refine belowT ?_ hB4 | refine belowT ?_ hB3 | apply Below.drew | refine set2_below ?_ (by first | exact Nat.le_refl _ | (have h3 := hB3.size; have h4 := hB4.size; simp at h3 h4 ⊢; omega)) _ _)))
        (first | (go_at_call 49; refine (HU.out _).mono ?_; rintro e w3 ⟨rfl, hB3⟩; obtain ⟨bc3, bf3⟩ := bcellN hB3; have l3 := hB3.size; (try simp at l3); (try (have z0 := bc3 w1.heap.size 0 (lt_allocD _ _); have z1 := bc3 w1.heap.size 1 (lt_allocD _ _); have z2 := bf3 w1.heap.size 0 (lt_allocD _ _); have z3 := bf3 w1.heap.size 1 (lt_allocD _ _); simp at z0 z1 z2 z3)); clear bc3 bf3) | (go_at_call 35; refine (HAt.out _ (AR.out _ (by repeat (first | exact Below.refl _ _ | apply belowA | refine belowT ?_ hB3 | apply Below.drew)))).mono ?_; rintro e w4 ⟨rfl, hB4⟩; obtain ⟨bc4, bf4⟩ := bcellN hB4; have l4 := hB4.size; (try simp at l4); (try (have z0 := bc4 w3.heap.size 0 (lt_alloc _ _); have z1 := bc4 w3.heap.size 1 (lt_alloc _ _); have z2 := bf4 w3.heap.size 0 (lt_alloc _ _); have z3 := bf4 w3.heap.size 1 (lt_alloc _ _); simp at z0 z1 z2 z3)); (try (have v0 := (bc4 w1.heap.size 0 l3).trans z0; have v1 := (bc4 w1.heap.size 1 l3).trans z1; have v2 := (bf4 w1.heap.size 0 l3).trans z2; have v3 := (bf4 w1.heap.size 1 l3).trans z3)); clear bc4 bf4))
      all_goals refine HK.out _ _ (by repeat (first | exact Below.refl _ _ | apply belowA | refine belowT ?_ hB4 | refine belowT ?_ hB3 | apply Below.drew | refine set2_below ?_ (by first | exact Nat.le_refl _ | (have h3 := hB3.size; have h4 := hB4.size; simp at h3 h4 ⊢; omega)) _ _)) ?_
      all_goals first | exact Box2.set ⟨v0, v1, v2, v3⟩ _ _ | exact Box2.set ⟨z0, z1, z2, z3⟩ _ _ | exact Box2.new _ _ _ _
    | true =>
      rw [hdk] at HSD hin
      have hpb := inM_path T hin
      rw [bares_is T hpb] at HBa
      have HR1 : Hid (takesM es p d = (!bareM es p || decide (d ≤ 2))) := by show _ = _; rw [HTK.out, hin]; rfl
      clear hdk hin hpb
      cases hba : bareM es p with
      | false =>
        rw [hba] at HBa
        have HR : Hid (takesM es p d = true) := by show _ = _; rw [HR1.out, hba]; rfl
        clear hba
        go_enter Tryz.func32, Tryz.ntmps32
        go_wp2_with fail
        rw [← hw1]
        clear hw1
        rename_i Qx Kx hKx
        have HK : Hid (∀ (b : Nat) (W : World), Below w1.heap.size w1 W → Box2 W b (.iface tu uu) (.map (some (A (upS p)))) → Kx { tmps := #[layV A, .string p, .iface t u, .pointer (some ⟨w.heap.size, 0, none⟩), undef, undef, .bool false, .pointer (some ⟨b, 0, none⟩), .bool true, undef, undef, .tuple #[.agg #[.iface tu uu, .map (some (A (upS p)))], .bool true], .agg #[.iface 83 (.agg #[]), .map (some (A ⟨#[47]⟩))], .string p, .string (upS p), .tuple #[.agg #[.iface tu uu, .map (some (A (upS p)))], .bool true], .agg #[.iface tu uu, .map (some (A (upS p)))], .bool true, undef, undef, undef, undef, undef, undef, undef, undef, undef, undef, undef, undef, undef, undef, undef, undef, undef, undef, undef, undef, undef, undef, undef], defers := [] } W) := by
          intro b W hBW hbx
          refine hKx _ _ ?_
          clear hKx
          have HBW := hid (belowT hBw hBW)
          have HBX := hid hbx
          have HLY := hid (HB1.out.below hBW)
          obtain ⟨x0, x1, x2, x3⟩ := hbx
          go_wp2_with (first | (go_at_call 50; refine (HSD.out _).mono ?_; rintro e w5 ⟨rfl, hB5⟩; obtain ⟨l0, l1, l2, l3⟩ := HLY.out.below hB5) | (go_at_call 37; refine (HBa.out _ (AR.out _ (belowT hBW hB5))).mono ?_; rintro e w6 ⟨rfl, hB6⟩) | fail)
          go_ret
          exact ⟨by rw [HR.out]; rfl, belowT (belowT HBW.out hB5) hB6⟩
        clear hKx
        go_region_held3 (fun W' => W'.cell? ⟨w.heap.size, 0, none⟩ = some (.iface 83 (.agg #[])) ∧ W'.cell? ⟨w.heap.size, 1, none⟩ = some (.map (some (A ⟨#[47]⟩))))
          ((refine AS.out _ ?_; repeat (first | exact Below.refl _ _ | apply belowA | refine belowT ?_ hB4 | refine belowT ?_ hB3 | apply Below.drew | refine set2_below ?_ (by first | exact Nat.le_refl _ | (have h3 := hB3.size; have h4 := hB4.size; simp at h3 h4 ⊢; omega)) _ _)))
          (first | (go_at_call 49; refine (HU.out _).mono ?_; rintro e w3 ⟨rfl, hB3⟩; obtain ⟨bc3, bf3⟩ := bcellN hB3; have l3 := hB3.size; (try simp at l3); (try (have z0 := bc3 w1.heap.size 0 (lt_allocD _ _); have z1 := bc3 w1.heap.size 1 (lt_allocD _ _); have z2 := bf3 w1.heap.size 0 (lt_allocD _ _); have z3 := bf3 w1.heap.size 1 (lt_allocD _ _); simp at z0 z1 z2 z3)); clear bc3 bf3) | (go_at_call 35; refine (HAt.out _ (AR.out _ (by repeat (first | exact Below.refl _ _ | apply belowA | refine belowT ?_ hB3 | apply Below.drew)))).mono ?_; rintro e w4 ⟨rfl, hB4⟩; obtain ⟨bc4, bf4⟩ := bcellN hB4; have l4 := hB4.size; (try simp at l4); (try (have z0 := bc4 w3.heap.size 0 (lt_alloc _ _); have z1 := bc4 w3.heap.size 1 (lt_alloc _ _); have z2 := bf4 w3.heap.size 0 (lt_alloc _ _); have z3 := bf4 w3.heap.size 1 (lt_alloc _ _); simp at z0 z1 z2 z3)); (try (have v0 := (bc4 w1.heap.size 0 l3).trans z0; have v1 := (bc4 w1.heap.size 1 l3).trans z1; have v2 := (bf4 w1.heap.size 0 l3).trans z2; have v3 := (bf4 w1.heap.size 1 l3).trans z3)); clear bc4 bf4))
        all_goals refine HK.out _ _ (by repeat (first | exact Below.refl _ _ | apply belowA | refine belowT ?_ hB4 | refine belowT ?_ hB3 | apply Below.drew | refine set2_below ?_ (by first | exact Nat.le_refl _ | (have h3 := hB3.size; have h4 := hB4.size; simp at h3 h4 ⊢; omega)) _ _)) ?_
        all_goals first | exact Box2.set ⟨v0, v1, v2, v3⟩ _ _ | exact Box2.set ⟨z0, z1, z2, z3⟩ _ _ | exact Box2.new _ _ _ _
      | true =>
        rw [hba] at HBa
        have HR2 : Hid (takesM es p d = decide (d ≤ 2)) := by show _ = _; rw [HR1.out, hba]; rfl
        clear hba
        rcases (by omega : d = 1 ∨ d = 2 ∨ d = 3 ∨ d = 4) with rfl | rfl | rfl | rfl
        · have HR : Hid (takesM es p 1 = true) := by show _ = _; rw [HR2.out]; rfl
          have e2 : inB 1 x = (.iface 85 (.agg #[.string x]), true) := rfl
          rw [e2] at HIB
          have e3 := HTU.out
          rw [sign1] at e3
          injection e3 with e4 e5
          subst e4
          subst e5
          clear e2 HTU
          have hg := guards
          have hq := eqs11 x
          go_enter Tryz.func32, Tryz.ntmps32
          go_wp2_with fail
          rw [← hw1]
          clear hw1
          rename_i Qx Kx hKx
          have HK : Hid (∀ (b : Nat) (W : World), Below w1.heap.size w1 W → Box2 W b (.iface tu uu) (.map (some (A (upS p)))) → Kx { tmps := #[layV A, .string p, .iface 85 (.agg #[.string x]), .pointer (some ⟨w.heap.size, 0, none⟩), undef, undef, .bool false, .pointer (some ⟨b, 0, none⟩), .bool true, undef, undef, .tuple #[.agg #[.iface tu uu, .map (some (A (upS p)))], .bool true], .agg #[.iface 83 (.agg #[]), .map (some (A ⟨#[47]⟩))], .string p, .string (upS p), .tuple #[.agg #[.iface tu uu, .map (some (A (upS p)))], .bool true], .agg #[.iface tu uu, .map (some (A (upS p)))], .bool true, undef, undef, undef, undef, undef, undef, undef, undef, undef, undef, undef, undef, undef, undef, undef, undef, undef, undef, undef, undef, undef, undef, undef], defers := [] } W) := by
            intro b W hBW hbx
            refine hKx _ _ ?_
            clear hKx
            have HBW := hid (belowT hBw hBW)
            have HBX := hid hbx
            have HLY := hid (HB1.out.below hBW)
            obtain ⟨x0, x1, x2, x3⟩ := hbx
            go_wp2_with (first | (go_at_call 50; refine (HSD.out _).mono ?_; rintro e w5 ⟨rfl, hB5⟩; obtain ⟨l0, l1, l2, l3⟩ := HLY.out.below hB5) | (go_at_call 37; refine (HBa.out _ (AR.out _ (belowT hBW hB5))).mono ?_; rintro e w6 ⟨rfl, hB6⟩) | (go_at_call 38; refine (HIB.out _).mono ?_; rintro e w7 ⟨rfl, hB7⟩) | fail)
            go_ret
            exact ⟨by rw [HR.out]; rfl, belowT (belowT (belowT HBW.out hB5) hB6) hB7⟩
          clear hKx
          go_region_held3 (fun W' => W'.cell? ⟨w.heap.size, 0, none⟩ = some (.iface 83 (.agg #[])) ∧ W'.cell? ⟨w.heap.size, 1, none⟩ = some (.map (some (A ⟨#[47]⟩))))
            ((refine AS.out _ ?_; repeat (first | exact Below.refl _ _ | apply belowA | refine belowT ?_ hB4 | refine belowT ?_ hB3 | apply Below.drew | refine set2_below ?_ (by first | exact Nat.le_refl _ | (have h3 := hB3.size; have h4 := hB4.size; simp at h3 h4 ⊢; omega)) _ _)))
            (first | (go_at_call 49; refine (HU.out _).mono ?_; rintro e w3 ⟨rfl, hB3⟩; obtain ⟨bc3, bf3⟩ := bcellN hB3; have l3 := hB3.size; (try simp at l3); (try (have z0 := bc3 w1.heap.size 0 (lt_allocD _ _); have z1 := bc3 w1.heap.size 1 (lt_allocD _ _); have z2 := bf3 w1.heap.size 0 (lt_allocD _ _); have z3 := bf3 w1.heap.size 1 (lt_allocD _ _); simp at z0 z1 z2 z3)); clear bc3 bf3) | (go_at_call 35; refine (HAt.out _ (AR.out _ (by repeat (first | exact Below.refl _ _ | apply belowA | refine belowT ?_ hB3 | apply Below.drew)))).mono ?_; rintro e w4 ⟨rfl, hB4⟩; obtain ⟨bc4, bf4⟩ := bcellN hB4; have l4 := hB4.size; (try simp at l4); (try (have z0 := bc4 w3.heap.size 0 (lt_alloc _ _); have z1 := bc4 w3.heap.size 1 (lt_alloc _ _); have z2 := bf4 w3.heap.size 0 (lt_alloc _ _); have z3 := bf4 w3.heap.size 1 (lt_alloc _ _); simp at z0 z1 z2 z3)); (try (have v0 := (bc4 w1.heap.size 0 l3).trans z0; have v1 := (bc4 w1.heap.size 1 l3).trans z1; have v2 := (bf4 w1.heap.size 0 l3).trans z2; have v3 := (bf4 w1.heap.size 1 l3).trans z3)); clear bc4 bf4))
          all_goals refine HK.out _ _ (by repeat (first | exact Below.refl _ _ | apply belowA | refine belowT ?_ hB4 | refine belowT ?_ hB3 | apply Below.drew | refine set2_below ?_ (by first | exact Nat.le_refl _ | (have h3 := hB3.size; have h4 := hB4.size; simp at h3 h4 ⊢; omega)) _ _)) ?_
          all_goals first | exact Box2.set ⟨v0, v1, v2, v3⟩ _ _ | exact Box2.set ⟨z0, z1, z2, z3⟩ _ _ | exact Box2.new _ _ _ _
        · have HR : Hid (takesM es p 2 = true) := by show _ = _; rw [HR2.out]; rfl
          have e2 : inB 2 x = (.iface 83 (.agg #[]), true) := rfl
          rw [e2] at HIB
          have e3 := HTU.out
          rw [sign2] at e3
          injection e3 with e4 e5
          subst e4
          subst e5
          clear e2 HTU
          have hg := guards
          have hq := eqs22
          go_enter Tryz.func32, Tryz.ntmps32
          go_wp2_with fail
          rw [← hw1]
          clear hw1
          rename_i Qx Kx hKx
          have HK : Hid (∀ (b : Nat) (W : World), Below w1.heap.size w1 W → Box2 W b (.iface tu uu) (.map (some (A (upS p)))) → Kx { tmps := #[layV A, .string p, .iface 83 (.agg #[]), .pointer (some ⟨w.heap.size, 0, none⟩), undef, undef, .bool false, .pointer (some ⟨b, 0, none⟩), .bool true, undef, undef, .tuple #[.agg #[.iface tu uu, .map (some (A (upS p)))], .bool true], .agg #[.iface 83 (.agg #[]), .map (some (A ⟨#[47]⟩))], .string p, .string (upS p), .tuple #[.agg #[.iface tu uu, .map (some (A (upS p)))], .bool true], .agg #[.iface tu uu, .map (some (A (upS p)))], .bool true, undef, undef, undef, undef, undef, undef, undef, undef, undef, undef, undef, undef, undef, undef, undef, undef, undef, undef, undef, undef, undef, undef, undef], defers := [] } W) := by
            intro b W hBW hbx
            refine hKx _ _ ?_
            clear hKx
            have HBW := hid (belowT hBw hBW)
            have HBX := hid hbx
            have HLY := hid (HB1.out.below hBW)
            obtain ⟨x0, x1, x2, x3⟩ := hbx
            go_wp2_with (first | (go_at_call 50; refine (HSD.out _).mono ?_; rintro e w5 ⟨rfl, hB5⟩; obtain ⟨l0, l1, l2, l3⟩ := HLY.out.below hB5) | (go_at_call 37; refine (HBa.out _ (AR.out _ (belowT hBW hB5))).mono ?_; rintro e w6 ⟨rfl, hB6⟩) | (go_at_call 38; refine (HIB.out _).mono ?_; rintro e w7 ⟨rfl, hB7⟩) | fail)
            go_ret
            exact ⟨by rw [HR.out]; rfl, belowT (belowT (belowT HBW.out hB5) hB6) hB7⟩
          clear hKx
          go_region_held3 (fun W' => W'.cell? ⟨w.heap.size, 0, none⟩ = some (.iface 83 (.agg #[])) ∧ W'.cell? ⟨w.heap.size, 1, none⟩ = some (.map (some (A ⟨#[47]⟩))))
            ((refine AS.out _ ?_; repeat (first | exact Below.refl _ _ | apply belowA | refine belowT ?_ hB4 | refine belowT ?_ hB3 | apply Below.drew | refine set2_below ?_ (by first | exact Nat.le_refl _ | (have h3 := hB3.size; have h4 := hB4.size; simp at h3 h4 ⊢; omega)) _ _)))
            (first | (go_at_call 49; refine (HU.out _).mono ?_; rintro e w3 ⟨rfl, hB3⟩; obtain ⟨bc3, bf3⟩ := bcellN hB3; have l3 := hB3.size; (try simp at l3); (try (have z0 := bc3 w1.heap.size 0 (lt_allocD _ _); have z1 := bc3 w1.heap.size 1 (lt_allocD _ _); have z2 := bf3 w1.heap.size 0 (lt_allocD _ _); have z3 := bf3 w1.heap.size 1 (lt_allocD _ _); simp at z0 z1 z2 z3)); clear bc3 bf3) | (go_at_call 35; refine (HAt.out _ (AR.out _ (by repeat (first | exact Below.refl _ _ | apply belowA | refine belowT ?_ hB3 | apply Below.drew)))).mono ?_; rintro e w4 ⟨rfl, hB4⟩; obtain ⟨bc4, bf4⟩ := bcellN hB4; have l4 := hB4.size; (try simp at l4); (try (have z0 := bc4 w3.heap.size 0 (lt_alloc _ _); have z1 := bc4 w3.heap.size 1 (lt_alloc _ _); have z2 := bf4 w3.heap.size 0 (lt_alloc _ _); have z3 := bf4 w3.heap.size 1 (lt_alloc _ _); simp at z0 z1 z2 z3)); (try (have v0 := (bc4 w1.heap.size 0 l3).trans z0; have v1 := (bc4 w1.heap.size 1 l3).trans z1; have v2 := (bf4 w1.heap.size 0 l3).trans z2; have v3 := (bf4 w1.heap.size 1 l3).trans z3)); clear bc4 bf4))
          all_goals refine HK.out _ _ (by repeat (first | exact Below.refl _ _ | apply belowA | refine belowT ?_ hB4 | refine belowT ?_ hB3 | apply Below.drew | refine set2_below ?_ (by first | exact Nat.le_refl _ | (have h3 := hB3.size; have h4 := hB4.size; simp at h3 h4 ⊢; omega)) _ _)) ?_
          all_goals first | exact Box2.set ⟨v0, v1, v2, v3⟩ _ _ | exact Box2.set ⟨z0, z1, z2, z3⟩ _ _ | exact Box2.new _ _ _ _
        · have HR : Hid (takesM es p 3 = false) := by show _ = _; rw [HR2.out]; rfl
          have e2 : inB 3 x = (.nilIface, false) := rfl
          rw [e2] at HIB
          have e3 := HTU.out
          rw [sign3] at e3
          injection e3 with e4 e5
          subst e4
          subst e5
          clear e2 HTU
          have hg := guards
          have hq := eqs22
          go_enter Tryz.func32, Tryz.ntmps32
          go_wp2_with fail
          rw [← hw1]
          clear hw1
          rename_i Qx Kx hKx
          have HK : Hid (∀ (b : Nat) (W : World), Below w1.heap.size w1 W → Box2 W b (.iface tu uu) (.map (some (A (upS p)))) → Kx { tmps := #[layV A, .string p, .iface 86 (.agg #[]), .pointer (some ⟨w.heap.size, 0, none⟩), undef, undef, .bool false, .pointer (some ⟨b, 0, none⟩), .bool true, undef, undef, .tuple #[.agg #[.iface tu uu, .map (some (A (upS p)))], .bool true], .agg #[.iface 83 (.agg #[]), .map (some (A ⟨#[47]⟩))], .string p, .string (upS p), .tuple #[.agg #[.iface tu uu, .map (some (A (upS p)))], .bool true], .agg #[.iface tu uu, .map (some (A (upS p)))], .bool true, undef, undef, undef, undef, undef, undef, undef, undef, undef, undef, undef, undef, undef, undef, undef, undef, undef, undef, undef, undef, undef, undef, undef], defers := [] } W) := by
            intro b W hBW hbx
            refine hKx _ _ ?_
            clear hKx
            have HBW := hid (belowT hBw hBW)
            have HBX := hid hbx
            have HLY := hid (HB1.out.below hBW)
            obtain ⟨x0, x1, x2, x3⟩ := hbx
            go_wp2_with (first | (go_at_call 50; refine (HSD.out _).mono ?_; rintro e w5 ⟨rfl, hB5⟩; obtain ⟨l0, l1, l2, l3⟩ := HLY.out.below hB5) | (go_at_call 37; refine (HBa.out _ (AR.out _ (belowT hBW hB5))).mono ?_; rintro e w6 ⟨rfl, hB6⟩) | (go_at_call 38; refine (HIB.out _).mono ?_; rintro e w7 ⟨rfl, hB7⟩) | fail)
            go_ret
            exact ⟨by rw [HR.out]; rfl, belowT (belowT (belowT HBW.out hB5) hB6) hB7⟩
          clear hKx
          go_region_held3 (fun W' => W'.cell? ⟨w.heap.size, 0, none⟩ = some (.iface 83 (.agg #[])) ∧ W'.cell? ⟨w.heap.size, 1, none⟩ = some (.map (some (A ⟨#[47]⟩))))
            ((refine AS.out _ ?_; repeat (first | exact Below.refl _ _ | apply belowA | refine belowT ?_ hB4 | refine belowT ?_ hB3 | apply Below.drew | refine set2_below ?_ (by first | exact Nat.le_refl _ | (have h3 := hB3.size; have h4 := hB4.size; simp at h3 h4 ⊢; omega)) _ _)))
            (first | (go_at_call 49; refine (HU.out _).mono ?_; rintro e w3 ⟨rfl, hB3⟩; obtain ⟨bc3, bf3⟩ := bcellN hB3; have l3 := hB3.size; (try simp at l3); (try (have z0 := bc3 w1.heap.size 0 (lt_allocD _ _); have z1 := bc3 w1.heap.size 1 (lt_allocD _ _); have z2 := bf3 w1.heap.size 0 (lt_allocD _ _); have z3 := bf3 w1.heap.size 1 (lt_allocD _ _); simp at z0 z1 z2 z3)); clear bc3 bf3) | (go_at_call 35; refine (HAt.out _ (AR.out _ (by repeat (first | exact Below.refl _ _ | apply belowA | refine belowT ?_ hB3 | apply Below.drew)))).mono ?_; rintro e w4 ⟨rfl, hB4⟩; obtain ⟨bc4, bf4⟩ := bcellN hB4; have l4 := hB4.size; (try simp at l4); (try (have z0 := bc4 w3.heap.size 0 (lt_alloc _ _); have z1 := bc4 w3.heap.size 1 (lt_alloc _ _); have z2 := bf4 w3.heap.size 0 (lt_alloc _ _); have z3 := bf4 w3.heap.size 1 (lt_alloc _ _); simp at z0 z1 z2 z3)); (try (have v0 := (bc4 w1.heap.size 0 l3).trans z0; have v1 := (bc4 w1.heap.size 1 l3).trans z1; have v2 := (bf4 w1.heap.size 0 l3).trans z2; have v3 := (bf4 w1.heap.size 1 l3).trans z3)); clear bc4 bf4))
          all_goals refine HK.out _ _ (by repeat (first | exact Below.refl _ _ | apply belowA | refine belowT ?_ hB4 | refine belowT ?_ hB3 | apply Below.drew | refine set2_below ?_ (by first | exact Nat.le_refl _ | (have h3 := hB3.size; have h4 := hB4.size; simp at h3 h4 ⊢; omega)) _ _)) ?_
          all_goals first | exact Box2.set ⟨v0, v1, v2, v3⟩ _ _ | exact Box2.set ⟨z0, z1, z2, z3⟩ _ _ | exact Box2.new _ _ _ _
        · have HR : Hid (takesM es p 4 = false) := by show _ = _; rw [HR2.out]; rfl
          have e2 : inB 4 x = (.iface 83 (.agg #[]), true) := rfl
          rw [e2] at HIB
          have e3 := HTU.out
          rw [sign4] at e3
          injection e3 with e4 e5
          subst e4
          subst e5
          clear e2 HTU
          have hg := guards
          have hq := eqs24
          go_enter Tryz.func32, Tryz.ntmps32
          go_wp2_with fail
          rw [← hw1]
          clear hw1
          rename_i Qx Kx hKx
          have HK : Hid (∀ (b : Nat) (W : World), Below w1.heap.size w1 W → Box2 W b (.iface tu uu) (.map (some (A (upS p)))) → Kx { tmps := #[layV A, .string p, .iface 74 (.agg #[]), .pointer (some ⟨w.heap.size, 0, none⟩), undef, undef, .bool false, .pointer (some ⟨b, 0, none⟩), .bool true, undef, undef, .tuple #[.agg #[.iface tu uu, .map (some (A (upS p)))], .bool true], .agg #[.iface 83 (.agg #[]), .map (some (A ⟨#[47]⟩))], .string p, .string (upS p), .tuple #[.agg #[.iface tu uu, .map (some (A (upS p)))], .bool true], .agg #[.iface tu uu, .map (some (A (upS p)))], .bool true, undef, undef, undef, undef, undef, undef, undef, undef, undef, undef, undef, undef, undef, undef, undef, undef, undef, undef, undef, undef, undef, undef, undef], defers := [] } W) := by
            intro b W hBW hbx
            refine hKx _ _ ?_
            clear hKx
            have HBW := hid (belowT hBw hBW)
            have HBX := hid hbx
            have HLY := hid (HB1.out.below hBW)
            obtain ⟨x0, x1, x2, x3⟩ := hbx
            go_wp2_with (first | (go_at_call 50; refine (HSD.out _).mono ?_; rintro e w5 ⟨rfl, hB5⟩; obtain ⟨l0, l1, l2, l3⟩ := HLY.out.below hB5) | (go_at_call 37; refine (HBa.out _ (AR.out _ (belowT hBW hB5))).mono ?_; rintro e w6 ⟨rfl, hB6⟩) | (go_at_call 38; refine (HIB.out _).mono ?_; rintro e w7 ⟨rfl, hB7⟩) | fail)
            go_ret
            exact ⟨by rw [HR.out]; rfl, belowT (belowT (belowT HBW.out hB5) hB6) hB7⟩
          clear hKx
          go_region_held3 (fun W' => W'.cell? ⟨w.heap.size, 0, none⟩ = some (.iface 83 (.agg #[])) ∧ W'.cell? ⟨w.heap.size, 1, none⟩ = some (.map (some (A ⟨#[47]⟩))))
            ((refine AS.out _ ?_; repeat (first | exact Below.refl _ _ | apply belowA | refine belowT ?_ hB4 | refine belowT ?_ hB3 | apply Below.drew | refine set2_below ?_ (by first | exact Nat.le_refl _ | (have h3 := hB3.size; have h4 := hB4.size; simp at h3 h4 ⊢; omega)) _ _)))
            (first | (go_at_call 49; refine (HU.out _).mono ?_; rintro e w3 ⟨rfl, hB3⟩; obtain ⟨bc3, bf3⟩ := bcellN hB3; have l3 := hB3.size; (try simp at l3); (try (have z0 := bc3 w1.heap.size 0 (lt_allocD _ _); have z1 := bc3 w1.heap.size 1 (lt_allocD _ _); have z2 := bf3 w1.heap.size 0 (lt_allocD _ _); have z3 := bf3 w1.heap.size 1 (lt_allocD _ _); simp at z0 z1 z2 z3)); clear bc3 bf3) | (go_at_call 35; refine (HAt.out _ (AR.out _ (by repeat (first | exact Below.refl _ _ | apply belowA | refine belowT ?_ hB3 | apply Below.drew)))).mono ?_; rintro e w4 ⟨rfl, hB4⟩; obtain ⟨bc4, bf4⟩ := bcellN hB4; have l4 := hB4.size; (try simp at l4); (try (have z0 := bc4 w3.heap.size 0 (lt_alloc _ _); have z1 := bc4 w3.heap.size 1 (lt_alloc _ _); have z2 := bf4 w3.heap.size 0 (lt_alloc _ _); have z3 := bf4 w3.heap.size 1 (lt_alloc _ _); simp at z0 z1 z2 z3)); (try (have v0 := (bc4 w1.heap.size 0 l3).trans z0; have v1 := (bc4 w1.heap.size 1 l3).trans z1; have v2 := (bf4 w1.heap.size 0 l3).trans z2; have v3 := (bf4 w1.heap.size 1 l3).trans z3)); clear bc4 bf4))
          all_goals refine HK.out _ _ (by repeat (first | exact Below.refl _ _ | apply belowA | refine belowT ?_ hB4 | refine belowT ?_ hB3 | apply Below.drew | refine set2_below ?_ (by first | exact Nat.le_refl _ | (have h3 := hB3.size; have h4 := hB4.size; simp at h3 h4 ⊢; omega)) _ _)) ?_
          all_goals first | exact Box2.set ⟨v0, v1, v2, v3⟩ _ _ | exact Box2.set ⟨z0, z1, z2, z3⟩ _ _ | exact Box2.new _ _ _ _
  · rw [atV_not (A := A) hA] at HAt
    have HR : Hid (takesM es p d = false) := by show _ = _; rw [HTK.out, inM_not hA]; rfl
    clear hA
    go_enter Tryz.func32, Tryz.ntmps32
    go_wp2_with fail
    rw [← hw1]
    clear hw1
    rename_i Qx Kx hKx
    have HK : Hid (∀ (b : Nat) (W : World), Below w1.heap.size w1 W → Box2 W b (.nilIface) (.map (none)) → Kx { tmps := #[layV A, .string p, .iface t u, .pointer (some ⟨w.heap.size, 0, none⟩), undef, undef, .bool false, .pointer (some ⟨b, 0, none⟩), .bool false, undef, undef, .tuple #[.agg #[.nilIface, .map (none)], .bool false], .agg #[.iface 83 (.agg #[]), .map (some (A ⟨#[47]⟩))], .string p, .string (upS p), .tuple #[.agg #[.nilIface, .map (none)], .bool false], .agg #[.nilIface, .map (none)], .bool false, undef, undef, undef, undef, undef, undef, undef, undef, undef, undef, undef, undef, undef, undef, undef, undef, undef, undef, undef, undef, undef, undef, undef], defers := [] } W) := by
      intro b W hBW hbx
      refine hKx _ _ ?_
      clear hKx
      have HBW := hid (belowT hBw hBW)
      have HBX := hid hbx
      have HLY := hid (HB1.out.below hBW)
      obtain ⟨x0, x1, x2, x3⟩ := hbx
      go_wp2
      go_ret
      exact ⟨by rw [HR.out]; rfl, HBW.out⟩
    clear hKx
    go_region_held3 (fun W' => W'.cell? ⟨w.heap.size, 0, none⟩ = some (.iface 83 (.agg #[])) ∧ W'.cell? ⟨w.heap.size, 1, none⟩ = some (.map (some (A ⟨#[47]⟩))))
      ((refine AS.out _ ?_; repeat (first | exact Below.refl _ _ | apply belowA | refine belowT ?_ hB4 | refine belowT ?_ hB3 | apply Below.drew | refine set2_below ?_ (by first | exact Nat.le_refl _ | (have h3 := hB3.size; have h4 := hB4.size; simp at h3 h4 ⊢; omega)) _ _)))
      (first | (go_at_call 49; refine (HU.out _).mono ?_; rintro e w3 ⟨rfl, hB3⟩; obtain ⟨bc3, bf3⟩ := bcellN hB3; have l3 := hB3.size; (try simp at l3); (try (have z0 := bc3 w1.heap.size 0 (lt_allocD _ _); have z1 := bc3 w1.heap.size 1 (lt_allocD _ _); have z2 := bf3 w1.heap.size 0 (lt_allocD _ _); have z3 := bf3 w1.heap.size 1 (lt_allocD _ _); simp at z0 z1 z2 z3)); clear bc3 bf3) | (go_at_call 35; refine (HAt.out _ (AR.out _ (by repeat (first | exact Below.refl _ _ | apply belowA | refine belowT ?_ hB3 | apply Below.drew)))).mono ?_; rintro e w4 ⟨rfl, hB4⟩; obtain ⟨bc4, bf4⟩ := bcellN hB4; have l4 := hB4.size; (try simp at l4); (try (have z0 := bc4 w3.heap.size 0 (lt_alloc _ _); have z1 := bc4 w3.heap.size 1 (lt_alloc _ _); have z2 := bf4 w3.heap.size 0 (lt_alloc _ _); have z3 := bf4 w3.heap.size 1 (lt_alloc _ _); simp at z0 z1 z2 z3)); (try (have v0 := (bc4 w1.heap.size 0 l3).trans z0; have v1 := (bc4 w1.heap.size 1 l3).trans z1; have v2 := (bf4 w1.heap.size 0 l3).trans z2; have v3 := (bf4 w1.heap.size 1 l3).trans z3)); clear bc4 bf4))
    all_goals refine HK.out _ _ (by repeat (first | exact Below.refl _ _ | apply belowA | refine belowT ?_ hB4 | refine belowT ?_ hB3 | apply Below.drew | refine set2_below ?_ (by first | exact Nat.le_refl _ | (have h3 := hB3.size; have h4 := hB4.size; simp at h3 h4 ⊢; omega)) _ _)) ?_
    all_goals first | exact Box2.set ⟨v0, v1, v2, v3⟩ _ _ | exact Box2.set ⟨z0, z1, z2, z3⟩ _ _ | exact Box2.new _ _ _ _
end Go.Proofs.YtkjpmngohocmlabGreat.Mk

/-
  The walk of the program's own: a sign is put at a path of a layer.
-/
namespace Go.Proofs.YtkjpmngohocmlabGreat.Mk
open Go.RowKit Go.Shelf Go.Lib Go.Maps

attribute [local go_sem] Oper.semAt_some

/-- A mark is put: what is left. -/
theorem put_fin {w W W7 : World} {base N a : Nat} {es : List E} {A : ByteArray → Nat} {e : E} (T : TrM es) (R : Rep W base N es A) (hV : Turn base w W) (hp : pathB e.p = true) (hup : AtM es (upS e.p)) (hold : lookE es e.p = none)
    (hm : MapIs W7 (A (upS e.p)) (N + 1) (fun t => if t = nmS e.p then some (nodeV e.d e.x a) else kidF es A (upS e.p) t)) (ht : W.mapTurned W7 (A (upS e.p))) (ha : MapIs W a 0 (fun _ => none)) (hba : base ≤ a) (hda : ∀ p, AtM es p → A p ≠ a) :
    Turn base w W7 ∧ ∃ A', A' ⟨#[47]⟩ = A ⟨#[47]⟩ ∧ Rep W7 base (N + 1) (es ++ [e]) A' := by
  have hroot : e.p ≠ ⟨#[47]⟩ := fun q => by rw [q, root_no_path] at hp; cases hp
  refine ⟨hV.trans (Turn.of_map ht (R.low _ hup)), _, ?_, R.put T hp hold hm (fun p hpd hne => ?_) (ha.kept ?_) hba hda⟩
  · rw [if_neg (fun q => hroot q.symm)]
  · exact ht.grown.block _ (R.kids p hpd).lt (fun q => hne (R.apart _ _ hpd hup (Option.some.inj q)))
  · exact ht.grown.block _ ha.lt (fun q => hda _ hup (Option.some.inj q).symm)

theorem turn_set {base b : Nat} {w W : World} (h : Turn base w W) (hb : base ≤ b) (hw : w.heap.size ≤ b) (u v : Value) : Turn base w (set2 W b u v) := by
  refine ⟨set2_below h.below hb u v, fun k o h1 h2 => ?_⟩
  have hk := (Array.getElem?_eq_some_iff.1 h1).1
  exact ((set2_below (Below.refl w.heap.size W) hw u v).block k hk).trans (h.cells k o h1 h2)

set_option maxHeartbeats 4000000 in
set_option maxRecDepth 100000 in
theorem put_any (base N : Nat) (es : List E) (A : ByteArray → Nat) (T : TrM es) (w : World) (R : Rep w base N es A) (hb : base ≤ w.heap.size) (hN : N < 1000) (p : ByteArray) (hp : p.size ≤ 16777216) (d : Int) (x : ByteArray) (hpb : pathB p = true) (hA : AtM es (upS p)) (hold : lookE es p = none) :
    Calls Tryz.prog 33 #[layV A, .string p, signV d x] w fun e w' => (∃ v, e = .returned v) ∧ Turn base w w' ∧ ∃ A', A' ⟨#[47]⟩ = A ⟨#[47]⟩ ∧ Rep w' base (N + 1) (es ++ [⟨p, d, x⟩]) A' := by
  obtain ⟨t, u, htu⟩ := sign_is d x
  have HTU := hid htu
  rw [htu]
  obtain ⟨tu, uu, hv⟩ := atV_there (A := A) T hA
  have B1 := (Box2.new w (.iface 83 (.agg #[])) (.map (some (A ⟨#[47]⟩))) 41).on (.cells #[.nilIface, .map none] 39)
  have B2 := Box2.new (w.alloc (.cells #[.iface 83 (.agg #[]), .map (some (A ⟨#[47]⟩))] 41)) .nilIface (.map none) 39
  simp only [World.size_alloc] at B2
  obtain ⟨w1, hw1⟩ : ∃ w1, w1 = (w.alloc (.cells #[.iface 83 (.agg #[]), .map (some (A ⟨#[47]⟩))] 41)).alloc (.cells #[.nilIface, .map none] 39) := ⟨_, rfl⟩
  have hBw : Below w.heap.size w w1 := by rw [hw1]; exact belowA (belowA (Below.refl _ w) _) _
  rw [← hw1] at B1 B2
  have HB2 := hid B2
  have AS : Hid (∀ W', Below w1.heap.size w1 W' → (W'.cell? ⟨w.heap.size, 0, none⟩ = some (.iface 83 (.agg #[])) ∧ W'.cell? ⟨w.heap.size, 1, none⟩ = some (.map (some (A ⟨#[47]⟩))))) := fun W' hW => ⟨(B1.below hW).c0, (B1.below hW).c1⟩
  have AR : Hid (∀ W', Below w1.heap.size w1 W' → Rep W' base N es A) := fun W' hW => (R.below hBw).below hW
  have HU := hid (fun W => iPathUp_any p (by omega) W)
  have HN := hid (fun W => iPathName_any p (by omega) W)
  have hus := upS_le p hp
  have HAt := hid (fun (W : World) (hW : Rep W base N es A) => at_any base N es A T ((upS p).size + 1) W hW (upS p) (Nat.lt_succ_self _) hus)
  rw [hv] at HAt
  have HP := hid hpb
  have HA := hid hA
  have HO := hid hold
  clear htu hv hpb hA hold
  go_enter Tryz.func33, Tryz.ntmps33
  go_wp2_with fail
  rw [← hw1]
  clear hw1 B1 B2
  rename_i Qx Kx hKx
  have HK : Hid (∀ (b : Nat) (W : World), Below w1.heap.size w1 W → Box2 W b (.iface tu uu) (.map (some (A (upS p)))) → Kx { tmps := #[layV A, .string p, .iface t u, .pointer (some ⟨w.heap.size, 0, none⟩), undef, undef, .pointer (some ⟨w.heap.size + 1, 0, none⟩), .pointer (some ⟨b, 0, none⟩), .bool true, undef, .tuple #[.agg #[.iface tu uu, .map (some (A (upS p)))], .bool true], .agg #[.iface 83 (.agg #[]), .map (some (A ⟨#[47]⟩))], .string p, .string (upS p), .tuple #[.agg #[.iface tu uu, .map (some (A (upS p)))], .bool true], .agg #[.iface tu uu, .map (some (A (upS p)))], .bool true, undef, undef, undef, undef, undef, undef, undef, undef, undef, undef, undef, undef, undef, undef, undef, undef], defers := [] } W) := by
    intro b W hBW hbx
    refine hKx _ _ ?_
    clear hKx
    have HBX := hid hbx
    have HBW := hid (belowT hBw hBW)
    have HRes := hid (HB2.out.below hBW)
    have HRW := hid (AR.out W hBW)
    obtain ⟨x0, x1, x2, x3⟩ := hbx
    go_wp2_with (first | (go_at_call 46; refine (newNode_any _ _ _).mono ?_; rintro e w5 ⟨rfl, hM5, hB5⟩) | fail)
    obtain ⟨W5, hW5⟩ : ∃ W5, W5 = w5.alloc (.cells #[.iface t u, .map (some (W.heap.size + 1))] 39) := ⟨_, rfl⟩
    have hBW5 : Below W.heap.size W W5 := by rw [hW5]; exact belowA hB5 _
    have BN : Box2 W5 w5.heap.size (.iface t u) (.map (some (W.heap.size + 1))) := by rw [hW5]; exact Box2.new _ _ _ _
    have BU := HBX.out.below hBW5
    have BR := HRes.out.below hBW5
    have hM : MapIs W5 (W.heap.size + 1) 0 (fun _ => none) := by rw [hW5]; exact hM5.kept (Below.heap_alloc _ _ _ hM5.lt)
    have hAp : ∀ q, AtM es q → A q ≠ W.heap.size + 1 := fun q hq h => by have := (HRW.out.kids q hq).lt; omega
    have hbW : base ≤ W5.heap.size := Nat.le_trans hb (Nat.le_trans HBW.out.size hBW5.size)
    have hbW0 : base ≤ W.heap.size := Nat.le_trans hb HBW.out.size
    have HR5 := hid (HRW.out.below hBW5)
    have AS2 : Hid (∀ W', Turn base W5 W' → (W'.cell? ⟨b, 1, none⟩ = some (.map (some (A (upS p)))) ∧ W'.cell? ⟨w5.heap.size, 0, none⟩ = some (.iface t u) ∧ W'.cell? ⟨w5.heap.size, 1, none⟩ = some (.map (some (W.heap.size + 1))))) := fun W' hW => ⟨(BU.turn hW).c1, (BN.turn hW).c0, (BN.turn hW).c1⟩
    rw [← hW5]
    clear hW5 hM5
    go_region_held3 (fun W' => W'.cell? ⟨b, 1, none⟩ = some (.map (some (A (upS p)))) ∧ W'.cell? ⟨w5.heap.size, 0, none⟩ = some (.iface t u) ∧ W'.cell? ⟨w5.heap.size, 1, none⟩ = some (.map (some (W.heap.size + 1))))
      ((first | exact AS2.out _ ((Turn.of_below (belowT (Below.refl _ _).drew hB6) hbW).trans (Turn.of_map ht7 (HR5.out.low _ HA.out))) | exact AS2.out _ (Turn.of_below (belowT (Below.refl _ _).drew hB6) hbW) | exact AS2.out _ (Turn.of_below (Below.refl _ _).drew hbW)))
      (first | (go_at_call 51; refine (HN.out _).mono ?_; rintro e w6 ⟨rfl, hB6⟩; obtain ⟨w7, hst, hm7, ht7⟩ := ((HR5.out.below (belowT (Below.refl _ _).drew hB6)).kids _ HA.out).store (by unfold maxLen; omega) (name_max HP.out) (.agg #[.iface t u, .map (some (W.heap.size + 1))])))
    all_goals
      have hB56 : Below W5.heap.size W5 w6 := belowT (Below.refl _ _).drew hB6
      have hT57 : Turn base W5 w7 := (Turn.of_below hB56 hbW).trans (Turn.of_map ht7 (HR5.out.low _ HA.out))
      have hTw : Turn base w w6 := (Turn.of_below (belowT HBW.out hBW5) hb).trans (Turn.of_below hB56 hbW)
      have fin := put_fin (e := ⟨p, d, x⟩) (a := W.heap.size + 1) T (HR5.out.below hB56) hTw HP.out HA.out HO.out (by unfold nodeV; rw [HTU.out]; exact hm7) ht7 (hM.kept (hB56.block _ hM.lt)) (by omega) hAp
      have BR7 := BR.turn hT57
      obtain ⟨n0, n1, n2, n3⟩ := BN.turn hT57
      obtain ⟨r0, r1, r2, r3⟩ := BR7
      go_wp2
      have hset := (Box2.mk r0 r1 r2 r3).set (.iface t u) (.map (some (W.heap.size + 1)))
      refine bodyPost_ret (v := .agg #[.iface t u, .map (some (W.heap.size + 1))]) (by simp [results, Tryz.results33, go_sem, hset.c0, hset.c1]) rfl ⟨⟨_, rfl⟩, turn_set fin.1 (Nat.le_trans hb (Nat.le_succ _)) (Nat.le_succ _) _ _, ?_⟩
      obtain ⟨A', hA', hR'⟩ := fin.2
      exact ⟨A', hA', hR'.keeps (set2_keeps _ _ _ _)⟩
  clear hKx
  go_region_held3 (fun W' => W'.cell? ⟨w.heap.size, 0, none⟩ = some (.iface 83 (.agg #[])) ∧ W'.cell? ⟨w.heap.size, 1, none⟩ = some (.map (some (A ⟨#[47]⟩))))
    ((refine AS.out _ ?_; repeat (first | exact Below.refl _ _ | apply belowA | refine belowT ?_ hB4 | refine belowT ?_ hB3 | apply Below.drew | refine set2_below ?_ (by first | exact Nat.le_refl _ | (have h3 := hB3.size; have h4 := hB4.size; simp at h3 h4 ⊢; omega)) _ _)))
    (first | (go_at_call 49; refine (HU.out _).mono ?_; rintro e w3 ⟨rfl, hB3⟩; obtain ⟨bc3, bf3⟩ := bcellN hB3; have l3 := hB3.size; (try simp at l3); (try (have z0 := bc3 w1.heap.size 0 (lt_allocD _ _); have z1 := bc3 w1.heap.size 1 (lt_allocD _ _); have z2 := bf3 w1.heap.size 0 (lt_allocD _ _); have z3 := bf3 w1.heap.size 1 (lt_allocD _ _); simp at z0 z1 z2 z3)); clear bc3 bf3) | (go_at_call 35; refine (HAt.out _ (AR.out _ (by repeat (first | exact Below.refl _ _ | apply belowA | refine belowT ?_ hB3 | apply Below.drew)))).mono ?_; rintro e w4 ⟨rfl, hB4⟩; obtain ⟨bc4, bf4⟩ := bcellN hB4; have l4 := hB4.size; (try simp at l4); (try (have z0 := bc4 w3.heap.size 0 (lt_alloc _ _); have z1 := bc4 w3.heap.size 1 (lt_alloc _ _); have z2 := bf4 w3.heap.size 0 (lt_alloc _ _); have z3 := bf4 w3.heap.size 1 (lt_alloc _ _); simp at z0 z1 z2 z3)); (try (have v0 := (bc4 w1.heap.size 0 l3).trans z0; have v1 := (bc4 w1.heap.size 1 l3).trans z1; have v2 := (bf4 w1.heap.size 0 l3).trans z2; have v3 := (bf4 w1.heap.size 1 l3).trans z3)); clear bc4 bf4))
  all_goals refine HK.out _ _ (by repeat (first | exact Below.refl _ _ | apply belowA | refine belowT ?_ hB4 | refine belowT ?_ hB3 | apply Below.drew | refine set2_below ?_ (by first | exact Nat.le_refl _ | (have h3 := hB3.size; have h4 := hB4.size; simp at h3 h4 ⊢; omega)) _ _)) ?_
  all_goals first | exact Box2.set ⟨v0, v1, v2, v3⟩ _ _ | exact Box2.set ⟨z0, z1, z2, z3⟩ _ _ | exact Box2.new _ _ _ _
end Go.Proofs.YtkjpmngohocmlabGreat.Mk

/-
  The walk of the program's own: whether a layer hides what is beneath at a path.
-/
namespace Go.Proofs.YtkjpmngohocmlabGreat.Mk
open Go.RowKit Go.Shelf Go.Lib

attribute [local go_sem] Oper.semAt_some

set_option maxHeartbeats 4000000 in
set_option maxRecDepth 100000 in
theorem hides_any (base N : Nat) (es : List E) (A : ByteArray → Nat) (T : TrM es) (w : World) (R : Rep w base N es A) (s : ByteArray) (hs : s.size ≤ 16777216) :
    Calls Tryz.prog 55 #[layV A, .string s] w fun e w' => e = .returned (.bool ((ups s).any (tellM es (fun d => d != 2)))) ∧ Below w.heap.size w w' := by
  refine (callsIn_wide (n := 3)).1 ?_
  refine callsIn_of_wp_marks Tryz.func55 rfl trivial ?_ rfl
  simp only [Tryz.ntmps55, List.size_toArray, List.length_cons, List.length_nil, Nat.reduceAdd, Nat.reduceSub, Array.replicate_succ, Array.replicate_zero, List.push_toArray, List.append_toArray, List.nil_append, List.cons_append]
  gi_wp2_with (refine ⟨trivial, ?_⟩; gi_at_call 56; refine (callsIn_wide.2 (upward_any _ _)).mono ?_; rintro e w1 ⟨rfl, rfl⟩)
  obtain ⟨bn, hbnE⟩ : ∃ bn, bn = w.heap.size + 1 + 1 := ⟨_, rfl⟩
  obtain ⟨W0, hW0⟩ : ∃ W0, W0 = ((w.alloc (.cells #[.iface 83 (.agg #[]), .map (some (A ⟨#[47]⟩))] 41)).alloc (.cells #[.bool false] 4)).alloc (.cells #[.string s] 9) := ⟨_, rfl⟩
  have hB0 : Below w.heap.size w W0 := by rw [hW0]; exact belowA (belowA (belowA (Below.refl _ w) _) _) _
  have cN := cellNew (w.alloc (.cells #[.iface 83 (.agg #[]), .map (some (A ⟨#[47]⟩))] 41)) (.bool false) 4
  have fN := frozenNew (w.alloc (.cells #[.iface 83 (.agg #[]), .map (some (A ⟨#[47]⟩))] 41)) (.bool false) 4
  have cS := cellNew ((w.alloc (.cells #[.iface 83 (.agg #[]), .map (some (A ⟨#[47]⟩))] 41)).alloc (.cells #[.bool false] 4)) (.string s) 9
  simp only [World.size_alloc] at cN fN cS
  have hR0 : RSt w.heap.size A false W0 := by rw [hW0]; exact ⟨cellOn _ cN, frozenOn _ cN fN, ((Box2.new w _ _ _).on _).on _⟩
  have cb : W0.cell? ⟨bn, 0, none⟩ = some (.string s) := by rw [hW0, hbnE]; exact cS
  have hbn : bn < W0.heap.size := by rw [hW0, hbnE]; simp
  have hle : w.heap.size ≤ W0.heap.size := hB0.size
  rw [← hW0, ← hbnE]
  clear hW0 hbnE cN fN cS
  refine wpIn_rangeFunc_ownF rfl (by omega) (gf := 67) (lb := #[.pointer (some ⟨bn, 0, none⟩)]) rfl trivial (enters_of Tryz.func67 (by kernel_rfl) rfl)
    (ups_stops _ (by omega) bn s hs _ hbn cb) (fun _ _ => trivial) (fun _ _ _ _ _ _ _ _ => trivial) (Below.refl _ _) (fun _ => rfl)
    (fun pre W => (RSt w.heap.size A false W ∧ Hid ((pre.map Subtype.val).any (tellM es (fun d => d != 2)) = false)) ∧ Below w.heap.size w W)
    (fun c pre W => (c = .ret ∧ RSt w.heap.size A true W ∧ Hid ((pre.map Subtype.val).any (tellM es (fun d => d != 2)) = true)) ∧ Below w.heap.size w W)
    (OwnFrom.and (Own.from (fun s A B row hs hg hr => ⟨hs.1.kept hg hr, hs.2⟩) _) (ownFrom_below (Nat.le_refl _) hle))
    (fun c => OwnFrom.and (Own.from (fun s A B row hs hg hr => ⟨hs.1, hs.2.1.kept hg hr, hs.2.2⟩) _) (ownFrom_below (Nat.le_refl _) hle))
    ⟨⟨hR0, rfl⟩, hB0⟩
    (fun x => { tmps := #[layV A, .string s, .pointer (some ⟨w.heap.size, 0, none⟩), undef, .pointer (some ⟨w.heap.size + 1, 0, none⟩), .string x.1, undef, undef, .string s, .func (.func 67) #[] #[.pointer (some ⟨bn, 0, none⟩)], .string x.1, undef, undef, undef, undef, undef, undef, undef, undef, undef, undef, undef, undef], defers := [] }) ?assign ?body ?done ?stop
  case assign =>
    intro l x W K hK
    gi_wp2
    exact hK
  case body =>
    rintro l pre x W ⟨⟨hSt, HA⟩, hB⟩ _
    obtain ⟨hpx, hsx⟩ := ups_small x.2
    have hxz : x.1.size ≤ 16777216 := by omega
    have HAt := hid (at_any base N es A T (x.1.size + 1) W (R.below hB) x.1 (Nat.lt_succ_self _) hxz)
    have HSt := hid hSt
    have HB := hid hB
    have sn : Hid (∀ b, tellM es (fun d => d != 2) x.1 = b → ((pre ++ [x]).map Subtype.val).any (tellM es (fun d => d != 2)) = b) := fun b hb => by
      rw [List.map_append, List.map_singleton, any_snoc, HA.out, hb, Bool.false_or]
    obtain ⟨sr, srf, ⟨c0, c1, f0, f1⟩⟩ := hSt
    cases hlk : lookE es x.1 with
    | none =>
      have HX := hid (sn.out false (by unfold tellM; rw [hlk]))
      rw [atV_none (path_not_root hpx) hlk] at HAt
      clear hlk hpx
      gi_wp2_with (refine ⟨trivial, ?_⟩; gi_at_call 35; refine (callsIn_wide.2 HAt.out).mono ?_; rintro e w2 ⟨rfl, hB2⟩)
      all_goals refine ⟨fun _ _ => trivial, ?_⟩
      all_goals gi_wp2
      all_goals exact ⟨keeps_of_below (belowA hB2 _), trivial, ⟨HSt.out.below (belowA hB2 _), HX⟩, belowT HB.out (belowA hB2 _)⟩
    | some e =>
      have hk := T.kind e (look_mem hlk).1
      have ht : tellM es (fun d => d != 2) x.1 = (fun d : Int => d != 2) e.d := by unfold tellM; rw [hlk]
      rw [atV_some T hlk] at HAt
      unfold nodeV at HAt
      obtain ⟨d, hd⟩ : ∃ d, e.d = d := ⟨_, rfl⟩
      rw [hd] at HAt hk ht
      obtain ⟨xx, hxx⟩ : ∃ xx, e.x = xx := ⟨_, rfl⟩
      rw [hxx] at HAt
      clear hlk hpx hd hxx
      rcases (by omega : d = 1 ∨ d = 2 ∨ d = 3 ∨ d = 4) with rfl | rfl | rfl | rfl
      · have HX := hid (sn.out true (ht.trans rfl))
        have hm : ∀ W, (method 252 85 (.agg #[.string xx]) "loop.example/pargeting/impl.hides").run Tryz.prog W = .ok (118, .agg #[.string xx]) W := fun _ => by kernel_rfl
        rw [sign1] at HAt
        gi_wp2_with (first | (refine ⟨trivial, ?_⟩; gi_at_call 35; refine (callsIn_wide.2 HAt.out).mono ?_; rintro e w2 ⟨rfl, hB2⟩) | (refine ⟨trivial, ?_⟩; gi_at_call 118; refine (callsIn_wide.2 (hides1_any _ _)).mono ?_; rintro e w3 ⟨rfl, hB3⟩; obtain ⟨kr, krf, -⟩ := (HSt.out.below (belowA hB2 _)).below hB3))
        exact ⟨(keeps_of_below (belowT (belowA hB2 _) hB3)).trans (KeepsOthers.setCell _ _ _), ⟨rfl, ((HSt.out.below (belowA hB2 _)).below hB3).set true, HX⟩, (belowT (belowT HB.out (belowA hB2 _)) hB3).setCell (p := ⟨w.heap.size + 1, 0, none⟩) (by simp) _⟩
      · have HX := hid (sn.out false (ht.trans rfl))
        have hm : ∀ W, (method 252 83 (.agg #[]) "loop.example/pargeting/impl.hides").run Tryz.prog W = .ok (115, .agg #[]) W := fun _ => by kernel_rfl
        rw [sign2] at HAt
        gi_wp2_with (first | (refine ⟨trivial, ?_⟩; gi_at_call 35; refine (callsIn_wide.2 HAt.out).mono ?_; rintro e w2 ⟨rfl, hB2⟩) | (refine ⟨trivial, ?_⟩; gi_at_call 115; refine (callsIn_wide.2 (hides2_any _)).mono ?_; rintro e w3 ⟨rfl, hB3⟩; obtain ⟨kr, krf, -⟩ := (HSt.out.below (belowA hB2 _)).below hB3))
        exact ⟨keeps_of_below (belowT (belowA hB2 _) hB3), trivial, ⟨(HSt.out.below (belowA hB2 _)).below hB3, HX⟩, belowT (belowT HB.out (belowA hB2 _)) hB3⟩
      · have HX := hid (sn.out true (ht.trans rfl))
        have hm : ∀ W, (method 252 86 (.agg #[]) "loop.example/pargeting/impl.hides").run Tryz.prog W = .ok (122, .agg #[]) W := fun _ => by kernel_rfl
        rw [sign3] at HAt
        gi_wp2_with (first | (refine ⟨trivial, ?_⟩; gi_at_call 35; refine (callsIn_wide.2 HAt.out).mono ?_; rintro e w2 ⟨rfl, hB2⟩) | (refine ⟨trivial, ?_⟩; gi_at_call 122; refine (callsIn_wide.2 (hides3_any _)).mono ?_; rintro e w3 ⟨rfl, hB3⟩; obtain ⟨kr, krf, -⟩ := (HSt.out.below (belowA hB2 _)).below hB3))
        exact ⟨(keeps_of_below (belowT (belowA hB2 _) hB3)).trans (KeepsOthers.setCell _ _ _), ⟨rfl, ((HSt.out.below (belowA hB2 _)).below hB3).set true, HX⟩, (belowT (belowT HB.out (belowA hB2 _)) hB3).setCell (p := ⟨w.heap.size + 1, 0, none⟩) (by simp) _⟩
      · have HX := hid (sn.out true (ht.trans rfl))
        have hm : ∀ W, (method 252 74 (.agg #[]) "loop.example/pargeting/impl.hides").run Tryz.prog W = .ok (111, .agg #[]) W := fun _ => by kernel_rfl
        rw [sign4] at HAt
        gi_wp2_with (first | (refine ⟨trivial, ?_⟩; gi_at_call 35; refine (callsIn_wide.2 HAt.out).mono ?_; rintro e w2 ⟨rfl, hB2⟩) | (refine ⟨trivial, ?_⟩; gi_at_call 111; refine (callsIn_wide.2 (hides4_any _)).mono ?_; rintro e w3 ⟨rfl, hB3⟩; obtain ⟨kr, krf, -⟩ := (HSt.out.below (belowA hB2 _)).below hB3))
        exact ⟨(keeps_of_below (belowT (belowA hB2 _) hB3)).trans (KeepsOthers.setCell _ _ _), ⟨rfl, ((HSt.out.below (belowA hB2 _)).below hB3).set true, HX⟩, (belowT (belowT HB.out (belowA hB2 _)) hB3).setCell (p := ⟨w.heap.size + 1, 0, none⟩) (by simp) _⟩
  case done =>
    rintro D ys W hD hys ⟨⟨hSt, HA⟩, hB⟩ hK
    have he : (ups s).any (tellM es (fun d => d != 2)) = false := by rw [← hys]; exact HA.out
    have hS2 := hSt.set false
    have hB2 := hB.setCell (p := ⟨w.heap.size + 1, 0, none⟩) (by simp) (.bool false)
    obtain ⟨sr, srf, -⟩ := hSt
    gi_wp2
    have hK' := (KeepsOthers.setCell W ⟨w.heap.size + 1, 0, none⟩ (.bool false)).same D _ hK rfl
    refine ⟨by simp, .inl ⟨_, _, rfl, run_takeDeferred hK', ?_⟩⟩
    have r0 := cell_kept hS2.r (grownBy_putObj' _ D (.deferred none)) (fun r e => by cases e; exact ⟨_, hK', rfl⟩)
    refine ⟨.bool false, ?_, by rw [he], hB2.trans (belowK_b (w := w) (Nat.le_refl _) _ D _ _ (by have := hB0.size; omega) hK' rfl rfl)⟩
    simp [results, Tryz.f55, go_sem, r0]
  case stop =>
    rintro D c pre W hD hpre ⟨⟨rfl, hSt, HA⟩, hB⟩ hK
    have he : (ups s).any (tellM es (fun d => d != 2)) = true := any_pre hpre HA.out
    gi_wp2
    refine ⟨by simp, .inl ⟨_, _, rfl, run_takeDeferred hK, ?_⟩⟩
    have r0 := cell_kept hSt.r (grownBy_putObj' _ D (.deferred none)) (fun r e => by cases e; exact ⟨_, hK, rfl⟩)
    refine ⟨.bool true, ?_, by rw [he], hB.trans (belowK_b (w := w) (Nat.le_refl _) _ D _ _ (by have := hB0.size; omega) hK rfl rfl)⟩
    simp [results, Tryz.f55, go_sem, r0]
end Go.Proofs.YtkjpmngohocmlabGreat.Mk

/-
  The walk of the program's own: whether what is beneath at a path is of no matter.
-/
namespace Go.Proofs.YtkjpmngohocmlabGreat.Mk
open Go.RowKit Go.Shelf Go.Lib

theorem cov_is {es : List E} (T : TrM es) (A : ByteArray → Nat) {s : ByteArray} (hs : pathB s = true) : ((atV es A s).2 || (ups s).any (tellM es (fun d => d != 2))) = Ly.covM es s := by
  unfold Ly.covM
  rw [hides_is T, hs, Bool.true_and]
  cases h : lookE es s with
  | none => rw [atV_none (path_not_root hs) h]; rfl
  | some e => rw [atV_some T h]; rfl

set_option maxHeartbeats 1000000 in
set_option maxRecDepth 100000 in
theorem covers_any (base N : Nat) (es : List E) (A : ByteArray → Nat) (T : TrM es) (w : World) (R : Rep w base N es A) (s : ByteArray) (hs : pathB s = true) (hz : s.size ≤ 16777216) :
    Calls Tryz.prog 36 #[layV A, .string s] w fun e w' => e = .returned (.bool (Ly.covM es s)) ∧ Below w.heap.size w w' := by
  have HI := hid (cov_is T A hs)
  have HA := hid (fun (W : World) (hW : Below w.heap.size w W) => at_any base N es A T (s.size + 1) W (R.below hW) s (Nat.lt_succ_self _) hz)
  have HH := hid (fun (W : World) (hW : Below w.heap.size w W) => hides_any base N es A T W (R.below hW) s hz)
  go_enter Tryz.func36, Tryz.ntmps36
  go_wp2_with fail
  refine (HA.out _ ((Below.refl _ w).alloc (Nat.le_refl _) _)).mono ?_
  rintro e w1 ⟨rfl, hB1⟩
  have c0 := (hB1.cell (p := ⟨w.heap.size, 0, none⟩) (by simp))|>.trans (by simp : _ = some (.iface 83 (.agg #[])))
  have c1 := (hB1.cell (p := ⟨w.heap.size, 1, none⟩) (by simp))|>.trans (by simp : _ = some (.map (some (A ⟨#[47]⟩))))
  have hB : Below w.heap.size w w1 := ((Below.refl _ w).alloc (Nat.le_refl _) _).trans (hB1.mono (by simp))
  have HB := hid hB
  have HB1 := hid hB1
  clear hB1 hB
  cases h : lookE es s with
  | some e =>
    obtain ⟨te, ue, hse⟩ := sign_is e.d e.x
    have hq : Ly.covM es s = true := by rw [← HI.out, atV_some T h]; rfl
    rw [atV_some T h]
    unfold nodeV
    rw [hse]
    have HQ := hid hq
    clear hse hq h HI
    go_wp2
    go_ret
    exact ⟨by rw [HQ.out]; rfl, HB.out.alloc HB.out.size _⟩
  | none =>
    have hq : Ly.covM es s = (ups s).any (tellM es (fun d => d != 2)) := by rw [← HI.out, atV_none (path_not_root hs) h]; rfl
    rw [atV_none (path_not_root hs) h]
    have HQ := hid hq
    clear hq h HI
    have c0' := cellOn (.cells #[.nilIface, .map none] 39) c0
    have c1' := cellOn (.cells #[.nilIface, .map none] 39) c1
    go_wp2_with (go_at_call 55; refine (HH.out _ (HB.out.alloc HB.out.size _)).mono ?_; rintro e w3 ⟨rfl, hB3⟩)
    go_ret
    exact ⟨by rw [HQ.out]; rfl, (HB.out.alloc HB.out.size _).trans (hB3.mono (by have := HB.out.size; simp; omega))⟩
end Go.Proofs.YtkjpmngohocmlabGreat.Mk

/-
  The walk of the program's own: the layer of a list.
-/
namespace Go.Proofs.YtkjpmngohocmlabGreat.Mk
open Go.RowKit Go.Shelf Go.Lib

attribute [local go_sem] Oper.semAt_some

theorem leq_not (a b : List UInt8) : (Op.bytesLess a b || a == b) = !Op.bytesLess b a := by
  cases hb : Op.bytesLess b a with
  | true =>
    have h1 : Op.bytesLess a b = false := by
      cases h : Op.bytesLess a b with
      | false => rfl
      | true => have := bless_trans _ _ _ h hb; rw [bless_irrefl] at this; cases this
    have h2 : (a == b) = false := by
      rw [beq_eq_false_iff_ne]; intro e; rw [e, bless_irrefl] at hb; cases hb
    rw [h1, h2]; rfl
  | false =>
    by_cases e : a = b
    · subst e; simp
    · rw [less_total _ _ hb (fun q => e q.symm)]; rfl
theorem signB_kind {d : Int} {x : ByteArray} (h : signB d x = true) : 1 ≤ d ∧ d ≤ 4 := by
  unfold signB at h
  split at h
  · omega
  · rw [Bool.and_eq_true] at h
    have := h.1
    simp only [Bool.or_eq_true, beq_iff_eq] at this
    omega
theorem layB_yes {es : List E} (h : (List.range es.length).all (okM es) = true) (hl : es.length ≤ 32) : layB es = true := by
  unfold layB; rw [h, decide_eq_true hl]; rfl
theorem all_snoc {es : List E} {k : Nat} (h : (List.range k).all (okM es) = true) (h2 : okM es k = true) : (List.range (k + 1)).all (okM es) = true := by
  rw [List.range_succ, List.all_append, h]; simpa using h2
/-- The boxes of layerOf. -/
structure LBox (W : World) (b c m : Nat) : Prop where
  res : ∃ u v, Box2 W b u v
  lay : Box2 W c (.iface 83 (.agg #[])) (.map (some m))
theorem LBox.turn {base : Nat} {W W' : World} {b c m : Nat} (h : LBox W b c m) (t : Turn base W W') : LBox W' b c m := by
  obtain ⟨⟨u, v, h1⟩, h2⟩ := h
  exact ⟨⟨u, v, h1.turn t⟩, h2.turn t⟩
theorem LBox.below {W W' : World} {b c m : Nat} (h : LBox W b c m) (t : Below W.heap.size W W') : LBox W' b c m := h.turn (Turn.of_below t (Nat.zero_le _))

set_option maxHeartbeats 4000000 in
set_option maxRecDepth 100000 in
theorem layerOf_any (w : World) (a : Option Addr) (g o cap : Nat) (es : List E) (hl : es.length ≤ 16777216) (hz : ∀ e ∈ es, e.p.size ≤ 16777216 ∧ e.x.size ≤ 16777216) (ha : 0 < es.length → a = some ⟨g, o, none⟩) (hE : Ents w g o es) :
    Calls Tryz.prog 12 #[.slice a es.length cap] w fun r w' => ∃ A, r = .returned (.tuple #[layV A, .bool (layB es)]) ∧ Below w.heap.size w w' ∧ (layB es = true → Rep w' w.heap.size 32 es A) := by
  have HE := hidE hE
  have HZ := hidE hz
  clear hE hz
  have B0 := Box2.new w .nilIface (.map none) 41
  by_cases h32 : es.length ≤ 32
  · go_enter Tryz.func12, Tryz.ntmps12
    go_wp2_with (first | (go_at_call 30; refine (newLayer_any _).mono ?_; rintro e w1 ⟨⟨aa, haa, rfl, hM1⟩, hB1⟩; obtain ⟨k0, k1, k2, k3⟩ := B0.below hB1) | fail)
    have hB01 : Below w.heap.size w w1 := belowT (belowA (Below.refl _ w) _) hB1
    simp only [World.size_alloc] at haa
    have hsz1 : w.heap.size + 1 ≤ w1.heap.size := by have := hB1.size; simpa using this
    have HB0 := hidE (LBox.mk (W := w1.alloc (.cells #[.iface 83 (.agg #[]), .map (some aa)] 41)) (b := w.heap.size) (c := w1.heap.size) (m := aa) ⟨_, _, (B0.below hB1).on _⟩ (Box2.new _ _ _ _))
    have HR0 := hidE (rep_nil (base := w.heap.size) (by omega) (hM1.kept (w' := w1.alloc (.cells #[.iface 83 (.agg #[]), .map (some aa)] 41)) (Below.heap_alloc _ _ _ hM1.lt)))
    have HBw := hidE (belowA hB01 (.cells #[.iface 83 (.agg #[]), .map (some aa)] 41))
    clear k0 k1 k2 k3 hM1 hB1 B0
    go_loopw [5, 17] (fun lv iv wl => ∃ k : Nat, k ≤ es.length ∧ iv = .int .i64 k ∧ lv = .string (lastP es k) ∧ Hid (∃ A, A ⟨#[47]⟩ = aa ∧ Rep wl w.heap.size k (es.take k) A) ∧ Hid (Below w.heap.size w wl) ∧ Hid ((List.range k).all (okM es) = true) ∧ Hid (LBox wl w.heap.size w1.heap.size aa)) (fun _ iv _ => es.length - (RowKit.intOf iv).toNat)
    case atStart => exact ⟨0, Nat.zero_le _, rfl, rfl, ⟨_, rfl, HR0.out⟩, HBw, rfl, HB0⟩
    case round =>
      obtain ⟨k, hk, rfl, rfl, HRA, HB, HA, HO⟩ := hrel
      by_cases hlt : k < es.length
      · obtain rfl := ha (by omega)
        obtain ⟨c0, c1, c2⟩ := (HE.out.below (HB.out.mono (Nat.le_refl _))) k hlt
        obtain ⟨z0, z1⟩ := HZ.out es[k] (List.getElem_mem _)
        obtain ⟨p, hp⟩ : ∃ p, es[k].p = p := ⟨_, rfl⟩
        obtain ⟨d, hd⟩ : ∃ d, es[k].d = d := ⟨_, rfl⟩
        obtain ⟨x, hx⟩ : ∃ x, es[k].x = x := ⟨_, rfl⟩
        have HX := hidE (show es[k] = ⟨p, d, x⟩ by rw [← hp, ← hd, ← hx])
        rw [hp] at c0 z0
        rw [hd] at c1
        rw [hx] at c2 z1
        clear hp hd hx
        have BM := Box3.new wr (.string p) (.int .i64 d) (.string x) 50
        obtain ⟨W0, hW0⟩ : ∃ W0, W0 = wr.alloc (.cells #[.string p, .int .i64 d, .string x] 50) := ⟨_, rfl⟩
        have hBA : Below wr.heap.size wr W0 := by rw [hW0]; exact belowA (Below.refl _ wr) _
        rw [← hW0] at BM
        have HBM := hidE BM
        have HWe := hidE hW0
        have HO0 := hidE (HO.out.below hBA)
        have HBW0 := hidE (belowT HB.out hBA)
        clear BM hW0
        have TK := tr_take k (by omega) HA.out
        have HL := hidE (show less (lastP es k) es[k].p ↔ Op.bytesLess (lastP es k).toList p.toList = true by rw [HX.out]; exact Iff.rfl)
        obtain ⟨lp, hlp⟩ : ∃ lp, lastP es k = lp := ⟨_, rfl⟩
        have HQ := hidE (leq_not p.toList lp.toList)
        rw [hlp] at HL
        have HLP := hidE hlp
        have HSg := hidE (fun W => signOf_any p d x z1 W)
        have no : Hid (okM es k = false → ∀ (W : World) (b : Bool), Below w.heap.size w W → b = false → ∃ A, Ending.returned (.tuple #[.agg #[.iface 83 (.agg #[]), .map (some aa)], .bool b]) = .returned (.tuple #[layV A, .bool (layB es)]) ∧ Below w.heap.size w W ∧ (layB es = true → Rep W w.heap.size 32 es A)) := fun h1 W b h2 h3 => by
          have hte := layB_no hlt h1
          exact ⟨fun _ => aa, by rw [← hte, h3], h2, fun h => by rw [← hte] at h; cases h⟩
        rw [hlp]
        cases hsg : signB d x with
        | false =>
          have HN : Hid (okM es k = false) := by
            show _ = _
            by_cases hle : less (lastP es k) es[k].p
            · rw [okM_less hlt TK hle, HX.out, hsg]; rfl
            · exact okM_not hlt hle
          rw [hsg] at HSg
          go_wp2_with (first | (go_at_call 31; rw [← HWe.out]; refine (HSg.out _).mono ?_; rintro e w2 ⟨rfl, hB2⟩; obtain ⟨⟨ru, rv, r0, r1, r2, r3⟩, l0, l1, l2, l3⟩ := HO0.out.below hB2) | fail)
          refine atSet2 (C := bodyPost Tryz.prog Tryz.f12 _ _ _) ⟨r0, r1, r2, r3⟩ (belowT HBW0.out hB2) (Nat.le_refl _) ?_
          intro Wf s0 hBf _ _
          exact bodyPost_ret (v := .tuple #[.agg #[.iface 83 (.agg #[]), .map (some aa)], .bool false]) (by simp [results, Tryz.results12, go_sem, s0.c0, s0.c1]) rfl (no.out HN.out Wf false hBf rfl)
        | true =>
          have hdk := signB_kind hsg
          rw [hsg, signM_in hdk] at HSg
          obtain ⟨ts, us, hts⟩ := sign_is d x
          rw [hts] at HSg
          cases hls : (Op.bytesLess p.toList lp.toList || p.toList == lp.toList) with
          | true =>
            have HN : Hid (okM es k = false) := by
              show _ = _
              refine okM_not hlt fun h => ?_
              rw [HLP.out] at h
              have h1 := HL.out.1 h
              have h2 := HQ.out
              rw [hls, h1] at h2; cases h2
            go_wp2_with (first | (go_at_call 31; rw [← HWe.out]; refine (HSg.out _).mono ?_; rintro e w2 ⟨rfl, hB2⟩; obtain ⟨⟨ru, rv, r0, r1, r2, r3⟩, l0, l1, l2, l3⟩ := HO0.out.below hB2; obtain ⟨m0, m1, m2, n0, n1, n2⟩ := HBM.out.below hB2) | fail)
            refine atSet2 (C := bodyPost Tryz.prog Tryz.f12 _ _ _) ⟨r0, r1, r2, r3⟩ (belowT HBW0.out hB2) (Nat.le_refl _) ?_
            intro Wf s0 hBf _ _
            exact bodyPost_ret (v := .tuple #[.agg #[.iface 83 (.agg #[]), .map (some aa)], .bool false]) (by simp [results, Tryz.results12, go_sem, s0.c0, s0.c1]) rfl (no.out HN.out Wf false hBf rfl)
          | false =>
            have hle : less (lastP es k) es[k].p := by
              rw [HLP.out]
              refine HL.out.2 ?_
              have h2 := HQ.out
              rw [hls] at h2
              cases h3 : Op.bytesLess lp.toList p.toList with
              | true => rfl
              | false => rw [h3] at h2; cases h2
            obtain ⟨A, hA0, RA⟩ := HRA.out
            have HRA0 := hidE (RA.below hBA)
            have htree : layV A = .agg #[.iface 83 (.agg #[]), .map (some aa)] := by unfold layV; rw [hA0]
            have HTk := hidE (fun (W : World) (hW : Rep W w.heap.size k (es.take k) A) => takes_any w.heap.size k (es.take k) A TK (fun e he => (HZ.out e (List.mem_of_mem_take he)).2) W hW p z0 d x z1 hdk)
            have HOK := hidE (okM_less hlt TK hle)
            rw [HX.out] at HOK
            have hless : ∀ f ∈ es.take k, less f.p p := fun f hf => by have := take_less hlt TK hle f hf; rw [HX.out] at this; exact this
            rw [htree, hts] at HTk
            cases htk : takesM (es.take k) p d with
            | false =>
              rw [htk] at HTk
              have HN : Hid (okM es k = false) := by
                show _ = _
                rw [HOK.out]
                show (signB d x && takesM (es.take k) p d) = false
                rw [htk, Bool.and_false]
              go_wp2_with (first | (go_at_call 31; rw [← HWe.out]; refine (HSg.out _).mono ?_; rintro e w2 ⟨rfl, hB2⟩; obtain ⟨⟨ru, rv, r0, r1, r2, r3⟩, l0, l1, l2, l3⟩ := HO0.out.below hB2; obtain ⟨m0, m1, m2, n0, n1, n2⟩ := HBM.out.below hB2) | (go_at_call 32; refine (HTk.out _ (HRA0.out.below hB2)).mono ?_; rintro e w3 ⟨rfl, hB3⟩; clear r0 r1 r2 r3 l0 l1 l2 l3 m0 m1 m2 n0 n1 n2; obtain ⟨⟨ru, rv, r0, r1, r2, r3⟩, l0, l1, l2, l3⟩ := (HO0.out.below hB2).below hB3; obtain ⟨m0, m1, m2, n0, n1, n2⟩ := (HBM.out.below hB2).below hB3) | fail)
              refine atSet2 (C := bodyPost Tryz.prog Tryz.f12 _ _ _) ⟨r0, r1, r2, r3⟩ (belowT (belowT HBW0.out hB2) hB3) (Nat.le_refl _) ?_
              intro Wf s0 hBf _ _
              exact bodyPost_ret (v := .tuple #[.agg #[.iface 83 (.agg #[]), .map (some aa)], .bool false]) (by simp [results, Tryz.results12, go_sem, s0.c0, s0.c1]) rfl (no.out HN.out Wf false hBf rfl)
            | true =>
              rw [htk] at HTk
              have hY : okM es k = true := by
                rw [HOK.out]
                show (signB d x && takesM (es.take k) p d) = true
                rw [htk, hsg]; rfl
              have hin : inM (es.take k) p = true := by
                unfold takesM at htk
                rw [Bool.and_eq_true] at htk
                exact htk.1
              have hold : lookE (es.take k) p = none := look_none.2 fun f hf q => by
                have := hless f hf
                rw [q] at this
                exact less_irrefl _ this
              have HPu := hidE (fun (W : World) (hW : Rep W w.heap.size k (es.take k) A) (hb : w.heap.size ≤ W.heap.size) => put_any w.heap.size k (es.take k) A TK W hW hb (by omega) p z0 d x (inM_path TK hin) ((inM_look.1 hin).imp id fun ⟨f, h1, _⟩ => ⟨f, h1⟩) hold)
              rw [htree, hts] at HPu
              have HY := hidE hY
              have HA0 := hidE hA0
              clear hY hin hold htk hsg hA0 hless
              go_wp2_with (first | (go_at_call 31; rw [← HWe.out]; refine (HSg.out _).mono ?_; rintro e w2 ⟨rfl, hB2⟩; obtain ⟨⟨ru, rv, r0, r1, r2, r3⟩, l0, l1, l2, l3⟩ := HO0.out.below hB2; obtain ⟨m0, m1, m2, n0, n1, n2⟩ := HBM.out.below hB2) | (go_at_call 32; refine (HTk.out _ (HRA0.out.below hB2)).mono ?_; rintro e w3 ⟨rfl, hB3⟩; clear r0 r1 r2 r3 l0 l1 l2 l3 m0 m1 m2 n0 n1 n2; obtain ⟨⟨ru, rv, r0, r1, r2, r3⟩, l0, l1, l2, l3⟩ := (HO0.out.below hB2).below hB3; obtain ⟨m0, m1, m2, n0, n1, n2⟩ := (HBM.out.below hB2).below hB3) | (go_at_call 33; refine (HPu.out _ ((HRA0.out.below hB2).below hB3) (belowT (belowT HBW0.out hB2) hB3).size).mono ?_; rintro e w4 ⟨⟨v, rfl⟩, hT4, hR4⟩; clear r0 r1 r2 r3 l0 l1 l2 l3 m0 m1 m2 n0 n1 n2; obtain ⟨m0, m1, m2, n0, n1, n2⟩ := ((HBM.out.below hB2).below hB3).turn hT4) | fail)
              obtain ⟨A', hA', hRA'⟩ := hR4
              refine ⟨⟨k + 1, by omega, rfl, by rw [lastP_succ hlt, HX.out], ⟨A', hA'.trans HA0.out, ?_⟩, (belowT (belowT HBW0.out hB2) hB3).trans hT4.below, all_snoc HA.out HY.out, ((HO0.out.below hB2).below hB3).turn hT4⟩, by simp [RowKit.intOf]; omega⟩
              rw [List.take_succ_eq_append_getElem hlt, HX.out]
              exact hRA'
      · have hke : k = es.length := by omega
        obtain ⟨⟨ru, rv, r0, r1, r2, r3⟩, l0, l1, l2, l3⟩ := HO.out
        obtain ⟨A, hA0, RA⟩ := HRA.out
        have HRk := hidE RA
        have hte : layB es = true := layB_yes (by rw [← hke]; exact HA.out) h32
        have HK := hidE hke
        clear RA HRA hke
        go_wp2
        refine atSet2 (C := bodyPost Tryz.prog Tryz.f12 _ _ _) ⟨r0, r1, r2, r3⟩ HB.out (Nat.le_refl _) ?_
        intro Wf s0 hBf hKo _
        refine bodyPost_ret (v := .tuple #[.agg #[.iface 83 (.agg #[]), .map (some aa)], .bool true]) (by simp [results, Tryz.results12, go_sem, s0.c0, s0.c1]) rfl ⟨A, ?_, hBf, fun _ => ?_⟩
        · rw [hte]; unfold layV; rw [hA0]
        · have h1 := HRk.out
          rw [HK.out, List.take_length] at h1
          exact (h1.keeps hKo).mono h32
  · have hte : layB es = false := by unfold layB; rw [decide_eq_false h32, Bool.and_false]
    have h32' : (32 : Int) < es.length := by omega
    rw [hte]
    go_enter Tryz.func12, Tryz.ntmps12
    go_wp2_with (first | (go_at_call 30; refine (newLayer_any _).mono ?_; rintro e w1 ⟨⟨aa, haa, rfl, hM1⟩, hB1⟩; obtain ⟨k0, k1, k2, k3⟩ := (B0.below hB1).on (.cells #[.iface 83 (.agg #[]), .map (some aa)] 41)) | fail)
    have hB01 : Below w.heap.size w w1 := belowT (belowA (Below.refl _ w) _) hB1
    refine atSet2 (C := bodyPost Tryz.prog Tryz.f12 _ _ _) ⟨k0, k1, k2, k3⟩ (belowA hB01 _) (Nat.le_refl _) ?_
    intro Wf s0 hBf _ _
    exact bodyPost_ret (v := .tuple #[.agg #[.iface 83 (.agg #[]), .map (some aa)], .bool false]) (by simp [results, Tryz.results12, go_sem, s0.c0, s0.c1]) rfl ⟨fun _ => aa, rfl, hBf, fun h => by cases h⟩
end Go.Proofs.YtkjpmngohocmlabGreat.Mk

/-
  The walks of the program's own LayerOk and LayerHides.
-/
namespace Go.Proofs.YtkjpmngohocmlabGreat.Mk
open Go.RowKit Go.Shelf Go.Lib

attribute [local go_sem] Oper.semAt_some

theorem layB_tr {es : List E} (h : layB es = true) : TrM es := by
  unfold layB at h
  rw [Bool.and_eq_true] at h
  have := tr_take es.length (Nat.le_refl _) h.1
  rwa [List.take_length] at this

end Go.Proofs.YtkjpmngohocmlabGreat.Mk
