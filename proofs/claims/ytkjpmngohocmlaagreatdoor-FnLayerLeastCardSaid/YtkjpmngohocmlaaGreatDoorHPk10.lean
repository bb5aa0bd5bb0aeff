/-
  The walk of the program's own: what a layer has at a path.
-/
import Derived.Deep.RegionHeld3
import Derived.Test.YtkjpmngohocmlaaGreatDoorHPk02
import Derived.Test.YtkjpmngohocmlaaGreatDoorHPk07
import Derived.Test.YtkjpmngohocmlaaGreatDoorHPk01
import Derived.Test.YtkjpmngohocmlaaGreatDoorHPk05
import Derived.Test.YtkjpmngohocmlaaGreatDoorHPk06
namespace Go.Proofs.YtkjpmngohocmlaaGreatDoor.Mk
open Go.RowKit Go.Shelf Go.Lib

attribute [local go_sem] Oper.semAt_some

theorem belowA {w X : World} (h : Below w.heap.size w X) (o : Obj) : Below w.heap.size w (X.alloc o) := h.alloc h.size o
theorem belowT {w X Y : World} (h : Below w.heap.size w X) (k : Below X.heap.size X Y) : Below w.heap.size w Y := h.trans (k.mono h.size)
theorem lt_alloc (w : World) (o : Obj) : w.heap.size < (w.alloc o).heap.size := by simp
theorem lt_allocD (w : World) (o : Obj) : w.heap.size < (w.drew.alloc o).heap.size := by simp
theorem bcellN {W w1 : World} (hb : Below W.heap.size W w1) : (∀ b o, b < W.heap.size → w1.cell? ⟨b, o, none⟩ = W.cell? ⟨b, o, none⟩) ∧ (∀ b o, b < W.heap.size → w1.frozen? ⟨b, o, none⟩ = W.frozen? ⟨b, o, none⟩) :=
  ⟨fun b o h => hb.cell (p := ⟨b, o, none⟩) h, fun b o h => hb.frozen (p := ⟨b, o, none⟩) h⟩

/-- What is told of a path. -/
def atV (es : List E) (A : ByteArray → Nat) (s : ByteArray) : Value × Bool :=
  if isRoot s = true then (layV A, true) else match lookE es s with
  | some e => (nodeV e.d e.x (A s), true)
  | none => (zeroN, false)
theorem atV_root {es : List E} {A : ByteArray → Nat} {s : ByteArray} (h : isRoot s = true) : atV es A s = (layV A, true) := by unfold atV; rw [if_pos h]
theorem atV_some {es : List E} {A : ByteArray → Nat} {s : ByteArray} {e : E} (T : TrM es) (h : lookE es s = some e) : atV es A s = (nodeV e.d e.x (A s), true) := by
  unfold atV
  rw [if_neg (by rw [path_not_root (look_path T h)]; decide), h]
theorem atV_none {es : List E} {A : ByteArray → Nat} {s : ByteArray} (h : isRoot s = false) (h2 : lookE es s = none) : atV es A s = (zeroN, false) := by
  unfold atV
  rw [if_neg (by rw [h]; decide), h2]
theorem atV_there {es : List E} {A : ByteArray → Nat} {s : ByteArray} (T : TrM es) (h : AtM es s) : ∃ t u, atV es A s = (.agg #[.iface t u, .map (some (A s))], true) := by
  rcases h with rfl | ⟨e, h⟩
  · exact ⟨_, _, atV_root ((isRoot_iff _).2 rfl)⟩
  · obtain ⟨t, u, hs⟩ := sign_is e.d e.x
    exact ⟨t, u, by rw [atV_some T h]; unfold nodeV; rw [hs]⟩
theorem atV_not {es : List E} {A : ByteArray → Nat} {s : ByteArray} (h : ¬ AtM es s) : atV es A s = (zeroN, false) := by
  refine atV_none ?_ ?_
  · cases hr : isRoot s with
    | false => rfl
    | true => exact absurd (.inl ((isRoot_iff _).1 hr)) h
  · cases hl : lookE es s with
    | none => rfl
    | some e => exact absurd (.inr ⟨e, hl⟩) h
theorem name_max {s : ByteArray} (hp : pathB s = true) : (nmS s).size ≤ maxLen := by
  have := (up_facts hp).2.2.1
  unfold nameB at this
  rw [Bool.and_eq_true] at this
  have := (of_decide_eq_true this.1).2
  unfold maxLen; omega
theorem kid_at {es : List E} {A : ByteArray → Nat} {s : ByteArray} (hp : pathB s = true) : kidF es A (upS s) (nmS s) = (lookE es s).map (fun e => nodeV e.d e.x (A s)) := by
  unfold kidF
  rw [if_pos (up_facts hp).2.2.1, up_join hp]

set_option maxHeartbeats 2000000 in
set_option maxRecDepth 100000 in
theorem at_any (base N : Nat) (es : List E) (A : ByteArray → Nat) (T : TrM es) : ∀ (n : Nat) (w : World) (_ : Rep w base N es A) (s : ByteArray) (_ : s.size < n) (_ : s.size ≤ 16777216),
    Calls Tryz.prog 96 #[layV A, .string s] w fun e w' => e = .returned (.tuple #[(atV es A s).1, .bool (atV es A s).2]) ∧ Below w.heap.size w w'
  | 0, _, _, _, hn, _ => by omega
  | n + 1, w, R, s, hn, hs => by
    cases hr : (s.toList == [47]) with
    | true =>
      rw [atV_root hr]
      go_enter Tryz.func96, Tryz.ntmps96
      go_wp2
      exact bodyPost_ret (v := .tuple #[layV A, .bool true]) (by simp [results, Tryz.results96, go_sem]) rfl ⟨rfl, ((Below.refl _ w).alloc (Nat.le_refl _) _).alloc (by simp) _⟩
    | false =>
      have B1 := ((Box2.new w (.iface 150 (.agg #[])) (.map (some (A ⟨#[47]⟩))) 62).on (.cells #[.nilIface, .map none] 60))
      have B2 := Box2.new (w.alloc (.cells #[.iface 150 (.agg #[]), .map (some (A ⟨#[47]⟩))] 62)) .nilIface (.map none) 60
      simp only [World.size_alloc] at B2
      cases hp : pathB s with
      | false =>
        rw [atV_none hr (look_bad T hp)]
        go_enter Tryz.func96, Tryz.ntmps96
        have HO := hid (fun W => hp ▸ pOk_any s hs W)
        go_wp2_with (go_at_call 116; refine (HO.out _).mono ?_; rintro e w1 ⟨rfl, hB1⟩; obtain ⟨c0, c1, f0, f1⟩ := B2.below hB1)
        have hBw : Below w.heap.size w w1 := (((Below.refl _ w).alloc (Nat.le_refl _) _).alloc (by simp) _).trans (hB1.mono (by simp; omega))
        refine atSet2 (C := bodyPost Tryz.prog Tryz.f96 _ _ _) (B2.below hB1) hBw (Nat.le_succ _) ?_
        intro Wf s0 hBf _ _
        exact bodyPost_ret (v := .tuple #[zeroN, .bool false]) (by simp [results, Tryz.results96, go_sem, s0.c0, s0.c1]) rfl ⟨rfl, hBf⟩
      | true =>
        have HO := hid (fun W => hp ▸ pOk_any s hs W)
        have HU := hid (fun W => iPathUp_any s hs W)
        have HN := hid (fun W => iPathName_any s hs W)
        have hlt := up_lt hp
        have HAt := hid (fun (W : World) (hW : Rep W base N es A) => at_any base N es A T n W hW (upS s) (by omega) (by omega))
        have HV0 : Hid (isRoot s = false) := hr
        have HL : Hid (∀ W', Rep W' base N es A → AtM es (upS s) → (Instr.lookup 58 (.map (some (A (upS s)))) (.string (nmS s)) true).run Tryz.prog W' = .ok (.tuple #[((lookE es s).map (fun e => nodeV e.d e.x (A s))).getD zeroN, .bool ((lookE es s).map (fun e => nodeV e.d e.x (A s))).isSome]) W') := fun W' hW hA => by
          have := (hW.kids _ hA).look (name_max hp)
          rwa [kid_at hp] at this
        have HP := hid hp
        go_enter Tryz.func96, Tryz.ntmps96
        go_wp2_with fail
        refine (HO.out _).mono ?_
        rintro e w1 ⟨rfl, hB1⟩
        have B1' := B1.below hB1
        have HB2 := hid (B2.below hB1)
        have hBw : Below w.heap.size w w1 := (((Below.refl _ w).alloc (Nat.le_refl _) _).alloc (by simp) _).trans (hB1.mono (by simp; omega))
        have AS : Hid (∀ W', Below w1.heap.size w1 W' → (W'.cell? ⟨w.heap.size, 0, none⟩ = some (.iface 150 (.agg #[])) ∧ W'.cell? ⟨w.heap.size, 1, none⟩ = some (.map (some (A ⟨#[47]⟩))))) := fun W' hW => ⟨(B1'.below hW).c0, (B1'.below hW).c1⟩
        have AR : Hid (∀ W', Below w1.heap.size w1 W' → Rep W' base N es A) := fun W' hW => (R.below hBw).below hW
        have HRB : Hid (∀ W', Below w1.heap.size w1 W' → Box2 W' (w.heap.size + 1) .nilIface (.map none)) := fun W' hW => HB2.out.below hW
        obtain ⟨c0, c1, f0, f1⟩ := B1'
        clear B1 B2 hB1 hlt hp
        by_cases hA : AtM es (upS s)
        · obtain ⟨t, u, hv⟩ := atV_there (A := A) T hA
          rw [hv] at HAt
          cases hlk : lookE es s with
          | none =>
            have HV : Hid (atV es A s = (zeroN, false)) := atV_none HV0.out hlk
            have AL : Hid (∀ W', Below w1.heap.size w1 W' → (Instr.lookup 58 (.map (some (A (upS s)))) (.string (nmS s)) true).run Tryz.prog W' = .ok (.tuple #[zeroN, .bool false]) W') := fun W' hW => by
              have := HL.out W' (AR.out W' hW) hA
              rwa [hlk] at this
            clear hlk hv hA HL
            go_wp2_with fail
            rename_i Qx Kx hKx
            have HK : Hid (∀ (b : Nat) (W : World), Below w1.heap.size w1 W → Box2 W b (.iface t u) (.map (some (A (upS s)))) → Kx { tmps := #[layV A, .string s, .pointer (some ⟨w.heap.size, 0, none⟩), undef, .pointer (some ⟨w.heap.size + 1, 0, none⟩), .bool false, .pointer (some ⟨b, 0, none⟩), .bool true, undef, undef, .string s, .bool false, undef, undef, .string s, .bool true, .bool false, undef, .tuple #[.agg #[.iface t u, .map (some (A (upS s)))], .bool true], .agg #[.iface 150 (.agg #[]), .map (some (A ⟨#[47]⟩))], .string s, .string (upS s), .tuple #[.agg #[.iface t u, .map (some (A (upS s)))], .bool true], .agg #[.iface t u, .map (some (A (upS s)))], .bool true, undef, undef, undef, undef, undef, undef, undef, undef, undef, undef], defers := [] } W) := by
              intro b W hBW hbx
              refine hKx _ _ ?_
              clear hKx
              have AS2 : Hid (∀ W', Below W.heap.size W W' → (W'.cell? ⟨b, 1, none⟩ = some (.map (some (A (upS s)))))) := fun W' hW => (hbx.below hW).c1
              have AL2 : Hid (∀ W', Below W.heap.size W W' → (Instr.lookup 58 (.map (some (A (upS s)))) (.string (nmS s)) true).run Tryz.prog W' = .ok (.tuple #[.agg #[.nilIface, .map (none)], .bool false]) W') := fun W' hW => AL.out W' (belowT hBW hW)
              have HRes := hid ((HRB.out _ hBW))
              have HBW := hid (belowT hBw hBW)
              obtain ⟨x0, x1, x2, x3⟩ := hbx
              go_wp2_with fail
              rename_i K2 hK2
              have HK2 : Hid (∀ (b2 : Nat) (W2 : World), Below W.heap.size W W2 → Box2 W2 b2 (.nilIface) (.map (none)) → K2 { tmps := #[layV A, .string s, .pointer (some ⟨w.heap.size, 0, none⟩), undef, .pointer (some ⟨w.heap.size + 1, 0, none⟩), .bool false, .pointer (some ⟨b, 0, none⟩), .bool true, .pointer (some ⟨b2, 0, none⟩), .bool false, .string s, .bool false, undef, undef, .string s, .bool true, .bool false, undef, .tuple #[.agg #[.iface t u, .map (some (A (upS s)))], .bool true], .agg #[.iface 150 (.agg #[]), .map (some (A ⟨#[47]⟩))], .string s, .string (upS s), .tuple #[.agg #[.iface t u, .map (some (A (upS s)))], .bool true], .agg #[.iface t u, .map (some (A (upS s)))], .bool true, .tuple #[.agg #[.nilIface, .map (none)], .bool false], .pointer (some ⟨b, 1, none⟩), .map (some (A (upS s))), .string s, .string (nmS s), .tuple #[.agg #[.nilIface, .map (none)], .bool false], .agg #[.nilIface, .map (none)], .bool false, undef, undef], defers := [] } W2) := by
                intro b2 W2 hBW2 hb2
                refine hK2 _ _ ?_
                have hr2 := HRes.out.below hBW2
                have hBr := belowT HBW.out hBW2
                obtain ⟨q0, q1, q2, q3⟩ := hb2
                obtain ⟨r0, r1, r2, r3⟩ := hr2
                go_wp2
                refine atSet2 (C := bodyPost Tryz.prog Tryz.f96 _ _ _) ⟨r0, r1, r2, r3⟩ hBr (Nat.le_succ _) ?_
                intro Wf s0 hBf _ _
                refine bodyPost_ret (v := .tuple #[.agg #[.nilIface, .map (none)], .bool false]) (by simp [results, Tryz.results96, go_sem, s0.c0, s0.c1]) rfl ⟨?_, hBf⟩
                rw [HV.out]
              clear hK2
              go_region_held3 (fun W' => W'.cell? ⟨b, 1, none⟩ = some (.map (some (A (upS s)))))
                ((refine AS2.out _ ?_; repeat (first | exact Below.refl _ _ | apply belowA | refine belowT ?_ hB5 | apply Below.drew | refine set2_below ?_ (by first | exact Nat.le_refl _ | (have h5 := hB5.size; simp at h5 ⊢; omega)) _ _)))
                (first | (go_at_call 104; refine (HN.out _).mono ?_; rintro e w5 ⟨rfl, hB5⟩; have l5 := hB5.size; (try simp at l5); (obtain ⟨bc5, bf5⟩ := bcellN hB5); (try (have z0 := bc5 W.heap.size 0 (lt_allocD _ _); have z1 := bc5 W.heap.size 1 (lt_allocD _ _); have z2 := bf5 W.heap.size 0 (lt_allocD _ _); have z3 := bf5 W.heap.size 1 (lt_allocD _ _); simp at z0 z1 z2 z3)); clear bc5 bf5; have hl5 := AL2.out w5 (by repeat (first | exact Below.refl _ _ | apply belowA | refine belowT ?_ hB5 | apply Below.drew | refine set2_below ?_ (by first | exact Nat.le_refl _ | (have h5 := hB5.size; simp at h5 ⊢; omega)) _ _)); have hl6 := AL2.out (w5.alloc (.cells #[.nilIface, .map none] 60)) (by repeat (first | exact Below.refl _ _ | apply belowA | refine belowT ?_ hB5 | apply Below.drew | refine set2_below ?_ (by first | exact Nat.le_refl _ | (have h5 := hB5.size; simp at h5 ⊢; omega)) _ _))))
              all_goals refine HK2.out _ _ (by repeat (first | exact Below.refl _ _ | apply belowA | refine belowT ?_ hB5 | apply Below.drew | refine set2_below ?_ (by first | exact Nat.le_refl _ | (have h5 := hB5.size; simp at h5 ⊢; omega)) _ _)) ?_
              all_goals first | exact Box2.set ⟨z0, z1, z2, z3⟩ _ _ | exact Box2.set (Box2.new _ _ _ _) _ _ | exact Box2.new _ _ _ _
            clear hKx
            go_region_held3 (fun W' => W'.cell? ⟨w.heap.size, 0, none⟩ = some (.iface 150 (.agg #[])) ∧ W'.cell? ⟨w.heap.size, 1, none⟩ = some (.map (some (A ⟨#[47]⟩))))
              ((refine AS.out _ ?_; repeat (first | exact Below.refl _ _ | apply belowA | refine belowT ?_ hB4 | refine belowT ?_ hB3 | apply Below.drew | refine set2_below ?_ (by first | exact Nat.le_refl _ | (have h3 := hB3.size; have h4 := hB4.size; simp at h3 h4 ⊢; omega)) _ _)))
              (first | (go_at_call 63; refine (HU.out _).mono ?_; rintro e w3 ⟨rfl, hB3⟩; obtain ⟨bc3, bf3⟩ := bcellN hB3; have l3 := hB3.size; (try simp at l3); (try (have z0 := bc3 w1.heap.size 0 (lt_allocD _ _); have z1 := bc3 w1.heap.size 1 (lt_allocD _ _); have z2 := bf3 w1.heap.size 0 (lt_allocD _ _); have z3 := bf3 w1.heap.size 1 (lt_allocD _ _); simp at z0 z1 z2 z3)); clear bc3 bf3) | (go_at_call 96; refine (HAt.out _ (AR.out _ (by repeat (first | exact Below.refl _ _ | apply belowA | refine belowT ?_ hB3 | apply Below.drew)))).mono ?_; rintro e w4 ⟨rfl, hB4⟩; obtain ⟨bc4, bf4⟩ := bcellN hB4; have l4 := hB4.size; (try simp at l4); (try (have z0 := bc4 w3.heap.size 0 (lt_alloc _ _); have z1 := bc4 w3.heap.size 1 (lt_alloc _ _); have z2 := bf4 w3.heap.size 0 (lt_alloc _ _); have z3 := bf4 w3.heap.size 1 (lt_alloc _ _); simp at z0 z1 z2 z3)); (try (have v0 := (bc4 w1.heap.size 0 l3).trans z0; have v1 := (bc4 w1.heap.size 1 l3).trans z1; have v2 := (bf4 w1.heap.size 0 l3).trans z2; have v3 := (bf4 w1.heap.size 1 l3).trans z3)); clear bc4 bf4))
            all_goals refine HK.out _ _ (by repeat (first | exact Below.refl _ _ | apply belowA | refine belowT ?_ hB4 | refine belowT ?_ hB3 | apply Below.drew | refine set2_below ?_ (by first | exact Nat.le_refl _ | (have h3 := hB3.size; have h4 := hB4.size; simp at h3 h4 ⊢; omega)) _ _)) ?_
            all_goals first | exact Box2.set ⟨v0, v1, v2, v3⟩ _ _ | exact Box2.set ⟨z0, z1, z2, z3⟩ _ _ | exact Box2.new _ _ _ _
          | some e =>
            obtain ⟨t2, u2, hs2⟩ := sign_is e.d e.x
            have HV : Hid (atV es A s = (.agg #[.iface t2 u2, .map (some (A s))], true)) := by
              show _ = _
              rw [atV_some T hlk]; unfold nodeV; rw [hs2]
            have AL : Hid (∀ W', Below w1.heap.size w1 W' → (Instr.lookup 58 (.map (some (A (upS s)))) (.string (nmS s)) true).run Tryz.prog W' = .ok (.tuple #[.agg #[.iface t2 u2, .map (some (A s))], .bool true]) W') := fun W' hW => by
              have := HL.out W' (AR.out W' hW) hA
              rw [hlk] at this
              rw [this]
              show _ = Result.ok (Value.tuple #[Value.agg #[.iface t2 u2, .map (some (A s))], .bool true]) W'
              rw [← hs2]; rfl
            clear hlk hv hA HL hs2
            go_wp2_with fail
            rename_i Qx Kx hKx
            have HK : Hid (∀ (b : Nat) (W : World), Below w1.heap.size w1 W → Box2 W b (.iface t u) (.map (some (A (upS s)))) → Kx { tmps := #[layV A, .string s, .pointer (some ⟨w.heap.size, 0, none⟩), undef, .pointer (some ⟨w.heap.size + 1, 0, none⟩), .bool false, .pointer (some ⟨b, 0, none⟩), .bool true, undef, undef, .string s, .bool false, undef, undef, .string s, .bool true, .bool false, undef, .tuple #[.agg #[.iface t u, .map (some (A (upS s)))], .bool true], .agg #[.iface 150 (.agg #[]), .map (some (A ⟨#[47]⟩))], .string s, .string (upS s), .tuple #[.agg #[.iface t u, .map (some (A (upS s)))], .bool true], .agg #[.iface t u, .map (some (A (upS s)))], .bool true, undef, undef, undef, undef, undef, undef, undef, undef, undef, undef], defers := [] } W) := by
              intro b W hBW hbx
              refine hKx _ _ ?_
              clear hKx
              have AS2 : Hid (∀ W', Below W.heap.size W W' → (W'.cell? ⟨b, 1, none⟩ = some (.map (some (A (upS s)))))) := fun W' hW => (hbx.below hW).c1
              have AL2 : Hid (∀ W', Below W.heap.size W W' → (Instr.lookup 58 (.map (some (A (upS s)))) (.string (nmS s)) true).run Tryz.prog W' = .ok (.tuple #[.agg #[.iface t2 u2, .map (some (A s))], .bool true]) W') := fun W' hW => AL.out W' (belowT hBW hW)
              have HRes := hid ((HRB.out _ hBW))
              have HBW := hid (belowT hBw hBW)
              obtain ⟨x0, x1, x2, x3⟩ := hbx
              go_wp2_with fail
              rename_i K2 hK2
              have HK2 : Hid (∀ (b2 : Nat) (W2 : World), Below W.heap.size W W2 → Box2 W2 b2 (.iface t2 u2) (.map (some (A s))) → K2 { tmps := #[layV A, .string s, .pointer (some ⟨w.heap.size, 0, none⟩), undef, .pointer (some ⟨w.heap.size + 1, 0, none⟩), .bool false, .pointer (some ⟨b, 0, none⟩), .bool true, .pointer (some ⟨b2, 0, none⟩), .bool true, .string s, .bool false, undef, undef, .string s, .bool true, .bool false, undef, .tuple #[.agg #[.iface t u, .map (some (A (upS s)))], .bool true], .agg #[.iface 150 (.agg #[]), .map (some (A ⟨#[47]⟩))], .string s, .string (upS s), .tuple #[.agg #[.iface t u, .map (some (A (upS s)))], .bool true], .agg #[.iface t u, .map (some (A (upS s)))], .bool true, .tuple #[.agg #[.iface t2 u2, .map (some (A s))], .bool true], .pointer (some ⟨b, 1, none⟩), .map (some (A (upS s))), .string s, .string (nmS s), .tuple #[.agg #[.iface t2 u2, .map (some (A s))], .bool true], .agg #[.iface t2 u2, .map (some (A s))], .bool true, undef, undef], defers := [] } W2) := by
                intro b2 W2 hBW2 hb2
                refine hK2 _ _ ?_
                have hr2 := HRes.out.below hBW2
                have hBr := belowT HBW.out hBW2
                obtain ⟨q0, q1, q2, q3⟩ := hb2
                obtain ⟨r0, r1, r2, r3⟩ := hr2
                go_wp2
                refine atSet2 (C := bodyPost Tryz.prog Tryz.f96 _ _ _) ⟨r0, r1, r2, r3⟩ hBr (Nat.le_succ _) ?_
                intro Wf s0 hBf _ _
                refine bodyPost_ret (v := .tuple #[.agg #[.iface t2 u2, .map (some (A s))], .bool true]) (by simp [results, Tryz.results96, go_sem, s0.c0, s0.c1]) rfl ⟨?_, hBf⟩
                rw [HV.out]
              clear hK2
              go_region_held3 (fun W' => W'.cell? ⟨b, 1, none⟩ = some (.map (some (A (upS s)))))
                ((refine AS2.out _ ?_; repeat (first | exact Below.refl _ _ | apply belowA | refine belowT ?_ hB5 | apply Below.drew | refine set2_below ?_ (by first | exact Nat.le_refl _ | (have h5 := hB5.size; simp at h5 ⊢; omega)) _ _)))
                (first | (go_at_call 104; refine (HN.out _).mono ?_; rintro e w5 ⟨rfl, hB5⟩; have l5 := hB5.size; (try simp at l5); (obtain ⟨bc5, bf5⟩ := bcellN hB5); (try (have z0 := bc5 W.heap.size 0 (lt_allocD _ _); have z1 := bc5 W.heap.size 1 (lt_allocD _ _); have z2 := bf5 W.heap.size 0 (lt_allocD _ _); have z3 := bf5 W.heap.size 1 (lt_allocD _ _); simp at z0 z1 z2 z3)); clear bc5 bf5; have hl5 := AL2.out w5 (by repeat (first | exact Below.refl _ _ | apply belowA | refine belowT ?_ hB5 | apply Below.drew | refine set2_below ?_ (by first | exact Nat.le_refl _ | (have h5 := hB5.size; simp at h5 ⊢; omega)) _ _)); have hl6 := AL2.out (w5.alloc (.cells #[.nilIface, .map none] 60)) (by repeat (first | exact Below.refl _ _ | apply belowA | refine belowT ?_ hB5 | apply Below.drew | refine set2_below ?_ (by first | exact Nat.le_refl _ | (have h5 := hB5.size; simp at h5 ⊢; omega)) _ _))))
              all_goals refine HK2.out _ _ (by repeat (first | exact Below.refl _ _ | apply belowA | refine belowT ?_ hB5 | apply Below.drew | refine set2_below ?_ (by first | exact Nat.le_refl _ | (have h5 := hB5.size; simp at h5 ⊢; omega)) _ _)) ?_
              all_goals first | exact Box2.set ⟨z0, z1, z2, z3⟩ _ _ | exact Box2.set (Box2.new _ _ _ _) _ _ | exact Box2.new _ _ _ _
            clear hKx
            go_region_held3 (fun W' => W'.cell? ⟨w.heap.size, 0, none⟩ = some (.iface 150 (.agg #[])) ∧ W'.cell? ⟨w.heap.size, 1, none⟩ = some (.map (some (A ⟨#[47]⟩))))
              ((refine AS.out _ ?_; repeat (first | exact Below.refl _ _ | apply belowA | refine belowT ?_ hB4 | refine belowT ?_ hB3 | apply Below.drew | refine set2_below ?_ (by first | exact Nat.le_refl _ | (have h3 := hB3.size; have h4 := hB4.size; simp at h3 h4 ⊢; omega)) _ _)))
              (first | (go_at_call 63; refine (HU.out _).mono ?_; rintro e w3 ⟨rfl, hB3⟩; obtain ⟨bc3, bf3⟩ := bcellN hB3; have l3 := hB3.size; (try simp at l3); (try (have z0 := bc3 w1.heap.size 0 (lt_allocD _ _); have z1 := bc3 w1.heap.size 1 (lt_allocD _ _); have z2 := bf3 w1.heap.size 0 (lt_allocD _ _); have z3 := bf3 w1.heap.size 1 (lt_allocD _ _); simp at z0 z1 z2 z3)); clear bc3 bf3) | (go_at_call 96; refine (HAt.out _ (AR.out _ (by repeat (first | exact Below.refl _ _ | apply belowA | refine belowT ?_ hB3 | apply Below.drew)))).mono ?_; rintro e w4 ⟨rfl, hB4⟩; obtain ⟨bc4, bf4⟩ := bcellN hB4; have l4 := hB4.size; (try simp at l4); (try (have z0 := bc4 w3.heap.size 0 (lt_alloc _ _); have z1 := bc4 w3.heap.size 1 (lt_alloc _ _); have z2 := bf4 w3.heap.size 0 (lt_alloc _ _); have z3 := bf4 w3.heap.size 1 (lt_alloc _ _); simp at z0 z1 z2 z3)); (try (have v0 := (bc4 w1.heap.size 0 l3).trans z0; have v1 := (bc4 w1.heap.size 1 l3).trans z1; have v2 := (bf4 w1.heap.size 0 l3).trans z2; have v3 := (bf4 w1.heap.size 1 l3).trans z3)); clear bc4 bf4))
            all_goals refine HK.out _ _ (by repeat (first | exact Below.refl _ _ | apply belowA | refine belowT ?_ hB4 | refine belowT ?_ hB3 | apply Below.drew | refine set2_below ?_ (by first | exact Nat.le_refl _ | (have h3 := hB3.size; have h4 := hB4.size; simp at h3 h4 ⊢; omega)) _ _)) ?_
            all_goals first | exact Box2.set ⟨v0, v1, v2, v3⟩ _ _ | exact Box2.set ⟨z0, z1, z2, z3⟩ _ _ | exact Box2.new _ _ _ _
        · have hv := atV_not (A := A) hA
          rw [hv] at HAt
          have HV : Hid (atV es A s = (zeroN, false)) := atV_none HV0.out (look_up T (by
            cases hl : lookE es (upS s) with
            | none => rfl
            | some e => exact absurd (.inr ⟨e, hl⟩) hA) (fun q => hA (.inl q)))
          have AL : Hid (∀ W', Below w1.heap.size w1 W' → (Instr.lookup 58 (.map none) (.string (nmS s)) true).run Tryz.prog W' = .ok (.tuple #[zeroN, .bool false]) W') := fun W' _ => look_no W' (name_max HP.out)
          clear hv hA HL
          go_wp2_with fail
          rename_i Qx Kx hKx
          have HK : Hid (∀ (b : Nat) (W : World), Below w1.heap.size w1 W → Box2 W b (.nilIface) (.map (none)) → Kx { tmps := #[layV A, .string s, .pointer (some ⟨w.heap.size, 0, none⟩), undef, .pointer (some ⟨w.heap.size + 1, 0, none⟩), .bool false, .pointer (some ⟨b, 0, none⟩), .bool false, undef, undef, .string s, .bool false, undef, undef, .string s, .bool true, .bool false, undef, .tuple #[.agg #[.nilIface, .map (none)], .bool false], .agg #[.iface 150 (.agg #[]), .map (some (A ⟨#[47]⟩))], .string s, .string (upS s), .tuple #[.agg #[.nilIface, .map (none)], .bool false], .agg #[.nilIface, .map (none)], .bool false, undef, undef, undef, undef, undef, undef, undef, undef, undef, undef], defers := [] } W) := by
            intro b W hBW hbx
            refine hKx _ _ ?_
            clear hKx
            have AS2 : Hid (∀ W', Below W.heap.size W W' → (W'.cell? ⟨b, 1, none⟩ = some (.map (none)))) := fun W' hW => (hbx.below hW).c1
            have AL2 : Hid (∀ W', Below W.heap.size W W' → (Instr.lookup 58 (.map (none)) (.string (nmS s)) true).run Tryz.prog W' = .ok (.tuple #[.agg #[.nilIface, .map (none)], .bool false]) W') := fun W' hW => AL.out W' (belowT hBW hW)
            have HRes := hid ((HRB.out _ hBW))
            have HBW := hid (belowT hBw hBW)
            obtain ⟨x0, x1, x2, x3⟩ := hbx
            go_wp2_with fail
            rename_i K2 hK2
            have HK2 : Hid (∀ (b2 : Nat) (W2 : World), Below W.heap.size W W2 → Box2 W2 b2 (.nilIface) (.map (none)) → K2 { tmps := #[layV A, .string s, .pointer (some ⟨w.heap.size, 0, none⟩), undef, .pointer (some ⟨w.heap.size + 1, 0, none⟩), .bool false, .pointer (some ⟨b, 0, none⟩), .bool false, .pointer (some ⟨b2, 0, none⟩), .bool false, .string s, .bool false, undef, undef, .string s, .bool true, .bool false, undef, .tuple #[.agg #[.nilIface, .map (none)], .bool false], .agg #[.iface 150 (.agg #[]), .map (some (A ⟨#[47]⟩))], .string s, .string (upS s), .tuple #[.agg #[.nilIface, .map (none)], .bool false], .agg #[.nilIface, .map (none)], .bool false, .tuple #[.agg #[.nilIface, .map (none)], .bool false], .pointer (some ⟨b, 1, none⟩), .map (none), .string s, .string (nmS s), .tuple #[.agg #[.nilIface, .map (none)], .bool false], .agg #[.nilIface, .map (none)], .bool false, undef, undef], defers := [] } W2) := by
              intro b2 W2 hBW2 hb2
              refine hK2 _ _ ?_
              have hr2 := HRes.out.below hBW2
              have hBr := belowT HBW.out hBW2
              obtain ⟨q0, q1, q2, q3⟩ := hb2
              obtain ⟨r0, r1, r2, r3⟩ := hr2
              go_wp2
              refine atSet2 (C := bodyPost Tryz.prog Tryz.f96 _ _ _) ⟨r0, r1, r2, r3⟩ hBr (Nat.le_succ _) ?_
              intro Wf s0 hBf _ _
              refine bodyPost_ret (v := .tuple #[.agg #[.nilIface, .map (none)], .bool false]) (by simp [results, Tryz.results96, go_sem, s0.c0, s0.c1]) rfl ⟨?_, hBf⟩
              rw [HV.out]
            clear hK2
            go_region_held3 (fun W' => W'.cell? ⟨b, 1, none⟩ = some (.map (none)))
              ((refine AS2.out _ ?_; repeat (first | exact Below.refl _ _ | apply belowA | refine belowT ?_ hB5 | apply Below.drew | refine set2_below ?_ (by first | exact Nat.le_refl _ | (have h5 := hB5.size; simp at h5 ⊢; omega)) _ _)))
              (first | (go_at_call 104; refine (HN.out _).mono ?_; rintro e w5 ⟨rfl, hB5⟩; have l5 := hB5.size; (try simp at l5); (obtain ⟨bc5, bf5⟩ := bcellN hB5); (try (have z0 := bc5 W.heap.size 0 (lt_allocD _ _); have z1 := bc5 W.heap.size 1 (lt_allocD _ _); have z2 := bf5 W.heap.size 0 (lt_allocD _ _); have z3 := bf5 W.heap.size 1 (lt_allocD _ _); simp at z0 z1 z2 z3)); clear bc5 bf5; have hl5 := AL2.out w5 (by repeat (first | exact Below.refl _ _ | apply belowA | refine belowT ?_ hB5 | apply Below.drew | refine set2_below ?_ (by first | exact Nat.le_refl _ | (have h5 := hB5.size; simp at h5 ⊢; omega)) _ _)); have hl6 := AL2.out (w5.alloc (.cells #[.nilIface, .map none] 60)) (by repeat (first | exact Below.refl _ _ | apply belowA | refine belowT ?_ hB5 | apply Below.drew | refine set2_below ?_ (by first | exact Nat.le_refl _ | (have h5 := hB5.size; simp at h5 ⊢; omega)) _ _))))
            all_goals refine HK2.out _ _ (by repeat (first | exact Below.refl _ _ | apply belowA | refine belowT ?_ hB5 | apply Below.drew | refine set2_below ?_ (by first | exact Nat.le_refl _ | (have h5 := hB5.size; simp at h5 ⊢; omega)) _ _)) ?_
            all_goals first | exact Box2.set ⟨z0, z1, z2, z3⟩ _ _ | exact Box2.set (Box2.new _ _ _ _) _ _ | exact Box2.new _ _ _ _
          clear hKx
          go_region_held3 (fun W' => W'.cell? ⟨w.heap.size, 0, none⟩ = some (.iface 150 (.agg #[])) ∧ W'.cell? ⟨w.heap.size, 1, none⟩ = some (.map (some (A ⟨#[47]⟩))))
            ((refine AS.out _ ?_; repeat (first | exact Below.refl _ _ | apply belowA | refine belowT ?_ hB4 | refine belowT ?_ hB3 | apply Below.drew | refine set2_below ?_ (by first | exact Nat.le_refl _ | (have h3 := hB3.size; have h4 := hB4.size; simp at h3 h4 ⊢; omega)) _ _)))
            (first | (go_at_call 63; refine (HU.out _).mono ?_; rintro e w3 ⟨rfl, hB3⟩; obtain ⟨bc3, bf3⟩ := bcellN hB3; have l3 := hB3.size; (try simp at l3); (try (have z0 := bc3 w1.heap.size 0 (lt_allocD _ _); have z1 := bc3 w1.heap.size 1 (lt_allocD _ _); have z2 := bf3 w1.heap.size 0 (lt_allocD _ _); have z3 := bf3 w1.heap.size 1 (lt_allocD _ _); simp at z0 z1 z2 z3)); clear bc3 bf3) | (go_at_call 96; refine (HAt.out _ (AR.out _ (by repeat (first | exact Below.refl _ _ | apply belowA | refine belowT ?_ hB3 | apply Below.drew)))).mono ?_; rintro e w4 ⟨rfl, hB4⟩; obtain ⟨bc4, bf4⟩ := bcellN hB4; have l4 := hB4.size; (try simp at l4); (try (have z0 := bc4 w3.heap.size 0 (lt_alloc _ _); have z1 := bc4 w3.heap.size 1 (lt_alloc _ _); have z2 := bf4 w3.heap.size 0 (lt_alloc _ _); have z3 := bf4 w3.heap.size 1 (lt_alloc _ _); simp at z0 z1 z2 z3)); (try (have v0 := (bc4 w1.heap.size 0 l3).trans z0; have v1 := (bc4 w1.heap.size 1 l3).trans z1; have v2 := (bf4 w1.heap.size 0 l3).trans z2; have v3 := (bf4 w1.heap.size 1 l3).trans z3)); clear bc4 bf4))
          all_goals refine HK.out _ _ (by repeat (first | exact Below.refl _ _ | apply belowA | refine belowT ?_ hB4 | refine belowT ?_ hB3 | apply Below.drew | refine set2_below ?_ (by first | exact Nat.le_refl _ | (have h3 := hB3.size; have h4 := hB4.size; simp at h3 h4 ⊢; omega)) _ _)) ?_
          all_goals first | exact Box2.set ⟨v0, v1, v2, v3⟩ _ _ | exact Box2.set ⟨z0, z1, z2, z3⟩ _ _ | exact Box2.new _ _ _ _
end Go.Proofs.YtkjpmngohocmlaaGreatDoor.Mk

/-
  The walks of the program's own small functions on signs.
-/
namespace Go.Proofs.YtkjpmngohocmlaaGreatDoor.Mk
open Go.RowKit Go.Shelf Go.Lib

attribute [local go_sem] Oper.semAt_some

theorem newDir_any (w : World) :
    Calls Tryz.prog 78 #[] w fun e w' => (∃ a, e = .returned (.agg #[.bool true, .string ⟨#[]⟩, .map (some a)])) ∧ Below w.heap.size w w' := by
  have hmm := @run_makeMap Tryz.prog
  go_enter Tryz.func78, Tryz.ntmps78
  go_wp2
  refine bodyPost_ret (v := .agg #[.bool true, .string ⟨#[]⟩, .map (some (w.heap.size + 1))]) (by simp [results, Tryz.results78, go_sem]) rfl ⟨⟨_, rfl⟩, ?_⟩
  exact ((Below.refl _ w).alloc (Nat.le_refl _) _).alloc (by simp) _

set_option maxHeartbeats 400000 in
theorem newNode_any (t : TypeId) (u : Value) (w : World) :
    Calls Tryz.prog 102 #[.iface t u] w fun e w' => e = .returned (.agg #[.iface t u, .map (some (w.heap.size + 1))]) ∧ MapIs w' (w.heap.size + 1) 0 (fun _ => none) ∧ Below w.heap.size w w' := by
  have hmm := @run_makeMap Tryz.prog
  go_enter Tryz.func102, Tryz.ntmps102
  go_wp2
  refine bodyPost_ret (v := .agg #[.iface t u, .map (some (w.heap.size + 1))]) (by simp [results, Tryz.results102, go_sem]) rfl ⟨rfl, ?_, ?_⟩
  · have := MapIs.made (w.alloc (.cells #[.iface t u, .map (some (w.heap.size + 1))] 60))
    rwa [World.size_alloc] at this
  · exact ((Below.refl _ w).alloc (Nat.le_refl _) _).alloc (by simp) _

set_option maxHeartbeats 400000 in
theorem newLayer_any (w : World) :
    Calls Tryz.prog 58 #[] w fun e w' => (∃ a, w.heap.size ≤ a ∧ e = .returned (.agg #[.iface 150 (.agg #[]), .map (some a)]) ∧ MapIs w' a 0 (fun _ => none)) ∧ Below w.heap.size w w' := by
  have B := Box2.new w .nilIface (.map none) 62
  go_enter Tryz.func58, Tryz.ntmps58
  go_wp2_with (first | (go_at_call 102; refine (newNode_any _ _ _).mono ?_; rintro e w1 ⟨rfl, hM1, hB1⟩; obtain ⟨c0, c1, c2, c3⟩ := B.below hB1) | fail)
  have hBw := belowT (belowA (Below.refl _ w) _) hB1
  refine atSet2 (C := bodyPost Tryz.prog Tryz.f58 _ _ _) (B.below hB1) hBw (Nat.le_refl _) ?_
  intro Wf s0 hBf hK _
  simp only [World.size_alloc] at hM1
  exact bodyPost_ret (v := .agg #[.iface 150 (.agg #[]), .map (some (w.heap.size + 1 + 1))]) (by simp [results, Tryz.results58, go_sem, s0.c0, s0.c1]) rfl ⟨⟨_, by omega, rfl, hM1.keeps hK⟩, hBf⟩

theorem clone_any (x : ByteArray) (hx : x.size ≤ 16777216) (w : World) :
    Calls Tryz.prog 46 #[.string x] w fun e w' => e = .returned (.string x) ∧ Below w.heap.size w w' := by
  go_enter Tryz.func46, Tryz.ntmps46
  go_wp2_with (first | (go_at_call 94; refine (sClone_any _ _ (by omega)).mono ?_; rintro e w' ⟨rfl, hB⟩) | go_in)
  go_ret
  exact ⟨rfl, hB⟩

theorem newFile_any (x : ByteArray) (hx : x.size ≤ 16777216) (w : World) :
    Calls Tryz.prog 117 #[.string x] w fun e w' => e = .returned (.agg #[.bool false, .string x, .map none]) ∧ Below w.heap.size w w' := by
  have B := Box3.new w (.bool false) (.string ⟨#[]⟩) (.map none) 67
  go_enter Tryz.func117, Tryz.ntmps117
  go_wp2_with (first | (go_at_call 46; refine (clone_any _ hx _).mono ?_; rintro e w1 ⟨rfl, hB1⟩; obtain ⟨k0, k1, k2, f0, f1, f2⟩ := B.below hB1) | fail)
  refine atSet3 (C := bodyPost Tryz.prog Tryz.f117 _ _ _) (B.below hB1) (belowT (belowA (Below.refl _ w) _) hB1) (Nat.le_refl _) ?_
  intro Wf s0 hBf _
  exact bodyPost_ret (v := .agg #[.bool false, .string x, .map none]) (by simp [results, Tryz.results117, go_sem, s0.c0, s0.c1, s0.c2]) rfl ⟨rfl, hBf⟩
set_option maxHeartbeats 400000 in
theorem showsF_any (x : ByteArray) (hx : x.size ≤ 16777216) (w : World) :
    Calls Tryz.prog 204 #[.agg #[.string x]] w fun e w' => e = .returned (.tuple #[.agg #[.bool false, .string x, .map none], .bool true]) ∧ Below w.heap.size w w' := by
  have B := Box3.new (w.alloc (.cells #[.string x] 153)) (.bool false) (.string ⟨#[]⟩) (.map none) 67
  simp only [World.size_alloc] at B
  go_enter Tryz.func204, Tryz.ntmps204
  go_wp2_with (first | (go_at_call 117; refine (newFile_any _ hx _).mono ?_; rintro e w1 ⟨rfl, hB1⟩; obtain ⟨k0, k1, k2, f0, f1, f2⟩ := B.below hB1) | fail)
  refine atSet3 (C := bodyPost Tryz.prog Tryz.f204 _ _ _) (B.below hB1) (belowT (belowA (belowA (Below.refl _ w) _) _) hB1) (Nat.le_succ _) ?_
  intro Wf s0 hBf _
  exact bodyPost_ret (v := .tuple #[.agg #[.bool false, .string x, .map none], .bool true]) (by simp [results, Tryz.results204, go_sem, s0.c0, s0.c1, s0.c2]) rfl ⟨rfl, hBf⟩
set_option maxHeartbeats 400000 in
theorem showsD_any (w : World) :
    Calls Tryz.prog 201 #[.agg #[]] w fun e w' => (∃ a, e = .returned (.tuple #[.agg #[.bool true, .string ⟨#[]⟩, .map (some a)], .bool true])) ∧ Below w.heap.size w w' := by
  have B := Box3.new (w.alloc (.cells #[] 150)) (.bool false) (.string ⟨#[]⟩) (.map none) 67
  simp only [World.size_alloc] at B
  go_enter Tryz.func201, Tryz.ntmps201
  go_wp2_with (first | (go_at_call 78; refine (newDir_any _).mono ?_; rintro e w1 ⟨⟨aa, rfl⟩, hB1⟩; obtain ⟨k0, k1, k2, f0, f1, f2⟩ := B.below hB1) | fail)
  refine atSet3 (C := bodyPost Tryz.prog Tryz.f201 _ _ _) (B.below hB1) (belowT (belowA (belowA (Below.refl _ w) _) _) hB1) (Nat.le_succ _) ?_
  intro Wf s0 hBf _
  exact bodyPost_ret (v := .tuple #[.agg #[.bool true, .string ⟨#[]⟩, .map (some aa)], .bool true]) (by simp [results, Tryz.results201, go_sem, s0.c0, s0.c1, s0.c2]) rfl ⟨⟨_, rfl⟩, hBf⟩
set_option maxHeartbeats 400000 in
theorem showsB_any (w : World) :
    Calls Tryz.prog 198 #[.agg #[]] w fun e w' => (∃ a, e = .returned (.tuple #[.agg #[.bool true, .string ⟨#[]⟩, .map (some a)], .bool true])) ∧ Below w.heap.size w w' := by
  have B := Box3.new (w.alloc (.cells #[] 145)) (.bool false) (.string ⟨#[]⟩) (.map none) 67
  simp only [World.size_alloc] at B
  go_enter Tryz.func198, Tryz.ntmps198
  go_wp2_with (first | (go_at_call 78; refine (newDir_any _).mono ?_; rintro e w1 ⟨⟨aa, rfl⟩, hB1⟩; obtain ⟨k0, k1, k2, f0, f1, f2⟩ := B.below hB1) | fail)
  refine atSet3 (C := bodyPost Tryz.prog Tryz.f198 _ _ _) (B.below hB1) (belowT (belowA (belowA (Below.refl _ w) _) _) hB1) (Nat.le_succ _) ?_
  intro Wf s0 hBf _
  exact bodyPost_ret (v := .tuple #[.agg #[.bool true, .string ⟨#[]⟩, .map (some aa)], .bool true]) (by simp [results, Tryz.results198, go_sem, s0.c0, s0.c1, s0.c2]) rfl ⟨⟨_, rfl⟩, hBf⟩
set_option maxHeartbeats 400000 in
theorem showsG_any (w : World) :
    Calls Tryz.prog 195 #[.agg #[]] w fun e w' => e = .returned (.tuple #[.agg #[.bool false, .string ⟨#[]⟩, .map none], .bool false]) ∧ Below w.heap.size w w' := by
  go_enter Tryz.func195, Tryz.ntmps195
  go_wp2
  exact bodyPost_ret (v := .tuple #[.agg #[.bool false, .string ⟨#[]⟩, .map none], .bool false]) (by simp [results, Tryz.results195, go_sem]) rfl ⟨rfl, belowA (belowA (Below.refl _ w) _) _⟩
theorem hides1_any (x : ByteArray) (w : World) : Calls Tryz.prog 202 #[.agg #[.string x]] w fun e w' => e = .returned (.bool true) ∧ Below w.heap.size w w' := by
  go_enter Tryz.func202, Tryz.ntmps202
  go_wp2
  go_ret
  exact ⟨rfl, belowA (Below.refl _ w) _⟩
theorem hides2_any (w : World) : Calls Tryz.prog 199 #[.agg #[]] w fun e w' => e = .returned (.bool false) ∧ Below w.heap.size w w' := by
  go_enter Tryz.func199, Tryz.ntmps199
  go_wp2
  go_ret
  exact ⟨rfl, belowA (Below.refl _ w) _⟩
theorem hides3_any (w : World) : Calls Tryz.prog 193 #[.agg #[]] w fun e w' => e = .returned (.bool true) ∧ Below w.heap.size w w' := by
  go_enter Tryz.func193, Tryz.ntmps193
  go_wp2
  go_ret
  exact ⟨rfl, belowA (Below.refl _ w) _⟩
theorem hides4_any (w : World) : Calls Tryz.prog 196 #[.agg #[]] w fun e w' => e = .returned (.bool true) ∧ Below w.heap.size w w' := by
  go_enter Tryz.func196, Tryz.ntmps196
  go_wp2
  go_ret
  exact ⟨rfl, belowA (Below.refl _ w) _⟩

set_option maxHeartbeats 1000000 in
theorem showsDir_any (d : Int) (x : ByteArray) (hx : x.size ≤ 16777216) (hd : 1 ≤ d ∧ d ≤ 4) (w : World) :
    Calls Tryz.prog 115 #[signV d x] w fun e w' => e = .returned (.bool (dirK d)) ∧ Below w.heap.size w w' := by
  rcases (by omega : d = 1 ∨ d = 2 ∨ d = 3 ∨ d = 4) with rfl | rfl | rfl | rfl
  · have hm : ∀ W, (method 328 153 (.agg #[.string x]) "loop.example/pargeting/impl.shows").run Tryz.prog W = .ok (204, .agg #[.string x]) W := fun _ => by kernel_rfl
    rw [sign1]
    go_enter Tryz.func115, Tryz.ntmps115
    go_wp2_with (first | (go_at_call 204; refine (showsF_any _ hx _).mono ?_; rintro e w1 ⟨rfl, hB1⟩) | fail)
    go_ret
    exact ⟨rfl, belowA hB1 _⟩
  · have hm : ∀ W, (method 328 150 (.agg #[]) "loop.example/pargeting/impl.shows").run Tryz.prog W = .ok (201, .agg #[]) W := fun _ => by kernel_rfl
    rw [sign2]
    go_enter Tryz.func115, Tryz.ntmps115
    go_wp2_with (first | (go_at_call 201; refine (showsD_any _).mono ?_; rintro e w1 ⟨⟨aa, rfl⟩, hB1⟩) | fail)
    go_ret
    exact ⟨rfl, belowA hB1 _⟩
  · have hm : ∀ W, (method 328 103 (.agg #[]) "loop.example/pargeting/impl.shows").run Tryz.prog W = .ok (195, .agg #[]) W := fun _ => by kernel_rfl
    rw [sign3]
    go_enter Tryz.func115, Tryz.ntmps115
    go_wp2_with (first | (go_at_call 195; refine (showsG_any _).mono ?_; rintro e w1 ⟨rfl, hB1⟩) | fail)
    go_ret
    exact ⟨rfl, belowA hB1 _⟩
  · have hm : ∀ W, (method 328 145 (.agg #[]) "loop.example/pargeting/impl.shows").run Tryz.prog W = .ok (198, .agg #[]) W := fun _ => by kernel_rfl
    rw [sign4]
    go_enter Tryz.func115, Tryz.ntmps115
    go_wp2_with (first | (go_at_call 198; refine (showsB_any _).mono ?_; rintro e w1 ⟨⟨aa, rfl⟩, hB1⟩) | fail)
    go_ret
    exact ⟨rfl, belowA hB1 _⟩

set_option maxHeartbeats 1000000 in
theorem signOfNode1_any (x : ByteArray) (w : World) :
    Calls Tryz.prog 61 #[.agg #[.bool false, .string x, .map none]] w fun e w' => e = .returned (signV 1 x) ∧ Below w.heap.size w w' := by
  rw [sign1]
  go_enter Tryz.func61, Tryz.ntmps61
  go_wp2
  go_ret
  exact ⟨rfl, belowA (Below.refl _ w) _⟩
set_option maxHeartbeats 1000000 in
theorem signOfNode2_any (a : Nat) (x : ByteArray) (w : World) :
    Calls Tryz.prog 61 #[.agg #[.bool true, .string x, .map (some a)]] w fun e w' => e = .returned (signV 2 x) ∧ Below w.heap.size w w' := by
  rw [sign2]
  go_enter Tryz.func61, Tryz.ntmps61
  go_wp2
  go_ret
  exact ⟨rfl, belowA (Below.refl _ w) _⟩
end Go.Proofs.YtkjpmngohocmlaaGreatDoor.Mk

/-
  The walks of the program's own: what is left of a sign below a bare one, and the sign of a mark.
-/
namespace Go.Proofs.YtkjpmngohocmlaaGreatDoor.Mk
open Go.RowKit Go.Shelf Go.Lib

attribute [local go_sem] Oper.semAt_some

theorem belowN {B : Nat} {a w : World} (h : Below B a w) (n : Nat) : Below B a (w.drewN n) := h.trans ⟨rfl, rfl, rfl, Nat.le_refl _, fun _ _ => rfl⟩
/-- What is left of a sign below a bare one. -/
def inB (d : Int) (x : ByteArray) : Value × Bool := if d = 1 then (signV 1 x, true) else if d = 3 then (.nilIface, false) else (.iface 150 (.agg #[]), true)

set_option maxHeartbeats 1000000 in
theorem inBare_any (d : Int) (x : ByteArray) (hx : x.size ≤ 16777216) (hd : 1 ≤ d ∧ d ≤ 4) (w : World) :
    Calls Tryz.prog 100 #[signV d x] w fun e w' => e = .returned (.tuple #[(inB d x).1, .bool (inB d x).2]) ∧ Below w.heap.size w w' := by
  rcases (by omega : d = 1 ∨ d = 2 ∨ d = 3 ∨ d = 4) with rfl | rfl | rfl | rfl
  · have hm : ∀ W, (method 328 153 (.agg #[.string x]) "loop.example/pargeting/impl.shows").run Tryz.prog W = .ok (204, .agg #[.string x]) W := fun _ => by kernel_rfl
    rw [sign1]
    go_enter Tryz.func100, Tryz.ntmps100
    go_wp2_with (first | (go_at_call 204; refine (showsF_any _ hx _).mono ?_; rintro e w1 ⟨rfl, hB1⟩) | (go_at_call 61; refine (signOfNode1_any _ _).mono ?_; rintro e w2 ⟨rfl, hB2⟩) | fail)
    refine bodyPost_ret (v := .tuple #[.iface 153 (.agg #[.string x]), .bool true]) (by simp [results, Tryz.results100, go_sem, sign1]) rfl ⟨rfl, belowT (belowA hB1 _) hB2⟩
  · have hm : ∀ W, (method 328 150 (.agg #[]) "loop.example/pargeting/impl.shows").run Tryz.prog W = .ok (201, .agg #[]) W := fun _ => by kernel_rfl
    rw [sign2]
    go_enter Tryz.func100, Tryz.ntmps100
    go_wp2_with (first | (go_at_call 201; refine (showsD_any _).mono ?_; rintro e w1 ⟨⟨aa, rfl⟩, hB1⟩) | (go_at_call 61; refine (signOfNode2_any _ _ _).mono ?_; rintro e w2 ⟨rfl, hB2⟩) | fail)
    refine bodyPost_ret (v := .tuple #[.iface 150 (.agg #[]), .bool true]) (by simp [results, Tryz.results100, go_sem, sign2]) rfl ⟨rfl, belowT (belowA hB1 _) hB2⟩
  · have hm : ∀ W, (method 328 103 (.agg #[]) "loop.example/pargeting/impl.shows").run Tryz.prog W = .ok (195, .agg #[]) W := fun _ => by kernel_rfl
    rw [sign3]
    go_enter Tryz.func100, Tryz.ntmps100
    go_wp2_with (first | (go_at_call 195; refine (showsG_any _).mono ?_; rintro e w1 ⟨rfl, hB1⟩) | fail)
    refine bodyPost_ret (v := .tuple #[.nilIface, .bool false]) (by simp [results, Tryz.results100, go_sem]) rfl ⟨rfl, belowA hB1 _⟩
  · have hm : ∀ W, (method 328 145 (.agg #[]) "loop.example/pargeting/impl.shows").run Tryz.prog W = .ok (198, .agg #[]) W := fun _ => by kernel_rfl
    rw [sign4]
    go_enter Tryz.func100, Tryz.ntmps100
    go_wp2_with (first | (go_at_call 198; refine (showsB_any _).mono ?_; rintro e w1 ⟨⟨aa, rfl⟩, hB1⟩) | (go_at_call 61; refine (signOfNode2_any _ _ _).mono ?_; rintro e w2 ⟨rfl, hB2⟩) | fail)
    refine bodyPost_ret (v := .tuple #[.iface 150 (.agg #[]), .bool true]) (by simp [results, Tryz.results100, go_sem, sign2]) rfl ⟨rfl, belowT (belowA hB1 _) hB2⟩

/-- The sign of a mark. -/
def signM (d : Int) (x : ByteArray) : Value := if 1 ≤ d ∧ d ≤ 4 then signV d x else .nilIface
theorem signM_in {d : Int} (h : 1 ≤ d ∧ d ≤ 4) (x : ByteArray) : signM d x = signV d x := if_pos h
set_option maxHeartbeats 1000000 in
theorem signOf_any (p : ByteArray) (d : Int) (x : ByteArray) (hx : x.size ≤ 16777216) (w : World) :
    Calls Tryz.prog 76 #[.agg #[.string p, .int .i64 d, .string x]] w fun e w' => e = .returned (.tuple #[signM d x, .bool (signB d x)]) ∧ Below w.heap.size w w' := by
  have B := Box3.new w (.string p) (.int .i64 d) (.string x) 36
  by_cases h1 : d = 1
  · subst h1
    have e1 : signB 1 x = dataB x := rfl
    rw [e1, signM_in (by omega), sign1]
    go_enter Tryz.func76, Tryz.ntmps76
    have AS : Hid (∀ W', Below (w.alloc (.cells #[.string p, .int .i64 1, .string x] 36)).heap.size (w.alloc (.cells #[.string p, .int .i64 1, .string x] 36)) W' → W'.cell? ⟨w.heap.size, 2, none⟩ = some (.string x)) := fun W' hW => (B.below hW).c2
    go_wp2
    go_region_held3 (fun W' => W'.cell? ⟨w.heap.size, 2, none⟩ = some (.string x))
      ((refine AS.out _ ?_; repeat (first | exact Below.refl _ _ | refine belowT ?_ hB2 | refine belowT ?_ hB1 | apply Below.drew)))
      (first | (go_at_call 46; refine (clone_any _ hx _).mono ?_; rintro e w1 ⟨rfl, hB1⟩) | (go_at_call 114; refine (dataOk_any _ _).mono ?_; rintro e w2 ⟨rfl, hB2⟩))
    all_goals go_wp2
    all_goals exact bodyPost_ret (v := .tuple #[.iface 153 (.agg #[.string x]), .bool (dataB x)]) (by simp [results, Tryz.results76, go_sem]) rfl ⟨rfl, belowT (belowT (belowA (Below.refl _ w) _).drew hB1) hB2⟩
  · have h1' : (d == 1) = false := by simpa using h1
    have e0 : signB d x = (((d == 2) || ((d == 3) || (d == 4))) && (x.toList == [])) := by unfold signB; rw [if_neg h1]
    rw [e0]
    by_cases h2 : d = 2
    · subst h2
      rw [signM_in (by omega), sign2]
      go_enter Tryz.func76, Tryz.ntmps76
      go_wp2
      go_quiet (fail)
      go_wp2
      refine bodyPost_ret (v := .tuple #[.iface 150 (.agg #[]), .bool (x.toList == [])]) (by simp [results, Tryz.results76, go_sem]) rfl ⟨by simp, belowN (belowA (Below.refl _ w) _) _⟩
    · have h2' : (d == 2) = false := by simpa using h2
      by_cases h3 : d = 3
      · subst h3
        rw [signM_in (by omega), sign3]
        go_enter Tryz.func76, Tryz.ntmps76
        go_wp2
        go_quiet (fail)
        go_wp2
        refine bodyPost_ret (v := .tuple #[.iface 103 (.agg #[]), .bool (x.toList == [])]) (by simp [results, Tryz.results76, go_sem]) rfl ⟨by simp, belowN (belowA (Below.refl _ w) _) _⟩
      · have h3' : (d == 3) = false := by simpa using h3
        by_cases h4 : d = 4
        · subst h4
          rw [signM_in (by omega), sign4]
          go_enter Tryz.func76, Tryz.ntmps76
          go_wp2
          go_quiet (fail)
          go_wp2
          refine bodyPost_ret (v := .tuple #[.iface 145 (.agg #[]), .bool (x.toList == [])]) (by simp [results, Tryz.results76, go_sem]) rfl ⟨by simp, belowN (belowA (Below.refl _ w) _) _⟩
        · have h4' : (d == 4) = false := by simpa using h4
          have e1 : signM d x = .nilIface := if_neg (by omega)
          rw [e1, h2', h3', h4']
          go_enter Tryz.func76, Tryz.ntmps76
          go_wp2
          refine bodyPost_ret (v := .tuple #[.nilIface, .bool false]) (by simp [results, Tryz.results76, go_sem]) rfl ⟨rfl, belowA (Below.refl _ w) _⟩
end Go.Proofs.YtkjpmngohocmlaaGreatDoor.Mk

/-
  The walk of the program's own: a path and all that it is below, yielded.
-/
namespace Go.Proofs.YtkjpmngohocmlaaGreatDoor.Mk
open Go.RowKit Go.Shelf Go.Lib

attribute [local go_sem] Oper.semAt_some

theorem abides_below {β : Type} {B : Nat} {J : β → World → Prop} (hJ : AbidesFrom B J) {s : β} {W W' : World} (h : J s W) (hb : Below W.heap.size W W') : J s W' :=
  hJ s W W' none h ⟨hb.os, hb.tape, hb.output, hb.size, fun k hk _ => hb.block k hk⟩ (fun r e => by cases e)
abbrev ItemU (s : ByteArray) : Type := { x : ByteArray // x ∈ ups s }
abbrev encsU {s : ByteArray} (x : ItemU s) : Array Value := #[.string x.1]
def KpU (_ _ : World) : Prop := True
theorem inUps {s a : ByteArray} {pre : List ByteArray} (hp : pathB a = true) (h : pre ++ ups a = ups s) : a ∈ ups s := by
  rw [← h, ups_yes hp]; simp

set_option maxHeartbeats 1000000 in
set_option maxRecDepth 100000 in
theorem ups_stops (n : Nat) (hn : 1 ≤ n) (Bn : Nat) (s : ByteArray) (hs : s.size ≤ 16777216) (w : World) (hBn : Bn < w.heap.size) (hb : w.cell? ⟨Bn, 0, none⟩ = some (.string s)) :
    SeqStopsK Fence.wide n Tryz.prog 134 #[.pointer (some ⟨Bn, 0, none⟩)] (encsU (s := s)) KpU (fun xs => xs.map Subtype.val = ups s) (fun pre => pre.map Subtype.val <+: ups s) (ups s).length w := fun l J Jx W hW hJ hJx hY h0 => by
  have hbW : W.cell? ⟨Bn, 0, none⟩ = some (.string s) := (hW.cell (p := ⟨Bn, 0, none⟩) hBn).trans hb
  clear hb hW
  refine callsIn_of_wp Tryz.func134 rfl trivial ?_ rfl
  simp only [Tryz.ntmps134, List.size_toArray, List.length_cons, List.length_nil, Nat.reduceAdd, Nat.reduceSub, Array.replicate_succ, Array.replicate_zero, List.push_toArray, List.append_toArray, List.nil_append, List.cons_append]
  have HY := hid hY
  have HJ := hid hJ
  clear hY hJ hJx
  gi_wp2
  gi_loopg [3] (ups s).length (fun gf st wx => ∃ (a : ByteArray) (pre : List (ItemU s)), st = .string a ∧ a.size ≤ 16777216 ∧ J pre wx ∧ (ups a).length ≤ gf ∧ Hid (pre.map Subtype.val ++ ups a = ups s))
  case atStart => exact ⟨s, [], rfl, hs, h0, Nat.le_refl _, rfl⟩
  case round =>
    obtain ⟨a, pre, rfl, ha, hJs, hfu, HI⟩ := hrel
    have HO := hid (fun W => pOk_any a ha W)
    cases hp : pathB a with
    | false =>
      rw [hp] at HO
      have HE : Hid (pre.map Subtype.val = ups s) := by
        show _ = _
        have := HI.out
        rwa [ups_no hp, List.append_nil] at this
      gi_wp2_with (refine ⟨trivial, ?_⟩; gi_at_call 116; refine (callsIn_wide.2 (HO.out _)).mono ?_; rintro e w1 ⟨rfl, hB1⟩)
      refine ⟨fun _ h => (by cases h), ?_⟩
      gi_wp2
      go_end0
      exact ⟨⟨_, rfl⟩, .inl ⟨pre, HE.out, abides_below HJ.out hJs hB1⟩⟩
    | true =>
      rw [hp] at HO
      have HP := hid hp
      have hup := up_lt hp
      have HU := hid (fun W => iPathUp_any a ha W)
      have hin := inUps hp HI.out
      have hlen : pre.length < (ups s).length := by
        have := congrArg List.length HI.out
        rw [List.length_append, List.length_map, ups_yes hp] at this
        simp at this
        omega
      have HI3 : Hid ((pre ++ [(⟨a, hin⟩ : ItemU s)]).map Subtype.val ++ ups (upS a) = ups s) := by
        show _ = _
        refine Eq.trans ?_ HI.out
        rw [ups_yes hp]; simp
      have hfu2 : (ups (upS a)).length + 1 ≤ gk := by
        have := hfu
        rw [ups_yes hp] at this
        simpa using this
      obtain ⟨g', rfl⟩ : ∃ g', gk = g' + 1 := ⟨gk - 1, by omega⟩
      clear HI hp hfu
      gi_wp2_with (refine ⟨trivial, ?_⟩; gi_at_call 116; refine (callsIn_wide.2 (HO.out _)).mono ?_; rintro e w1 ⟨rfl, hB1⟩; obtain ⟨fn, tmps, assign, body, hy, hR⟩ := HY.out pre ⟨a, hin⟩ w1 (abides_below HJ.out hJs hB1) hlen; dsimp only [encsU] at hy)
      refine hR.mono ?_
      rintro e W3 (⟨rfl, hJ3, -⟩ | ⟨rfl, hJx3⟩)
      · gi_wp2_with (refine ⟨trivial, ?_⟩; gi_at_call 63; refine (callsIn_wide.2 (HU.out _)).mono ?_; rintro e w4 ⟨rfl, hB4⟩)
        gi_roundg g'
        case measure => omega
        case rel => exact ⟨upS a, _, rfl, by omega, abides_below HJ.out hJ3 hB4, by omega, HI3⟩
      · gi_wp2
        go_end0
        exact ⟨⟨_, rfl⟩, .inr ⟨_, ⟨_, HI3.out⟩, hJx3⟩⟩
theorem upward_any (s : ByteArray) (w : World) :
    Calls Tryz.prog 95 #[.string s] w fun e w' => e = .returned (.func (.func 134) #[] #[.pointer (some ⟨w.heap.size, 0, none⟩)]) ∧ w' = w.alloc (.cells #[.string s] 9) := by
  go_enter Tryz.func95, Tryz.ntmps95
  go_wp2
  go_ret
  exact ⟨rfl, rfl⟩
end Go.Proofs.YtkjpmngohocmlaaGreatDoor.Mk

/-
  What the rounds over what is above a path keep.
-/
namespace Go.Proofs.YtkjpmngohocmlaaGreatDoor.Mk
open Go.RowKit Go.Shelf Go.Lib

theorem ups_small {s x : ByteArray} (h : x ∈ ups s) : pathB x = true ∧ x.size ≤ s.size := by
  obtain ⟨_, h2, h3⟩ := (mem_ups _ s x (Nat.le_refl _)).1 h
  refine ⟨h2, ?_⟩
  rcases h3 with rfl | h3
  · exact Nat.le_refl _
  · have := ((underI_iff _ _).1 h3).2.2.1
    rw [stem_path h2] at this; omega
theorem keeps_of_below {W W' : World} (h : Below W.heap.size W W') : KeepsOthers W W' := ⟨h.size, fun k _ hk _ => (h.block k (Array.getElem?_eq_some_iff.1 hk).1).trans hk⟩
theorem Box2.kept {W W' : World} {row : Option Nat} {b : Nat} {u v : Value} (h : Box2 W b u v) (hg : W.grownBy W' row) (hr : ∀ r, row = some r → ∃ o : Obj, W.heap[r]? = some o ∧ o.isCells = false) : Box2 W' b u v :=
  ⟨cell_kept h.c0 hg hr, cell_kept h.c1 hg hr, (frozen_kept h.c0 hg hr).trans h.f0, (frozen_kept h.c1 hg hr).trans h.f1⟩
/-- What a round finds: the answer's box with what it holds, and the layer's box. -/
structure RSt (b : Nat) (A : ByteArray → Nat) (v : Bool) (W : World) : Prop where
  r : W.cell? ⟨b + 1, 0, none⟩ = some (.bool v)
  rf : W.frozen? ⟨b + 1, 0, none⟩ = false
  bx : Box2 W b (.iface 150 (.agg #[])) (.map (some (A ⟨#[47]⟩)))
theorem RSt.below {b : Nat} {A : ByteArray → Nat} {v : Bool} {W W' : World} (h : RSt b A v W) (hB : Below W.heap.size W W') : RSt b A v W' :=
  ⟨(hB.cell (p := ⟨b + 1, 0, none⟩) (World.block_lt_of_cell? W ⟨b + 1, 0, none⟩ h.r)).trans h.r, (hB.frozen (p := ⟨b + 1, 0, none⟩) (World.block_lt_of_cell? W ⟨b + 1, 0, none⟩ h.r)).trans h.rf, h.bx.below hB⟩
theorem RSt.kept {b : Nat} {A : ByteArray → Nat} {v : Bool} {W W' : World} {row : Option Nat} (h : RSt b A v W) (hg : W.grownBy W' row) (hr : ∀ r, row = some r → ∃ o : Obj, W.heap[r]? = some o ∧ o.isCells = false) : RSt b A v W' :=
  ⟨cell_kept h.r hg hr, (frozen_kept h.r hg hr).trans h.rf, h.bx.kept hg hr⟩
theorem RSt.set {b : Nat} {A : ByteArray → Nat} {v : Bool} {W : World} (h : RSt b A v W) (u : Bool) : RSt b A u (W.setCell ⟨b + 1, 0, none⟩ (.bool u)) :=
  ⟨World.cell?_setCell_same' _ _ _ (by rw [h.r]; rfl), by rw [World.frozen?_setCell]; exact h.rf, ⟨(cell_other _ _ _ _ _ (by simp)).trans h.bx.c0, (cell_other _ _ _ _ _ (by simp)).trans h.bx.c1, by rw [World.frozen?_setCell]; exact h.bx.f0, by rw [World.frozen?_setCell]; exact h.bx.f1⟩⟩
theorem any_snoc {α : Type} (f : α → Bool) (xs : List α) (x : α) : (xs ++ [x]).any f = (xs.any f || f x) := by simp
theorem any_pre {α : Type} {f : α → Bool} {xs ys : List α} (h : xs <+: ys) (k : xs.any f = true) : ys.any f = true := by
  obtain ⟨r, rfl⟩ := h
  rw [List.any_append, k]; rfl
end Go.Proofs.YtkjpmngohocmlaaGreatDoor.Mk

/-
  The walk of the program's own: whether a layer hides what is beneath at a path.
-/
namespace Go.Proofs.YtkjpmngohocmlaaGreatDoor.Mk
open Go.RowKit Go.Shelf Go.Lib

attribute [local go_sem] Oper.semAt_some

set_option maxHeartbeats 4000000 in
set_option maxRecDepth 100000 in
theorem hides_any (base N : Nat) (es : List E) (A : ByteArray → Nat) (T : TrM es) (w : World) (R : Rep w base N es A) (s : ByteArray) (hs : s.size ≤ 16777216) :
    Calls Tryz.prog 47 #[layV A, .string s] w fun e w' => e = .returned (.bool ((ups s).any (tellM es (fun d => d != 2)))) ∧ Below w.heap.size w w' := by
  refine (callsIn_wide (n := 3)).1 ?_
  refine callsIn_of_wp_marks Tryz.func47 rfl trivial ?_ rfl
  simp only [Tryz.ntmps47, List.size_toArray, List.length_cons, List.length_nil, Nat.reduceAdd, Nat.reduceSub, Array.replicate_succ, Array.replicate_zero, List.push_toArray, List.append_toArray, List.nil_append, List.cons_append]
  gi_wp2_with (refine ⟨trivial, ?_⟩; gi_at_call 95; refine (callsIn_wide.2 (upward_any _ _)).mono ?_; rintro e w1 ⟨rfl, rfl⟩)
  obtain ⟨bn, hbnE⟩ : ∃ bn, bn = w.heap.size + 1 + 1 := ⟨_, rfl⟩
  obtain ⟨W0, hW0⟩ : ∃ W0, W0 = ((w.alloc (.cells #[.iface 150 (.agg #[]), .map (some (A ⟨#[47]⟩))] 62)).alloc (.cells #[.bool false] 4)).alloc (.cells #[.string s] 9) := ⟨_, rfl⟩
  have hB0 : Below w.heap.size w W0 := by rw [hW0]; exact belowA (belowA (belowA (Below.refl _ w) _) _) _
  have cN := cellNew (w.alloc (.cells #[.iface 150 (.agg #[]), .map (some (A ⟨#[47]⟩))] 62)) (.bool false) 4
  have fN := frozenNew (w.alloc (.cells #[.iface 150 (.agg #[]), .map (some (A ⟨#[47]⟩))] 62)) (.bool false) 4
  have cS := cellNew ((w.alloc (.cells #[.iface 150 (.agg #[]), .map (some (A ⟨#[47]⟩))] 62)).alloc (.cells #[.bool false] 4)) (.string s) 9
  simp only [World.size_alloc] at cN fN cS
  have hR0 : RSt w.heap.size A false W0 := by rw [hW0]; exact ⟨cellOn _ cN, frozenOn _ cN fN, ((Box2.new w _ _ _).on _).on _⟩
  have cb : W0.cell? ⟨bn, 0, none⟩ = some (.string s) := by rw [hW0, hbnE]; exact cS
  have hbn : bn < W0.heap.size := by rw [hW0, hbnE]; simp
  have hle : w.heap.size ≤ W0.heap.size := hB0.size
  rw [← hW0, ← hbnE]
  clear hW0 hbnE cN fN cS
  refine wpIn_rangeFunc_ownF rfl (by omega) (gf := 134) (lb := #[.pointer (some ⟨bn, 0, none⟩)]) rfl trivial (enters_of Tryz.func134 (by kernel_rfl) rfl)
    (ups_stops _ (by omega) bn s hs _ hbn cb) (fun _ _ => trivial) (fun _ _ _ _ _ _ _ _ => trivial) (Below.refl _ _) (fun _ => rfl)
    (fun pre W => (RSt w.heap.size A false W ∧ Hid ((pre.map Subtype.val).any (tellM es (fun d => d != 2)) = false)) ∧ Below w.heap.size w W)
    (fun c pre W => (c = .ret ∧ RSt w.heap.size A true W ∧ Hid ((pre.map Subtype.val).any (tellM es (fun d => d != 2)) = true)) ∧ Below w.heap.size w W)
    (OwnFrom.and (Own.from (fun s A B row hs hg hr => ⟨hs.1.kept hg hr, hs.2⟩) _) (ownFrom_below (Nat.le_refl _) hle))
    (fun c => OwnFrom.and (Own.from (fun s A B row hs hg hr => ⟨hs.1, hs.2.1.kept hg hr, hs.2.2⟩) _) (ownFrom_below (Nat.le_refl _) hle))
    ⟨⟨hR0, rfl⟩, hB0⟩
    (fun x => { tmps := #[layV A, .string s, .pointer (some ⟨w.heap.size, 0, none⟩), undef, .pointer (some ⟨w.heap.size + 1, 0, none⟩), .string x.1, undef, undef, .string s, .func (.func 134) #[] #[.pointer (some ⟨bn, 0, none⟩)], .string x.1, undef, undef, undef, undef, undef, undef, undef, undef, undef, undef, undef, undef], defers := [] }) ?assign ?body ?done ?stop
  case assign =>
    intro l x W K hK
    gi_wp2
    exact hK
  case body =>
    rintro l pre x W ⟨⟨hSt, HA⟩, hB⟩ _
    obtain ⟨hpx, hsx⟩ := ups_small x.2
    have hxz : x.1.size ≤ 16777216 := by omega
    have HAt := hid (at_any base N es A T (x.1.size + 1) W (R.below hB) x.1 (Nat.lt_succ_self _) hxz)
    have HSt := hid hSt
    have HB := hid hB
    have sn : Hid (∀ b, tellM es (fun d => d != 2) x.1 = b → ((pre ++ [x]).map Subtype.val).any (tellM es (fun d => d != 2)) = b) := fun b hb => by
      rw [List.map_append, List.map_singleton, any_snoc, HA.out, hb, Bool.false_or]
    obtain ⟨sr, srf, ⟨c0, c1, f0, f1⟩⟩ := hSt
    cases hlk : lookE es x.1 with
    | none =>
      have HX := hid (sn.out false (by unfold tellM; rw [hlk]))
      rw [atV_none (path_not_root hpx) hlk] at HAt
      clear hlk hpx
      gi_wp2_with (refine ⟨trivial, ?_⟩; gi_at_call 96; refine (callsIn_wide.2 HAt.out).mono ?_; rintro e w2 ⟨rfl, hB2⟩)
      all_goals refine ⟨fun _ _ => trivial, ?_⟩
      all_goals gi_wp2
      all_goals exact ⟨keeps_of_below (belowA hB2 _), trivial, ⟨HSt.out.below (belowA hB2 _), HX⟩, belowT HB.out (belowA hB2 _)⟩
    | some e =>
      have hk := T.kind e (look_mem hlk).1
      have ht : tellM es (fun d => d != 2) x.1 = (fun d : Int => d != 2) e.d := by unfold tellM; rw [hlk]
      rw [atV_some T hlk] at HAt
      unfold nodeV at HAt
      obtain ⟨d, hd⟩ : ∃ d, e.d = d := ⟨_, rfl⟩
      rw [hd] at HAt hk ht
      obtain ⟨xx, hxx⟩ : ∃ xx, e.x = xx := ⟨_, rfl⟩
      rw [hxx] at HAt
      clear hlk hpx hd hxx
      rcases (by omega : d = 1 ∨ d = 2 ∨ d = 3 ∨ d = 4) with rfl | rfl | rfl | rfl
      · have HX := hid (sn.out true (ht.trans rfl))
        have hm : ∀ W, (method 328 153 (.agg #[.string xx]) "loop.example/pargeting/impl.hides").run Tryz.prog W = .ok (202, .agg #[.string xx]) W := fun _ => by kernel_rfl
        rw [sign1] at HAt
        gi_wp2_with (first | (refine ⟨trivial, ?_⟩; gi_at_call 96; refine (callsIn_wide.2 HAt.out).mono ?_; rintro e w2 ⟨rfl, hB2⟩) | (refine ⟨trivial, ?_⟩; gi_at_call 202; refine (callsIn_wide.2 (hides1_any _ _)).mono ?_; rintro e w3 ⟨rfl, hB3⟩; obtain ⟨kr, krf, -⟩ := (HSt.out.below (belowA hB2 _)).below hB3))
        exact ⟨(keeps_of_below (belowT (belowA hB2 _) hB3)).trans (KeepsOthers.setCell _ _ _), ⟨rfl, ((HSt.out.below (belowA hB2 _)).below hB3).set true, HX⟩, (belowT (belowT HB.out (belowA hB2 _)) hB3).setCell (p := ⟨w.heap.size + 1, 0, none⟩) (by simp) _⟩
      · have HX := hid (sn.out false (ht.trans rfl))
        have hm : ∀ W, (method 328 150 (.agg #[]) "loop.example/pargeting/impl.hides").run Tryz.prog W = .ok (199, .agg #[]) W := fun _ => by kernel_rfl
        rw [sign2] at HAt
        gi_wp2_with (first | (refine ⟨trivial, ?_⟩; gi_at_call 96; refine (callsIn_wide.2 HAt.out).mono ?_; rintro e w2 ⟨rfl, hB2⟩) | (refine ⟨trivial, ?_⟩; gi_at_call 199; refine (callsIn_wide.2 (hides2_any _)).mono ?_; rintro e w3 ⟨rfl, hB3⟩; obtain ⟨kr, krf, -⟩ := (HSt.out.below (belowA hB2 _)).below hB3))
        exact ⟨keeps_of_below (belowT (belowA hB2 _) hB3), trivial, ⟨(HSt.out.below (belowA hB2 _)).below hB3, HX⟩, belowT (belowT HB.out (belowA hB2 _)) hB3⟩
      · have HX := hid (sn.out true (ht.trans rfl))
        have hm : ∀ W, (method 328 103 (.agg #[]) "loop.example/pargeting/impl.hides").run Tryz.prog W = .ok (193, .agg #[]) W := fun _ => by kernel_rfl
        rw [sign3] at HAt
        gi_wp2_with (first | (refine ⟨trivial, ?_⟩; gi_at_call 96; refine (callsIn_wide.2 HAt.out).mono ?_; rintro e w2 ⟨rfl, hB2⟩) | (refine ⟨trivial, ?_⟩; gi_at_call 193; refine (callsIn_wide.2 (hides3_any _)).mono ?_; rintro e w3 ⟨rfl, hB3⟩; obtain ⟨kr, krf, -⟩ := (HSt.out.below (belowA hB2 _)).below hB3))
        exact ⟨(keeps_of_below (belowT (belowA hB2 _) hB3)).trans (KeepsOthers.setCell _ _ _), ⟨rfl, ((HSt.out.below (belowA hB2 _)).below hB3).set true, HX⟩, (belowT (belowT HB.out (belowA hB2 _)) hB3).setCell (p := ⟨w.heap.size + 1, 0, none⟩) (by simp) _⟩
      · have HX := hid (sn.out true (ht.trans rfl))
        have hm : ∀ W, (method 328 145 (.agg #[]) "loop.example/pargeting/impl.hides").run Tryz.prog W = .ok (196, .agg #[]) W := fun _ => by kernel_rfl
        rw [sign4] at HAt
        gi_wp2_with (first | (refine ⟨trivial, ?_⟩; gi_at_call 96; refine (callsIn_wide.2 HAt.out).mono ?_; rintro e w2 ⟨rfl, hB2⟩) | (refine ⟨trivial, ?_⟩; gi_at_call 196; refine (callsIn_wide.2 (hides4_any _)).mono ?_; rintro e w3 ⟨rfl, hB3⟩; obtain ⟨kr, krf, -⟩ := (HSt.out.below (belowA hB2 _)).below hB3))
        exact ⟨(keeps_of_below (belowT (belowA hB2 _) hB3)).trans (KeepsOthers.setCell _ _ _), ⟨rfl, ((HSt.out.below (belowA hB2 _)).below hB3).set true, HX⟩, (belowT (belowT HB.out (belowA hB2 _)) hB3).setCell (p := ⟨w.heap.size + 1, 0, none⟩) (by simp) _⟩
  case done =>
    rintro D ys W hD hys ⟨⟨hSt, HA⟩, hB⟩ hK
    have he : (ups s).any (tellM es (fun d => d != 2)) = false := by rw [← hys]; exact HA.out
    have hS2 := hSt.set false
    have hB2 := hB.setCell (p := ⟨w.heap.size + 1, 0, none⟩) (by simp) (.bool false)
    obtain ⟨sr, srf, -⟩ := hSt
    gi_wp2
    have hK' := (KeepsOthers.setCell W ⟨w.heap.size + 1, 0, none⟩ (.bool false)).same D _ hK rfl
    refine ⟨by simp, .inl ⟨_, _, rfl, run_takeDeferred hK', ?_⟩⟩
    have r0 := cell_kept hS2.r (grownBy_putObj' _ D (.deferred none)) (fun r e => by cases e; exact ⟨_, hK', rfl⟩)
    refine ⟨.bool false, ?_, by rw [he], hB2.trans (belowK_b (w := w) (Nat.le_refl _) _ D _ _ (by have := hB0.size; omega) hK' rfl rfl)⟩
    simp [results, Tryz.f47, go_sem, r0]
  case stop =>
    rintro D c pre W hD hpre ⟨⟨rfl, hSt, HA⟩, hB⟩ hK
    have he : (ups s).any (tellM es (fun d => d != 2)) = true := any_pre hpre HA.out
    gi_wp2
    refine ⟨by simp, .inl ⟨_, _, rfl, run_takeDeferred hK, ?_⟩⟩
    have r0 := cell_kept hSt.r (grownBy_putObj' _ D (.deferred none)) (fun r e => by cases e; exact ⟨_, hK, rfl⟩)
    refine ⟨.bool true, ?_, by rw [he], hB.trans (belowK_b (w := w) (Nat.le_refl _) _ D _ _ (by have := hB0.size; omega) hK rfl rfl)⟩
    simp [results, Tryz.f47, go_sem, r0]
end Go.Proofs.YtkjpmngohocmlaaGreatDoor.Mk

/-
  The walk of the program's own: whether what is beneath at a path is of no matter.
-/
namespace Go.Proofs.YtkjpmngohocmlaaGreatDoor.Mk
open Go.RowKit Go.Shelf Go.Lib

theorem cov_is {es : List E} (T : TrM es) (A : ByteArray → Nat) {s : ByteArray} (hs : pathB s = true) : ((atV es A s).2 || (ups s).any (tellM es (fun d => d != 2))) = Ly.covM es s := by
  unfold Ly.covM
  rw [hides_is T, hs, Bool.true_and]
  cases h : lookE es s with
  | none => rw [atV_none (path_not_root hs) h]; rfl
  | some e => rw [atV_some T h]; rfl

set_option maxHeartbeats 1000000 in
set_option maxRecDepth 100000 in
theorem covers_any (base N : Nat) (es : List E) (A : ByteArray → Nat) (T : TrM es) (w : World) (R : Rep w base N es A) (s : ByteArray) (hs : pathB s = true) (hz : s.size ≤ 16777216) :
    Calls Tryz.prog 82 #[layV A, .string s] w fun e w' => e = .returned (.bool (Ly.covM es s)) ∧ Below w.heap.size w w' := by
  have HI := hid (cov_is T A hs)
  have HA := hid (fun (W : World) (hW : Below w.heap.size w W) => at_any base N es A T (s.size + 1) W (R.below hW) s (Nat.lt_succ_self _) hz)
  have HH := hid (fun (W : World) (hW : Below w.heap.size w W) => hides_any base N es A T W (R.below hW) s hz)
  go_enter Tryz.func82, Tryz.ntmps82
  go_wp2_with fail
  refine (HA.out _ ((Below.refl _ w).alloc (Nat.le_refl _) _)).mono ?_
  rintro e w1 ⟨rfl, hB1⟩
  have c0 := (hB1.cell (p := ⟨w.heap.size, 0, none⟩) (by simp))|>.trans (by simp : _ = some (.iface 150 (.agg #[])))
  have c1 := (hB1.cell (p := ⟨w.heap.size, 1, none⟩) (by simp))|>.trans (by simp : _ = some (.map (some (A ⟨#[47]⟩))))
  have hB : Below w.heap.size w w1 := ((Below.refl _ w).alloc (Nat.le_refl _) _).trans (hB1.mono (by simp))
  have HB := hid hB
  have HB1 := hid hB1
  clear hB1 hB
  cases h : lookE es s with
  | some e =>
    obtain ⟨te, ue, hse⟩ := sign_is e.d e.x
    have hq : Ly.covM es s = true := by rw [← HI.out, atV_some T h]; rfl
    rw [atV_some T h]
    unfold nodeV
    rw [hse]
    have HQ := hid hq
    clear hse hq h HI
    go_wp2
    go_ret
    exact ⟨by rw [HQ.out]; rfl, HB.out.alloc HB.out.size _⟩
  | none =>
    have hq : Ly.covM es s = (ups s).any (tellM es (fun d => d != 2)) := by rw [← HI.out, atV_none (path_not_root hs) h]; rfl
    rw [atV_none (path_not_root hs) h]
    have HQ := hid hq
    clear hq h HI
    have c0' := cellOn (.cells #[.nilIface, .map none] 60) c0
    have c1' := cellOn (.cells #[.nilIface, .map none] 60) c1
    go_wp2_with (go_at_call 47; refine (HH.out _ (HB.out.alloc HB.out.size _)).mono ?_; rintro e w3 ⟨rfl, hB3⟩)
    go_ret
    exact ⟨by rw [HQ.out]; rfl, (HB.out.alloc HB.out.size _).trans (hB3.mono (by have := HB.out.size; simp; omega))⟩
end Go.Proofs.YtkjpmngohocmlaaGreatDoor.Mk

/-
  The walk of the program's own: an entry is added to a tree.
-/
namespace Go.Proofs.YtkjpmngohocmlaaGreatDoor
open Go.RowKit Go.Shelf Go.Lib

attribute [local go_sem] Oper.semAt_some

/-- The entry can be added. -/
def addB (es : List E) (e : E) : Bool := (pathB e.p && (dataB e.x && !(e.d && !e.x.toList.isEmpty))) && dirE es (upS e.p)

/-- The two boxes of add. -/
structure AddBox (W : World) (b : Nat) (A : ByteArray → Nat) (p : ByteArray) (d : Bool) (x : ByteArray) : Prop where
  t0 : W.cell? ⟨b, 0, none⟩ = some (.bool true)
  t1 : W.cell? ⟨b, 1, none⟩ = some (.string ⟨#[]⟩)
  t2 : W.cell? ⟨b, 2, none⟩ = some (.map (some (A ⟨#[47]⟩)))
  e0 : W.cell? ⟨b + 1, 0, none⟩ = some (.string p)
  e1 : W.cell? ⟨b + 1, 1, none⟩ = some (.bool d)
  e2 : W.cell? ⟨b + 1, 2, none⟩ = some (.string x)
theorem AddBox.below {W W' : World} {b : Nat} {A : ByteArray → Nat} {p x : ByteArray} {d : Bool} (h : AddBox W b A p d x) (hB : Below W.heap.size W W') : AddBox W' b A p d x :=
  ⟨below_cell hB h.t0, below_cell hB h.t1, below_cell hB h.t2, below_cell hB h.e0, below_cell hB h.e1, below_cell hB h.e2⟩

theorem belowA {w X : World} (h : Below w.heap.size w X) (o : Obj) : Below w.heap.size w (X.alloc o) := h.alloc h.size o
theorem belowT {w X Y : World} (h : Below w.heap.size w X) (k : Below X.heap.size X Y) : Below w.heap.size w Y := h.trans (k.mono h.size)
theorem upS_size (p : ByteArray) : (upS p).size ≤ p.size + 1 := by
  unfold upS
  split
  · split
    · show 1 ≤ _; omega
    · rw [ByteArray.size_extract]; omega
  · exact Nat.zero_le _

theorem lt_alloc (w : World) (o : Obj) : w.heap.size < (w.alloc o).heap.size := by simp
theorem lt_allocD (w : World) (o : Obj) : w.heap.size < (w.drew.alloc o).heap.size := by simp
theorem turnBl {base : Nat} {w X Y : World} (h : Turn base w X) (hb : base ≤ X.heap.size) (k : Below X.heap.size X Y) : Turn base w Y := h.trans (Turn.of_below k hb)
theorem look_snoc {es : List E} {e : E} (h : lookE es e.p = none) (s : ByteArray) : lookE (es ++ [e]) s = if s = e.p then some e else lookE es s := by
  rw [look_append]
  by_cases q : s = e.p
  · rw [if_pos q, q, h]; simp [lookE]
  · rw [if_neg q]
    have : lookE [e] s = none := look_none.2 (by intro f hf; rw [List.mem_singleton.1 hf]; exact fun k => q k.symm)
    rw [this]; cases lookE es s <;> rfl

/-- An entry is added: what is left. -/
theorem add_fin {w V V' : World} {base N a : Nat} {es : List E} {A : ByteArray → Nat} {e : E} (T : TrE es) (R : Rep V base N es A) (hV : Turn base w V) (hp : pathB e.p = true) (hup : dirE es (upS e.p) = true) (hl : ∀ f ∈ es, less f.p e.p)
    (hm : MapIs V' (A (upS e.p)) (N + 1) (fun t => if t = nmS e.p then some (nodeV e a) else kidF es A (upS e.p) t)) (ht : V.mapTurned V' (A (upS e.p)))
    (hd : e.d = true → MapIs V a 0 (fun _ => none) ∧ base ≤ a ∧ ∀ p, dirE es p = true → A p ≠ a) :
    Turn base w V' ∧ ∃ A', A' ⟨#[47]⟩ = A ⟨#[47]⟩ ∧ Rep V' base (N + 1) (es ++ [e]) A' := by
  have hnone : lookE es e.p = none := look_none.2 fun f hf q => by
    have := hl f hf; rw [q] at this; exact less_irrefl _ this
  have hroot : e.p ≠ ⟨#[47]⟩ := fun q => by rw [q, root_no_path] at hp; cases hp
  have hold : dirE es e.p = false := by
    rw [dirE_look, hnone]
    have : isRoot e.p = false := path_not_root hp
    rw [this]; rfl
  refine ⟨hV.trans (Turn.of_map ht (R.low _ hup)), _, ?_, R.put T hp hup hold (look_snoc hnone) hm (fun p hpd hne => ?_) (fun h => ?_)⟩
  · rw [if_neg (fun q => hroot q.symm)]
  · exact ht.grown.block _ (R.kids p hpd).lt (fun q => hne (R.apart _ _ hpd hup (Option.some.inj q)))
  · obtain ⟨h1, h2, h3⟩ := hd h
    exact ⟨h1.kept (ht.grown.block _ h1.lt (fun q => h3 _ hup (Option.some.inj q).symm)), h2, h3⟩

set_option maxHeartbeats 2000000 in
set_option maxRecDepth 100000 in
theorem add_any (w : World) (base N : Nat) (es : List E) (A : ByteArray → Nat) (ae : Int → Addr) (T : TrE es) (R : Rep w base N es A) (hE : Errs2 w ae) (p : ByteArray) (d : Bool) (x : ByteArray)
    (hp : p.size ≤ 16777216) (hx : x.size ≤ 16777216) (hb : base ≤ w.heap.size) (hN : N < 1000) (hl : ∀ f ∈ es, less f.p p) :
    Calls Tryz.prog 79 #[treeV A, .agg #[.string p, .bool d, .string x]] w fun r w' => r = .returned (.bool (addB es ⟨p, d, x⟩)) ∧ Turn base w w' ∧
      (addB es ⟨p, d, x⟩ = true → ∃ A', A' ⟨#[47]⟩ = A ⟨#[47]⟩ ∧ Rep w' base (N + 1) (es ++ [⟨p, d, x⟩]) A') := by
  obtain ⟨W0, hW0⟩ : ∃ W0, W0 = (w.alloc (.cells #[.bool true, .string ⟨#[]⟩, .map (some (A ⟨#[47]⟩))] 69)).alloc (.cells #[.string p, .bool d, .string x] 32) := ⟨_, rfl⟩
  have hBw : Below w.heap.size w W0 := hW0 ▸ ((Below.refl _ w).alloc (Nat.le_refl _) _).alloc (by simp) _
  have HX : Hid (AddBox W0 w.heap.size A p d x) := by
    subst hW0
    constructor <;> simp
  have HR := hid (R.below hBw)
  have HE := hid (hE.below hBw)
  cases hpb : pathB p with
  | false =>
    have ha : addB es ⟨p, d, x⟩ = false := by unfold addB; rw [hpb]; rfl
    rw [ha]
    have HO := hid (fun W => hpb ▸ pOk_any p hp W)
    go_enter Tryz.func79, Tryz.ntmps79
    go_wp2_with (first | (go_at_call 116; rw [← hW0]; refine (HO.out _).mono ?_; rintro e w1 ⟨rfl, hB1⟩) | fail)
    go_ret
    exact ⟨rfl, Turn.of_below (hBw.trans (hB1.mono hBw.size)) hb, fun h => by cases h⟩
  | true =>
    have HO := hid (fun W => hpb ▸ pOk_any p hp W)
    cases hxb : dataB x with
    | false =>
      have ha : addB es ⟨p, d, x⟩ = false := by unfold addB; rw [hpb, hxb]; rfl
      rw [ha]
      have HD := hid (fun W => hxb ▸ dataOk_any x W)
      go_enter Tryz.func79, Tryz.ntmps79
      go_wp2_with (first | (go_at_call 116; rw [← hW0]; refine (HO.out _).mono ?_; rintro e w1 ⟨rfl, hB1⟩; have HX1 := HX.out.below hB1; have e2 := HX1.e2; clear HX1) | (go_at_call 114; refine (HD.out _).mono ?_; rintro e w2 ⟨rfl, hB2⟩) | fail)
      go_ret
      exact ⟨rfl, Turn.of_below ((hBw.trans (hB1.mono hBw.size)).trans (hB2.mono (Nat.le_trans hBw.size hB1.size))) hb, fun h => by cases h⟩
    | true =>
      have HD := hid (fun W => hxb ▸ dataOk_any x W)
      by_cases hbad : d = true ∧ ¬ x.toList = []
      · obtain ⟨rfl, hne⟩ := hbad
        have hne' : (x.toList == []) = false := by simpa using hne
        have ha : addB es ⟨p, true, x⟩ = false := by
          unfold addB; rw [hpb, hxb]
          have : x.toList.isEmpty = false := by simpa using hne
          simp [this]
        rw [ha]
        go_enter Tryz.func79, Tryz.ntmps79
        go_wp2_with (first | (go_at_call 116; rw [← hW0]; refine (HO.out _).mono ?_; rintro e w1 ⟨rfl, hB1⟩; have HX1 := HX.out.below hB1; have e2 := HX1.e2; clear HX1) | (go_at_call 114; refine (HD.out _).mono ?_; rintro e w2 ⟨rfl, hB2⟩; have HX2 := (HX.out.below hB1).below hB2; have e1' := HX2.e1; have e2' := HX2.e2; clear HX2) | fail)
        go_ret
        exact ⟨rfl, Turn.of_below ((hBw.trans (hB1.mono hBw.size)).trans (hB2.mono (Nat.le_trans hBw.size hB1.size))) hb, fun h => by cases h⟩
      · have hcond : d = false ∨ x.toList = [] := by
          cases d with
          | false => exact .inl rfl
          | true => exact .inr (Classical.byContradiction fun h => hbad ⟨rfl, h⟩)
        have ha : addB es ⟨p, d, x⟩ = dirE es (upS p) := by
          unfold addB; rw [hpb, hxb]
          rcases hcond with rfl | h
          · simp
          · simp [h]
        have HU := hid (fun W => iPathUp_any p hp W)
        have hus : (upS p).size ≤ 4611686018427387904 := by have := upS_size p; omega
        have HDi := hid (fun (W : World) (hW : Rep W base N es A) (hE : Errs2 W ae) => dirAt_any W base N es A ae T hW hE (upS p) hus)
        have hcond' : d = true → (x.toList == []) = true := fun h => by
          rcases hcond with h1 | h1
          · rw [h1] at h; cases h
          · rw [h1]; rfl
        cases hdir : dirE es (upS p) with
        | false =>
          rw [hdir] at ha
          rw [ha]
          have hc0 : dirC es (upS p) ≠ 0 := fun h => by rw [dirC_zero h] at hdir; cases hdir
          have hdv : dirV es A (upS p) = zeroN := by unfold dirV; rw [if_neg hc0]
          have hev : errV ae (dirC es (upS p)) = .iface 210 (.pointer (some (ae (dirC es (upS p))))) := by unfold errV; rw [if_neg hc0]
          rw [hdv, hev] at HDi
          cases d with
          | false =>
            go_enter Tryz.func79, Tryz.ntmps79
            go_wp2_with (first | (go_at_call 116; rw [← hW0]; refine (HO.out _).mono ?_; rintro e w1 ⟨rfl, hB1⟩; have HX1 := HX.out.below hB1; have e2 := HX1.e2; clear HX1) | (go_at_call 114; refine (HD.out _).mono ?_; rintro e w2 ⟨rfl, hB2⟩; have HX2 := (HX.out.below hB1).below hB2; have e1' := HX2.e1; have e2' := HX2.e2; clear HX2) | fail)
            clear e2 e1' e2'
            have HX2 := hid ((HX.out.below hB1).below hB2)
            have HR2 := hid ((HR.out.below hB1).below hB2)
            have HE2 := hid ((HE.out.below hB1).below hB2)
            have hB02 : Below w.heap.size w w2 := (hBw.trans (hB1.mono hBw.size)).trans (hB2.mono (Nat.le_trans hBw.size hB1.size))
            have hw2 : w.heap.size + 1 < w2.heap.size := World.block_lt_of_cell? w2 ⟨w.heap.size + 1, 0, none⟩ HX2.out.e0
            have AS : Hid (∀ W', Below w2.heap.size w2 W' → (W'.cell? ⟨w.heap.size, 0, none⟩ = some (.bool true) ∧ W'.cell? ⟨w.heap.size, 1, none⟩ = some (.string ⟨#[]⟩) ∧ W'.cell? ⟨w.heap.size, 2, none⟩ = some (.map (some (A ⟨#[47]⟩))) ∧ W'.cell? ⟨w.heap.size + 1, 0, none⟩ = some (.string p))) := fun W' hW => by
              have := HX2.out.below hW
              exact ⟨this.t0, this.t1, this.t2, this.e0⟩
            have AR : Hid (∀ W', Below w2.heap.size w2 W' → Rep W' base N es A) := fun W' hW => HR2.out.below hW
            have AE : Hid (∀ W', Below w2.heap.size w2 W' → Errs2 W' ae) := fun W' hW => HE2.out.below hW
            rename_i Qx Kx hKx
            have HK : Hid (∀ (b : Nat) (W : World), Below w2.heap.size w2 W → Kx { tmps := #[treeV A, .agg #[.string p, .bool false, .string x], .pointer (some ⟨w.heap.size, 0, none⟩), .pointer (some ⟨w.heap.size + 1, 0, none⟩), .bool false, .pointer (some ⟨b, 0, none⟩), .iface 210 (.pointer (some (ae (dirC es (upS p))))), .pointer (some ⟨w.heap.size + 1, 0, none⟩), .string p, .bool true, .bool false, .bool false, .pointer (some ⟨w.heap.size + 1, 2, none⟩), .string x, .bool true, .bool false, .bool false, .bool false, .pointer (some ⟨w.heap.size + 1, 1, none⟩), .bool false, .bool false, undef, undef, undef, .bool false, .bool false, .tuple #[zeroN, .iface 210 (.pointer (some (ae (dirC es (upS p)))))], treeV A, .pointer (some ⟨w.heap.size + 1, 0, none⟩), .string p, .string (upS p), .tuple #[zeroN, .iface 210 (.pointer (some (ae (dirC es (upS p)))))], zeroN, .iface 210 (.pointer (some (ae (dirC es (upS p))))), undef, undef, undef, undef, undef, undef, undef, undef, undef, undef, undef, undef, undef, undef, undef, undef, undef, undef], defers := [] } W) := by
              intro b W hBW
              refine hKx _ _ ?_
              go_wp2
              go_ret
              exact ⟨rfl, Turn.of_below (hB02.trans (hBW.mono (by omega))) hb, fun h => by cases h⟩
            clear hKx
            go_region_held3 (fun W' => W'.cell? ⟨w.heap.size, 0, none⟩ = some (.bool true) ∧ W'.cell? ⟨w.heap.size, 1, none⟩ = some (.string ⟨#[]⟩) ∧ W'.cell? ⟨w.heap.size, 2, none⟩ = some (.map (some (A ⟨#[47]⟩))) ∧ W'.cell? ⟨w.heap.size + 1, 0, none⟩ = some (.string p))
              ((refine AS.out _ ?_; repeat (first | exact Below.refl _ _ | apply belowA | refine belowT ?_ hB4 | refine belowT ?_ hB3 | apply Below.drew | refine set3_below ?_ (by first | exact Nat.le_refl _ | (have h3 := hB3.size; have h4 := hB4.size; simp at h3 h4 ⊢; omega)) _ _ _)))
              (first | (go_at_call 63; refine (HU.out _).mono ?_; rintro e w3 ⟨rfl, hB3⟩; obtain ⟨bc3, bf3⟩ := bcellN hB3; have l3 := hB3.size; (try simp at l3); (try (have z0 := bc3 w2.heap.size 0 (lt_allocD _ _); have z1 := bc3 w2.heap.size 1 (lt_allocD _ _); have z2 := bc3 w2.heap.size 2 (lt_allocD _ _); have z3 := bf3 w2.heap.size 0 (lt_allocD _ _); have z4 := bf3 w2.heap.size 1 (lt_allocD _ _); have z5 := bf3 w2.heap.size 2 (lt_allocD _ _); simp at z0 z1 z2 z3 z4 z5)); clear bc3 bf3) | (go_at_call 62; refine (HDi.out _ (AR.out _ (by repeat (first | exact Below.refl _ _ | apply belowA | refine belowT ?_ hB3 | apply Below.drew))) (AE.out _ (by repeat (first | exact Below.refl _ _ | apply belowA | refine belowT ?_ hB3 | apply Below.drew)))).mono ?_; rintro e w4 ⟨rfl, hB4⟩; obtain ⟨bc4, bf4⟩ := bcellN hB4; have l4 := hB4.size; (try simp at l4); (try (have z0 := bc4 w3.heap.size 0 (lt_alloc _ _); have z1 := bc4 w3.heap.size 1 (lt_alloc _ _); have z2 := bc4 w3.heap.size 2 (lt_alloc _ _); have z3 := bf4 w3.heap.size 0 (lt_alloc _ _); have z4 := bf4 w3.heap.size 1 (lt_alloc _ _); have z5 := bf4 w3.heap.size 2 (lt_alloc _ _); simp at z0 z1 z2 z3 z4 z5)); (try (have v0 := (bc4 w2.heap.size 0 l3).trans z0; have v1 := (bc4 w2.heap.size 1 l3).trans z1; have v2 := (bc4 w2.heap.size 2 l3).trans z2; have v3 := (bf4 w2.heap.size 0 l3).trans z3; have v4 := (bf4 w2.heap.size 1 l3).trans z4; have v5 := (bf4 w2.heap.size 2 l3).trans z5)); clear bc4 bf4))
            all_goals exact HK.out _ _ (by repeat (first | exact Below.refl _ _ | apply belowA | refine belowT ?_ hB4 | refine belowT ?_ hB3 | apply Below.drew | refine set3_below ?_ (by first | exact Nat.le_refl _ | (have h3 := hB3.size; have h4 := hB4.size; simp at h3 h4 ⊢; omega)) _ _ _))
          | true =>
            have hemp := hcond' rfl
            have hemp' : x.toList = [] := by simpa using hemp
            go_enter Tryz.func79, Tryz.ntmps79
            go_wp2_with (first | (go_at_call 116; rw [← hW0]; refine (HO.out _).mono ?_; rintro e w1 ⟨rfl, hB1⟩; have HX1 := HX.out.below hB1; have e2 := HX1.e2; clear HX1) | (go_at_call 114; refine (HD.out _).mono ?_; rintro e w2 ⟨rfl, hB2⟩; have HX2 := (HX.out.below hB1).below hB2; have e1' := HX2.e1; have e2' := HX2.e2; clear HX2) | fail)
            clear e2 e1' e2'
            have HX2 := hid ((HX.out.below hB1).below hB2)
            have HR2 := hid ((HR.out.below hB1).below hB2)
            have HE2 := hid ((HE.out.below hB1).below hB2)
            have hB02 : Below w.heap.size w w2 := (hBw.trans (hB1.mono hBw.size)).trans (hB2.mono (Nat.le_trans hBw.size hB1.size))
            have hw2 : w.heap.size + 1 < w2.heap.size := World.block_lt_of_cell? w2 ⟨w.heap.size + 1, 0, none⟩ HX2.out.e0
            have AS : Hid (∀ W', Below w2.heap.size w2 W' → (W'.cell? ⟨w.heap.size, 0, none⟩ = some (.bool true) ∧ W'.cell? ⟨w.heap.size, 1, none⟩ = some (.string ⟨#[]⟩) ∧ W'.cell? ⟨w.heap.size, 2, none⟩ = some (.map (some (A ⟨#[47]⟩))) ∧ W'.cell? ⟨w.heap.size + 1, 0, none⟩ = some (.string p))) := fun W' hW => by
              have := HX2.out.below hW
              exact ⟨this.t0, this.t1, this.t2, this.e0⟩
            have AR : Hid (∀ W', Below w2.heap.size w2 W' → Rep W' base N es A) := fun W' hW => HR2.out.below hW
            have AE : Hid (∀ W', Below w2.heap.size w2 W' → Errs2 W' ae) := fun W' hW => HE2.out.below hW
            rename_i Qx Kx hKx
            have HK : Hid (∀ (b : Nat) (W : World), Below w2.heap.size w2 W → Kx { tmps := #[treeV A, .agg #[.string p, .bool true, .string x], .pointer (some ⟨w.heap.size, 0, none⟩), .pointer (some ⟨w.heap.size + 1, 0, none⟩), .bool false, .pointer (some ⟨b, 0, none⟩), .iface 210 (.pointer (some (ae (dirC es (upS p))))), .pointer (some ⟨w.heap.size + 1, 0, none⟩), .string p, .bool true, .bool false, .bool false, .pointer (some ⟨w.heap.size + 1, 2, none⟩), .string x, .bool true, .bool false, .bool false, .bool false, .pointer (some ⟨w.heap.size + 1, 1, none⟩), .bool true, .bool true, .pointer (some ⟨w.heap.size + 1, 2, none⟩), .string x, .bool false, .bool false, .bool false, .tuple #[zeroN, .iface 210 (.pointer (some (ae (dirC es (upS p)))))], treeV A, .pointer (some ⟨w.heap.size + 1, 0, none⟩), .string p, .string (upS p), .tuple #[zeroN, .iface 210 (.pointer (some (ae (dirC es (upS p)))))], zeroN, .iface 210 (.pointer (some (ae (dirC es (upS p))))), undef, undef, undef, undef, undef, undef, undef, undef, undef, undef, undef, undef, undef, undef, undef, undef, undef, undef], defers := [] } W) := by
              intro b W hBW
              refine hKx _ _ ?_
              go_wp2
              go_ret
              exact ⟨rfl, Turn.of_below (hB02.trans (hBW.mono (by omega))) hb, fun h => by cases h⟩
            clear hKx
            go_region_held3 (fun W' => W'.cell? ⟨w.heap.size, 0, none⟩ = some (.bool true) ∧ W'.cell? ⟨w.heap.size, 1, none⟩ = some (.string ⟨#[]⟩) ∧ W'.cell? ⟨w.heap.size, 2, none⟩ = some (.map (some (A ⟨#[47]⟩))) ∧ W'.cell? ⟨w.heap.size + 1, 0, none⟩ = some (.string p))
              ((refine AS.out _ ?_; repeat (first | exact Below.refl _ _ | apply belowA | refine belowT ?_ hB4 | refine belowT ?_ hB3 | apply Below.drew | refine set3_below ?_ (by first | exact Nat.le_refl _ | (have h3 := hB3.size; have h4 := hB4.size; simp at h3 h4 ⊢; omega)) _ _ _)))
              (first | (go_at_call 63; refine (HU.out _).mono ?_; rintro e w3 ⟨rfl, hB3⟩; obtain ⟨bc3, bf3⟩ := bcellN hB3; have l3 := hB3.size; (try simp at l3); (try (have z0 := bc3 w2.heap.size 0 (lt_allocD _ _); have z1 := bc3 w2.heap.size 1 (lt_allocD _ _); have z2 := bc3 w2.heap.size 2 (lt_allocD _ _); have z3 := bf3 w2.heap.size 0 (lt_allocD _ _); have z4 := bf3 w2.heap.size 1 (lt_allocD _ _); have z5 := bf3 w2.heap.size 2 (lt_allocD _ _); simp at z0 z1 z2 z3 z4 z5)); clear bc3 bf3) | (go_at_call 62; refine (HDi.out _ (AR.out _ (by repeat (first | exact Below.refl _ _ | apply belowA | refine belowT ?_ hB3 | apply Below.drew))) (AE.out _ (by repeat (first | exact Below.refl _ _ | apply belowA | refine belowT ?_ hB3 | apply Below.drew)))).mono ?_; rintro e w4 ⟨rfl, hB4⟩; obtain ⟨bc4, bf4⟩ := bcellN hB4; have l4 := hB4.size; (try simp at l4); (try (have z0 := bc4 w3.heap.size 0 (lt_alloc _ _); have z1 := bc4 w3.heap.size 1 (lt_alloc _ _); have z2 := bc4 w3.heap.size 2 (lt_alloc _ _); have z3 := bf4 w3.heap.size 0 (lt_alloc _ _); have z4 := bf4 w3.heap.size 1 (lt_alloc _ _); have z5 := bf4 w3.heap.size 2 (lt_alloc _ _); simp at z0 z1 z2 z3 z4 z5)); (try (have v0 := (bc4 w2.heap.size 0 l3).trans z0; have v1 := (bc4 w2.heap.size 1 l3).trans z1; have v2 := (bc4 w2.heap.size 2 l3).trans z2; have v3 := (bf4 w2.heap.size 0 l3).trans z3; have v4 := (bf4 w2.heap.size 1 l3).trans z4; have v5 := (bf4 w2.heap.size 2 l3).trans z5)); clear bc4 bf4))
            all_goals exact HK.out _ _ (by repeat (first | exact Below.refl _ _ | apply belowA | refine belowT ?_ hB4 | refine belowT ?_ hB3 | apply Below.drew | refine set3_below ?_ (by first | exact Nat.le_refl _ | (have h3 := hB3.size; have h4 := hB4.size; simp at h3 h4 ⊢; omega)) _ _ _))
        | true =>
          rw [hdir] at ha
          rw [ha]
          obtain ⟨xx, hxx⟩ := atE_dir (A := A) hdir
          have hdv : dirV es A (upS p) = .agg #[.bool true, .string xx, .map (some (A (upS p)))] := by unfold dirV; rw [dirC_dir hdir, if_pos rfl, hxx]
          have hev : errV ae (dirC es (upS p)) = .nilIface := by rw [dirC_dir hdir]; rfl
          rw [hdv, hev] at HDi
          have HN5 := hid (fun W => iPathName_any p hp W)
          have hnz : (nmS p).size ≤ maxLen := by
            have := (up_facts hpb).2.2.1
            unfold nameB at this
            rw [Bool.and_eq_true] at this
            have := (of_decide_eq_true this.1).2
            unfold maxLen; omega
          cases d with
          | false =>
            go_enter Tryz.func79, Tryz.ntmps79
            go_wp2_with (first | (go_at_call 116; rw [← hW0]; refine (HO.out _).mono ?_; rintro e w1 ⟨rfl, hB1⟩; have HX1 := HX.out.below hB1; have e2 := HX1.e2; clear HX1) | (go_at_call 114; refine (HD.out _).mono ?_; rintro e w2 ⟨rfl, hB2⟩; have HX2 := (HX.out.below hB1).below hB2; have e1' := HX2.e1; have e2' := HX2.e2; clear HX2) | fail)
            clear e2 e1' e2'
            have HX2 := hid ((HX.out.below hB1).below hB2)
            have HR2 := hid ((HR.out.below hB1).below hB2)
            have HE2 := hid ((HE.out.below hB1).below hB2)
            have hB02 : Below w.heap.size w w2 := (hBw.trans (hB1.mono hBw.size)).trans (hB2.mono (Nat.le_trans hBw.size hB1.size))
            have hw2 : w.heap.size + 1 < w2.heap.size := World.block_lt_of_cell? w2 ⟨w.heap.size + 1, 0, none⟩ HX2.out.e0
            have AS : Hid (∀ W', Below w2.heap.size w2 W' → (W'.cell? ⟨w.heap.size, 0, none⟩ = some (.bool true) ∧ W'.cell? ⟨w.heap.size, 1, none⟩ = some (.string ⟨#[]⟩) ∧ W'.cell? ⟨w.heap.size, 2, none⟩ = some (.map (some (A ⟨#[47]⟩))) ∧ W'.cell? ⟨w.heap.size + 1, 0, none⟩ = some (.string p))) := fun W' hW => by
              have := HX2.out.below hW
              exact ⟨this.t0, this.t1, this.t2, this.e0⟩
            have AR : Hid (∀ W', Below w2.heap.size w2 W' → Rep W' base N es A) := fun W' hW => HR2.out.below hW
            have AE : Hid (∀ W', Below w2.heap.size w2 W' → Errs2 W' ae) := fun W' hW => HE2.out.below hW
            rename_i Qx Kx hKx
            have HF6 := hid (fun W => newFile_any x (by omega) W)
            have HK : Hid (∀ (b : Nat) (W : World), Below w2.heap.size w2 W → W.cell? ⟨b, 2, none⟩ = some (.map (some (A (upS p)))) → Kx { tmps := #[treeV A, .agg #[.string p, .bool false, .string x], .pointer (some ⟨w.heap.size, 0, none⟩), .pointer (some ⟨w.heap.size + 1, 0, none⟩), .bool false, .pointer (some ⟨b, 0, none⟩), .nilIface, .pointer (some ⟨w.heap.size + 1, 0, none⟩), .string p, .bool true, .bool false, .bool false, .pointer (some ⟨w.heap.size + 1, 2, none⟩), .string x, .bool true, .bool false, .bool false, .bool false, .pointer (some ⟨w.heap.size + 1, 1, none⟩), .bool false, .bool false, undef, undef, undef, .bool false, .bool false, .tuple #[.agg #[.bool true, .string xx, .map (some (A (upS p)))], .nilIface], treeV A, .pointer (some ⟨w.heap.size + 1, 0, none⟩), .string p, .string (upS p), .tuple #[.agg #[.bool true, .string xx, .map (some (A (upS p)))], .nilIface], .agg #[.bool true, .string xx, .map (some (A (upS p)))], .nilIface, undef, undef, undef, undef, undef, undef, undef, undef, undef, undef, undef, undef, undef, undef, undef, undef, undef, undef], defers := [] } W) := by
              intro b W hBW hb2
              refine hKx _ _ ?_
              obtain ⟨y0, y1, y2, y3, y4, y5⟩ := HX2.out.below hBW
              have hbW : base ≤ W.heap.size := Nat.le_trans hb (Nat.le_trans hB02.size hBW.size)
              have AS2 : Hid (∀ W', Turn base W W' → (W'.cell? ⟨b, 2, none⟩ = some (.map (some (A (upS p)))) ∧ W'.cell? ⟨w.heap.size + 1, 0, none⟩ = some (.string p) ∧ W'.cell? ⟨w.heap.size + 1, 2, none⟩ = some (.string x))) := fun W' hW => ⟨hW.cell hb2, hW.cell y3, hW.cell y5⟩
              go_wp2
              go_region_held3 (fun W' => W'.cell? ⟨b, 2, none⟩ = some (.map (some (A (upS p)))) ∧ W'.cell? ⟨w.heap.size + 1, 0, none⟩ = some (.string p) ∧ W'.cell? ⟨w.heap.size + 1, 2, none⟩ = some (.string x))
                ((first | exact AS2.out _ ((Turn.of_below (belowT (belowT (Below.refl _ _).drew hB5) hB6) hbW).trans (Turn.of_map ht7 ((AR.out _ hBW).low _ hdir))) | exact AS2.out _ (Turn.of_below (belowT (belowT (Below.refl _ _).drew hB5) hB6) hbW) | exact AS2.out _ (Turn.of_below (belowT (Below.refl _ _).drew hB5) hbW) | exact AS2.out _ (Turn.of_below (Below.refl _ _).drew hbW)))
                (first | (go_at_call 104; refine (HN5.out _).mono ?_; rintro e w5 ⟨rfl, hB5⟩) | (go_at_call 117; refine (HF6.out _).mono ?_; rintro e w6 ⟨rfl, hB6⟩; obtain ⟨w7, hst, hm7, ht7⟩ := ((AR.out _ (belowT (belowT hBW.drew hB5) hB6)).kids _ hdir).store (by unfold maxLen; omega) hnz (.agg #[.bool false, .string x, .map none])))
              have RW6 := AR.out _ (belowT (belowT hBW.drew hB5) hB6)
              have fin := add_fin (e := ⟨p, false, x⟩) (a := 0) T RW6 (Turn.of_below ((hB02.trans (hBW.mono (by omega))).trans ((belowT (belowT (Below.refl _ _).drew hB5) hB6).mono (Nat.le_trans hB02.size hBW.size))) hb) hpb hdir hl hm7 ht7 (fun h => by cases h)
              go_wp2
              go_ret
              exact ⟨rfl, fin.1, fun _ => fin.2⟩
            clear hKx
            go_region_held3 (fun W' => W'.cell? ⟨w.heap.size, 0, none⟩ = some (.bool true) ∧ W'.cell? ⟨w.heap.size, 1, none⟩ = some (.string ⟨#[]⟩) ∧ W'.cell? ⟨w.heap.size, 2, none⟩ = some (.map (some (A ⟨#[47]⟩))) ∧ W'.cell? ⟨w.heap.size + 1, 0, none⟩ = some (.string p))
              ((refine AS.out _ ?_; repeat (first | exact Below.refl _ _ | apply belowA | refine belowT ?_ hB4 | refine belowT ?_ hB3 | apply Below.drew | refine set3_below ?_ (by first | exact Nat.le_refl _ | (have h3 := hB3.size; have h4 := hB4.size; simp at h3 h4 ⊢; omega)) _ _ _)))
              (first | (go_at_call 63; refine (HU.out _).mono ?_; rintro e w3 ⟨rfl, hB3⟩; obtain ⟨bc3, bf3⟩ := bcellN hB3; have l3 := hB3.size; (try simp at l3); (try (have z0 := bc3 w2.heap.size 0 (lt_allocD _ _); have z1 := bc3 w2.heap.size 1 (lt_allocD _ _); have z2 := bc3 w2.heap.size 2 (lt_allocD _ _); have z3 := bf3 w2.heap.size 0 (lt_allocD _ _); have z4 := bf3 w2.heap.size 1 (lt_allocD _ _); have z5 := bf3 w2.heap.size 2 (lt_allocD _ _); simp at z0 z1 z2 z3 z4 z5)); clear bc3 bf3) | (go_at_call 62; refine (HDi.out _ (AR.out _ (by repeat (first | exact Below.refl _ _ | apply belowA | refine belowT ?_ hB3 | apply Below.drew))) (AE.out _ (by repeat (first | exact Below.refl _ _ | apply belowA | refine belowT ?_ hB3 | apply Below.drew)))).mono ?_; rintro e w4 ⟨rfl, hB4⟩; obtain ⟨bc4, bf4⟩ := bcellN hB4; have l4 := hB4.size; (try simp at l4); (try (have z0 := bc4 w3.heap.size 0 (lt_alloc _ _); have z1 := bc4 w3.heap.size 1 (lt_alloc _ _); have z2 := bc4 w3.heap.size 2 (lt_alloc _ _); have z3 := bf4 w3.heap.size 0 (lt_alloc _ _); have z4 := bf4 w3.heap.size 1 (lt_alloc _ _); have z5 := bf4 w3.heap.size 2 (lt_alloc _ _); simp at z0 z1 z2 z3 z4 z5)); (try (have v0 := (bc4 w2.heap.size 0 l3).trans z0; have v1 := (bc4 w2.heap.size 1 l3).trans z1; have v2 := (bc4 w2.heap.size 2 l3).trans z2; have v3 := (bf4 w2.heap.size 0 l3).trans z3; have v4 := (bf4 w2.heap.size 1 l3).trans z4; have v5 := (bf4 w2.heap.size 2 l3).trans z5)); clear bc4 bf4))
            all_goals refine HK.out _ _ (by repeat (first | exact Below.refl _ _ | apply belowA | refine belowT ?_ hB4 | refine belowT ?_ hB3 | apply Below.drew | refine set3_below ?_ (by first | exact Nat.le_refl _ | (have h3 := hB3.size; have h4 := hB4.size; simp at h3 h4 ⊢; omega)) _ _ _)) ?_
            all_goals first | exact (set3_cells v0 v1 v2 _ _ _).2.2 | exact (set3_cells z0 z1 z2 _ _ _).2.2 | simp
          | true =>
            have hemp := hcond' rfl
            have hemp' : x.toList = [] := by simpa using hemp
            go_enter Tryz.func79, Tryz.ntmps79
            go_wp2_with (first | (go_at_call 116; rw [← hW0]; refine (HO.out _).mono ?_; rintro e w1 ⟨rfl, hB1⟩; have HX1 := HX.out.below hB1; have e2 := HX1.e2; clear HX1) | (go_at_call 114; refine (HD.out _).mono ?_; rintro e w2 ⟨rfl, hB2⟩; have HX2 := (HX.out.below hB1).below hB2; have e1' := HX2.e1; have e2' := HX2.e2; clear HX2) | fail)
            clear e2 e1' e2'
            have HX2 := hid ((HX.out.below hB1).below hB2)
            have HR2 := hid ((HR.out.below hB1).below hB2)
            have HE2 := hid ((HE.out.below hB1).below hB2)
            have hB02 : Below w.heap.size w w2 := (hBw.trans (hB1.mono hBw.size)).trans (hB2.mono (Nat.le_trans hBw.size hB1.size))
            have hw2 : w.heap.size + 1 < w2.heap.size := World.block_lt_of_cell? w2 ⟨w.heap.size + 1, 0, none⟩ HX2.out.e0
            have AS : Hid (∀ W', Below w2.heap.size w2 W' → (W'.cell? ⟨w.heap.size, 0, none⟩ = some (.bool true) ∧ W'.cell? ⟨w.heap.size, 1, none⟩ = some (.string ⟨#[]⟩) ∧ W'.cell? ⟨w.heap.size, 2, none⟩ = some (.map (some (A ⟨#[47]⟩))) ∧ W'.cell? ⟨w.heap.size + 1, 0, none⟩ = some (.string p))) := fun W' hW => by
              have := HX2.out.below hW
              exact ⟨this.t0, this.t1, this.t2, this.e0⟩
            have AR : Hid (∀ W', Below w2.heap.size w2 W' → Rep W' base N es A) := fun W' hW => HR2.out.below hW
            have AE : Hid (∀ W', Below w2.heap.size w2 W' → Errs2 W' ae) := fun W' hW => HE2.out.below hW
            rename_i Qx Kx hKx
            have HF6 := hid (fun W => newFile_any x (by omega) W)
            have HK : Hid (∀ (b : Nat) (W : World), Below w2.heap.size w2 W → W.cell? ⟨b, 2, none⟩ = some (.map (some (A (upS p)))) → Kx { tmps := #[treeV A, .agg #[.string p, .bool true, .string x], .pointer (some ⟨w.heap.size, 0, none⟩), .pointer (some ⟨w.heap.size + 1, 0, none⟩), .bool false, .pointer (some ⟨b, 0, none⟩), .nilIface, .pointer (some ⟨w.heap.size + 1, 0, none⟩), .string p, .bool true, .bool false, .bool false, .pointer (some ⟨w.heap.size + 1, 2, none⟩), .string x, .bool true, .bool false, .bool false, .bool false, .pointer (some ⟨w.heap.size + 1, 1, none⟩), .bool true, .bool true, .pointer (some ⟨w.heap.size + 1, 2, none⟩), .string x, .bool false, .bool false, .bool false, .tuple #[.agg #[.bool true, .string xx, .map (some (A (upS p)))], .nilIface], treeV A, .pointer (some ⟨w.heap.size + 1, 0, none⟩), .string p, .string (upS p), .tuple #[.agg #[.bool true, .string xx, .map (some (A (upS p)))], .nilIface], .agg #[.bool true, .string xx, .map (some (A (upS p)))], .nilIface, undef, undef, undef, undef, undef, undef, undef, undef, undef, undef, undef, undef, undef, undef, undef, undef, undef, undef], defers := [] } W) := by
              intro b W hBW hb2
              refine hKx _ _ ?_
              obtain ⟨y0, y1, y2, y3, y4, y5⟩ := HX2.out.below hBW
              have hbW : base ≤ W.heap.size := Nat.le_trans hb (Nat.le_trans hB02.size hBW.size)
              have AS2 : Hid (∀ W', Turn base W W' → (W'.cell? ⟨b, 2, none⟩ = some (.map (some (A (upS p)))) ∧ W'.cell? ⟨w.heap.size + 1, 0, none⟩ = some (.string p) ∧ W'.cell? ⟨w.heap.size + 1, 2, none⟩ = some (.string x))) := fun W' hW => ⟨hW.cell hb2, hW.cell y3, hW.cell y5⟩
              go_wp2
              go_region_held3 (fun W' => W'.cell? ⟨b, 2, none⟩ = some (.map (some (A (upS p)))) ∧ W'.cell? ⟨w.heap.size + 1, 0, none⟩ = some (.string p) ∧ W'.cell? ⟨w.heap.size + 1, 2, none⟩ = some (.string x))
                ((first | exact AS2.out _ ((Turn.of_below (belowT (belowT (Below.refl _ _).drew hB5) hB6) hbW).trans (Turn.of_map ht7 ((AR.out _ hBW).low _ hdir))) | exact AS2.out _ (Turn.of_below (belowT (belowT (Below.refl _ _).drew hB5) hB6) hbW) | exact AS2.out _ (Turn.of_below (belowT (Below.refl _ _).drew hB5) hbW) | exact AS2.out _ (Turn.of_below (Below.refl _ _).drew hbW)))
                (first | (go_at_call 104; refine (HN5.out _).mono ?_; rintro e w5 ⟨rfl, hB5⟩) | (go_at_call 78; refine (newDir_any _).mono ?_; rintro e w6 ⟨rfl, hM6, hB6⟩; obtain ⟨w7, hst, hm7, ht7⟩ := ((AR.out _ (belowT (belowT hBW.drew hB5) hB6)).kids _ hdir).store (by unfold maxLen; omega) hnz (.agg #[.bool true, .string ⟨#[]⟩, .map (some (w5.heap.size + 1))])))
              have RW6 := AR.out _ (belowT (belowT hBW.drew hB5) hB6)
              have hx0 : x = ⟨#[]⟩ := notEmpty.1 (by rw [hemp']; rfl)
              have hszW : w.heap.size ≤ w5.heap.size := Nat.le_trans hB02.size (Nat.le_trans hBW.size hB5.size)
              have fin := add_fin (e := ⟨p, true, x⟩) (a := w5.heap.size + 1) T RW6 (Turn.of_below ((hB02.trans (hBW.mono (by omega))).trans ((belowT (belowT (Below.refl _ _).drew hB5) hB6).mono (Nat.le_trans hB02.size hBW.size))) hb) hpb hdir hl (by rw [hx0]; exact hm7) ht7 (fun _ => ⟨hM6, by omega, fun q hq h => by
                have := ((AR.out _ (belowT hBW.drew hB5)).kids q hq).lt; omega⟩)
              go_wp2
              go_ret
              exact ⟨rfl, fin.1, fun _ => fin.2⟩
            clear hKx
            go_region_held3 (fun W' => W'.cell? ⟨w.heap.size, 0, none⟩ = some (.bool true) ∧ W'.cell? ⟨w.heap.size, 1, none⟩ = some (.string ⟨#[]⟩) ∧ W'.cell? ⟨w.heap.size, 2, none⟩ = some (.map (some (A ⟨#[47]⟩))) ∧ W'.cell? ⟨w.heap.size + 1, 0, none⟩ = some (.string p))
              ((refine AS.out _ ?_; repeat (first | exact Below.refl _ _ | apply belowA | refine belowT ?_ hB4 | refine belowT ?_ hB3 | apply Below.drew | refine set3_below ?_ (by first | exact Nat.le_refl _ | (have h3 := hB3.size; have h4 := hB4.size; simp at h3 h4 ⊢; omega)) _ _ _)))
              (first | (go_at_call 63; refine (HU.out _).mono ?_; rintro e w3 ⟨rfl, hB3⟩; obtain ⟨bc3, bf3⟩ := bcellN hB3; have l3 := hB3.size; (try simp at l3); (try (have z0 := bc3 w2.heap.size 0 (lt_allocD _ _); have z1 := bc3 w2.heap.size 1 (lt_allocD _ _); have z2 := bc3 w2.heap.size 2 (lt_allocD _ _); have z3 := bf3 w2.heap.size 0 (lt_allocD _ _); have z4 := bf3 w2.heap.size 1 (lt_allocD _ _); have z5 := bf3 w2.heap.size 2 (lt_allocD _ _); simp at z0 z1 z2 z3 z4 z5)); clear bc3 bf3) | (go_at_call 62; refine (HDi.out _ (AR.out _ (by repeat (first | exact Below.refl _ _ | apply belowA | refine belowT ?_ hB3 | apply Below.drew))) (AE.out _ (by repeat (first | exact Below.refl _ _ | apply belowA | refine belowT ?_ hB3 | apply Below.drew)))).mono ?_; rintro e w4 ⟨rfl, hB4⟩; obtain ⟨bc4, bf4⟩ := bcellN hB4; have l4 := hB4.size; (try simp at l4); (try (have z0 := bc4 w3.heap.size 0 (lt_alloc _ _); have z1 := bc4 w3.heap.size 1 (lt_alloc _ _); have z2 := bc4 w3.heap.size 2 (lt_alloc _ _); have z3 := bf4 w3.heap.size 0 (lt_alloc _ _); have z4 := bf4 w3.heap.size 1 (lt_alloc _ _); have z5 := bf4 w3.heap.size 2 (lt_alloc _ _); simp at z0 z1 z2 z3 z4 z5)); (try (have v0 := (bc4 w2.heap.size 0 l3).trans z0; have v1 := (bc4 w2.heap.size 1 l3).trans z1; have v2 := (bc4 w2.heap.size 2 l3).trans z2; have v3 := (bf4 w2.heap.size 0 l3).trans z3; have v4 := (bf4 w2.heap.size 1 l3).trans z4; have v5 := (bf4 w2.heap.size 2 l3).trans z5)); clear bc4 bf4))
            all_goals refine HK.out _ _ (by repeat (first | exact Below.refl _ _ | apply belowA | refine belowT ?_ hB4 | refine belowT ?_ hB3 | apply Below.drew | refine set3_below ?_ (by first | exact Nat.le_refl _ | (have h3 := hB3.size; have h4 := hB4.size; simp at h3 h4 ⊢; omega)) _ _ _)) ?_
            all_goals first | exact (set3_cells v0 v1 v2 _ _ _).2.2 | exact (set3_cells z0 z1 z2 _ _ _).2.2 | simp
end Go.Proofs.YtkjpmngohocmlaaGreatDoor
