/-
  The walk of the program's own: what a layer has at a path.
-/
import Derived.Deep.RegionHeld3
import Derived.Test.YtmfjdafkgkjidaaDoorHPk09
import Derived.Test.YtmfjdafkgkjidaaDoorHPk11
import Derived.Test.YtmfjdafkgkjidaaDoorHMkBox
namespace Go.Proofs.YtmfjdafkgkjidaaDoor.Mk
open Go.RowKit Go.Shelf Go.Lib

attribute [local go_sem] Oper.semAt_some

theorem belowA {w X : World} (h : Below w.heap.size w X) (o : Obj) : Below w.heap.size w (X.alloc o) := h.alloc h.size o
theorem belowT {w X Y : World} (h : Below w.heap.size w X) (k : Below X.heap.size X Y) : Below w.heap.size w Y := h.trans (k.mono h.size)
theorem lt_alloc (w : World) (o : Obj) : w.heap.size < (w.alloc o).heap.size := by simp
theorem lt_allocD (w : World) (o : Obj) : w.heap.size < (w.drew.alloc o).heap.size := by simp
theorem bcellN {W w1 : World} (hb : Below W.heap.size W w1) : (∀ b o, b < W.heap.size → w1.cell? ⟨b, o, none⟩ = W.cell? ⟨b, o, none⟩) ∧ (∀ b o, b < W.heap.size → w1.frozen? ⟨b, o, none⟩ = W.frozen? ⟨b, o, none⟩) :=
  ⟨fun b o h => hb.cell (p := ⟨b, o, none⟩) h, fun b o h => hb.frozen (p := ⟨b, o, none⟩) h⟩

/-- What is told of a path. -/
def atV (es : List E) (A : ByteArray → Nat) (s : ByteArray) : Value × Bool :=
  if isRoot s = true then (layV A, true) else match lookE es s with
  | some e => (nodeV e.d e.x (A s), true)
  | none => (zeroN, false)
theorem atV_root {es : List E} {A : ByteArray → Nat} {s : ByteArray} (h : isRoot s = true) : atV es A s = (layV A, true) := by unfold atV; rw [if_pos h]
theorem atV_some {es : List E} {A : ByteArray → Nat} {s : ByteArray} {e : E} (T : TrM es) (h : lookE es s = some e) : atV es A s = (nodeV e.d e.x (A s), true) := by
  unfold atV
  rw [if_neg (by rw [path_not_root (look_path T h)]; decide), h]
theorem atV_none {es : List E} {A : ByteArray → Nat} {s : ByteArray} (h : isRoot s = false) (h2 : lookE es s = none) : atV es A s = (zeroN, false) := by
  unfold atV
  rw [if_neg (by rw [h]; decide), h2]
theorem atV_there {es : List E} {A : ByteArray → Nat} {s : ByteArray} (T : TrM es) (h : AtM es s) : ∃ t u, atV es A s = (.agg #[.iface t u, .map (some (A s))], true) := by
  rcases h with rfl | ⟨e, h⟩
  · exact ⟨_, _, atV_root ((isRoot_iff _).2 rfl)⟩
  · obtain ⟨t, u, hs⟩ := sign_is e.d e.x
    exact ⟨t, u, by rw [atV_some T h]; unfold nodeV; rw [hs]⟩
theorem atV_not {es : List E} {A : ByteArray → Nat} {s : ByteArray} (h : ¬ AtM es s) : atV es A s = (zeroN, false) := by
  refine atV_none ?_ ?_
  · cases hr : isRoot s with
    | false => rfl
    | true => exact absurd (.inl ((isRoot_iff _).1 hr)) h
  · cases hl : lookE es s with
    | none => rfl
    | some e => exact absurd (.inr ⟨e, hl⟩) h
theorem name_max {s : ByteArray} (hp : pathB s = true) : (nmS s).size ≤ maxLen := by
  have := (up_facts hp).2.2.1
  unfold nameB at this
  rw [Bool.and_eq_true] at this
  have := (of_decide_eq_true this.1).2
  unfold maxLen; omega
theorem kid_at {es : List E} {A : ByteArray → Nat} {s : ByteArray} (hp : pathB s = true) : kidF es A (upS s) (nmS s) = (lookE es s).map (fun e => nodeV e.d e.x (A s)) := by
  unfold kidF
  rw [if_pos (up_facts hp).2.2.1, up_join hp]

set_option maxHeartbeats 2000000 in
set_option maxRecDepth 100000 in
theorem at_any (base N : Nat) (es : List E) (A : ByteArray → Nat) (T : TrM es) : ∀ (n : Nat) (w : World) (_ : Rep w base N es A) (s : ByteArray) (_ : s.size < n) (_ : s.size ≤ 16777216),
    Calls Tryd.prog 76 #[layV A, .string s] w fun e w' => e = .returned (.tuple #[(atV es A s).1, .bool (atV es A s).2]) ∧ Below w.heap.size w w'
  | 0, _, _, _, hn, _ => by omega
  | n + 1, w, R, s, hn, hs => by
    cases hr : (s.toList == [47]) with
    | true =>
      rw [atV_root hr]
      go_enter Tryd.func76, Tryd.ntmps76
      go_wp2
      exact bodyPost_ret (v := .tuple #[layV A, .bool true]) (by simp [results, Tryd.results76, go_sem]) rfl ⟨rfl, ((Below.refl _ w).alloc (Nat.le_refl _) _).alloc (by simp) _⟩
    | false =>
      have B1 := ((Box2.new w (.iface 123 (.agg #[])) (.map (some (A ⟨#[47]⟩))) 89).on (.cells #[.nilIface, .map none] 87))
      have B2 := Box2.new (w.alloc (.cells #[.iface 123 (.agg #[]), .map (some (A ⟨#[47]⟩))] 89)) .nilIface (.map none) 87
      simp only [World.size_alloc] at B2
      cases hp : pathB s with
      | false =>
        rw [atV_none hr (look_bad T hp)]
        go_enter Tryd.func76, Tryd.ntmps76
        have HO := hid (fun W => hp ▸ pOk_any s hs W)
        go_wp2_with (go_at_call 52; refine (HO.out _).mono ?_; rintro e w1 ⟨rfl, hB1⟩; obtain ⟨c0, c1, f0, f1⟩ := B2.below hB1)
        have hBw : Below w.heap.size w w1 := (((Below.refl _ w).alloc (Nat.le_refl _) _).alloc (by simp) _).trans (hB1.mono (by simp; omega))
        refine atSet2 (C := bodyPost Tryd.prog Tryd.f76 _ _ _) (B2.below hB1) hBw (Nat.le_succ _) ?_
        intro Wf s0 hBf _ _
        exact bodyPost_ret (v := .tuple #[zeroN, .bool false]) (by simp [results, Tryd.results76, go_sem, s0.c0, s0.c1]) rfl ⟨rfl, hBf⟩
      | true =>
        have HO := hid (fun W => hp ▸ pOk_any s hs W)
        have HU := hid (fun W => iPathUp_any s hs W)
        have HN := hid (fun W => iPathName_any s hs W)
        have hlt := up_lt hp
        have HAt := hid (fun (W : World) (hW : Rep W base N es A) => at_any base N es A T n W hW (upS s) (by omega) (by omega))
        have HV0 : Hid (isRoot s = false) := hr
        have HL : Hid (∀ W', Rep W' base N es A → AtM es (upS s) → (Instr.lookup 85 (.map (some (A (upS s)))) (.string (nmS s)) true).run Tryd.prog W' = .ok (.tuple #[((lookE es s).map (fun e => nodeV e.d e.x (A s))).getD zeroN, .bool ((lookE es s).map (fun e => nodeV e.d e.x (A s))).isSome]) W') := fun W' hW hA => by
          have := (hW.kids _ hA).look (name_max hp)
          rwa [kid_at hp] at this
        have HP := hid hp
        go_enter Tryd.func76, Tryd.ntmps76
        go_wp2_with fail
        refine (HO.out _).mono ?_
        rintro e w1 ⟨rfl, hB1⟩
        have B1' := B1.below hB1
        have HB2 := hid (B2.below hB1)
        have hBw : Below w.heap.size w w1 := (((Below.refl _ w).alloc (Nat.le_refl _) _).alloc (by simp) _).trans (hB1.mono (by simp; omega))
        have AS : Hid (∀ W', Below w1.heap.size w1 W' → (W'.cell? ⟨w.heap.size, 0, none⟩ = some (.iface 123 (.agg #[])) ∧ W'.cell? ⟨w.heap.size, 1, none⟩ = some (.map (some (A ⟨#[47]⟩))))) := fun W' hW => ⟨(B1'.below hW).c0, (B1'.below hW).c1⟩
        have AR : Hid (∀ W', Below w1.heap.size w1 W' → Rep W' base N es A) := fun W' hW => (R.below hBw).below hW
        have HRB : Hid (∀ W', Below w1.heap.size w1 W' → Box2 W' (w.heap.size + 1) .nilIface (.map none)) := fun W' hW => HB2.out.below hW
        obtain ⟨c0, c1, f0, f1⟩ := B1'
        clear B1 B2 hB1 hlt hp
        by_cases hA : AtM es (upS s)
        · obtain ⟨t, u, hv⟩ := atV_there (A := A) T hA
          rw [hv] at HAt
          cases hlk : lookE es s with
          | none =>
            have HV : Hid (atV es A s = (zeroN, false)) := atV_none HV0.out hlk
            have AL : Hid (∀ W', Below w1.heap.size w1 W' → (Instr.lookup 85 (.map (some (A (upS s)))) (.string (nmS s)) true).run Tryd.prog W' = .ok (.tuple #[zeroN, .bool false]) W') := fun W' hW => by
              have := HL.out W' (AR.out W' hW) hA
              rwa [hlk] at this
            clear hlk hv hA HL
            go_wp2_with fail
            rename_i Qx Kx hKx
            have HK : Hid (∀ (b : Nat) (W : World), Below w1.heap.size w1 W → Box2 W b (.iface t u) (.map (some (A (upS s)))) → Kx { tmps := #[layV A, .string s, .pointer (some ⟨w.heap.size, 0, none⟩), undef, .pointer (some ⟨w.heap.size + 1, 0, none⟩), .bool false, .pointer (some ⟨b, 0, none⟩), .bool true, undef, undef, .string s, .bool false, undef, undef, .string s, .bool true, .bool false, undef, .tuple #[.agg #[.iface t u, .map (some (A (upS s)))], .bool true], .agg #[.iface 123 (.agg #[]), .map (some (A ⟨#[47]⟩))], .string s, .string (upS s), .tuple #[.agg #[.iface t u, .map (some (A (upS s)))], .bool true], .agg #[.iface t u, .map (some (A (upS s)))], .bool true, undef, undef, undef, undef, undef, undef, undef, undef, undef, undef], defers := [] } W) := by
              intro b W hBW hbx
              refine hKx _ _ ?_
              clear hKx
              have AS2 : Hid (∀ W', Below W.heap.size W W' → (W'.cell? ⟨b, 1, none⟩ = some (.map (some (A (upS s)))))) := fun W' hW => (hbx.below hW).c1
              have AL2 : Hid (∀ W', Below W.heap.size W W' → (Instr.lookup 85 (.map (some (A (upS s)))) (.string (nmS s)) true).run Tryd.prog W' = .ok (.tuple #[.agg #[.nilIface, .map (none)], .bool false]) W') := fun W' hW => AL.out W' (belowT hBW hW)
              have HRes := hid ((HRB.out _ hBW))
              have HBW := hid (belowT hBw hBW)
              obtain ⟨x0, x1, x2, x3⟩ := hbx
              go_wp2_with fail
              rename_i K2 hK2
              have HK2 : Hid (∀ (b2 : Nat) (W2 : World), Below W.heap.size W W2 → Box2 W2 b2 (.nilIface) (.map (none)) → K2 { tmps := #[layV A, .string s, .pointer (some ⟨w.heap.size, 0, none⟩), undef, .pointer (some ⟨w.heap.size + 1, 0, none⟩), .bool false, .pointer (some ⟨b, 0, none⟩), .bool true, .pointer (some ⟨b2, 0, none⟩), .bool false, .string s, .bool false, undef, undef, .string s, .bool true, .bool false, undef, .tuple #[.agg #[.iface t u, .map (some (A (upS s)))], .bool true], .agg #[.iface 123 (.agg #[]), .map (some (A ⟨#[47]⟩))], .string s, .string (upS s), .tuple #[.agg #[.iface t u, .map (some (A (upS s)))], .bool true], .agg #[.iface t u, .map (some (A (upS s)))], .bool true, .tuple #[.agg #[.nilIface, .map (none)], .bool false], .pointer (some ⟨b, 1, none⟩), .map (some (A (upS s))), .string s, .string (nmS s), .tuple #[.agg #[.nilIface, .map (none)], .bool false], .agg #[.nilIface, .map (none)], .bool false, undef, undef], defers := [] } W2) := by
                intro b2 W2 hBW2 hb2
                refine hK2 _ _ ?_
                have hr2 := HRes.out.below hBW2
                have hBr := belowT HBW.out hBW2
                obtain ⟨q0, q1, q2, q3⟩ := hb2
                obtain ⟨r0, r1, r2, r3⟩ := hr2
                go_wp2
                refine atSet2 (C := bodyPost Tryd.prog Tryd.f76 _ _ _) ⟨r0, r1, r2, r3⟩ hBr (Nat.le_succ _) ?_
                intro Wf s0 hBf _ _
                refine bodyPost_ret (v := .tuple #[.agg #[.nilIface, .map (none)], .bool false]) (by simp [results, Tryd.results76, go_sem, s0.c0, s0.c1]) rfl ⟨?_, hBf⟩
                rw [HV.out]
              clear hK2
              go_region_held3 (fun W' => W'.cell? ⟨b, 1, none⟩ = some (.map (some (A (upS s)))))
                ((refine AS2.out _ ?_; repeat (first | exact Below.refl _ _ | apply belowA | refine belowT ?_ hB5 | apply Below.drew | refine set2_below ?_ (by first | exact Nat.le_refl _ | (have h5 := hB5.size; simp at h5 ⊢; omega)) _ _)))
                (first | (go_at_call 71; refine (HN.out _).mono ?_; rintro e w5 ⟨rfl, hB5⟩; have l5 := hB5.size; (try simp at l5); (obtain ⟨bc5, bf5⟩ := bcellN hB5); (try (have z0 := bc5 W.heap.size 0 (lt_allocD _ _); have z1 := bc5 W.heap.size 1 (lt_allocD _ _); have z2 := bf5 W.heap.size 0 (lt_allocD _ _); have z3 := bf5 W.heap.size 1 (lt_allocD _ _); simp at z0 z1 z2 z3)); clear bc5 bf5; have hl5 := AL2.out w5 (by repeat (first | exact Below.refl _ _ | apply belowA | refine belowT ?_ hB5 | apply Below.drew | refine set2_below ?_ (by first | exact Nat.le_refl _ | (have h5 := hB5.size; simp at h5 ⊢; omega)) _ _)); have hl6 := AL2.out (w5.alloc (.cells #[.nilIface, .map none] 87)) (by repeat (first | exact Below.refl _ _ | apply belowA | refine belowT ?_ hB5 | apply Below.drew | refine set2_below ?_ (by first | exact Nat.le_refl _ | (have h5 := hB5.size; simp at h5 ⊢; omega)) _ _))))
              all_goals refine HK2.out _ _ (by repeat (first | exact Below.refl _ _ | apply belowA | refine belowT ?_ hB5 | apply Below.drew | refine set2_below ?_ (by first | exact Nat.le_refl _ | (have h5 := hB5.size; simp at h5 ⊢; omega)) _ _)) ?_
              all_goals first | exact Box2.set ⟨z0, z1, z2, z3⟩ _ _ | exact Box2.set (Box2.new _ _ _ _) _ _ | exact Box2.new _ _ _ _
            clear hKx
            go_region_held3 (fun W' => W'.cell? ⟨w.heap.size, 0, none⟩ = some (.iface 123 (.agg #[])) ∧ W'.cell? ⟨w.heap.size, 1, none⟩ = some (.map (some (A ⟨#[47]⟩))))
              ((refine AS.out _ ?_; repeat (first | exact Below.refl _ _ | apply belowA | refine belowT ?_ hB4 | refine belowT ?_ hB3 | apply Below.drew | refine set2_below ?_ (by first | exact Nat.le_refl _ | (have h3 := hB3.size; have h4 := hB4.size; simp at h3 h4 ⊢; omega)) _ _)))
              (first | (go_at_call 70; refine (HU.out _).mono ?_; rintro e w3 ⟨rfl, hB3⟩; obtain ⟨bc3, bf3⟩ := bcellN hB3; have l3 := hB3.size; (try simp at l3); (try (have z0 := bc3 w1.heap.size 0 (lt_allocD _ _); have z1 := bc3 w1.heap.size 1 (lt_allocD _ _); have z2 := bf3 w1.heap.size 0 (lt_allocD _ _); have z3 := bf3 w1.heap.size 1 (lt_allocD _ _); simp at z0 z1 z2 z3)); clear bc3 bf3) | (go_at_call 76; refine (HAt.out _ (AR.out _ (by repeat (first | exact Below.refl _ _ | apply belowA | refine belowT ?_ hB3 | apply Below.drew)))).mono ?_; rintro e w4 ⟨rfl, hB4⟩; obtain ⟨bc4, bf4⟩ := bcellN hB4; have l4 := hB4.size; (try simp at l4); (try (have z0 := bc4 w3.heap.size 0 (lt_alloc _ _); have z1 := bc4 w3.heap.size 1 (lt_alloc _ _); have z2 := bf4 w3.heap.size 0 (lt_alloc _ _); have z3 := bf4 w3.heap.size 1 (lt_alloc _ _); simp at z0 z1 z2 z3)); (try (have v0 := (bc4 w1.heap.size 0 l3).trans z0; have v1 := (bc4 w1.heap.size 1 l3).trans z1; have v2 := (bf4 w1.heap.size 0 l3).trans z2; have v3 := (bf4 w1.heap.size 1 l3).trans z3)); clear bc4 bf4))
            all_goals refine HK.out _ _ (by repeat (first | exact Below.refl _ _ | apply belowA | refine belowT ?_ hB4 | refine belowT ?_ hB3 | apply Below.drew | refine set2_below ?_ (by first | exact Nat.le_refl _ | (have h3 := hB3.size; have h4 := hB4.size; simp at h3 h4 ⊢; omega)) _ _)) ?_
            all_goals first | exact Box2.set ⟨v0, v1, v2, v3⟩ _ _ | exact Box2.set ⟨z0, z1, z2, z3⟩ _ _ | exact Box2.new _ _ _ _
          | some e =>
            obtain ⟨t2, u2, hs2⟩ := sign_is e.d e.x
            have HV : Hid (atV es A s = (.agg #[.iface t2 u2, .map (some (A s))], true)) := by
              show _ = _
              rw [atV_some T hlk]; unfold nodeV; rw [hs2]
            have AL : Hid (∀ W', Below w1.heap.size w1 W' → (Instr.lookup 85 (.map (some (A (upS s)))) (.string (nmS s)) true).run Tryd.prog W' = .ok (.tuple #[.agg #[.iface t2 u2, .map (some (A s))], .bool true]) W') := fun W' hW => by
              have := HL.out W' (AR.out W' hW) hA
              rw [hlk] at this
              rw [this]
              show _ = Result.ok (Value.tuple #[Value.agg #[.iface t2 u2, .map (some (A s))], .bool true]) W'
              rw [← hs2]; rfl
            clear hlk hv hA HL hs2
            go_wp2_with fail
            rename_i Qx Kx hKx
            have HK : Hid (∀ (b : Nat) (W : World), Below w1.heap.size w1 W → Box2 W b (.iface t u) (.map (some (A (upS s)))) → Kx { tmps := #[layV A, .string s, .pointer (some ⟨w.heap.size, 0, none⟩), undef, .pointer (some ⟨w.heap.size + 1, 0, none⟩), .bool false, .pointer (some ⟨b, 0, none⟩), .bool true, undef, undef, .string s, .bool false, undef, undef, .string s, .bool true, .bool false, undef, .tuple #[.agg #[.iface t u, .map (some (A (upS s)))], .bool true], .agg #[.iface 123 (.agg #[]), .map (some (A ⟨#[47]⟩))], .string s, .string (upS s), .tuple #[.agg #[.iface t u, .map (some (A (upS s)))], .bool true], .agg #[.iface t u, .map (some (A (upS s)))], .bool true, undef, undef, undef, undef, undef, undef, undef, undef, undef, undef], defers := [] } W) := by
              intro b W hBW hbx
              refine hKx _ _ ?_
              clear hKx
              have AS2 : Hid (∀ W', Below W.heap.size W W' → (W'.cell? ⟨b, 1, none⟩ = some (.map (some (A (upS s)))))) := fun W' hW => (hbx.below hW).c1
              have AL2 : Hid (∀ W', Below W.heap.size W W' → (Instr.lookup 85 (.map (some (A (upS s)))) (.string (nmS s)) true).run Tryd.prog W' = .ok (.tuple #[.agg #[.iface t2 u2, .map (some (A s))], .bool true]) W') := fun W' hW => AL.out W' (belowT hBW hW)
              have HRes := hid ((HRB.out _ hBW))
              have HBW := hid (belowT hBw hBW)
              obtain ⟨x0, x1, x2, x3⟩ := hbx
              go_wp2_with fail
              rename_i K2 hK2
              have HK2 : Hid (∀ (b2 : Nat) (W2 : World), Below W.heap.size W W2 → Box2 W2 b2 (.iface t2 u2) (.map (some (A s))) → K2 { tmps := #[layV A, .string s, .pointer (some ⟨w.heap.size, 0, none⟩), undef, .pointer (some ⟨w.heap.size + 1, 0, none⟩), .bool false, .pointer (some ⟨b, 0, none⟩), .bool true, .pointer (some ⟨b2, 0, none⟩), .bool true, .string s, .bool false, undef, undef, .string s, .bool true, .bool false, undef, .tuple #[.agg #[.iface t u, .map (some (A (upS s)))], .bool true], .agg #[.iface 123 (.agg #[]), .map (some (A ⟨#[47]⟩))], .string s, .string (upS s), .tuple #[.agg #[.iface t u, .map (some (A (upS s)))], .bool true], .agg #[.iface t u, .map (some (A (upS s)))], .bool true, .tuple #[.agg #[.iface t2 u2, .map (some (A s))], .bool true], .pointer (some ⟨b, 1, none⟩), .map (some (A (upS s))), .string s, .string (nmS s), .tuple #[.agg #[.iface t2 u2, .map (some (A s))], .bool true], .agg #[.iface t2 u2, .map (some (A s))], .bool true, undef, undef], defers := [] } W2) := by
                intro b2 W2 hBW2 hb2
                refine hK2 _ _ ?_
                have hr2 := HRes.out.below hBW2
                have hBr := belowT HBW.out hBW2
                obtain ⟨q0, q1, q2, q3⟩ := hb2
                obtain ⟨r0, r1, r2, r3⟩ := hr2
                go_wp2
                refine atSet2 (C := bodyPost Tryd.prog Tryd.f76 _ _ _) ⟨r0, r1, r2, r3⟩ hBr (Nat.le_succ _) ?_
                intro Wf s0 hBf _ _
                refine bodyPost_ret (v := .tuple #[.agg #[.iface t2 u2, .map (some (A s))], .bool true]) (by simp [results, Tryd.results76, go_sem, s0.c0, s0.c1]) rfl ⟨?_, hBf⟩
                rw [HV.out]
              clear hK2
              go_region_held3 (fun W' => W'.cell? ⟨b, 1, none⟩ = some (.map (some (A (upS s)))))
                ((refine AS2.out _ ?_; repeat (first | exact Below.refl _ _ | apply belowA | refine belowT ?_ hB5 | apply Below.drew | refine set2_below ?_ (by first | exact Nat.le_refl _ | (have h5 := hB5.size; simp at h5 ⊢; omega)) _ _)))
                (first | (go_at_call 71; refine (HN.out _).mono ?_; rintro e w5 ⟨rfl, hB5⟩; have l5 := hB5.size; (try simp at l5); (obtain ⟨bc5, bf5⟩ := bcellN hB5); (try (have z0 := bc5 W.heap.size 0 (lt_allocD _ _); have z1 := bc5 W.heap.size 1 (lt_allocD _ _); have z2 := bf5 W.heap.size 0 (lt_allocD _ _); have z3 := bf5 W.heap.size 1 (lt_allocD _ _); simp at z0 z1 z2 z3)); clear bc5 bf5; have hl5 := AL2.out w5 (by repeat (first | exact Below.refl _ _ | apply belowA | refine belowT ?_ hB5 | apply Below.drew | refine set2_below ?_ (by first | exact Nat.le_refl _ | (have h5 := hB5.size; simp at h5 ⊢; omega)) _ _)); have hl6 := AL2.out (w5.alloc (.cells #[.nilIface, .map none] 87)) (by repeat (first | exact Below.refl _ _ | apply belowA | refine belowT ?_ hB5 | apply Below.drew | refine set2_below ?_ (by first | exact Nat.le_refl _ | (have h5 := hB5.size; simp at h5 ⊢; omega)) _ _))))
              all_goals refine HK2.out _ _ (by repeat (first | exact Below.refl _ _ | apply belowA | refine belowT ?_ hB5 | apply Below.drew | refine set2_below ?_ (by first | exact Nat.le_refl _ | (have h5 := hB5.size; simp at h5 ⊢; omega)) _ _)) ?_
              all_goals first | exact Box2.set ⟨z0, z1, z2, z3⟩ _ _ | exact Box2.set (Box2.new _ _ _ _) _ _ | exact Box2.new _ _ _ _
            clear hKx
            go_region_held3 (fun W' => W'.cell? ⟨w.heap.size, 0, none⟩ = some (.iface 123 (.agg #[])) ∧ W'.cell? ⟨w.heap.size, 1, none⟩ = some (.map (some (A ⟨#[47]⟩))))
              ((refine AS.out _ ?_; repeat (first | exact Below.refl _ _ | apply belowA | refine belowT ?_ hB4 | refine belowT ?_ hB3 | apply Below.drew | refine set2_below ?_ (by first | exact Nat.le_refl _ | (have h3 := hB3.size; have h4 := hB4.size; simp at h3 h4 ⊢; omega)) _ _)))
              (first | (go_at_call 70; refine (HU.out _).mono ?_; rintro e w3 ⟨rfl, hB3⟩; obtain ⟨bc3, bf3⟩ := bcellN hB3; have l3 := hB3.size; (try simp at l3); (try (have z0 := bc3 w1.heap.size 0 (lt_allocD _ _); have z1 := bc3 w1.heap.size 1 (lt_allocD _ _); have z2 := bf3 w1.heap.size 0 (lt_allocD _ _); have z3 := bf3 w1.heap.size 1 (lt_allocD _ _); simp at z0 z1 z2 z3)); clear bc3 bf3) | (go_at_call 76; refine (HAt.out _ (AR.out _ (by repeat (first | exact Below.refl _ _ | apply belowA | refine belowT ?_ hB3 | apply Below.drew)))).mono ?_; rintro e w4 ⟨rfl, hB4⟩; obtain ⟨bc4, bf4⟩ := bcellN hB4; have l4 := hB4.size; (try simp at l4); (try (have z0 := bc4 w3.heap.size 0 (lt_alloc _ _); have z1 := bc4 w3.heap.size 1 (lt_alloc _ _); have z2 := bf4 w3.heap.size 0 (lt_alloc _ _); have z3 := bf4 w3.heap.size 1 (lt_alloc _ _); simp at z0 z1 z2 z3)); (try (have v0 := (bc4 w1.heap.size 0 l3).trans z0; have v1 := (bc4 w1.heap.size 1 l3).trans z1; have v2 := (bf4 w1.heap.size 0 l3).trans z2; have v3 := (bf4 w1.heap.size 1 l3).trans z3)); clear bc4 bf4))
            all_goals refine HK.out _ _ (by repeat (first | exact Below.refl _ _ | apply belowA | refine belowT ?_ hB4 | refine belowT ?_ hB3 | apply Below.drew | refine set2_below ?_ (by first | exact Nat.le_refl _ | (have h3 := hB3.size; have h4 := hB4.size; simp at h3 h4 ⊢; omega)) _ _)) ?_
            all_goals first | exact Box2.set ⟨v0, v1, v2, v3⟩ _ _ | exact Box2.set ⟨z0, z1, z2, z3⟩ _ _ | exact Box2.new _ _ _ _
        · have hv := atV_not (A := A) hA
          rw [hv] at HAt
          have HV : Hid (atV es A s = (zeroN, false)) := atV_none HV0.out (look_up T (by
            cases hl : lookE es (upS s) with
            | none => rfl
            | some e => exact absurd (.inr ⟨e, hl⟩) hA) (fun q => hA (.inl q)))
          have AL : Hid (∀ W', Below w1.heap.size w1 W' → (Instr.lookup 85 (.map none) (.string (nmS s)) true).run Tryd.prog W' = .ok (.tuple #[zeroN, .bool false]) W') := fun W' _ => look_no W' (name_max HP.out)
          clear hv hA HL
          go_wp2_with fail
          rename_i Qx Kx hKx
          have HK : Hid (∀ (b : Nat) (W : World), Below w1.heap.size w1 W → Box2 W b (.nilIface) (.map (none)) → Kx { tmps := #[layV A, .string s, .pointer (some ⟨w.heap.size, 0, none⟩), undef, .pointer (some ⟨w.heap.size + 1, 0, none⟩), .bool false, .pointer (some ⟨b, 0, none⟩), .bool false, undef, undef, .string s, .bool false, undef, undef, .string s, .bool true, .bool false, undef, .tuple #[.agg #[.nilIface, .map (none)], .bool false], .agg #[.iface 123 (.agg #[]), .map (some (A ⟨#[47]⟩))], .string s, .string (upS s), .tuple #[.agg #[.nilIface, .map (none)], .bool false], .agg #[.nilIface, .map (none)], .bool false, undef, undef, undef, undef, undef, undef, undef, undef, undef, undef], defers := [] } W) := by
            intro b W hBW hbx
            refine hKx _ _ ?_
            clear hKx
            have AS2 : Hid (∀ W', Below W.heap.size W W' → (W'.cell? ⟨b, 1, none⟩ = some (.map (none)))) := fun W' hW => (hbx.below hW).c1
            have AL2 : Hid (∀ W', Below W.heap.size W W' → (Instr.lookup 85 (.map (none)) (.string (nmS s)) true).run Tryd.prog W' = .ok (.tuple #[.agg #[.nilIface, .map (none)], .bool false]) W') := fun W' hW => AL.out W' (belowT hBW hW)
            have HRes := hid ((HRB.out _ hBW))
            have HBW := hid (belowT hBw hBW)
            obtain ⟨x0, x1, x2, x3⟩ := hbx
            go_wp2_with fail
            rename_i K2 hK2
            have HK2 : Hid (∀ (b2 : Nat) (W2 : World), Below W.heap.size W W2 → Box2 W2 b2 (.nilIface) (.map (none)) → K2 { tmps := #[layV A, .string s, .pointer (some ⟨w.heap.size, 0, none⟩), undef, .pointer (some ⟨w.heap.size + 1, 0, none⟩), .bool false, .pointer (some ⟨b, 0, none⟩), .bool false, .pointer (some ⟨b2, 0, none⟩), .bool false, .string s, .bool false, undef, undef, .string s, .bool true, .bool false, undef, .tuple #[.agg #[.nilIface, .map (none)], .bool false], .agg #[.iface 123 (.agg #[]), .map (some (A ⟨#[47]⟩))], .string s, .string (upS s), .tuple #[.agg #[.nilIface, .map (none)], .bool false], .agg #[.nilIface, .map (none)], .bool false, .tuple #[.agg #[.nilIface, .map (none)], .bool false], .pointer (some ⟨b, 1, none⟩), .map (none), .string s, .string (nmS s), .tuple #[.agg #[.nilIface, .map (none)], .bool false], .agg #[.nilIface, .map (none)], .bool false, undef, undef], defers := [] } W2) := by
              intro b2 W2 hBW2 hb2
              refine hK2 _ _ ?_
              have hr2 := HRes.out.below hBW2
              have hBr := belowT HBW.out hBW2
              obtain ⟨q0, q1, q2, q3⟩ := hb2
              obtain ⟨r0, r1, r2, r3⟩ := hr2
              go_wp2
              refine atSet2 (C := bodyPost Tryd.prog Tryd.f76 _ _ _) ⟨r0, r1, r2, r3⟩ hBr (Nat.le_succ _) ?_
              intro Wf s0 hBf _ _
              refine bodyPost_ret (v := .tuple #[.agg #[.nilIface, .map (none)], .bool false]) (by simp [results, Tryd.results76, go_sem, s0.c0, s0.c1]) rfl ⟨?_, hBf⟩
              rw [HV.out]
            clear hK2
            go_region_held3 (fun W' => W'.cell? ⟨b, 1, none⟩ = some (.map (none)))
              ((refine AS2.out _ ?_; repeat (first | exact Below.refl _ _ | apply belowA | refine belowT ?_ hB5 | apply Below.drew | refine set2_below ?_ (by first | exact Nat.le_refl _ | (have h5 := hB5.size; simp at h5 ⊢; omega)) _ _)))
              (first | (go_at_call 71; refine (HN.out _).mono ?_; rintro e w5 ⟨rfl, hB5⟩; have l5 := hB5.size; (try simp at l5); (obtain ⟨bc5, bf5⟩ := bcellN hB5); (try (have z0 := bc5 W.heap.size 0 (lt_allocD _ _); have z1 := bc5 W.heap.size 1 (lt_allocD _ _); have z2 := bf5 W.heap.size 0 (lt_allocD _ _); have z3 := bf5 W.heap.size 1 (lt_allocD _ _); simp at z0 z1 z2 z3)); clear bc5 bf5; have hl5 := AL2.out w5 (by repeat (first | exact Below.refl _ _ | apply belowA | refine belowT ?_ hB5 | apply Below.drew | refine set2_below ?_ (by first | exact Nat.le_refl _ | (have h5 := hB5.size; simp at h5 ⊢; omega)) _ _)); have hl6 := AL2.out (w5.alloc (.cells #[.nilIface, .map none] 87)) (by repeat (first | exact Below.refl _ _ | apply belowA | refine belowT ?_ hB5 | apply Below.drew | refine set2_below ?_ (by first | exact Nat.le_refl _ | (have h5 := hB5.size; simp at h5 ⊢; omega)) _ _))))
            all_goals refine HK2.out _ _ (by repeat (first | exact Below.refl _ _ | apply belowA | refine belowT ?_ hB5 | apply Below.drew | refine set2_below ?_ (by first | exact Nat.le_refl _ | (have h5 := hB5.size; simp at h5 ⊢; omega)) _ _)) ?_
            all_goals first | exact Box2.set ⟨z0, z1, z2, z3⟩ _ _ | exact Box2.set (Box2.new _ _ _ _) _ _ | exact Box2.new _ _ _ _
          clear hKx
          go_region_held3 (fun W' => W'.cell? ⟨w.heap.size, 0, none⟩ = some (.iface 123 (.agg #[])) ∧ W'.cell? ⟨w.heap.size, 1, none⟩ = some (.map (some (A ⟨#[47]⟩))))
            ((refine AS.out _ ?_; repeat (first | exact Below.refl _ _ | apply belowA | refine belowT ?_ hB4 | refine belowT ?_ hB3 | apply Below.drew | refine set2_below ?_ (by first | exact Nat.le_refl _ | (have h3 := hB3.size; have h4 := hB4.size; simp at h3 h4 ⊢; omega)) _ _)))
            (first | (go_at_call 70; refine (HU.out _).mono ?_; rintro e w3 ⟨rfl, hB3⟩; obtain ⟨bc3, bf3⟩ := bcellN hB3; have l3 := hB3.size; (try simp at l3); (try (have z0 := bc3 w1.heap.size 0 (lt_allocD _ _); have z1 := bc3 w1.heap.size 1 (lt_allocD _ _); have z2 := bf3 w1.heap.size 0 (lt_allocD _ _); have z3 := bf3 w1.heap.size 1 (lt_allocD _ _); simp at z0 z1 z2 z3)); clear bc3 bf3) | (go_at_call 76; refine (HAt.out _ (AR.out _ (by repeat (first | exact Below.refl _ _ | apply belowA | refine belowT ?_ hB3 | apply Below.drew)))).mono ?_; rintro e w4 ⟨rfl, hB4⟩; obtain ⟨bc4, bf4⟩ := bcellN hB4; have l4 := hB4.size; (try simp at l4); (try (have z0 := bc4 w3.heap.size 0 (lt_alloc _ _); have z1 := bc4 w3.heap.size 1 (lt_alloc _ _); have z2 := bf4 w3.heap.size 0 (lt_alloc _ _); have z3 := bf4 w3.heap.size 1 (lt_alloc _ _); simp at z0 z1 z2 z3)); (try (have v0 := (bc4 w1.heap.size 0 l3).trans z0; have v1 := (bc4 w1.heap.size 1 l3).trans z1; have v2 := (bf4 w1.heap.size 0 l3).trans z2; have v3 := (bf4 w1.heap.size 1 l3).trans z3)); clear bc4 bf4))
          all_goals refine HK.out _ _ (by repeat (first | exact Below.refl _ _ | apply belowA | refine belowT ?_ hB4 | refine belowT ?_ hB3 | apply Below.drew | refine set2_below ?_ (by first | exact Nat.le_refl _ | (have h3 := hB3.size; have h4 := hB4.size; simp at h3 h4 ⊢; omega)) _ _)) ?_
          all_goals first | exact Box2.set ⟨v0, v1, v2, v3⟩ _ _ | exact Box2.set ⟨z0, z1, z2, z3⟩ _ _ | exact Box2.new _ _ _ _
end Go.Proofs.YtmfjdafkgkjidaaDoor.Mk
