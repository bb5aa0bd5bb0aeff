import Derived.Deep.RegionHeld3
import Derived.Test.YteppodogghjfhaaGreatDoorHPk02
import Derived.Test.YteppodogghjfhaaGreatDoorHPk07
import Derived.Test.YteppodogghjfhaaGreatDoorHPk01
import Derived.Test.YteppodogghjfhaaGreatDoorHPk06
import Derived.Test.YteppodogghjfhaaGreatDoorHPk05
import Derived.Test.YteppodogghjfhaaGreatDoorHPk09
namespace Go.Proofs.YteppodogghjfhaaGreatDoor.Mk
open Go.RowKit Go.Shelf Go.Lib
attribute [local go_sem] Oper.semAt_some
theorem belowA {w X : World} (h : Below w.heap.size w X) (o : Obj) : Below w.heap.size w (X.alloc o) := h.alloc h.size o
theorem belowT {w X Y : World} (h : Below w.heap.size w X) (k : Below X.heap.size X Y) : Below w.heap.size w Y := h.trans (k.mono h.size)
theorem lt_alloc (w : World) (o : Obj) : w.heap.size < (w.alloc o).heap.size := by simp
theorem lt_allocD (w : World) (o : Obj) : w.heap.size < (w.drew.alloc o).heap.size := by simp
theorem bcellN {W w1 : World} (hb : Below W.heap.size W w1) : (∀ b o, b < W.heap.size → w1.cell? ⟨b, o, none⟩ = W.cell? ⟨b, o, none⟩) ∧ (∀ b o, b < W.heap.size → w1.frozen? ⟨b, o, none⟩ = W.frozen? ⟨b, o, none⟩) :=
 ⟨fun b o h => hb.cell (p := ⟨b, o, none⟩) h, fun b o h => hb.frozen (p := ⟨b, o, none⟩) h⟩
def atV (es : List E) (A : ByteArray → Nat) (s : ByteArray) : Value × Bool :=
 if isRoot s = true then (layV A, true) else match lookE es s with
 | some e => (nodeV e.d e.x (A s), true)
 | none => (zeroN, false)
theorem atV_root {es : List E} {A : ByteArray → Nat} {s : ByteArray} (h : isRoot s = true) : atV es A s = (layV A, true) := by unfold atV; rw [if_pos h]
theorem atV_some {es : List E} {A : ByteArray → Nat} {s : ByteArray} {e : E} (T : TrM es) (h : lookE es s = some e) : atV es A s = (nodeV e.d e.x (A s), true) := by
 unfold atV; rw [if_neg (by rw [path_not_root (look_path T h)]; decide), h]
theorem atV_none {es : List E} {A : ByteArray → Nat} {s : ByteArray} (h : isRoot s = false) (h2 : lookE es s = none) : atV es A s = (zeroN, false) := by
 unfold atV; rw [if_neg (by rw [h]; decide), h2]
theorem atV_there {es : List E} {A : ByteArray → Nat} {s : ByteArray} (T : TrM es) (h : AtM es s) : ∃ t u, atV es A s = (.agg #[.iface t u, .map (some (A s))], true) := by
 rcases h with rfl | ⟨e, h⟩
 ·
  exact ⟨_, _, atV_root ((isRoot_iff _).2 rfl)⟩
 ·
  obtain ⟨t, u, hs⟩ := sign_is e.d e.x; exact ⟨t, u, by rw [atV_some T h]; unfold nodeV; rw [hs]⟩
theorem atV_not {es : List E} {A : ByteArray → Nat} {s : ByteArray} (h : ¬ AtM es s) : atV es A s = (zeroN, false) := by
 refine atV_none ?_ ?_
 ·
  cases hr : isRoot s with
  | false => rfl
  | true => exact absurd (.inl ((isRoot_iff _).1 hr)) h
 ·
  cases hl : lookE es s with
  | none => rfl
  | some e => exact absurd (.inr ⟨e, hl⟩) h
theorem name_max {s : ByteArray} (hp : pathB s = true) : (nmS s).size ≤ maxLen := by
 have := (up_facts hp).2.2.1; unfold nameB at this; rw [Bool.and_eq_true] at this; have := (of_decide_eq_true this.1).2; unfold maxLen; omega
theorem kid_at {es : List E} {A : ByteArray → Nat} {s : ByteArray} (hp : pathB s = true) : kidF es A (upS s) (nmS s) = (lookE es s).map (fun e => nodeV e.d e.x (A s)) := by
 unfold kidF; rw [if_pos (up_facts hp).2.2.1, up_join hp]
set_option maxHeartbeats 2000000 in
set_option maxRecDepth 100000 in
theorem at_any (base N : Nat) (es : List E) (A : ByteArray → Nat) (T : TrM es) : ∀ (n : Nat) (w : World) (_ : Rep w base N es A) (s : ByteArray) (_ : s.size < n) (_ : s.size ≤ 16777216),
  Calls Tryz.prog 155 #[layV A, .string s] w fun e w' => e = .returned (.tuple #[(atV es A s).1, .bool (atV es A s).2]) ∧ Below w.heap.size w w'
 | 0, _, _, _, hn, _ => by omega
 | n + 1, w, R, s, hn, hs => by
  cases hr : (s.toList == [47]) with
  | true =>
   rw [atV_root hr]; go_enter Tryz.func155, Tryz.ntmps155
   go_wp2
   exact bodyPost_ret (v := .tuple #[layV A, .bool true]) (by simp [results, Tryz.results155, go_sem]) rfl ⟨rfl, ((Below.refl _ w).alloc (Nat.le_refl _) _).alloc (by simp) _⟩
  | false =>
   have B1 := ((Box2.new w (.iface 207 (.agg #[])) (.map (some (A ⟨#[47]⟩))) 146).on (.cells #[.nilIface, .map none] 144))
   have B2 := Box2.new (w.alloc (.cells #[.iface 207 (.agg #[]), .map (some (A ⟨#[47]⟩))] 146)) .nilIface (.map none) 144; simp only [World.size_alloc] at B2; cases hp : pathB s with
   | false =>
    rw [atV_none hr (look_bad T hp)]; go_enter Tryz.func155, Tryz.ntmps155
    have HO := hid (fun W => hp ▸ pOk_any s hs W); go_wp2_with (go_at_call 159; refine (HO.out _).mono ?_; rintro e w1 ⟨rfl, hB1⟩; obtain ⟨c0, c1, f0, f1⟩ := B2.below hB1)
    have hBw : Below w.heap.size w w1 := (((Below.refl _ w).alloc (Nat.le_refl _) _).alloc (by simp) _).trans (hB1.mono (by simp; omega)); refine atSet2 (C := bodyPost Tryz.prog Tryz.f155 _ _ _) (B2.below hB1) hBw (Nat.le_succ _) ?_; intro Wf s0 hBf _ _; exact bodyPost_ret (v := .tuple #[zeroN, .bool false]) (by simp [results, Tryz.results155, go_sem, s0.c0, s0.c1]) rfl ⟨rfl, hBf⟩
   | true =>
    have HO := hid (fun W => hp ▸ pOk_any s hs W); have HU := hid (fun W => iPathUp_any s hs W); have HN := hid (fun W => iPathName_any s hs W); have hlt := up_lt hp; have HAt := hid (fun (W : World) (hW : Rep W base N es A) => at_any base N es A T n W hW (upS s) (by omega) (by omega)); have HV0 : Hid (isRoot s = false) := hr
    have HL : Hid (∀ W', Rep W' base N es A → AtM es (upS s) → (Instr.lookup 142 (.map (some (A (upS s)))) (.string (nmS s)) true).run Tryz.prog W' = .ok (.tuple #[((lookE es s).map (fun e => nodeV e.d e.x (A s))).getD zeroN, .bool ((lookE es s).map (fun e => nodeV e.d e.x (A s))).isSome]) W') := fun W' hW hA => by
     have := (hW.kids _ hA).look (name_max hp)
     rwa [kid_at hp] at this
    have HP := hid hp; go_enter Tryz.func155, Tryz.ntmps155
    go_wp2_with fail
    refine (HO.out _).mono ?_; rintro e w1 ⟨rfl, hB1⟩; have B1' := B1.below hB1; have HB2 := hid (B2.below hB1); have hBw : Below w.heap.size w w1 := (((Below.refl _ w).alloc (Nat.le_refl _) _).alloc (by simp) _).trans (hB1.mono (by simp; omega)); have AS : Hid (∀ W', Below w1.heap.size w1 W' → (W'.cell? ⟨w.heap.size, 0, none⟩ = some (.iface 207 (.agg #[])) ∧ W'.cell? ⟨w.heap.size, 1, none⟩ = some (.map (some (A ⟨#[47]⟩))))) := fun W' hW => ⟨(B1'.below hW).c0, (B1'.below hW).c1⟩; have AR : Hid (∀ W', Below w1.heap.size w1 W' → Rep W' base N es A) := fun W' hW => (R.below hBw).below hW; have HRB : Hid (∀ W', Below w1.heap.size w1 W' → Box2 W' (w.heap.size + 1) .nilIface (.map none)) := fun W' hW => HB2.out.below hW; obtain ⟨c0, c1, f0, f1⟩ := B1'; clear B1 B2 hB1 hlt hp; by_cases hA : AtM es (upS s)
    ·
     obtain ⟨t, u, hv⟩ := atV_there (A := A) T hA; rw [hv] at HAt; cases hlk : lookE es s with
     | none =>
      have HV : Hid (atV es A s = (zeroN, false)) := atV_none HV0.out hlk
      have AL : Hid (∀ W', Below w1.heap.size w1 W' → (Instr.lookup 142 (.map (some (A (upS s)))) (.string (nmS s)) true).run Tryz.prog W' = .ok (.tuple #[zeroN, .bool false]) W') := fun W' hW => by
       have := HL.out W' (AR.out W' hW) hA
       rwa [hlk] at this
      clear hlk hv hA HL; go_wp2_with fail
      rename_i Qx Kx hKx
      have HK : Hid (∀ (b : Nat) (W : World), Below w1.heap.size w1 W → Box2 W b (.iface t u) (.map (some (A (upS s)))) → Kx { tmps := #[layV A, .string s, .pointer (some ⟨w.heap.size, 0, none⟩), undef, .pointer (some ⟨w.heap.size + 1, 0, none⟩), .bool false, .pointer (some ⟨b, 0, none⟩), .bool true, undef, undef, .string s, .bool false, undef, undef, .string s, .bool true, .bool false, undef, .tuple #[.agg #[.iface t u, .map (some (A (upS s)))], .bool true], .agg #[.iface 207 (.agg #[]), .map (some (A ⟨#[47]⟩))], .string s, .string (upS s), .tuple #[.agg #[.iface t u, .map (some (A (upS s)))], .bool true], .agg #[.iface t u, .map (some (A (upS s)))], .bool true, undef, undef, undef, undef, undef, undef, undef, undef, undef, undef], defers := [] } W) := by
       intro b W hBW hbx; refine hKx _ _ ?_; clear hKx; have AS2 : Hid (∀ W', Below W.heap.size W W' → (W'.cell? ⟨b, 1, none⟩ = some (.map (some (A (upS s)))))) := fun W' hW => (hbx.below hW).c1; have AL2 : Hid (∀ W', Below W.heap.size W W' → (Instr.lookup 142 (.map (some (A (upS s)))) (.string (nmS s)) true).run Tryz.prog W' = .ok (.tuple #[.agg #[.nilIface, .map (none)], .bool false]) W') := fun W' hW => AL.out W' (belowT hBW hW); have HRes := hid ((HRB.out _ hBW)); have HBW := hid (belowT hBw hBW); obtain ⟨x0, x1, x2, x3⟩ := hbx; go_wp2_with fail
       rename_i K2 hK2
       have HK2 : Hid (∀ (b2 : Nat) (W2 : World), Below W.heap.size W W2 → Box2 W2 b2 (.nilIface) (.map (none)) → K2 { tmps := #[layV A, .string s, .pointer (some ⟨w.heap.size, 0, none⟩), undef, .pointer (some ⟨w.heap.size + 1, 0, none⟩), .bool false, .pointer (some ⟨b, 0, none⟩), .bool true, .pointer (some ⟨b2, 0, none⟩), .bool false, .string s, .bool false, undef, undef, .string s, .bool true, .bool false, undef, .tuple #[.agg #[.iface t u, .map (some (A (upS s)))], .bool true], .agg #[.iface 207 (.agg #[]), .map (some (A ⟨#[47]⟩))], .string s, .string (upS s), .tuple #[.agg #[.iface t u, .map (some (A (upS s)))], .bool true], .agg #[.iface t u, .map (some (A (upS s)))], .bool true, .tuple #[.agg #[.nilIface, .map (none)], .bool false], .pointer (some ⟨b, 1, none⟩), .map (some (A (upS s))), .string s, .string (nmS s), .tuple #[.agg #[.nilIface, .map (none)], .bool false], .agg #[.nilIface, .map (none)], .bool false, undef, undef], defers := [] } W2) := by
        intro b2 W2 hBW2 hb2; refine hK2 _ _ ?_; have hr2 := HRes.out.below hBW2; have hBr := belowT HBW.out hBW2; obtain ⟨q0, q1, q2, q3⟩ := hb2; obtain ⟨r0, r1, r2, r3⟩ := hr2; go_wp2
        refine atSet2 (C := bodyPost Tryz.prog Tryz.f155 _ _ _) ⟨r0, r1, r2, r3⟩ hBr (Nat.le_succ _) ?_; intro Wf s0 hBf _ _; refine bodyPost_ret (v := .tuple #[.agg #[.nilIface, .map (none)], .bool false]) (by simp [results, Tryz.results155, go_sem, s0.c0, s0.c1]) rfl ⟨?_, hBf⟩; rw [HV.out]
       clear hK2
       go_region_held3 (fun W' => W'.cell? ⟨b, 1, none⟩ = some (.map (some (A (upS s)))))
        ((refine AS2.out _ ?_; repeat (first | exact Below.refl _ _ | apply belowA | refine belowT ?_ hB5 | apply Below.drew | refine set2_below ?_ (by first | exact Nat.le_refl _ | (have h5 := hB5.size; simp at h5 ⊢; omega)) _ _)))
        (first | (go_at_call 156; refine (HN.out _).mono ?_; rintro e w5 ⟨rfl, hB5⟩; have l5 := hB5.size; (try simp at l5); (obtain ⟨bc5, bf5⟩ := bcellN hB5); (try (have z0 := bc5 W.heap.size 0 (lt_allocD _ _); have z1 := bc5 W.heap.size 1 (lt_allocD _ _); have z2 := bf5 W.heap.size 0 (lt_allocD _ _); have z3 := bf5 W.heap.size 1 (lt_allocD _ _); simp at z0 z1 z2 z3)); clear bc5 bf5; have hl5 := AL2.out w5 (by repeat (first | exact Below.refl _ _ | apply belowA | refine belowT ?_ hB5 | apply Below.drew | refine set2_below ?_ (by first | exact Nat.le_refl _ | (have h5 := hB5.size; simp at h5 ⊢; omega)) _ _)); have hl6 := AL2.out (w5.alloc (.cells #[.nilIface, .map none] 144)) (by repeat (first | exact Below.refl _ _ | apply belowA | refine belowT ?_ hB5 | apply Below.drew | refine set2_below ?_ (by first | exact Nat.le_refl _ | (have h5 := hB5.size; simp at h5 ⊢; omega)) _ _))))
       all_goals refine HK2.out _ _ (by repeat (first | exact Below.refl _ _ | apply belowA | refine belowT ?_ hB5 | apply Below.drew | refine set2_below ?_ (by first | exact Nat.le_refl _ | (have h5 := hB5.size; simp at h5 ⊢; omega)) _ _)) ?_
       all_goals first | exact Box2.set ⟨z0, z1, z2, z3⟩ _ _ | exact Box2.set (Box2.new _ _ _ _) _ _ | exact Box2.new _ _ _ _
      clear hKx
      go_region_held3 (fun W' => W'.cell? ⟨w.heap.size, 0, none⟩ = some (.iface 207 (.agg #[])) ∧ W'.cell? ⟨w.heap.size, 1, none⟩ = some (.map (some (A ⟨#[47]⟩))))
       ((refine AS.out _ ?_; repeat (first | exact Below.refl _ _ | apply belowA | refine belowT ?_ hB4 | refine belowT ?_ hB3 | apply Below.drew | refine set2_below ?_ (by first | exact Nat.le_refl _ | (have h3 := hB3.size; have h4 := hB4.size; simp at h3 h4 ⊢; omega)) _ _)))
       (first | (go_at_call 113; refine (HU.out _).mono ?_; rintro e w3 ⟨rfl, hB3⟩; obtain ⟨bc3, bf3⟩ := bcellN hB3; have l3 := hB3.size; (try simp at l3); (try (have z0 := bc3 w1.heap.size 0 (lt_allocD _ _); have z1 := bc3 w1.heap.size 1 (lt_allocD _ _); have z2 := bf3 w1.heap.size 0 (lt_allocD _ _); have z3 := bf3 w1.heap.size 1 (lt_allocD _ _); simp at z0 z1 z2 z3)); clear bc3 bf3) | (go_at_call 155; refine (HAt.out _ (AR.out _ (by repeat (first | exact Below.refl _ _ | apply belowA | refine belowT ?_ hB3 | apply Below.drew)))).mono ?_; rintro e w4 ⟨rfl, hB4⟩; obtain ⟨bc4, bf4⟩ := bcellN hB4; have l4 := hB4.size; (try simp at l4); (try (have z0 := bc4 w3.heap.size 0 (lt_alloc _ _); have z1 := bc4 w3.heap.size 1 (lt_alloc _ _); have z2 := bf4 w3.heap.size 0 (lt_alloc _ _); have z3 := bf4 w3.heap.size 1 (lt_alloc _ _); simp at z0 z1 z2 z3)); (try (have v0 := (bc4 w1.heap.size 0 l3).trans z0; have v1 := (bc4 w1.heap.size 1 l3).trans z1; have v2 := (bf4 w1.heap.size 0 l3).trans z2; have v3 := (bf4 w1.heap.size 1 l3).trans z3)); clear bc4 bf4))
      all_goals refine HK.out _ _ (by repeat (first | exact Below.refl _ _ | apply belowA | refine belowT ?_ hB4 | refine belowT ?_ hB3 | apply Below.drew | refine set2_below ?_ (by first | exact Nat.le_refl _ | (have h3 := hB3.size; have h4 := hB4.size; simp at h3 h4 ⊢; omega)) _ _)) ?_
      all_goals first | exact Box2.set ⟨v0, v1, v2, v3⟩ _ _ | exact Box2.set ⟨z0, z1, z2, z3⟩ _ _ | exact Box2.new _ _ _ _
     | some e =>
      obtain ⟨t2, u2, hs2⟩ := sign_is e.d e.x
      have HV : Hid (atV es A s = (.agg #[.iface t2 u2, .map (some (A s))], true)) := by
       show _ = _
       rw [atV_some T hlk]; unfold nodeV; rw [hs2]
      have AL : Hid (∀ W', Below w1.heap.size w1 W' → (Instr.lookup 142 (.map (some (A (upS s)))) (.string (nmS s)) true).run Tryz.prog W' = .ok (.tuple #[.agg #[.iface t2 u2, .map (some (A s))], .bool true]) W') := fun W' hW => by
       have := HL.out W' (AR.out W' hW) hA; rw [hlk] at this; rw [this]; show _ = Result.ok (Value.tuple #[Value.agg #[.iface t2 u2, .map (some (A s))], .bool true]) W'
       rw [← hs2]; rfl
      clear hlk hv hA HL hs2; go_wp2_with fail
      rename_i Qx Kx hKx
      have HK : Hid (∀ (b : Nat) (W : World), Below w1.heap.size w1 W → Box2 W b (.iface t u) (.map (some (A (upS s)))) → Kx { tmps := #[layV A, .string s, .pointer (some ⟨w.heap.size, 0, none⟩), undef, .pointer (some ⟨w.heap.size + 1, 0, none⟩), .bool false, .pointer (some ⟨b, 0, none⟩), .bool true, undef, undef, .string s, .bool false, undef, undef, .string s, .bool true, .bool false, undef, .tuple #[.agg #[.iface t u, .map (some (A (upS s)))], .bool true], .agg #[.iface 207 (.agg #[]), .map (some (A ⟨#[47]⟩))], .string s, .string (upS s), .tuple #[.agg #[.iface t u, .map (some (A (upS s)))], .bool true], .agg #[.iface t u, .map (some (A (upS s)))], .bool true, undef, undef, undef, undef, undef, undef, undef, undef, undef, undef], defers := [] } W) := by
       intro b W hBW hbx; refine hKx _ _ ?_; clear hKx; have AS2 : Hid (∀ W', Below W.heap.size W W' → (W'.cell? ⟨b, 1, none⟩ = some (.map (some (A (upS s)))))) := fun W' hW => (hbx.below hW).c1; have AL2 : Hid (∀ W', Below W.heap.size W W' → (Instr.lookup 142 (.map (some (A (upS s)))) (.string (nmS s)) true).run Tryz.prog W' = .ok (.tuple #[.agg #[.iface t2 u2, .map (some (A s))], .bool true]) W') := fun W' hW => AL.out W' (belowT hBW hW); have HRes := hid ((HRB.out _ hBW)); have HBW := hid (belowT hBw hBW); obtain ⟨x0, x1, x2, x3⟩ := hbx; go_wp2_with fail
       rename_i K2 hK2
       have HK2 : Hid (∀ (b2 : Nat) (W2 : World), Below W.heap.size W W2 → Box2 W2 b2 (.iface t2 u2) (.map (some (A s))) → K2 { tmps := #[layV A, .string s, .pointer (some ⟨w.heap.size, 0, none⟩), undef, .pointer (some ⟨w.heap.size + 1, 0, none⟩), .bool false, .pointer (some ⟨b, 0, none⟩), .bool true, .pointer (some ⟨b2, 0, none⟩), .bool true, .string s, .bool false, undef, undef, .string s, .bool true, .bool false, undef, .tuple #[.agg #[.iface t u, .map (some (A (upS s)))], .bool true], .agg #[.iface 207 (.agg #[]), .map (some (A ⟨#[47]⟩))], .string s, .string (upS s), .tuple #[.agg #[.iface t u, .map (some (A (upS s)))], .bool true], .agg #[.iface t u, .map (some (A (upS s)))], .bool true, .tuple #[.agg #[.iface t2 u2, .map (some (A s))], .bool true], .pointer (some ⟨b, 1, none⟩), .map (some (A (upS s))), .string s, .string (nmS s), .tuple #[.agg #[.iface t2 u2, .map (some (A s))], .bool true], .agg #[.iface t2 u2, .map (some (A s))], .bool true, undef, undef], defers := [] } W2) := by
        intro b2 W2 hBW2 hb2; refine hK2 _ _ ?_; have hr2 := HRes.out.below hBW2; have hBr := belowT HBW.out hBW2; obtain ⟨q0, q1, q2, q3⟩ := hb2; obtain ⟨r0, r1, r2, r3⟩ := hr2; go_wp2
        refine atSet2 (C := bodyPost Tryz.prog Tryz.f155 _ _ _) ⟨r0, r1, r2, r3⟩ hBr (Nat.le_succ _) ?_; intro Wf s0 hBf _ _; refine bodyPost_ret (v := .tuple #[.agg #[.iface t2 u2, .map (some (A s))], .bool true]) (by simp [results, Tryz.results155, go_sem, s0.c0, s0.c1]) rfl ⟨?_, hBf⟩; rw [HV.out]
       clear hK2
       go_region_held3 (fun W' => W'.cell? ⟨b, 1, none⟩ = some (.map (some (A (upS s)))))
        ((refine AS2.out _ ?_; repeat (first | exact Below.refl _ _ | apply belowA | refine belowT ?_ hB5 | apply Below.drew | refine set2_below ?_ (by first | exact Nat.le_refl _ | (have h5 := hB5.size; simp at h5 ⊢; omega)) _ _)))
        (first | (go_at_call 156; refine (HN.out _).mono ?_; rintro e w5 ⟨rfl, hB5⟩; have l5 := hB5.size; (try simp at l5); (obtain ⟨bc5, bf5⟩ := bcellN hB5); (try (have z0 := bc5 W.heap.size 0 (lt_allocD _ _); have z1 := bc5 W.heap.size 1 (lt_allocD _ _); have z2 := bf5 W.heap.size 0 (lt_allocD _ _); have z3 := bf5 W.heap.size 1 (lt_allocD _ _); simp at z0 z1 z2 z3)); clear bc5 bf5; have hl5 := AL2.out w5 (by repeat (first | exact Below.refl _ _ | apply belowA | refine belowT ?_ hB5 | apply Below.drew | refine set2_below ?_ (by first | exact Nat.le_refl _ | (have h5 := hB5.size; simp at h5 ⊢; omega)) _ _)); have hl6 := AL2.out (w5.alloc (.cells #[.nilIface, .map none] 144)) (by repeat (first | exact Below.refl _ _ | apply belowA | refine belowT ?_ hB5 | apply Below.drew | refine set2_below ?_ (by first | exact Nat.le_refl _ | (have h5 := hB5.size; simp at h5 ⊢; omega)) _ _))))
       all_goals refine HK2.out _ _ (by repeat (first | exact Below.refl _ _ | apply belowA | refine belowT ?_ hB5 | apply Below.drew | refine set2_below ?_ (by first | exact Nat.le_refl _ | (have h5 := hB5.size; simp at h5 ⊢; omega)) _ _)) ?_
       all_goals first | exact Box2.set ⟨z0, z1, z2, z3⟩ _ _ | exact Box2.set (Box2.new _ _ _ _) _ _ | exact Box2.new _ _ _ _
      clear hKx
      go_region_held3 (fun W' => W'.cell? ⟨w.heap.size, 0, none⟩ = some (.iface 207 (.agg #[])) ∧ W'.cell? ⟨w.heap.size, 1, none⟩ = some (.map (some (A ⟨#[47]⟩))))
       ((refine AS.out _ ?_; repeat (first | exact Below.refl _ _ | apply belowA | refine belowT ?_ hB4 | refine belowT ?_ hB3 | apply Below.drew | refine set2_below ?_ (by first | exact Nat.le_refl _ | (have h3 := hB3.size; have h4 := hB4.size; simp at h3 h4 ⊢; omega)) _ _)))
       (first | (go_at_call 113; refine (HU.out _).mono ?_; rintro e w3 ⟨rfl, hB3⟩; obtain ⟨bc3, bf3⟩ := bcellN hB3; have l3 := hB3.size; (try simp at l3); (try (have z0 := bc3 w1.heap.size 0 (lt_allocD _ _); have z1 := bc3 w1.heap.size 1 (lt_allocD _ _); have z2 := bf3 w1.heap.size 0 (lt_allocD _ _); have z3 := bf3 w1.heap.size 1 (lt_allocD _ _); simp at z0 z1 z2 z3)); clear bc3 bf3) | (go_at_call 155; refine (HAt.out _ (AR.out _ (by repeat (first | exact Below.refl _ _ | apply belowA | refine belowT ?_ hB3 | apply Below.drew)))).mono ?_; rintro e w4 ⟨rfl, hB4⟩; obtain ⟨bc4, bf4⟩ := bcellN hB4; have l4 := hB4.size; (try simp at l4); (try (have z0 := bc4 w3.heap.size 0 (lt_alloc _ _); have z1 := bc4 w3.heap.size 1 (lt_alloc _ _); have z2 := bf4 w3.heap.size 0 (lt_alloc _ _); have z3 := bf4 w3.heap.size 1 (lt_alloc _ _); simp at z0 z1 z2 z3)); (try (have v0 := (bc4 w1.heap.size 0 l3).trans z0; have v1 := (bc4 w1.heap.size 1 l3).trans z1; have v2 := (bf4 w1.heap.size 0 l3).trans z2; have v3 := (bf4 w1.heap.size 1 l3).trans z3)); clear bc4 bf4))
      all_goals refine HK.out _ _ (by repeat (first | exact Below.refl _ _ | apply belowA | refine belowT ?_ hB4 | refine belowT ?_ hB3 | apply Below.drew | refine set2_below ?_ (by first | exact Nat.le_refl _ | (have h3 := hB3.size; have h4 := hB4.size; simp at h3 h4 ⊢; omega)) _ _)) ?_
      all_goals first | exact Box2.set ⟨v0, v1, v2, v3⟩ _ _ | exact Box2.set ⟨z0, z1, z2, z3⟩ _ _ | exact Box2.new _ _ _ _
    ·
     have hv := atV_not (A := A) hA; rw [hv] at HAt
     have HV : Hid (atV es A s = (zeroN, false)) := atV_none HV0.out (look_up T (by
      cases hl : lookE es (upS s) with
      | none => rfl
      | some e => exact absurd (.inr ⟨e, hl⟩) hA) (fun q => hA (.inl q)))
     have AL : Hid (∀ W', Below w1.heap.size w1 W' → (Instr.lookup 142 (.map none) (.string (nmS s)) true).run Tryz.prog W' = .ok (.tuple #[zeroN, .bool false]) W') := fun W' _ => look_no W' (name_max HP.out); clear hv hA HL; go_wp2_with fail
     rename_i Qx Kx hKx
     have HK : Hid (∀ (b : Nat) (W : World), Below w1.heap.size w1 W → Box2 W b (.nilIface) (.map (none)) → Kx { tmps := #[layV A, .string s, .pointer (some ⟨w.heap.size, 0, none⟩), undef, .pointer (some ⟨w.heap.size + 1, 0, none⟩), .bool false, .pointer (some ⟨b, 0, none⟩), .bool false, undef, undef, .string s, .bool false, undef, undef, .string s, .bool true, .bool false, undef, .tuple #[.agg #[.nilIface, .map (none)], .bool false], .agg #[.iface 207 (.agg #[]), .map (some (A ⟨#[47]⟩))], .string s, .string (upS s), .tuple #[.agg #[.nilIface, .map (none)], .bool false], .agg #[.nilIface, .map (none)], .bool false, undef, undef, undef, undef, undef, undef, undef, undef, undef, undef], defers := [] } W) := by
      intro b W hBW hbx; refine hKx _ _ ?_; clear hKx; have AS2 : Hid (∀ W', Below W.heap.size W W' → (W'.cell? ⟨b, 1, none⟩ = some (.map (none)))) := fun W' hW => (hbx.below hW).c1; have AL2 : Hid (∀ W', Below W.heap.size W W' → (Instr.lookup 142 (.map (none)) (.string (nmS s)) true).run Tryz.prog W' = .ok (.tuple #[.agg #[.nilIface, .map (none)], .bool false]) W') := fun W' hW => AL.out W' (belowT hBW hW); have HRes := hid ((HRB.out _ hBW)); have HBW := hid (belowT hBw hBW); obtain ⟨x0, x1, x2, x3⟩ := hbx; go_wp2_with fail
      rename_i K2 hK2
      have HK2 : Hid (∀ (b2 : Nat) (W2 : World), Below W.heap.size W W2 → Box2 W2 b2 (.nilIface) (.map (none)) → K2 { tmps := #[layV A, .string s, .pointer (some ⟨w.heap.size, 0, none⟩), undef, .pointer (some ⟨w.heap.size + 1, 0, none⟩), .bool false, .pointer (some ⟨b, 0, none⟩), .bool false, .pointer (some ⟨b2, 0, none⟩), .bool false, .string s, .bool false, undef, undef, .string s, .bool true, .bool false, undef, .tuple #[.agg #[.nilIface, .map (none)], .bool false], .agg #[.iface 207 (.agg #[]), .map (some (A ⟨#[47]⟩))], .string s, .string (upS s), .tuple #[.agg #[.nilIface, .map (none)], .bool false], .agg #[.nilIface, .map (none)], .bool false, .tuple #[.agg #[.nilIface, .map (none)], .bool false], .pointer (some ⟨b, 1, none⟩), .map (none), .string s, .string (nmS s), .tuple #[.agg #[.nilIface, .map (none)], .bool false], .agg #[.nilIface, .map (none)], .bool false, undef, undef], defers := [] } W2) := by
       intro b2 W2 hBW2 hb2; refine hK2 _ _ ?_; have hr2 := HRes.out.below hBW2; have hBr := belowT HBW.out hBW2; obtain ⟨q0, q1, q2, q3⟩ := hb2; obtain ⟨r0, r1, r2, r3⟩ := hr2; go_wp2
       refine atSet2 (C := bodyPost Tryz.prog Tryz.f155 _ _ _) ⟨r0, r1, r2, r3⟩ hBr (Nat.le_succ _) ?_; intro Wf s0 hBf _ _; refine bodyPost_ret (v := .tuple #[.agg #[.nilIface, .map (none)], .bool false]) (by simp [results, Tryz.results155, go_sem, s0.c0, s0.c1]) rfl ⟨?_, hBf⟩; rw [HV.out]
      clear hK2
      go_region_held3 (fun W' => W'.cell? ⟨b, 1, none⟩ = some (.map (none)))
       ((refine AS2.out _ ?_; repeat (first | exact Below.refl _ _ | apply belowA | refine belowT ?_ hB5 | apply Below.drew | refine set2_below ?_ (by first | exact Nat.le_refl _ | (have h5 := hB5.size; simp at h5 ⊢; omega)) _ _)))
       (first | (go_at_call 156; refine (HN.out _).mono ?_; rintro e w5 ⟨rfl, hB5⟩; have l5 := hB5.size; (try simp at l5); (obtain ⟨bc5, bf5⟩ := bcellN hB5); (try (have z0 := bc5 W.heap.size 0 (lt_allocD _ _); have z1 := bc5 W.heap.size 1 (lt_allocD _ _); have z2 := bf5 W.heap.size 0 (lt_allocD _ _); have z3 := bf5 W.heap.size 1 (lt_allocD _ _); simp at z0 z1 z2 z3)); clear bc5 bf5; have hl5 := AL2.out w5 (by repeat (first | exact Below.refl _ _ | apply belowA | refine belowT ?_ hB5 | apply Below.drew | refine set2_below ?_ (by first | exact Nat.le_refl _ | (have h5 := hB5.size; simp at h5 ⊢; omega)) _ _)); have hl6 := AL2.out (w5.alloc (.cells #[.nilIface, .map none] 144)) (by repeat (first | exact Below.refl _ _ | apply belowA | refine belowT ?_ hB5 | apply Below.drew | refine set2_below ?_ (by first | exact Nat.le_refl _ | (have h5 := hB5.size; simp at h5 ⊢; omega)) _ _))))
      all_goals refine HK2.out _ _ (by repeat (first | exact Below.refl _ _ | apply belowA | refine belowT ?_ hB5 | apply Below.drew | refine set2_below ?_ (by first | exact Nat.le_refl _ | (have h5 := hB5.size; simp at h5 ⊢; omega)) _ _)) ?_
      all_goals first | exact Box2.set ⟨z0, z1, z2, z3⟩ _ _ | exact Box2.set (Box2.new _ _ _ _) _ _ | exact Box2.new _ _ _ _
     clear hKx
     go_region_held3 (fun W' => W'.cell? ⟨w.heap.size, 0, none⟩ = some (.iface 207 (.agg #[])) ∧ W'.cell? ⟨w.heap.size, 1, none⟩ = some (.map (some (A ⟨#[47]⟩))))
      ((refine AS.out _ ?_; repeat (first | exact Below.refl _ _ | apply belowA | refine belowT ?_ hB4 | refine belowT ?_ hB3 | apply Below.drew | refine set2_below ?_ (by first | exact Nat.le_refl _ | (have h3 := hB3.size; have h4 := hB4.size; simp at h3 h4 ⊢; omega)) _ _)))
      (first | (go_at_call 113; refine (HU.out _).mono ?_; rintro e w3 ⟨rfl, hB3⟩; obtain ⟨bc3, bf3⟩ := bcellN hB3; have l3 := hB3.size; (try simp at l3); (try (have z0 := bc3 w1.heap.size 0 (lt_allocD _ _); have z1 := bc3 w1.heap.size 1 (lt_allocD _ _); have z2 := bf3 w1.heap.size 0 (lt_allocD _ _); have z3 := bf3 w1.heap.size 1 (lt_allocD _ _); simp at z0 z1 z2 z3)); clear bc3 bf3) | (go_at_call 155; refine (HAt.out _ (AR.out _ (by repeat (first | exact Below.refl _ _ | apply belowA | refine belowT ?_ hB3 | apply Below.drew)))).mono ?_; rintro e w4 ⟨rfl, hB4⟩; obtain ⟨bc4, bf4⟩ := bcellN hB4; have l4 := hB4.size; (try simp at l4); (try (have z0 := bc4 w3.heap.size 0 (lt_alloc _ _); have z1 := bc4 w3.heap.size 1 (lt_alloc _ _); have z2 := bf4 w3.heap.size 0 (lt_alloc _ _); have z3 := bf4 w3.heap.size 1 (lt_alloc _ _); simp at z0 z1 z2 z3)); (try (have v0 := (bc4 w1.heap.size 0 l3).trans z0; have v1 := (bc4 w1.heap.size 1 l3).trans z1; have v2 := (bf4 w1.heap.size 0 l3).trans z2; have v3 := (bf4 w1.heap.size 1 l3).trans z3)); clear bc4 bf4))
     all_goals refine HK.out _ _ (by repeat (first | exact Below.refl _ _ | apply belowA | refine belowT ?_ hB4 | refine belowT ?_ hB3 | apply Below.drew | refine set2_below ?_ (by first | exact Nat.le_refl _ | (have h3 := hB3.size; have h4 := hB4.size; simp at h3 h4 ⊢; omega)) _ _)) ?_
     all_goals first | exact Box2.set ⟨v0, v1, v2, v3⟩ _ _ | exact Box2.set ⟨z0, z1, z2, z3⟩ _ _ | exact Box2.new _ _ _ _
end Go.Proofs.YteppodogghjfhaaGreatDoor.Mk
namespace Go.Proofs.YteppodogghjfhaaGreatDoor.Mk
open Go.RowKit Go.Shelf Go.Lib
attribute [local go_sem] Oper.semAt_some
theorem newDir_any (w : World) :
  Calls Tryz.prog 117 #[] w fun e w' => (∃ a, e = .returned (.agg #[.bool true, .string ⟨#[]⟩, .map (some a)])) ∧ Below w.heap.size w w' := by
 have hmm := @run_makeMap Tryz.prog; go_enter Tryz.func117, Tryz.ntmps117
 go_wp2
 refine bodyPost_ret (v := .agg #[.bool true, .string ⟨#[]⟩, .map (some (w.heap.size + 1))]) (by simp [results, Tryz.results117, go_sem]) rfl ⟨⟨_, rfl⟩, ?_⟩; exact ((Below.refl _ w).alloc (Nat.le_refl _) _).alloc (by simp) _
set_option maxHeartbeats 400000 in
theorem newNode_any (t : TypeId) (u : Value) (w : World) :
  Calls Tryz.prog 153 #[.iface t u] w fun e w' => e = .returned (.agg #[.iface t u, .map (some (w.heap.size + 1))]) ∧ MapIs w' (w.heap.size + 1) 0 (fun _ => none) ∧ Below w.heap.size w w' := by
 have hmm := @run_makeMap Tryz.prog; go_enter Tryz.func153, Tryz.ntmps153
 go_wp2
 refine bodyPost_ret (v := .agg #[.iface t u, .map (some (w.heap.size + 1))]) (by simp [results, Tryz.results153, go_sem]) rfl ⟨rfl, ?_, ?_⟩
 ·
  have := MapIs.made (w.alloc (.cells #[.iface t u, .map (some (w.heap.size + 1))] 144))
  rwa [World.size_alloc] at this
 ·
  exact ((Below.refl _ w).alloc (Nat.le_refl _) _).alloc (by simp) _
set_option maxHeartbeats 400000 in
theorem newLayer_any (w : World) :
  Calls Tryz.prog 108 #[] w fun e w' => (∃ a, w.heap.size ≤ a ∧ e = .returned (.agg #[.iface 207 (.agg #[]), .map (some a)]) ∧ MapIs w' a 0 (fun _ => none)) ∧ Below w.heap.size w w' := by
 have B := Box2.new w .nilIface (.map none) 146; go_enter Tryz.func108, Tryz.ntmps108
 go_wp2_with (first | (go_at_call 153; refine (newNode_any _ _ _).mono ?_; rintro e w1 ⟨rfl, hM1, hB1⟩; obtain ⟨c0, c1, c2, c3⟩ := B.below hB1) | fail)
 have hBw := belowT (belowA (Below.refl _ w) _) hB1; refine atSet2 (C := bodyPost Tryz.prog Tryz.f108 _ _ _) (B.below hB1) hBw (Nat.le_refl _) ?_; intro Wf s0 hBf hK _; simp only [World.size_alloc] at hM1; exact bodyPost_ret (v := .agg #[.iface 207 (.agg #[]), .map (some (w.heap.size + 1 + 1))]) (by simp [results, Tryz.results108, go_sem, s0.c0, s0.c1]) rfl ⟨⟨_, by omega, rfl, hM1.keeps hK⟩, hBf⟩
theorem clone_any (x : ByteArray) (hx : x.size ≤ 16777216) (w : World) :
  Calls Tryz.prog 80 #[.string x] w fun e w' => e = .returned (.string x) ∧ Below w.heap.size w w' := by
 go_enter Tryz.func80, Tryz.ntmps80
 go_wp2_with (first | (go_at_call 115; refine (sClone_any _ _ (by omega)).mono ?_; rintro e w' ⟨rfl, hB⟩) | go_in)
 go_ret
 exact ⟨rfl, hB⟩
theorem newFile_any (x : ByteArray) (hx : x.size ≤ 16777216) (w : World) :
  Calls Tryz.prog 161 #[.string x] w fun e w' => e = .returned (.agg #[.bool false, .string x, .map none]) ∧ Below w.heap.size w w' := by
 have B := Box3.new w (.bool false) (.string ⟨#[]⟩) (.map none) 116; go_enter Tryz.func161, Tryz.ntmps161
 go_wp2_with (first | (go_at_call 80; refine (clone_any _ hx _).mono ?_; rintro e w1 ⟨rfl, hB1⟩; obtain ⟨k0, k1, k2, f0, f1, f2⟩ := B.below hB1) | fail)
 refine atSet3 (C := bodyPost Tryz.prog Tryz.f161 _ _ _) (B.below hB1) (belowT (belowA (Below.refl _ w) _) hB1) (Nat.le_refl _) ?_; intro Wf s0 hBf _; exact bodyPost_ret (v := .agg #[.bool false, .string x, .map none]) (by simp [results, Tryz.results161, go_sem, s0.c0, s0.c1, s0.c2]) rfl ⟨rfl, hBf⟩
set_option maxHeartbeats 400000 in
theorem showsF_any (x : ByteArray) (hx : x.size ≤ 16777216) (w : World) :
  Calls Tryz.prog 259 #[.agg #[.string x]] w fun e w' => e = .returned (.tuple #[.agg #[.bool false, .string x, .map none], .bool true]) ∧ Below w.heap.size w w' := by
 have B := Box3.new (w.alloc (.cells #[.string x] 212)) (.bool false) (.string ⟨#[]⟩) (.map none) 116; simp only [World.size_alloc] at B; go_enter Tryz.func259, Tryz.ntmps259
 go_wp2_with (first | (go_at_call 161; refine (newFile_any _ hx _).mono ?_; rintro e w1 ⟨rfl, hB1⟩; obtain ⟨k0, k1, k2, f0, f1, f2⟩ := B.below hB1) | fail)
 refine atSet3 (C := bodyPost Tryz.prog Tryz.f259 _ _ _) (B.below hB1) (belowT (belowA (belowA (Below.refl _ w) _) _) hB1) (Nat.le_succ _) ?_; intro Wf s0 hBf _; exact bodyPost_ret (v := .tuple #[.agg #[.bool false, .string x, .map none], .bool true]) (by simp [results, Tryz.results259, go_sem, s0.c0, s0.c1, s0.c2]) rfl ⟨rfl, hBf⟩
set_option maxHeartbeats 400000 in
theorem showsD_any (w : World) :
  Calls Tryz.prog 256 #[.agg #[]] w fun e w' => (∃ a, e = .returned (.tuple #[.agg #[.bool true, .string ⟨#[]⟩, .map (some a)], .bool true])) ∧ Below w.heap.size w w' := by
 have B := Box3.new (w.alloc (.cells #[] 207)) (.bool false) (.string ⟨#[]⟩) (.map none) 116; simp only [World.size_alloc] at B; go_enter Tryz.func256, Tryz.ntmps256
 go_wp2_with (first | (go_at_call 117; refine (newDir_any _).mono ?_; rintro e w1 ⟨⟨aa, rfl⟩, hB1⟩; obtain ⟨k0, k1, k2, f0, f1, f2⟩ := B.below hB1) | fail)
 refine atSet3 (C := bodyPost Tryz.prog Tryz.f256 _ _ _) (B.below hB1) (belowT (belowA (belowA (Below.refl _ w) _) _) hB1) (Nat.le_succ _) ?_; intro Wf s0 hBf _; exact bodyPost_ret (v := .tuple #[.agg #[.bool true, .string ⟨#[]⟩, .map (some aa)], .bool true]) (by simp [results, Tryz.results256, go_sem, s0.c0, s0.c1, s0.c2]) rfl ⟨⟨_, rfl⟩, hBf⟩
set_option maxHeartbeats 400000 in
theorem showsB_any (w : World) :
  Calls Tryz.prog 273 #[.agg #[]] w fun e w' => (∃ a, e = .returned (.tuple #[.agg #[.bool true, .string ⟨#[]⟩, .map (some a)], .bool true])) ∧ Below w.heap.size w w' := by
 have B := Box3.new (w.alloc (.cells #[] 247)) (.bool false) (.string ⟨#[]⟩) (.map none) 116; simp only [World.size_alloc] at B; go_enter Tryz.func273, Tryz.ntmps273
 go_wp2_with (first | (go_at_call 117; refine (newDir_any _).mono ?_; rintro e w1 ⟨⟨aa, rfl⟩, hB1⟩; obtain ⟨k0, k1, k2, f0, f1, f2⟩ := B.below hB1) | fail)
 refine atSet3 (C := bodyPost Tryz.prog Tryz.f273 _ _ _) (B.below hB1) (belowT (belowA (belowA (Below.refl _ w) _) _) hB1) (Nat.le_succ _) ?_; intro Wf s0 hBf _; exact bodyPost_ret (v := .tuple #[.agg #[.bool true, .string ⟨#[]⟩, .map (some aa)], .bool true]) (by simp [results, Tryz.results273, go_sem, s0.c0, s0.c1, s0.c2]) rfl ⟨⟨_, rfl⟩, hBf⟩
set_option maxHeartbeats 400000 in
theorem showsG_any (w : World) :
  Calls Tryz.prog 250 #[.agg #[]] w fun e w' => e = .returned (.tuple #[.agg #[.bool false, .string ⟨#[]⟩, .map none], .bool false]) ∧ Below w.heap.size w w' := by
 go_enter Tryz.func250, Tryz.ntmps250
 go_wp2
 exact bodyPost_ret (v := .tuple #[.agg #[.bool false, .string ⟨#[]⟩, .map none], .bool false]) (by simp [results, Tryz.results250, go_sem]) rfl ⟨rfl, belowA (belowA (Below.refl _ w) _) _⟩
theorem hides1_any (x : ByteArray) (w : World) : Calls Tryz.prog 257 #[.agg #[.string x]] w fun e w' => e = .returned (.bool true) ∧ Below w.heap.size w w' := by
 go_enter Tryz.func257, Tryz.ntmps257
 go_wp2
 go_ret
 exact ⟨rfl, belowA (Below.refl _ w) _⟩
theorem hides2_any (w : World) : Calls Tryz.prog 254 #[.agg #[]] w fun e w' => e = .returned (.bool false) ∧ Below w.heap.size w w' := by
 go_enter Tryz.func254, Tryz.ntmps254
 go_wp2
 go_ret
 exact ⟨rfl, belowA (Below.refl _ w) _⟩
theorem hides3_any (w : World) : Calls Tryz.prog 248 #[.agg #[]] w fun e w' => e = .returned (.bool true) ∧ Below w.heap.size w w' := by
 go_enter Tryz.func248, Tryz.ntmps248
 go_wp2
 go_ret
 exact ⟨rfl, belowA (Below.refl _ w) _⟩
theorem hides4_any (w : World) : Calls Tryz.prog 271 #[.agg #[]] w fun e w' => e = .returned (.bool true) ∧ Below w.heap.size w w' := by
 go_enter Tryz.func271, Tryz.ntmps271
 go_wp2
 go_ret
 exact ⟨rfl, belowA (Below.refl _ w) _⟩
set_option maxHeartbeats 1000000 in
theorem showsDir_any (d : Int) (x : ByteArray) (hx : x.size ≤ 16777216) (hd : 1 ≤ d ∧ d ≤ 4) (w : World) :
  Calls Tryz.prog 178 #[signV d x] w fun e w' => e = .returned (.bool (dirK d)) ∧ Below w.heap.size w w' := by
 rcases (by omega : d = 1 ∨ d = 2 ∨ d = 3 ∨ d = 4) with rfl | rfl | rfl | rfl
 ·
  have hm : ∀ W, (method 436 212 (.agg #[.string x]) "loop.example/pargeting/impl.shows").run Tryz.prog W = .ok (259, .agg #[.string x]) W := fun _ => by kernel_rfl
  rw [sign1]; go_enter Tryz.func178, Tryz.ntmps178
  go_wp2_with (first | (go_at_call 259; refine (showsF_any _ hx _).mono ?_; rintro e w1 ⟨rfl, hB1⟩) | fail)
  go_ret
  exact ⟨rfl, belowA hB1 _⟩
 ·
  have hm : ∀ W, (method 436 207 (.agg #[]) "loop.example/pargeting/impl.shows").run Tryz.prog W = .ok (256, .agg #[]) W := fun _ => by kernel_rfl
  rw [sign2]; go_enter Tryz.func178, Tryz.ntmps178
  go_wp2_with (first | (go_at_call 256; refine (showsD_any _).mono ?_; rintro e w1 ⟨⟨aa, rfl⟩, hB1⟩) | fail)
  go_ret
  exact ⟨rfl, belowA hB1 _⟩
 ·
  have hm : ∀ W, (method 436 161 (.agg #[]) "loop.example/pargeting/impl.shows").run Tryz.prog W = .ok (250, .agg #[]) W := fun _ => by kernel_rfl
  rw [sign3]; go_enter Tryz.func178, Tryz.ntmps178
  go_wp2_with (first | (go_at_call 250; refine (showsG_any _).mono ?_; rintro e w1 ⟨rfl, hB1⟩) | fail)
  go_ret
  exact ⟨rfl, belowA hB1 _⟩
 ·
  have hm : ∀ W, (method 436 247 (.agg #[]) "loop.example/pargeting/impl.shows").run Tryz.prog W = .ok (273, .agg #[]) W := fun _ => by kernel_rfl
  rw [sign4]; go_enter Tryz.func178, Tryz.ntmps178
  go_wp2_with (first | (go_at_call 273; refine (showsB_any _).mono ?_; rintro e w1 ⟨⟨aa, rfl⟩, hB1⟩) | fail)
  go_ret
  exact ⟨rfl, belowA hB1 _⟩
set_option maxHeartbeats 1000000 in
theorem signOfNode1_any (x : ByteArray) (w : World) :
  Calls Tryz.prog 111 #[.agg #[.bool false, .string x, .map none]] w fun e w' => e = .returned (signV 1 x) ∧ Below w.heap.size w w' := by
 rw [sign1]; go_enter Tryz.func111, Tryz.ntmps111
 go_wp2
 go_ret
 exact ⟨rfl, belowA (Below.refl _ w) _⟩
set_option maxHeartbeats 1000000 in
theorem signOfNode2_any (a : Nat) (x : ByteArray) (w : World) :
  Calls Tryz.prog 111 #[.agg #[.bool true, .string x, .map (some a)]] w fun e w' => e = .returned (signV 2 x) ∧ Below w.heap.size w w' := by
 rw [sign2]; go_enter Tryz.func111, Tryz.ntmps111
 go_wp2
 go_ret
 exact ⟨rfl, belowA (Below.refl _ w) _⟩
end Go.Proofs.YteppodogghjfhaaGreatDoor.Mk
namespace Go.Proofs.YteppodogghjfhaaGreatDoor.Mk
open Go.RowKit Go.Shelf Go.Lib
attribute [local go_sem] Oper.semAt_some
theorem belowN {B : Nat} {a w : World} (h : Below B a w) (n : Nat) : Below B a (w.drewN n) := h.trans ⟨rfl, rfl, rfl, Nat.le_refl _, fun _ _ => rfl⟩
def inB (d : Int) (x : ByteArray) : Value × Bool := if d = 1 then (signV 1 x, true) else if d = 3 then (.nilIface, false) else (.iface 207 (.agg #[]), true)
set_option maxHeartbeats 1000000 in
theorem inBare_any (d : Int) (x : ByteArray) (hx : x.size ≤ 16777216) (hd : 1 ≤ d ∧ d ≤ 4) (w : World) :
  Calls Tryz.prog 180 #[signV d x] w fun e w' => e = .returned (.tuple #[(inB d x).1, .bool (inB d x).2]) ∧ Below w.heap.size w w' := by
 rcases (by omega : d = 1 ∨ d = 2 ∨ d = 3 ∨ d = 4) with rfl | rfl | rfl | rfl
 ·
  have hm : ∀ W, (method 436 212 (.agg #[.string x]) "loop.example/pargeting/impl.shows").run Tryz.prog W = .ok (259, .agg #[.string x]) W := fun _ => by kernel_rfl
  rw [sign1]; go_enter Tryz.func180, Tryz.ntmps180
  go_wp2_with (first | (go_at_call 259; refine (showsF_any _ hx _).mono ?_; rintro e w1 ⟨rfl, hB1⟩) | (go_at_call 111; refine (signOfNode1_any _ _).mono ?_; rintro e w2 ⟨rfl, hB2⟩) | fail)
  refine bodyPost_ret (v := .tuple #[.iface 212 (.agg #[.string x]), .bool true]) (by simp [results, Tryz.results180, go_sem, sign1]) rfl ⟨rfl, belowT (belowA hB1 _) hB2⟩
 ·
  have hm : ∀ W, (method 436 207 (.agg #[]) "loop.example/pargeting/impl.shows").run Tryz.prog W = .ok (256, .agg #[]) W := fun _ => by kernel_rfl
  rw [sign2]; go_enter Tryz.func180, Tryz.ntmps180
  go_wp2_with (first | (go_at_call 256; refine (showsD_any _).mono ?_; rintro e w1 ⟨⟨aa, rfl⟩, hB1⟩) | (go_at_call 111; refine (signOfNode2_any _ _ _).mono ?_; rintro e w2 ⟨rfl, hB2⟩) | fail)
  refine bodyPost_ret (v := .tuple #[.iface 207 (.agg #[]), .bool true]) (by simp [results, Tryz.results180, go_sem, sign2]) rfl ⟨rfl, belowT (belowA hB1 _) hB2⟩
 ·
  have hm : ∀ W, (method 436 161 (.agg #[]) "loop.example/pargeting/impl.shows").run Tryz.prog W = .ok (250, .agg #[]) W := fun _ => by kernel_rfl
  rw [sign3]; go_enter Tryz.func180, Tryz.ntmps180
  go_wp2_with (first | (go_at_call 250; refine (showsG_any _).mono ?_; rintro e w1 ⟨rfl, hB1⟩) | fail)
  refine bodyPost_ret (v := .tuple #[.nilIface, .bool false]) (by simp [results, Tryz.results180, go_sem]) rfl ⟨rfl, belowA hB1 _⟩
 ·
  have hm : ∀ W, (method 436 247 (.agg #[]) "loop.example/pargeting/impl.shows").run Tryz.prog W = .ok (273, .agg #[]) W := fun _ => by kernel_rfl
  rw [sign4]; go_enter Tryz.func180, Tryz.ntmps180
  go_wp2_with (first | (go_at_call 273; refine (showsB_any _).mono ?_; rintro e w1 ⟨⟨aa, rfl⟩, hB1⟩) | (go_at_call 111; refine (signOfNode2_any _ _ _).mono ?_; rintro e w2 ⟨rfl, hB2⟩) | fail)
  refine bodyPost_ret (v := .tuple #[.iface 207 (.agg #[]), .bool true]) (by simp [results, Tryz.results180, go_sem, sign2]) rfl ⟨rfl, belowT (belowA hB1 _) hB2⟩
def signM (d : Int) (x : ByteArray) : Value := if 1 ≤ d ∧ d ≤ 4 then signV d x else .nilIface
theorem signM_in {d : Int} (h : 1 ≤ d ∧ d ≤ 4) (x : ByteArray) : signM d x = signV d x := if_pos h
set_option maxHeartbeats 1000000 in
theorem signOf_any (p : ByteArray) (d : Int) (x : ByteArray) (hx : x.size ≤ 16777216) (w : World) :
  Calls Tryz.prog 144 #[.agg #[.string p, .int .i64 d, .string x]] w fun e w' => e = .returned (.tuple #[signM d x, .bool (signB d x)]) ∧ Below w.heap.size w w' := by
 have B := Box3.new w (.string p) (.int .i64 d) (.string x) 99; by_cases h1 : d = 1
 ·
  subst h1; have e1 : signB 1 x = dataB x := rfl; rw [e1, signM_in (by omega), sign1]; go_enter Tryz.func144, Tryz.ntmps144
  have AS : Hid (∀ W', Below (w.alloc (.cells #[.string p, .int .i64 1, .string x] 99)).heap.size (w.alloc (.cells #[.string p, .int .i64 1, .string x] 99)) W' → W'.cell? ⟨w.heap.size, 2, none⟩ = some (.string x)) := fun W' hW => (B.below hW).c2; go_wp2
  go_region_held3 (fun W' => W'.cell? ⟨w.heap.size, 2, none⟩ = some (.string x))
   ((refine AS.out _ ?_; repeat (first | exact Below.refl _ _ | refine belowT ?_ hB2 | refine belowT ?_ hB1 | apply Below.drew)))
   (first | (go_at_call 80; refine (clone_any _ hx _).mono ?_; rintro e w1 ⟨rfl, hB1⟩) | (go_at_call 160; refine (dataOk_any _ _).mono ?_; rintro e w2 ⟨rfl, hB2⟩))
  all_goals go_wp2
  all_goals exact bodyPost_ret (v := .tuple #[.iface 212 (.agg #[.string x]), .bool (dataB x)]) (by simp [results, Tryz.results144, go_sem]) rfl ⟨rfl, belowT (belowT (belowA (Below.refl _ w) _).drew hB1) hB2⟩
 ·
  have h1' : (d == 1) = false := by simpa using h1
  have e0 : signB d x = (((d == 2) || ((d == 3) || (d == 4))) && (x.toList == [])) := by unfold signB; rw [if_neg h1]
  rw [e0]; by_cases h2 : d = 2
  ·
   subst h2; rw [signM_in (by omega), sign2]; go_enter Tryz.func144, Tryz.ntmps144
   go_wp2
   go_quiet (fail)
   go_wp2
   refine bodyPost_ret (v := .tuple #[.iface 207 (.agg #[]), .bool (x.toList == [])]) (by simp [results, Tryz.results144, go_sem]) rfl ⟨by simp, belowN (belowA (Below.refl _ w) _) _⟩
  ·
   have h2' : (d == 2) = false := by simpa using h2
   by_cases h3 : d = 3
   ·
    subst h3; rw [signM_in (by omega), sign3]; go_enter Tryz.func144, Tryz.ntmps144
    go_wp2
    go_quiet (fail)
    go_wp2
    refine bodyPost_ret (v := .tuple #[.iface 161 (.agg #[]), .bool (x.toList == [])]) (by simp [results, Tryz.results144, go_sem]) rfl ⟨by simp, belowN (belowA (Below.refl _ w) _) _⟩
   ·
    have h3' : (d == 3) = false := by simpa using h3
    by_cases h4 : d = 4
    ·
     subst h4; rw [signM_in (by omega), sign4]; go_enter Tryz.func144, Tryz.ntmps144
     go_wp2
     go_quiet (fail)
     go_wp2
     refine bodyPost_ret (v := .tuple #[.iface 247 (.agg #[]), .bool (x.toList == [])]) (by simp [results, Tryz.results144, go_sem]) rfl ⟨by simp, belowN (belowA (Below.refl _ w) _) _⟩
    ·
     have h4' : (d == 4) = false := by simpa using h4
     have e1 : signM d x = .nilIface := if_neg (by omega); rw [e1, h2', h3', h4']; go_enter Tryz.func144, Tryz.ntmps144
     go_wp2
     refine bodyPost_ret (v := .tuple #[.nilIface, .bool false]) (by simp [results, Tryz.results144, go_sem]) rfl ⟨rfl, belowA (Below.refl _ w) _⟩
end Go.Proofs.YteppodogghjfhaaGreatDoor.Mk
namespace Go.Proofs.YteppodogghjfhaaGreatDoor.Mk
open Go.RowKit Go.Shelf Go.Lib
attribute [local go_sem] Oper.semAt_some
theorem abides_below {β : Type} {B : Nat} {J : β → World → Prop} (hJ : AbidesFrom B J) {s : β} {W W' : World} (h : J s W) (hb : Below W.heap.size W W') : J s W' :=
 hJ s W W' none h ⟨hb.os, hb.tape, hb.output, hb.size, fun k hk _ => hb.block k hk⟩ (fun r e => by cases e)
abbrev ItemU (s : ByteArray) : Type := { x : ByteArray // x ∈ ups s }
abbrev encsU {s : ByteArray} (x : ItemU s) : Array Value := #[.string x.1]
def KpU (_ _ : World) : Prop := True
theorem inUps {s a : ByteArray} {pre : List ByteArray} (hp : pathB a = true) (h : pre ++ ups a = ups s) : a ∈ ups s := by
 rw [← h, ups_yes hp]; simp
set_option maxHeartbeats 1000000 in
set_option maxRecDepth 100000 in
theorem ups_stops (n : Nat) (hn : 1 ≤ n) (Bn : Nat) (s : ByteArray) (hs : s.size ≤ 16777216) (w : World) (hBn : Bn < w.heap.size) (hb : w.cell? ⟨Bn, 0, none⟩ = some (.string s)) :
  SeqStopsK Fence.wide n Tryz.prog 217 #[.pointer (some ⟨Bn, 0, none⟩)] (encsU (s := s)) KpU (fun xs => xs.map Subtype.val = ups s) (fun pre => pre.map Subtype.val <+: ups s) (ups s).length w := fun l J Jx W hW hJ hJx hY h0 => by
 have hbW : W.cell? ⟨Bn, 0, none⟩ = some (.string s) := (hW.cell (p := ⟨Bn, 0, none⟩) hBn).trans hb; clear hb hW; refine callsIn_of_wp Tryz.func217 rfl trivial ?_ rfl; simp only [Tryz.ntmps217, List.size_toArray, List.length_cons, List.length_nil, Nat.reduceAdd, Nat.reduceSub, Array.replicate_succ, Array.replicate_zero, List.push_toArray, List.append_toArray, List.nil_append, List.cons_append]; have HY := hid hY; have HJ := hid hJ; clear hY hJ hJx
 gi_wp2
 gi_loopg [3] (ups s).length (fun gf st wx => ∃ (a : ByteArray) (pre : List (ItemU s)), st = .string a ∧ a.size ≤ 16777216 ∧ J pre wx ∧ (ups a).length ≤ gf ∧ Hid (pre.map Subtype.val ++ ups a = ups s))
 case atStart => exact ⟨s, [], rfl, hs, h0, Nat.le_refl _, rfl⟩
 case round =>
  obtain ⟨a, pre, rfl, ha, hJs, hfu, HI⟩ := hrel; have HO := hid (fun W => pOk_any a ha W); cases hp : pathB a with
  | false =>
   rw [hp] at HO
   have HE : Hid (pre.map Subtype.val = ups s) := by
    show _ = _
    have := HI.out
    rwa [ups_no hp, List.append_nil] at this
   gi_wp2_with (refine ⟨trivial, ?_⟩; gi_at_call 159; refine (callsIn_wide.2 (HO.out _)).mono ?_; rintro e w1 ⟨rfl, hB1⟩)
   refine ⟨fun _ h => (by cases h), ?_⟩
   gi_wp2
   go_end0
   exact ⟨⟨_, rfl⟩, .inl ⟨pre, HE.out, abides_below HJ.out hJs hB1⟩⟩
  | true =>
   rw [hp] at HO; have HP := hid hp; have hup := up_lt hp; have HU := hid (fun W => iPathUp_any a ha W); have hin := inUps hp HI.out
   have hlen : pre.length < (ups s).length := by
    have := congrArg List.length HI.out; rw [List.length_append, List.length_map, ups_yes hp] at this; simp at this; omega
   have HI3 : Hid ((pre ++ [(⟨a, hin⟩ : ItemU s)]).map Subtype.val ++ ups (upS a) = ups s) := by
    show _ = _
    refine Eq.trans ?_ HI.out; rw [ups_yes hp]; simp
   have hfu2 : (ups (upS a)).length + 1 ≤ gk := by
    have := hfu; rw [ups_yes hp] at this
    simpa using this
   obtain ⟨g', rfl⟩ : ∃ g', gk = g' + 1 := ⟨gk - 1, by omega⟩
   clear HI hp hfu
   gi_wp2_with (refine ⟨trivial, ?_⟩; gi_at_call 159; refine (callsIn_wide.2 (HO.out _)).mono ?_; rintro e w1 ⟨rfl, hB1⟩; obtain ⟨fn, tmps, assign, body, hy, hR⟩ := HY.out pre ⟨a, hin⟩ w1 (abides_below HJ.out hJs hB1) hlen; dsimp only [encsU] at hy)
   refine hR.mono ?_; rintro e W3 (⟨rfl, hJ3, -⟩ | ⟨rfl, hJx3⟩)
   ·
    gi_wp2_with (refine ⟨trivial, ?_⟩; gi_at_call 113; refine (callsIn_wide.2 (HU.out _)).mono ?_; rintro e w4 ⟨rfl, hB4⟩)
    gi_roundg g'
    case measure => omega
    case rel => exact ⟨upS a, _, rfl, by omega, abides_below HJ.out hJ3 hB4, by omega, HI3⟩
   ·
    gi_wp2
    go_end0
    exact ⟨⟨_, rfl⟩, .inr ⟨_, ⟨_, HI3.out⟩, hJx3⟩⟩
theorem upward_any (s : ByteArray) (w : World) :
  Calls Tryz.prog 198 #[.string s] w fun e w' => e = .returned (.func (.func 217) #[] #[.pointer (some ⟨w.heap.size, 0, none⟩)]) ∧ w' = w.alloc (.cells #[.string s] 9) := by
 go_enter Tryz.func198, Tryz.ntmps198
 go_wp2
 go_ret
 exact ⟨rfl, rfl⟩
end Go.Proofs.YteppodogghjfhaaGreatDoor.Mk
namespace Go.Proofs.YteppodogghjfhaaGreatDoor.Mk
open Go.RowKit Go.Shelf Go.Lib
theorem ups_small {s x : ByteArray} (h : x ∈ ups s) : pathB x = true ∧ x.size ≤ s.size := by
 obtain ⟨_, h2, h3⟩ := (mem_ups _ s x (Nat.le_refl _)).1 h; refine ⟨h2, ?_⟩; rcases h3 with rfl | h3
 ·
  exact Nat.le_refl _
 ·
  have := ((underI_iff _ _).1 h3).2.2.1; rw [stem_path h2] at this; omega
theorem keeps_of_below {W W' : World} (h : Below W.heap.size W W') : KeepsOthers W W' := ⟨h.size, fun k _ hk _ => (h.block k (Array.getElem?_eq_some_iff.1 hk).1).trans hk⟩
theorem Box2.kept {W W' : World} {row : Option Nat} {b : Nat} {u v : Value} (h : Box2 W b u v) (hg : W.grownBy W' row) (hr : ∀ r, row = some r → ∃ o : Obj, W.heap[r]? = some o ∧ o.isCells = false) : Box2 W' b u v :=
 ⟨cell_kept h.c0 hg hr, cell_kept h.c1 hg hr, (frozen_kept h.c0 hg hr).trans h.f0, (frozen_kept h.c1 hg hr).trans h.f1⟩
structure RSt (b : Nat) (A : ByteArray → Nat) (v : Bool) (W : World) : Prop where
 r : W.cell? ⟨b + 1, 0, none⟩ = some (.bool v)
 rf : W.frozen? ⟨b + 1, 0, none⟩ = false
 bx : Box2 W b (.iface 207 (.agg #[])) (.map (some (A ⟨#[47]⟩)))
theorem RSt.below {b : Nat} {A : ByteArray → Nat} {v : Bool} {W W' : World} (h : RSt b A v W) (hB : Below W.heap.size W W') : RSt b A v W' :=
 ⟨(hB.cell (p := ⟨b + 1, 0, none⟩) (World.block_lt_of_cell? W ⟨b + 1, 0, none⟩ h.r)).trans h.r, (hB.frozen (p := ⟨b + 1, 0, none⟩) (World.block_lt_of_cell? W ⟨b + 1, 0, none⟩ h.r)).trans h.rf, h.bx.below hB⟩
theorem RSt.kept {b : Nat} {A : ByteArray → Nat} {v : Bool} {W W' : World} {row : Option Nat} (h : RSt b A v W) (hg : W.grownBy W' row) (hr : ∀ r, row = some r → ∃ o : Obj, W.heap[r]? = some o ∧ o.isCells = false) : RSt b A v W' :=
 ⟨cell_kept h.r hg hr, (frozen_kept h.r hg hr).trans h.rf, h.bx.kept hg hr⟩
theorem RSt.set {b : Nat} {A : ByteArray → Nat} {v : Bool} {W : World} (h : RSt b A v W) (u : Bool) : RSt b A u (W.setCell ⟨b + 1, 0, none⟩ (.bool u)) :=
 ⟨World.cell?_setCell_same' _ _ _ (by rw [h.r]; rfl), by rw [World.frozen?_setCell]; exact h.rf, ⟨(cell_other _ _ _ _ _ (by simp)).trans h.bx.c0, (cell_other _ _ _ _ _ (by simp)).trans h.bx.c1, by rw [World.frozen?_setCell]; exact h.bx.f0, by rw [World.frozen?_setCell]; exact h.bx.f1⟩⟩
theorem any_snoc {α : Type} (f : α → Bool) (xs : List α) (x : α) : (xs ++ [x]).any f = (xs.any f || f x) := by simp
theorem any_pre {α : Type} {f : α → Bool} {xs ys : List α} (h : xs <+: ys) (k : xs.any f = true) : ys.any f = true := by
 obtain ⟨r, rfl⟩ := h; rw [List.any_append, k]; rfl
attribute [local go_sem] Oper.semAt_some
set_option maxHeartbeats 4000000 in
set_option maxRecDepth 100000 in
theorem bares_any (base N : Nat) (es : List E) (A : ByteArray → Nat) (T : TrM es) (w : World) (R : Rep w base N es A) (s : ByteArray) (hs : s.size ≤ 16777216) :
  Calls Tryz.prog 179 #[layV A, .string s] w fun e w' => e = .returned (.bool ((ups (upS s)).any (tellM es (fun d => d == 4)))) ∧ Below w.heap.size w w' := by
 refine (callsIn_wide (n := 3)).1 ?_; refine callsIn_of_wp_marks Tryz.func179 rfl trivial ?_ rfl; simp only [Tryz.ntmps179, List.size_toArray, List.length_cons, List.length_nil, Nat.reduceAdd, Nat.reduceSub, Array.replicate_succ, Array.replicate_zero, List.push_toArray, List.append_toArray, List.nil_append, List.cons_append]
 gi_wp2_with (first | (refine ⟨trivial, ?_⟩; gi_at_call 113; refine (callsIn_wide.2 (iPathUp_any s hs _)).mono ?_; rintro e w0 ⟨rfl, hB⟩) | (refine ⟨trivial, ?_⟩; gi_at_call 198; refine (callsIn_wide.2 (upward_any _ _)).mono ?_; rintro e w1 ⟨rfl, rfl⟩))
 obtain ⟨bn, hbnE⟩ : ∃ bn, bn = w0.heap.size := ⟨_, rfl⟩
 obtain ⟨W0, hW0⟩ : ∃ W0, W0 = w0.alloc (.cells #[.string (upS s)] 9) := ⟨_, rfl⟩
 have hB0 : Below w.heap.size w W0 := by rw [hW0]; exact belowA (belowT (belowA (belowA (Below.refl _ w) _) _) hB) _
 have cN := cellNew (w.alloc (.cells #[.iface 207 (.agg #[]), .map (some (A ⟨#[47]⟩))] 146)) (.bool false) 4; have fN := frozenNew (w.alloc (.cells #[.iface 207 (.agg #[]), .map (some (A ⟨#[47]⟩))] 146)) (.bool false) 4; simp only [World.size_alloc] at cN fN; have hR0 : RSt w.heap.size A false W0 := by rw [hW0]; exact RSt.below (RSt.below ⟨cN, fN, (Box2.new w _ _ _).on _⟩ hB) (belowA (Below.refl _ w0) _)
 have cb : W0.cell? ⟨bn, 0, none⟩ = some (.string (upS s)) := by rw [hW0, hbnE]; exact cellNew w0 _ _
 have hbn : bn < W0.heap.size := by rw [hW0, hbnE]; simp
 have hle : w.heap.size ≤ W0.heap.size := hB0.size
 have husz : (upS s).size ≤ 16777216 := by
  cases hp : pathB s with
  | true => have := up_lt hp; omega
  | false => rw [up_bad hp]; exact Nat.zero_le _
 rw [← hW0, ← hbnE]; clear hW0 hbnE cN fN hB
 refine wpIn_rangeFunc_ownF rfl (by omega) (gf := 217) (lb := #[.pointer (some ⟨bn, 0, none⟩)]) rfl trivial (enters_of Tryz.func217 (by kernel_rfl) rfl)
  (ups_stops _ (by omega) bn (upS s) husz _ hbn cb) (fun _ _ => trivial) (fun _ _ _ _ _ _ _ _ => trivial) (Below.refl _ _) (fun _ => rfl)
  (fun pre W => (RSt w.heap.size A false W ∧ Hid ((pre.map Subtype.val).any (tellM es (fun d => d == 4)) = false)) ∧ Below w.heap.size w W)
  (fun c pre W => (c = .ret ∧ RSt w.heap.size A true W ∧ Hid ((pre.map Subtype.val).any (tellM es (fun d => d == 4)) = true)) ∧ Below w.heap.size w W)
  (OwnFrom.and (Own.from (fun s A B row hs hg hr => ⟨hs.1.kept hg hr, hs.2⟩) _) (ownFrom_below (Nat.le_refl _) hle))
  (fun c => OwnFrom.and (Own.from (fun s A B row hs hg hr => ⟨hs.1, hs.2.1.kept hg hr, hs.2.2⟩) _) (ownFrom_below (Nat.le_refl _) hle))
  ⟨⟨hR0, rfl⟩, hB0⟩
  (fun x => { tmps := #[layV A, .string s, .pointer (some ⟨w.heap.size, 0, none⟩), undef, .pointer (some ⟨w.heap.size + 1, 0, none⟩), .string x.1, undef, undef, .string s, .string (upS s), .func (.func 217) #[] #[.pointer (some ⟨bn, 0, none⟩)], .string x.1, undef, undef, undef, undef, undef, undef, undef, undef, undef, undef, undef, undef, undef, undef], defers := [] }) ?assign ?body ?done ?stop
 case assign =>
  intro l x W K hK
  gi_wp2
  exact hK
 case body =>
  rintro l pre x W ⟨⟨hSt, HA⟩, hB⟩ _; obtain ⟨hpx, hsx⟩ := ups_small x.2; have hxz : x.1.size ≤ 16777216 := by omega
  have HAt := hid (at_any base N es A T (x.1.size + 1) W (R.below hB) x.1 (Nat.lt_succ_self _) hxz); have HSt := hid hSt; have HB := hid hB
  have sn : Hid (∀ b, tellM es (fun d => d == 4) x.1 = b → ((pre ++ [x]).map Subtype.val).any (tellM es (fun d => d == 4)) = b) := fun b hb => by
   rw [List.map_append, List.map_singleton, any_snoc, HA.out, hb, Bool.false_or]
  obtain ⟨sr, srf, ⟨c0, c1, f0, f1⟩⟩ := hSt; cases hlk : lookE es x.1 with
  | none =>
   have HX := hid (sn.out false (by unfold tellM; rw [hlk])); rw [atV_none (path_not_root hpx) hlk] at HAt; clear hlk hpx
   gi_wp2_with (refine ⟨trivial, ?_⟩; gi_at_call 155; refine (callsIn_wide.2 HAt.out).mono ?_; rintro e w2 ⟨rfl, hB2⟩)
   all_goals exact ⟨keeps_of_below (belowA hB2 _), trivial, ⟨HSt.out.below (belowA hB2 _), HX⟩, belowT HB.out (belowA hB2 _)⟩
  | some e =>
   have hk := T.kind e (look_mem hlk).1; have ht : tellM es (fun d => d == 4) x.1 = (fun d : Int => d == 4) e.d := by unfold tellM; rw [hlk]
   rw [atV_some T hlk] at HAt; unfold nodeV at HAt; obtain ⟨d, hd⟩ : ∃ d, e.d = d := ⟨_, rfl⟩
   rw [hd] at HAt hk ht; obtain ⟨xx, hxx⟩ : ∃ xx, e.x = xx := ⟨_, rfl⟩
   rw [hxx] at HAt; clear hlk hpx hd hxx; rcases (by omega : d = 1 ∨ d = 2 ∨ d = 3 ∨ d = 4) with rfl | rfl | rfl | rfl
   ·
    have HX := hid (sn.out false (ht.trans rfl)); have hq : ∀ W, (binOp .eql 141 (signV 1 xx) (.iface 247 (.agg #[]))).run Tryz.prog W = .ok (.bool false) W := fun W => eqs14 xx W; rw [sign1] at HAt hq; have hg := guards
    gi_wp2_with (refine ⟨trivial, ?_⟩; gi_at_call 155; refine (callsIn_wide.2 HAt.out).mono ?_; rintro e w2 ⟨rfl, hB2⟩; obtain ⟨kr, krf, -⟩ := HSt.out.below (belowA hB2 (.cells #[signV 1 xx, .map (some (A x.1))] 144)); rw [sign1] at kr krf)
    exact ⟨keeps_of_below (belowA hB2 _), trivial, ⟨HSt.out.below (belowA hB2 _), HX⟩, belowT HB.out (belowA hB2 _)⟩
   ·
    have HX := hid (sn.out false (ht.trans rfl)); have hq : ∀ W, (binOp .eql 141 (signV 2 xx) (.iface 247 (.agg #[]))).run Tryz.prog W = .ok (.bool false) W := fun W => eqs24 W; rw [sign2] at HAt hq; have hg := guards
    gi_wp2_with (refine ⟨trivial, ?_⟩; gi_at_call 155; refine (callsIn_wide.2 HAt.out).mono ?_; rintro e w2 ⟨rfl, hB2⟩; obtain ⟨kr, krf, -⟩ := HSt.out.below (belowA hB2 (.cells #[signV 2 xx, .map (some (A x.1))] 144)); rw [sign2] at kr krf)
    exact ⟨keeps_of_below (belowA hB2 _), trivial, ⟨HSt.out.below (belowA hB2 _), HX⟩, belowT HB.out (belowA hB2 _)⟩
   ·
    have HX := hid (sn.out false (ht.trans rfl)); have hq : ∀ W, (binOp .eql 141 (signV 3 xx) (.iface 247 (.agg #[]))).run Tryz.prog W = .ok (.bool false) W := fun W => eqs34 W; rw [sign3] at HAt hq; have hg := guards
    gi_wp2_with (refine ⟨trivial, ?_⟩; gi_at_call 155; refine (callsIn_wide.2 HAt.out).mono ?_; rintro e w2 ⟨rfl, hB2⟩; obtain ⟨kr, krf, -⟩ := HSt.out.below (belowA hB2 (.cells #[signV 3 xx, .map (some (A x.1))] 144)); rw [sign3] at kr krf)
    exact ⟨keeps_of_below (belowA hB2 _), trivial, ⟨HSt.out.below (belowA hB2 _), HX⟩, belowT HB.out (belowA hB2 _)⟩
   ·
    have HX := hid (sn.out true (ht.trans rfl)); have hq : ∀ W, (binOp .eql 141 (signV 4 xx) (.iface 247 (.agg #[]))).run Tryz.prog W = .ok (.bool true) W := fun W => eqs44 W; rw [sign4] at HAt hq; have hg := guards
    gi_wp2_with (refine ⟨trivial, ?_⟩; gi_at_call 155; refine (callsIn_wide.2 HAt.out).mono ?_; rintro e w2 ⟨rfl, hB2⟩; obtain ⟨kr, krf, -⟩ := HSt.out.below (belowA hB2 (.cells #[signV 4 xx, .map (some (A x.1))] 144)); rw [sign4] at kr krf)
    exact ⟨(keeps_of_below (belowA hB2 _)).trans (KeepsOthers.setCell _ _ _), ⟨rfl, (HSt.out.below (belowA hB2 _)).set true, HX⟩, (belowT HB.out (belowA hB2 _)).setCell (p := ⟨w.heap.size + 1, 0, none⟩) (by simp) _⟩
 case done =>
  rintro D ys W hD hys ⟨⟨hSt, HA⟩, hB⟩ hK; have he : (ups (upS s)).any (tellM es (fun d => d == 4)) = false := by rw [← hys]; exact HA.out
  have hS2 := hSt.set false; have hB2 := hB.setCell (p := ⟨w.heap.size + 1, 0, none⟩) (by simp) (.bool false); obtain ⟨sr, srf, -⟩ := hSt
  gi_wp2
  have hK' := (KeepsOthers.setCell W ⟨w.heap.size + 1, 0, none⟩ (.bool false)).same D _ hK rfl; refine ⟨by simp, .inl ⟨_, _, rfl, run_takeDeferred hK', ?_⟩⟩; have r0 := cell_kept hS2.r (grownBy_putObj' _ D (.deferred none)) (fun r e => by cases e; exact ⟨_, hK', rfl⟩); refine ⟨.bool false, ?_, by rw [he], hB2.trans (belowK_b (w := w) (Nat.le_refl _) _ D _ _ (by have := hB0.size; omega) hK' rfl rfl)⟩; simp [results, Tryz.f179, go_sem, r0]
 case stop =>
  rintro D c pre W hD hpre ⟨⟨rfl, hSt, HA⟩, hB⟩ hK; have he : (ups (upS s)).any (tellM es (fun d => d == 4)) = true := any_pre hpre HA.out
  gi_wp2
  refine ⟨by simp, .inl ⟨_, _, rfl, run_takeDeferred hK, ?_⟩⟩; have r0 := cell_kept hSt.r (grownBy_putObj' _ D (.deferred none)) (fun r e => by cases e; exact ⟨_, hK, rfl⟩); refine ⟨.bool true, ?_, by rw [he], hB.trans (belowK_b (w := w) (Nat.le_refl _) _ D _ _ (by have := hB0.size; omega) hK rfl rfl)⟩; simp [results, Tryz.f179, go_sem, r0]
end Go.Proofs.YteppodogghjfhaaGreatDoor.Mk
namespace Go.Proofs.YteppodogghjfhaaGreatDoor.Mk
open Go.RowKit Go.Shelf Go.Lib
attribute [local go_sem] Oper.semAt_some
theorem atV_sign {es : List E} {A : ByteArray → Nat} {p : ByteArray} (T : TrM es) (hz : ∀ e ∈ es, e.x.size ≤ 16777216) (h : AtM es (upS p)) :
  ∃ d x, atV es A (upS p) = (.agg #[signV d x, .map (some (A (upS p)))], true) ∧ (1 ≤ d ∧ d ≤ 4) ∧ x.size ≤ 16777216 ∧ inM es p = dirK d := by
 rcases h with q | ⟨e, h⟩
 ·
  refine ⟨2, ⟨#[]⟩, ?_, by omega, Nat.zero_le _, ?_⟩
  ·
   rw [atV_root ((isRoot_iff _).2 q), q]; rfl
  ·
   rw [inM_look.2 (.inl q)]; rfl
 ·
  refine ⟨e.d, e.x, atV_some T h, T.kind e (look_mem h).1, hz e (look_mem h).1, ?_⟩; rw [Bool.eq_iff_iff, inM_look]
  constructor
  ·
   rintro (q | ⟨f, h1, h2⟩)
   ·
    rw [q, look_bad T root_no_path] at h; cases h
   ·
    rw [h] at h1; cases h1; exact h2
  ·
   intro hd; exact .inr ⟨e, h, hd⟩
theorem inM_not {es : List E} {p : ByteArray} (h : ¬ AtM es (upS p)) : inM es p = false := by
 cases hi : inM es p with
 | false => rfl
 | true => exact absurd ((inM_look.1 hi).imp id fun ⟨f, h1, _⟩ => ⟨f, h1⟩) h
theorem upS_le (p : ByteArray) (hp : p.size ≤ 16777216) : (upS p).size ≤ 16777216 := by
 cases h : pathB p with
 | true => have := up_lt h; omega
 | false => rw [up_bad h]; exact Nat.zero_le _
set_option maxHeartbeats 4000000 in
set_option maxRecDepth 100000 in
theorem takes_any (base N : Nat) (es : List E) (A : ByteArray → Nat) (T : TrM es) (hz : ∀ e ∈ es, e.x.size ≤ 16777216) (w : World) (R : Rep w base N es A) (p : ByteArray) (hp : p.size ≤ 16777216) (d : Int) (x : ByteArray) (hx : x.size ≤ 16777216) (hd : 1 ≤ d ∧ d ≤ 4) :
  Calls Tryz.prog 145 #[layV A, .string p, signV d x] w fun e w' => e = .returned (.bool (takesM es p d)) ∧ Below w.heap.size w w' := by
 obtain ⟨t, u, htu⟩ := sign_is d x; have HTK : Hid (takesM es p d = (inM es p && (!bareM es p || decide (d ≤ 2)))) := rfl; have HIB := hid (fun W => inBare_any d x hx hd W); have HD := hid hd; have HTU := hid htu; rw [htu] at HIB; rw [htu]; have B1 := Box2.new w (.iface 207 (.agg #[])) (.map (some (A ⟨#[47]⟩))) 146; obtain ⟨w1, hw1⟩ : ∃ w1, w1 = w.alloc (.cells #[.iface 207 (.agg #[]), .map (some (A ⟨#[47]⟩))] 146) := ⟨_, rfl⟩
 have hBw : Below w.heap.size w w1 := by rw [hw1]; exact belowA (Below.refl _ w) _
 rw [← hw1] at B1; have HB1 := hid B1; have AS : Hid (∀ W', Below w1.heap.size w1 W' → (W'.cell? ⟨w.heap.size, 0, none⟩ = some (.iface 207 (.agg #[])) ∧ W'.cell? ⟨w.heap.size, 1, none⟩ = some (.map (some (A ⟨#[47]⟩))))) := fun W' hW => ⟨(B1.below hW).c0, (B1.below hW).c1⟩; have AR : Hid (∀ W', Below w1.heap.size w1 W' → Rep W' base N es A) := fun W' hW => (R.below hBw).below hW; have HU := hid (fun W => iPathUp_any p (by omega) W); have hus := upS_le p hp; have HAt := hid (fun (W : World) (hW : Rep W base N es A) => at_any base N es A T ((upS p).size + 1) W hW (upS p) (Nat.lt_succ_self _) hus); have HBa := hid (fun (W : World) (hW : Rep W base N es A) => bares_any base N es A T W hW p (by omega)); clear htu; by_cases hA : AtM es (upS p)
 ·
  obtain ⟨du, xu, hv, hdu, hxu, hin⟩ := atV_sign (A := A) T hz hA; obtain ⟨tu, uu, hsu⟩ := sign_is du xu; have HSD := hid (fun W => showsDir_any du xu hxu hdu W); rw [hv, hsu] at HAt; rw [hsu] at HSD; clear hv hsu hA; cases hdk : dirK du with
  | false =>
   rw [hdk] at HSD hin; have HR : Hid (takesM es p d = false) := by show _ = _; rw [HTK.out, hin]; rfl
   clear hdk hin; go_enter Tryz.func145, Tryz.ntmps145
   go_wp2_with fail
   rw [← hw1]; clear hw1
   rename_i Qx Kx hKx
   have HK : Hid (∀ (b : Nat) (W : World), Below w1.heap.size w1 W → Box2 W b (.iface tu uu) (.map (some (A (upS p)))) → Kx { tmps := #[layV A, .string p, .iface t u, .pointer (some ⟨w.heap.size, 0, none⟩), undef, undef, .bool false, .pointer (some ⟨b, 0, none⟩), .bool true, undef, undef, .tuple #[.agg #[.iface tu uu, .map (some (A (upS p)))], .bool true], .agg #[.iface 207 (.agg #[]), .map (some (A ⟨#[47]⟩))], .string p, .string (upS p), .tuple #[.agg #[.iface tu uu, .map (some (A (upS p)))], .bool true], .agg #[.iface tu uu, .map (some (A (upS p)))], .bool true, undef, undef, undef, undef, undef, undef, undef, undef, undef, undef, undef, undef, undef, undef, undef, undef, undef, undef, undef, undef, undef, undef, undef], defers := [] } W) := by
    intro b W hBW hbx; refine hKx _ _ ?_; clear hKx; have HBW := hid (belowT hBw hBW); have HBX := hid hbx; have HLY := hid (HB1.out.below hBW); obtain ⟨x0, x1, x2, x3⟩ := hbx; go_wp2_with (first | (go_at_call 178; refine (HSD.out _).mono ?_; rintro e w5 ⟨rfl, hB5⟩; obtain ⟨l0, l1, l2, l3⟩ := HLY.out.below hB5) | fail)
    go_ret
    exact ⟨by rw [HR.out]; rfl, belowT HBW.out hB5⟩
   clear hKx
   go_region_held3 (fun W' => W'.cell? ⟨w.heap.size, 0, none⟩ = some (.iface 207 (.agg #[])) ∧ W'.cell? ⟨w.heap.size, 1, none⟩ = some (.map (some (A ⟨#[47]⟩))))
    ((refine AS.out _ ?_; repeat (first | exact Below.refl _ _ | apply belowA | refine belowT ?_ hB4 | refine belowT ?_ hB3 | apply Below.drew | refine set2_below ?_ (by first | exact Nat.le_refl _ | (have h3 := hB3.size; have h4 := hB4.size; simp at h3 h4 ⊢; omega)) _ _)))
    (first | (go_at_call 113; refine (HU.out _).mono ?_; rintro e w3 ⟨rfl, hB3⟩; obtain ⟨bc3, bf3⟩ := bcellN hB3; have l3 := hB3.size; (try simp at l3); (try (have z0 := bc3 w1.heap.size 0 (lt_allocD _ _); have z1 := bc3 w1.heap.size 1 (lt_allocD _ _); have z2 := bf3 w1.heap.size 0 (lt_allocD _ _); have z3 := bf3 w1.heap.size 1 (lt_allocD _ _); simp at z0 z1 z2 z3)); clear bc3 bf3) | (go_at_call 155; refine (HAt.out _ (AR.out _ (by repeat (first | exact Below.refl _ _ | apply belowA | refine belowT ?_ hB3 | apply Below.drew)))).mono ?_; rintro e w4 ⟨rfl, hB4⟩; obtain ⟨bc4, bf4⟩ := bcellN hB4; have l4 := hB4.size; (try simp at l4); (try (have z0 := bc4 w3.heap.size 0 (lt_alloc _ _); have z1 := bc4 w3.heap.size 1 (lt_alloc _ _); have z2 := bf4 w3.heap.size 0 (lt_alloc _ _); have z3 := bf4 w3.heap.size 1 (lt_alloc _ _); simp at z0 z1 z2 z3)); (try (have v0 := (bc4 w1.heap.size 0 l3).trans z0; have v1 := (bc4 w1.heap.size 1 l3).trans z1; have v2 := (bf4 w1.heap.size 0 l3).trans z2; have v3 := (bf4 w1.heap.size 1 l3).trans z3)); clear bc4 bf4))
   all_goals refine HK.out _ _ (by repeat (first | exact Below.refl _ _ | apply belowA | refine belowT ?_ hB4 | refine belowT ?_ hB3 | apply Below.drew | refine set2_below ?_ (by first | exact Nat.le_refl _ | (have h3 := hB3.size; have h4 := hB4.size; simp at h3 h4 ⊢; omega)) _ _)) ?_
   all_goals first | exact Box2.set ⟨v0, v1, v2, v3⟩ _ _ | exact Box2.set ⟨z0, z1, z2, z3⟩ _ _ | exact Box2.new _ _ _ _
  | true =>
   rw [hdk] at HSD hin; have hpb := inM_path T hin; rw [bares_is T hpb] at HBa; have HR1 : Hid (takesM es p d = (!bareM es p || decide (d ≤ 2))) := by show _ = _; rw [HTK.out, hin]; rfl
   clear hdk hin hpb; cases hba : bareM es p with
   | false =>
    rw [hba] at HBa; have HR : Hid (takesM es p d = true) := by show _ = _; rw [HR1.out, hba]; rfl
    clear hba; go_enter Tryz.func145, Tryz.ntmps145
    go_wp2_with fail
    rw [← hw1]; clear hw1
    rename_i Qx Kx hKx
    have HK : Hid (∀ (b : Nat) (W : World), Below w1.heap.size w1 W → Box2 W b (.iface tu uu) (.map (some (A (upS p)))) → Kx { tmps := #[layV A, .string p, .iface t u, .pointer (some ⟨w.heap.size, 0, none⟩), undef, undef, .bool false, .pointer (some ⟨b, 0, none⟩), .bool true, undef, undef, .tuple #[.agg #[.iface tu uu, .map (some (A (upS p)))], .bool true], .agg #[.iface 207 (.agg #[]), .map (some (A ⟨#[47]⟩))], .string p, .string (upS p), .tuple #[.agg #[.iface tu uu, .map (some (A (upS p)))], .bool true], .agg #[.iface tu uu, .map (some (A (upS p)))], .bool true, undef, undef, undef, undef, undef, undef, undef, undef, undef, undef, undef, undef, undef, undef, undef, undef, undef, undef, undef, undef, undef, undef, undef], defers := [] } W) := by
     intro b W hBW hbx; refine hKx _ _ ?_; clear hKx; have HBW := hid (belowT hBw hBW); have HBX := hid hbx; have HLY := hid (HB1.out.below hBW); obtain ⟨x0, x1, x2, x3⟩ := hbx; go_wp2_with (first | (go_at_call 178; refine (HSD.out _).mono ?_; rintro e w5 ⟨rfl, hB5⟩; obtain ⟨l0, l1, l2, l3⟩ := HLY.out.below hB5) | (go_at_call 179; refine (HBa.out _ (AR.out _ (belowT hBW hB5))).mono ?_; rintro e w6 ⟨rfl, hB6⟩) | fail)
     go_ret
     exact ⟨by rw [HR.out]; rfl, belowT (belowT HBW.out hB5) hB6⟩
    clear hKx
    go_region_held3 (fun W' => W'.cell? ⟨w.heap.size, 0, none⟩ = some (.iface 207 (.agg #[])) ∧ W'.cell? ⟨w.heap.size, 1, none⟩ = some (.map (some (A ⟨#[47]⟩))))
     ((refine AS.out _ ?_; repeat (first | exact Below.refl _ _ | apply belowA | refine belowT ?_ hB4 | refine belowT ?_ hB3 | apply Below.drew | refine set2_below ?_ (by first | exact Nat.le_refl _ | (have h3 := hB3.size; have h4 := hB4.size; simp at h3 h4 ⊢; omega)) _ _)))
     (first | (go_at_call 113; refine (HU.out _).mono ?_; rintro e w3 ⟨rfl, hB3⟩; obtain ⟨bc3, bf3⟩ := bcellN hB3; have l3 := hB3.size; (try simp at l3); (try (have z0 := bc3 w1.heap.size 0 (lt_allocD _ _); have z1 := bc3 w1.heap.size 1 (lt_allocD _ _); have z2 := bf3 w1.heap.size 0 (lt_allocD _ _); have z3 := bf3 w1.heap.size 1 (lt_allocD _ _); simp at z0 z1 z2 z3)); clear bc3 bf3) | (go_at_call 155; refine (HAt.out _ (AR.out _ (by repeat (first | exact Below.refl _ _ | apply belowA | refine belowT ?_ hB3 | apply Below.drew)))).mono ?_; rintro e w4 ⟨rfl, hB4⟩; obtain ⟨bc4, bf4⟩ := bcellN hB4; have l4 := hB4.size; (try simp at l4); (try (have z0 := bc4 w3.heap.size 0 (lt_alloc _ _); have z1 := bc4 w3.heap.size 1 (lt_alloc _ _); have z2 := bf4 w3.heap.size 0 (lt_alloc _ _); have z3 := bf4 w3.heap.size 1 (lt_alloc _ _); simp at z0 z1 z2 z3)); (try (have v0 := (bc4 w1.heap.size 0 l3).trans z0; have v1 := (bc4 w1.heap.size 1 l3).trans z1; have v2 := (bf4 w1.heap.size 0 l3).trans z2; have v3 := (bf4 w1.heap.size 1 l3).trans z3)); clear bc4 bf4))
    all_goals refine HK.out _ _ (by repeat (first | exact Below.refl _ _ | apply belowA | refine belowT ?_ hB4 | refine belowT ?_ hB3 | apply Below.drew | refine set2_below ?_ (by first | exact Nat.le_refl _ | (have h3 := hB3.size; have h4 := hB4.size; simp at h3 h4 ⊢; omega)) _ _)) ?_
    all_goals first | exact Box2.set ⟨v0, v1, v2, v3⟩ _ _ | exact Box2.set ⟨z0, z1, z2, z3⟩ _ _ | exact Box2.new _ _ _ _
   | true =>
    rw [hba] at HBa; have HR2 : Hid (takesM es p d = decide (d ≤ 2)) := by show _ = _; rw [HR1.out, hba]; rfl
    clear hba; rcases (by omega : d = 1 ∨ d = 2 ∨ d = 3 ∨ d = 4) with rfl | rfl | rfl | rfl
    ·
     have HR : Hid (takesM es p 1 = true) := by show _ = _; rw [HR2.out]; rfl
     have e2 : inB 1 x = (.iface 212 (.agg #[.string x]), true) := rfl; rw [e2] at HIB; have e3 := HTU.out; rw [sign1] at e3
     injection e3 with e4 e5
     subst e4; subst e5; clear e2 HTU; have hg := guards; have hq := eqs11 x; go_enter Tryz.func145, Tryz.ntmps145
     go_wp2_with fail
     rw [← hw1]; clear hw1
     rename_i Qx Kx hKx
     have HK : Hid (∀ (b : Nat) (W : World), Below w1.heap.size w1 W → Box2 W b (.iface tu uu) (.map (some (A (upS p)))) → Kx { tmps := #[layV A, .string p, .iface 212 (.agg #[.string x]), .pointer (some ⟨w.heap.size, 0, none⟩), undef, undef, .bool false, .pointer (some ⟨b, 0, none⟩), .bool true, undef, undef, .tuple #[.agg #[.iface tu uu, .map (some (A (upS p)))], .bool true], .agg #[.iface 207 (.agg #[]), .map (some (A ⟨#[47]⟩))], .string p, .string (upS p), .tuple #[.agg #[.iface tu uu, .map (some (A (upS p)))], .bool true], .agg #[.iface tu uu, .map (some (A (upS p)))], .bool true, undef, undef, undef, undef, undef, undef, undef, undef, undef, undef, undef, undef, undef, undef, undef, undef, undef, undef, undef, undef, undef, undef, undef], defers := [] } W) := by
      intro b W hBW hbx; refine hKx _ _ ?_; clear hKx; have HBW := hid (belowT hBw hBW); have HBX := hid hbx; have HLY := hid (HB1.out.below hBW); obtain ⟨x0, x1, x2, x3⟩ := hbx; go_wp2_with (first | (go_at_call 178; refine (HSD.out _).mono ?_; rintro e w5 ⟨rfl, hB5⟩; obtain ⟨l0, l1, l2, l3⟩ := HLY.out.below hB5) | (go_at_call 179; refine (HBa.out _ (AR.out _ (belowT hBW hB5))).mono ?_; rintro e w6 ⟨rfl, hB6⟩) | (go_at_call 180; refine (HIB.out _).mono ?_; rintro e w7 ⟨rfl, hB7⟩) | fail)
      go_ret
      exact ⟨by rw [HR.out]; rfl, belowT (belowT (belowT HBW.out hB5) hB6) hB7⟩
     clear hKx
     go_region_held3 (fun W' => W'.cell? ⟨w.heap.size, 0, none⟩ = some (.iface 207 (.agg #[])) ∧ W'.cell? ⟨w.heap.size, 1, none⟩ = some (.map (some (A ⟨#[47]⟩))))
      ((refine AS.out _ ?_; repeat (first | exact Below.refl _ _ | apply belowA | refine belowT ?_ hB4 | refine belowT ?_ hB3 | apply Below.drew | refine set2_below ?_ (by first | exact Nat.le_refl _ | (have h3 := hB3.size; have h4 := hB4.size; simp at h3 h4 ⊢; omega)) _ _)))
      (first | (go_at_call 113; refine (HU.out _).mono ?_; rintro e w3 ⟨rfl, hB3⟩; obtain ⟨bc3, bf3⟩ := bcellN hB3; have l3 := hB3.size; (try simp at l3); (try (have z0 := bc3 w1.heap.size 0 (lt_allocD _ _); have z1 := bc3 w1.heap.size 1 (lt_allocD _ _); have z2 := bf3 w1.heap.size 0 (lt_allocD _ _); have z3 := bf3 w1.heap.size 1 (lt_allocD _ _); simp at z0 z1 z2 z3)); clear bc3 bf3) | (go_at_call 155; refine (HAt.out _ (AR.out _ (by repeat (first | exact Below.refl _ _ | apply belowA | refine belowT ?_ hB3 | apply Below.drew)))).mono ?_; rintro e w4 ⟨rfl, hB4⟩; obtain ⟨bc4, bf4⟩ := bcellN hB4; have l4 := hB4.size; (try simp at l4); (try (have z0 := bc4 w3.heap.size 0 (lt_alloc _ _); have z1 := bc4 w3.heap.size 1 (lt_alloc _ _); have z2 := bf4 w3.heap.size 0 (lt_alloc _ _); have z3 := bf4 w3.heap.size 1 (lt_alloc _ _); simp at z0 z1 z2 z3)); (try (have v0 := (bc4 w1.heap.size 0 l3).trans z0; have v1 := (bc4 w1.heap.size 1 l3).trans z1; have v2 := (bf4 w1.heap.size 0 l3).trans z2; have v3 := (bf4 w1.heap.size 1 l3).trans z3)); clear bc4 bf4))
     all_goals refine HK.out _ _ (by repeat (first | exact Below.refl _ _ | apply belowA | refine belowT ?_ hB4 | refine belowT ?_ hB3 | apply Below.drew | refine set2_below ?_ (by first | exact Nat.le_refl _ | (have h3 := hB3.size; have h4 := hB4.size; simp at h3 h4 ⊢; omega)) _ _)) ?_
     all_goals first | exact Box2.set ⟨v0, v1, v2, v3⟩ _ _ | exact Box2.set ⟨z0, z1, z2, z3⟩ _ _ | exact Box2.new _ _ _ _
    ·
     have HR : Hid (takesM es p 2 = true) := by show _ = _; rw [HR2.out]; rfl
     have e2 : inB 2 x = (.iface 207 (.agg #[]), true) := rfl; rw [e2] at HIB; have e3 := HTU.out; rw [sign2] at e3
     injection e3 with e4 e5
     subst e4; subst e5; clear e2 HTU; have hg := guards; have hq := eqs22; go_enter Tryz.func145, Tryz.ntmps145
     go_wp2_with fail
     rw [← hw1]; clear hw1
     rename_i Qx Kx hKx
     have HK : Hid (∀ (b : Nat) (W : World), Below w1.heap.size w1 W → Box2 W b (.iface tu uu) (.map (some (A (upS p)))) → Kx { tmps := #[layV A, .string p, .iface 207 (.agg #[]), .pointer (some ⟨w.heap.size, 0, none⟩), undef, undef, .bool false, .pointer (some ⟨b, 0, none⟩), .bool true, undef, undef, .tuple #[.agg #[.iface tu uu, .map (some (A (upS p)))], .bool true], .agg #[.iface 207 (.agg #[]), .map (some (A ⟨#[47]⟩))], .string p, .string (upS p), .tuple #[.agg #[.iface tu uu, .map (some (A (upS p)))], .bool true], .agg #[.iface tu uu, .map (some (A (upS p)))], .bool true, undef, undef, undef, undef, undef, undef, undef, undef, undef, undef, undef, undef, undef, undef, undef, undef, undef, undef, undef, undef, undef, undef, undef], defers := [] } W) := by
      intro b W hBW hbx; refine hKx _ _ ?_; clear hKx; have HBW := hid (belowT hBw hBW); have HBX := hid hbx; have HLY := hid (HB1.out.below hBW); obtain ⟨x0, x1, x2, x3⟩ := hbx; go_wp2_with (first | (go_at_call 178; refine (HSD.out _).mono ?_; rintro e w5 ⟨rfl, hB5⟩; obtain ⟨l0, l1, l2, l3⟩ := HLY.out.below hB5) | (go_at_call 179; refine (HBa.out _ (AR.out _ (belowT hBW hB5))).mono ?_; rintro e w6 ⟨rfl, hB6⟩) | (go_at_call 180; refine (HIB.out _).mono ?_; rintro e w7 ⟨rfl, hB7⟩) | fail)
      go_ret
      exact ⟨by rw [HR.out]; rfl, belowT (belowT (belowT HBW.out hB5) hB6) hB7⟩
     clear hKx
     go_region_held3 (fun W' => W'.cell? ⟨w.heap.size, 0, none⟩ = some (.iface 207 (.agg #[])) ∧ W'.cell? ⟨w.heap.size, 1, none⟩ = some (.map (some (A ⟨#[47]⟩))))
      ((refine AS.out _ ?_; repeat (first | exact Below.refl _ _ | apply belowA | refine belowT ?_ hB4 | refine belowT ?_ hB3 | apply Below.drew | refine set2_below ?_ (by first | exact Nat.le_refl _ | (have h3 := hB3.size; have h4 := hB4.size; simp at h3 h4 ⊢; omega)) _ _)))
      (first | (go_at_call 113; refine (HU.out _).mono ?_; rintro e w3 ⟨rfl, hB3⟩; obtain ⟨bc3, bf3⟩ := bcellN hB3; have l3 := hB3.size; (try simp at l3); (try (have z0 := bc3 w1.heap.size 0 (lt_allocD _ _); have z1 := bc3 w1.heap.size 1 (lt_allocD _ _); have z2 := bf3 w1.heap.size 0 (lt_allocD _ _); have z3 := bf3 w1.heap.size 1 (lt_allocD _ _); simp at z0 z1 z2 z3)); clear bc3 bf3) | (go_at_call 155; refine (HAt.out _ (AR.out _ (by repeat (first | exact Below.refl _ _ | apply belowA | refine belowT ?_ hB3 | apply Below.drew)))).mono ?_; rintro e w4 ⟨rfl, hB4⟩; obtain ⟨bc4, bf4⟩ := bcellN hB4; have l4 := hB4.size; (try simp at l4); (try (have z0 := bc4 w3.heap.size 0 (lt_alloc _ _); have z1 := bc4 w3.heap.size 1 (lt_alloc _ _); have z2 := bf4 w3.heap.size 0 (lt_alloc _ _); have z3 := bf4 w3.heap.size 1 (lt_alloc _ _); simp at z0 z1 z2 z3)); (try (have v0 := (bc4 w1.heap.size 0 l3).trans z0; have v1 := (bc4 w1.heap.size 1 l3).trans z1; have v2 := (bf4 w1.heap.size 0 l3).trans z2; have v3 := (bf4 w1.heap.size 1 l3).trans z3)); clear bc4 bf4))
     all_goals refine HK.out _ _ (by repeat (first | exact Below.refl _ _ | apply belowA | refine belowT ?_ hB4 | refine belowT ?_ hB3 | apply Below.drew | refine set2_below ?_ (by first | exact Nat.le_refl _ | (have h3 := hB3.size; have h4 := hB4.size; simp at h3 h4 ⊢; omega)) _ _)) ?_
     all_goals first | exact Box2.set ⟨v0, v1, v2, v3⟩ _ _ | exact Box2.set ⟨z0, z1, z2, z3⟩ _ _ | exact Box2.new _ _ _ _
    ·
     have HR : Hid (takesM es p 3 = false) := by show _ = _; rw [HR2.out]; rfl
     have e2 : inB 3 x = (.nilIface, false) := rfl; rw [e2] at HIB; have e3 := HTU.out; rw [sign3] at e3
     injection e3 with e4 e5
     subst e4; subst e5; clear e2 HTU; have hg := guards; have hq := eqs22; go_enter Tryz.func145, Tryz.ntmps145
     go_wp2_with fail
     rw [← hw1]; clear hw1
     rename_i Qx Kx hKx
     have HK : Hid (∀ (b : Nat) (W : World), Below w1.heap.size w1 W → Box2 W b (.iface tu uu) (.map (some (A (upS p)))) → Kx { tmps := #[layV A, .string p, .iface 161 (.agg #[]), .pointer (some ⟨w.heap.size, 0, none⟩), undef, undef, .bool false, .pointer (some ⟨b, 0, none⟩), .bool true, undef, undef, .tuple #[.agg #[.iface tu uu, .map (some (A (upS p)))], .bool true], .agg #[.iface 207 (.agg #[]), .map (some (A ⟨#[47]⟩))], .string p, .string (upS p), .tuple #[.agg #[.iface tu uu, .map (some (A (upS p)))], .bool true], .agg #[.iface tu uu, .map (some (A (upS p)))], .bool true, undef, undef, undef, undef, undef, undef, undef, undef, undef, undef, undef, undef, undef, undef, undef, undef, undef, undef, undef, undef, undef, undef, undef], defers := [] } W) := by
      intro b W hBW hbx; refine hKx _ _ ?_; clear hKx; have HBW := hid (belowT hBw hBW); have HBX := hid hbx; have HLY := hid (HB1.out.below hBW); obtain ⟨x0, x1, x2, x3⟩ := hbx; go_wp2_with (first | (go_at_call 178; refine (HSD.out _).mono ?_; rintro e w5 ⟨rfl, hB5⟩; obtain ⟨l0, l1, l2, l3⟩ := HLY.out.below hB5) | (go_at_call 179; refine (HBa.out _ (AR.out _ (belowT hBW hB5))).mono ?_; rintro e w6 ⟨rfl, hB6⟩) | (go_at_call 180; refine (HIB.out _).mono ?_; rintro e w7 ⟨rfl, hB7⟩) | fail)
      go_ret
      exact ⟨by rw [HR.out]; rfl, belowT (belowT (belowT HBW.out hB5) hB6) hB7⟩
     clear hKx
     go_region_held3 (fun W' => W'.cell? ⟨w.heap.size, 0, none⟩ = some (.iface 207 (.agg #[])) ∧ W'.cell? ⟨w.heap.size, 1, none⟩ = some (.map (some (A ⟨#[47]⟩))))
      ((refine AS.out _ ?_; repeat (first | exact Below.refl _ _ | apply belowA | refine belowT ?_ hB4 | refine belowT ?_ hB3 | apply Below.drew | refine set2_below ?_ (by first | exact Nat.le_refl _ | (have h3 := hB3.size; have h4 := hB4.size; simp at h3 h4 ⊢; omega)) _ _)))
      (first | (go_at_call 113; refine (HU.out _).mono ?_; rintro e w3 ⟨rfl, hB3⟩; obtain ⟨bc3, bf3⟩ := bcellN hB3; have l3 := hB3.size; (try simp at l3); (try (have z0 := bc3 w1.heap.size 0 (lt_allocD _ _); have z1 := bc3 w1.heap.size 1 (lt_allocD _ _); have z2 := bf3 w1.heap.size 0 (lt_allocD _ _); have z3 := bf3 w1.heap.size 1 (lt_allocD _ _); simp at z0 z1 z2 z3)); clear bc3 bf3) | (go_at_call 155; refine (HAt.out _ (AR.out _ (by repeat (first | exact Below.refl _ _ | apply belowA | refine belowT ?_ hB3 | apply Below.drew)))).mono ?_; rintro e w4 ⟨rfl, hB4⟩; obtain ⟨bc4, bf4⟩ := bcellN hB4; have l4 := hB4.size; (try simp at l4); (try (have z0 := bc4 w3.heap.size 0 (lt_alloc _ _); have z1 := bc4 w3.heap.size 1 (lt_alloc _ _); have z2 := bf4 w3.heap.size 0 (lt_alloc _ _); have z3 := bf4 w3.heap.size 1 (lt_alloc _ _); simp at z0 z1 z2 z3)); (try (have v0 := (bc4 w1.heap.size 0 l3).trans z0; have v1 := (bc4 w1.heap.size 1 l3).trans z1; have v2 := (bf4 w1.heap.size 0 l3).trans z2; have v3 := (bf4 w1.heap.size 1 l3).trans z3)); clear bc4 bf4))
     all_goals refine HK.out _ _ (by repeat (first | exact Below.refl _ _ | apply belowA | refine belowT ?_ hB4 | refine belowT ?_ hB3 | apply Below.drew | refine set2_below ?_ (by first | exact Nat.le_refl _ | (have h3 := hB3.size; have h4 := hB4.size; simp at h3 h4 ⊢; omega)) _ _)) ?_
     all_goals first | exact Box2.set ⟨v0, v1, v2, v3⟩ _ _ | exact Box2.set ⟨z0, z1, z2, z3⟩ _ _ | exact Box2.new _ _ _ _
    ·
     have HR : Hid (takesM es p 4 = false) := by show _ = _; rw [HR2.out]; rfl
     have e2 : inB 4 x = (.iface 207 (.agg #[]), true) := rfl; rw [e2] at HIB; have e3 := HTU.out; rw [sign4] at e3
     injection e3 with e4 e5
     subst e4; subst e5; clear e2 HTU; have hg := guards; have hq := eqs24; go_enter Tryz.func145, Tryz.ntmps145
     go_wp2_with fail
     rw [← hw1]; clear hw1
     rename_i Qx Kx hKx
     have HK : Hid (∀ (b : Nat) (W : World), Below w1.heap.size w1 W → Box2 W b (.iface tu uu) (.map (some (A (upS p)))) → Kx { tmps := #[layV A, .string p, .iface 247 (.agg #[]), .pointer (some ⟨w.heap.size, 0, none⟩), undef, undef, .bool false, .pointer (some ⟨b, 0, none⟩), .bool true, undef, undef, .tuple #[.agg #[.iface tu uu, .map (some (A (upS p)))], .bool true], .agg #[.iface 207 (.agg #[]), .map (some (A ⟨#[47]⟩))], .string p, .string (upS p), .tuple #[.agg #[.iface tu uu, .map (some (A (upS p)))], .bool true], .agg #[.iface tu uu, .map (some (A (upS p)))], .bool true, undef, undef, undef, undef, undef, undef, undef, undef, undef, undef, undef, undef, undef, undef, undef, undef, undef, undef, undef, undef, undef, undef, undef], defers := [] } W) := by
      intro b W hBW hbx; refine hKx _ _ ?_; clear hKx; have HBW := hid (belowT hBw hBW); have HBX := hid hbx; have HLY := hid (HB1.out.below hBW); obtain ⟨x0, x1, x2, x3⟩ := hbx; go_wp2_with (first | (go_at_call 178; refine (HSD.out _).mono ?_; rintro e w5 ⟨rfl, hB5⟩; obtain ⟨l0, l1, l2, l3⟩ := HLY.out.below hB5) | (go_at_call 179; refine (HBa.out _ (AR.out _ (belowT hBW hB5))).mono ?_; rintro e w6 ⟨rfl, hB6⟩) | (go_at_call 180; refine (HIB.out _).mono ?_; rintro e w7 ⟨rfl, hB7⟩) | fail)
      go_ret
      exact ⟨by rw [HR.out]; rfl, belowT (belowT (belowT HBW.out hB5) hB6) hB7⟩
     clear hKx
     go_region_held3 (fun W' => W'.cell? ⟨w.heap.size, 0, none⟩ = some (.iface 207 (.agg #[])) ∧ W'.cell? ⟨w.heap.size, 1, none⟩ = some (.map (some (A ⟨#[47]⟩))))
      ((refine AS.out _ ?_; repeat (first | exact Below.refl _ _ | apply belowA | refine belowT ?_ hB4 | refine belowT ?_ hB3 | apply Below.drew | refine set2_below ?_ (by first | exact Nat.le_refl _ | (have h3 := hB3.size; have h4 := hB4.size; simp at h3 h4 ⊢; omega)) _ _)))
      (first | (go_at_call 113; refine (HU.out _).mono ?_; rintro e w3 ⟨rfl, hB3⟩; obtain ⟨bc3, bf3⟩ := bcellN hB3; have l3 := hB3.size; (try simp at l3); (try (have z0 := bc3 w1.heap.size 0 (lt_allocD _ _); have z1 := bc3 w1.heap.size 1 (lt_allocD _ _); have z2 := bf3 w1.heap.size 0 (lt_allocD _ _); have z3 := bf3 w1.heap.size 1 (lt_allocD _ _); simp at z0 z1 z2 z3)); clear bc3 bf3) | (go_at_call 155; refine (HAt.out _ (AR.out _ (by repeat (first | exact Below.refl _ _ | apply belowA | refine belowT ?_ hB3 | apply Below.drew)))).mono ?_; rintro e w4 ⟨rfl, hB4⟩; obtain ⟨bc4, bf4⟩ := bcellN hB4; have l4 := hB4.size; (try simp at l4); (try (have z0 := bc4 w3.heap.size 0 (lt_alloc _ _); have z1 := bc4 w3.heap.size 1 (lt_alloc _ _); have z2 := bf4 w3.heap.size 0 (lt_alloc _ _); have z3 := bf4 w3.heap.size 1 (lt_alloc _ _); simp at z0 z1 z2 z3)); (try (have v0 := (bc4 w1.heap.size 0 l3).trans z0; have v1 := (bc4 w1.heap.size 1 l3).trans z1; have v2 := (bf4 w1.heap.size 0 l3).trans z2; have v3 := (bf4 w1.heap.size 1 l3).trans z3)); clear bc4 bf4))
     all_goals refine HK.out _ _ (by repeat (first | exact Below.refl _ _ | apply belowA | refine belowT ?_ hB4 | refine belowT ?_ hB3 | apply Below.drew | refine set2_below ?_ (by first | exact Nat.le_refl _ | (have h3 := hB3.size; have h4 := hB4.size; simp at h3 h4 ⊢; omega)) _ _)) ?_
     all_goals first | exact Box2.set ⟨v0, v1, v2, v3⟩ _ _ | exact Box2.set ⟨z0, z1, z2, z3⟩ _ _ | exact Box2.new _ _ _ _
 ·
  rw [atV_not (A := A) hA] at HAt; have HR : Hid (takesM es p d = false) := by show _ = _; rw [HTK.out, inM_not hA]; rfl
  clear hA; go_enter Tryz.func145, Tryz.ntmps145
  go_wp2_with fail
  rw [← hw1]; clear hw1
  rename_i Qx Kx hKx
  have HK : Hid (∀ (b : Nat) (W : World), Below w1.heap.size w1 W → Box2 W b (.nilIface) (.map (none)) → Kx { tmps := #[layV A, .string p, .iface t u, .pointer (some ⟨w.heap.size, 0, none⟩), undef, undef, .bool false, .pointer (some ⟨b, 0, none⟩), .bool false, undef, undef, .tuple #[.agg #[.nilIface, .map (none)], .bool false], .agg #[.iface 207 (.agg #[]), .map (some (A ⟨#[47]⟩))], .string p, .string (upS p), .tuple #[.agg #[.nilIface, .map (none)], .bool false], .agg #[.nilIface, .map (none)], .bool false, undef, undef, undef, undef, undef, undef, undef, undef, undef, undef, undef, undef, undef, undef, undef, undef, undef, undef, undef, undef, undef, undef, undef], defers := [] } W) := by
   intro b W hBW hbx; refine hKx _ _ ?_; clear hKx; have HBW := hid (belowT hBw hBW); have HBX := hid hbx; have HLY := hid (HB1.out.below hBW); obtain ⟨x0, x1, x2, x3⟩ := hbx; go_wp2
   go_ret
   exact ⟨by rw [HR.out]; rfl, HBW.out⟩
  clear hKx
  go_region_held3 (fun W' => W'.cell? ⟨w.heap.size, 0, none⟩ = some (.iface 207 (.agg #[])) ∧ W'.cell? ⟨w.heap.size, 1, none⟩ = some (.map (some (A ⟨#[47]⟩))))
   ((refine AS.out _ ?_; repeat (first | exact Below.refl _ _ | apply belowA | refine belowT ?_ hB4 | refine belowT ?_ hB3 | apply Below.drew | refine set2_below ?_ (by first | exact Nat.le_refl _ | (have h3 := hB3.size; have h4 := hB4.size; simp at h3 h4 ⊢; omega)) _ _)))
   (first | (go_at_call 113; refine (HU.out _).mono ?_; rintro e w3 ⟨rfl, hB3⟩; obtain ⟨bc3, bf3⟩ := bcellN hB3; have l3 := hB3.size; (try simp at l3); (try (have z0 := bc3 w1.heap.size 0 (lt_allocD _ _); have z1 := bc3 w1.heap.size 1 (lt_allocD _ _); have z2 := bf3 w1.heap.size 0 (lt_allocD _ _); have z3 := bf3 w1.heap.size 1 (lt_allocD _ _); simp at z0 z1 z2 z3)); clear bc3 bf3) | (go_at_call 155; refine (HAt.out _ (AR.out _ (by repeat (first | exact Below.refl _ _ | apply belowA | refine belowT ?_ hB3 | apply Below.drew)))).mono ?_; rintro e w4 ⟨rfl, hB4⟩; obtain ⟨bc4, bf4⟩ := bcellN hB4; have l4 := hB4.size; (try simp at l4); (try (have z0 := bc4 w3.heap.size 0 (lt_alloc _ _); have z1 := bc4 w3.heap.size 1 (lt_alloc _ _); have z2 := bf4 w3.heap.size 0 (lt_alloc _ _); have z3 := bf4 w3.heap.size 1 (lt_alloc _ _); simp at z0 z1 z2 z3)); (try (have v0 := (bc4 w1.heap.size 0 l3).trans z0; have v1 := (bc4 w1.heap.size 1 l3).trans z1; have v2 := (bf4 w1.heap.size 0 l3).trans z2; have v3 := (bf4 w1.heap.size 1 l3).trans z3)); clear bc4 bf4))
  all_goals refine HK.out _ _ (by repeat (first | exact Below.refl _ _ | apply belowA | refine belowT ?_ hB4 | refine belowT ?_ hB3 | apply Below.drew | refine set2_below ?_ (by first | exact Nat.le_refl _ | (have h3 := hB3.size; have h4 := hB4.size; simp at h3 h4 ⊢; omega)) _ _)) ?_
  all_goals first | exact Box2.set ⟨v0, v1, v2, v3⟩ _ _ | exact Box2.set ⟨z0, z1, z2, z3⟩ _ _ | exact Box2.new _ _ _ _
end Go.Proofs.YteppodogghjfhaaGreatDoor.Mk
namespace Go.Proofs.YteppodogghjfhaaGreatDoor.Mk
open Go.RowKit Go.Shelf Go.Lib Go.Maps
attribute [local go_sem] Oper.semAt_some
theorem put_fin {w W W7 : World} {base N a : Nat} {es : List E} {A : ByteArray → Nat} {e : E} (T : TrM es) (R : Rep W base N es A) (hV : Turn base w W) (hp : pathB e.p = true) (hup : AtM es (upS e.p)) (hold : lookE es e.p = none)
  (hm : MapIs W7 (A (upS e.p)) (N + 1) (fun t => if t = nmS e.p then some (nodeV e.d e.x a) else kidF es A (upS e.p) t)) (ht : W.mapTurned W7 (A (upS e.p))) (ha : MapIs W a 0 (fun _ => none)) (hba : base ≤ a) (hda : ∀ p, AtM es p → A p ≠ a) :
  Turn base w W7 ∧ ∃ A', A' ⟨#[47]⟩ = A ⟨#[47]⟩ ∧ Rep W7 base (N + 1) (es ++ [e]) A' := by
 have hroot : e.p ≠ ⟨#[47]⟩ := fun q => by rw [q, root_no_path] at hp; cases hp
 refine ⟨hV.trans (Turn.of_map ht (R.low _ hup)), _, ?_, R.put T hp hold hm (fun p hpd hne => ?_) (ha.kept ?_) hba hda⟩
 ·
  rw [if_neg (fun q => hroot q.symm)]
 ·
  exact ht.grown.block _ (R.kids p hpd).lt (fun q => hne (R.apart _ _ hpd hup (Option.some.inj q)))
 ·
  exact ht.grown.block _ ha.lt (fun q => hda _ hup (Option.some.inj q).symm)
theorem turn_set {base b : Nat} {w W : World} (h : Turn base w W) (hb : base ≤ b) (hw : w.heap.size ≤ b) (u v : Value) : Turn base w (set2 W b u v) := by
 refine ⟨set2_below h.below hb u v, fun k o h1 h2 => ?_⟩; have hk := (Array.getElem?_eq_some_iff.1 h1).1; exact ((set2_below (Below.refl w.heap.size W) hw u v).block k hk).trans (h.cells k o h1 h2)
set_option maxHeartbeats 4000000 in
set_option maxRecDepth 100000 in
theorem put_any (base N : Nat) (es : List E) (A : ByteArray → Nat) (T : TrM es) (w : World) (R : Rep w base N es A) (hb : base ≤ w.heap.size) (hN : N < 1000) (p : ByteArray) (hp : p.size ≤ 16777216) (d : Int) (x : ByteArray) (hpb : pathB p = true) (hA : AtM es (upS p)) (hold : lookE es p = none) :
  Calls Tryz.prog 110 #[layV A, .string p, signV d x] w fun e w' => (∃ v, e = .returned v) ∧ Turn base w w' ∧ ∃ A', A' ⟨#[47]⟩ = A ⟨#[47]⟩ ∧ Rep w' base (N + 1) (es ++ [⟨p, d, x⟩]) A' := by
 obtain ⟨t, u, htu⟩ := sign_is d x; have HTU := hid htu; rw [htu]; obtain ⟨tu, uu, hv⟩ := atV_there (A := A) T hA; have B1 := (Box2.new w (.iface 207 (.agg #[])) (.map (some (A ⟨#[47]⟩))) 146).on (.cells #[.nilIface, .map none] 144); have B2 := Box2.new (w.alloc (.cells #[.iface 207 (.agg #[]), .map (some (A ⟨#[47]⟩))] 146)) .nilIface (.map none) 144; simp only [World.size_alloc] at B2; obtain ⟨w1, hw1⟩ : ∃ w1, w1 = (w.alloc (.cells #[.iface 207 (.agg #[]), .map (some (A ⟨#[47]⟩))] 146)).alloc (.cells #[.nilIface, .map none] 144) := ⟨_, rfl⟩
 have hBw : Below w.heap.size w w1 := by rw [hw1]; exact belowA (belowA (Below.refl _ w) _) _
 rw [← hw1] at B1 B2; have HB2 := hid B2; have AS : Hid (∀ W', Below w1.heap.size w1 W' → (W'.cell? ⟨w.heap.size, 0, none⟩ = some (.iface 207 (.agg #[])) ∧ W'.cell? ⟨w.heap.size, 1, none⟩ = some (.map (some (A ⟨#[47]⟩))))) := fun W' hW => ⟨(B1.below hW).c0, (B1.below hW).c1⟩; have AR : Hid (∀ W', Below w1.heap.size w1 W' → Rep W' base N es A) := fun W' hW => (R.below hBw).below hW; have HU := hid (fun W => iPathUp_any p (by omega) W); have HN := hid (fun W => iPathName_any p (by omega) W); have hus := upS_le p hp; have HAt := hid (fun (W : World) (hW : Rep W base N es A) => at_any base N es A T ((upS p).size + 1) W hW (upS p) (Nat.lt_succ_self _) hus); rw [hv] at HAt; have HP := hid hpb; have HA := hid hA; have HO := hid hold; clear htu hv hpb hA hold; go_enter Tryz.func110, Tryz.ntmps110
 go_wp2_with fail
 rw [← hw1]; clear hw1 B1 B2
 rename_i Qx Kx hKx
 have HK : Hid (∀ (b : Nat) (W : World), Below w1.heap.size w1 W → Box2 W b (.iface tu uu) (.map (some (A (upS p)))) → Kx { tmps := #[layV A, .string p, .iface t u, .pointer (some ⟨w.heap.size, 0, none⟩), undef, undef, .pointer (some ⟨w.heap.size + 1, 0, none⟩), .pointer (some ⟨b, 0, none⟩), .bool true, undef, .tuple #[.agg #[.iface tu uu, .map (some (A (upS p)))], .bool true], .agg #[.iface 207 (.agg #[]), .map (some (A ⟨#[47]⟩))], .string p, .string (upS p), .tuple #[.agg #[.iface tu uu, .map (some (A (upS p)))], .bool true], .agg #[.iface tu uu, .map (some (A (upS p)))], .bool true, undef, undef, undef, undef, undef, undef, undef, undef, undef, undef, undef, undef, undef, undef, undef, undef], defers := [] } W) := by
  intro b W hBW hbx; refine hKx _ _ ?_; clear hKx; have HBX := hid hbx; have HBW := hid (belowT hBw hBW); have HRes := hid (HB2.out.below hBW); have HRW := hid (AR.out W hBW); obtain ⟨x0, x1, x2, x3⟩ := hbx; go_wp2_with (first | (go_at_call 153; refine (newNode_any _ _ _).mono ?_; rintro e w5 ⟨rfl, hM5, hB5⟩) | fail)
  obtain ⟨W5, hW5⟩ : ∃ W5, W5 = w5.alloc (.cells #[.iface t u, .map (some (W.heap.size + 1))] 144) := ⟨_, rfl⟩
  have hBW5 : Below W.heap.size W W5 := by rw [hW5]; exact belowA hB5 _
  have BN : Box2 W5 w5.heap.size (.iface t u) (.map (some (W.heap.size + 1))) := by rw [hW5]; exact Box2.new _ _ _ _
  have BU := HBX.out.below hBW5; have BR := HRes.out.below hBW5; have hM : MapIs W5 (W.heap.size + 1) 0 (fun _ => none) := by rw [hW5]; exact hM5.kept (Below.heap_alloc _ _ _ hM5.lt)
  have hAp : ∀ q, AtM es q → A q ≠ W.heap.size + 1 := fun q hq h => by have := (HRW.out.kids q hq).lt; omega
  have hbW : base ≤ W5.heap.size := Nat.le_trans hb (Nat.le_trans HBW.out.size hBW5.size); have hbW0 : base ≤ W.heap.size := Nat.le_trans hb HBW.out.size; have HR5 := hid (HRW.out.below hBW5); have AS2 : Hid (∀ W', Turn base W5 W' → (W'.cell? ⟨b, 1, none⟩ = some (.map (some (A (upS p)))) ∧ W'.cell? ⟨w5.heap.size, 0, none⟩ = some (.iface t u) ∧ W'.cell? ⟨w5.heap.size, 1, none⟩ = some (.map (some (W.heap.size + 1))))) := fun W' hW => ⟨(BU.turn hW).c1, (BN.turn hW).c0, (BN.turn hW).c1⟩; rw [← hW5]; clear hW5 hM5
  go_region_held3 (fun W' => W'.cell? ⟨b, 1, none⟩ = some (.map (some (A (upS p)))) ∧ W'.cell? ⟨w5.heap.size, 0, none⟩ = some (.iface t u) ∧ W'.cell? ⟨w5.heap.size, 1, none⟩ = some (.map (some (W.heap.size + 1))))
   ((first | exact AS2.out _ ((Turn.of_below (belowT (Below.refl _ _).drew hB6) hbW).trans (Turn.of_map ht7 (HR5.out.low _ HA.out))) | exact AS2.out _ (Turn.of_below (belowT (Below.refl _ _).drew hB6) hbW) | exact AS2.out _ (Turn.of_below (Below.refl _ _).drew hbW)))
   (first | (go_at_call 156; refine (HN.out _).mono ?_; rintro e w6 ⟨rfl, hB6⟩; obtain ⟨w7, hst, hm7, ht7⟩ := ((HR5.out.below (belowT (Below.refl _ _).drew hB6)).kids _ HA.out).store (by unfold maxLen; omega) (name_max HP.out) (.agg #[.iface t u, .map (some (W.heap.size + 1))])))
  all_goals
   have hB56 : Below W5.heap.size W5 w6 := belowT (Below.refl _ _).drew hB6; have hT57 : Turn base W5 w7 := (Turn.of_below hB56 hbW).trans (Turn.of_map ht7 (HR5.out.low _ HA.out)); have hTw : Turn base w w6 := (Turn.of_below (belowT HBW.out hBW5) hb).trans (Turn.of_below hB56 hbW); have fin := put_fin (e := ⟨p, d, x⟩) (a := W.heap.size + 1) T (HR5.out.below hB56) hTw HP.out HA.out HO.out (by unfold nodeV; rw [HTU.out]; exact hm7) ht7 (hM.kept (hB56.block _ hM.lt)) (by omega) hAp; have BR7 := BR.turn hT57; obtain ⟨n0, n1, n2, n3⟩ := BN.turn hT57; obtain ⟨r0, r1, r2, r3⟩ := BR7; go_wp2
   have hset := (Box2.mk r0 r1 r2 r3).set (.iface t u) (.map (some (W.heap.size + 1))); refine bodyPost_ret (v := .agg #[.iface t u, .map (some (W.heap.size + 1))]) (by simp [results, Tryz.results110, go_sem, hset.c0, hset.c1]) rfl ⟨⟨_, rfl⟩, turn_set fin.1 (Nat.le_trans hb (Nat.le_succ _)) (Nat.le_succ _) _ _, ?_⟩; obtain ⟨A', hA', hR'⟩ := fin.2; exact ⟨A', hA', hR'.keeps (set2_keeps _ _ _ _)⟩
 clear hKx
 go_region_held3 (fun W' => W'.cell? ⟨w.heap.size, 0, none⟩ = some (.iface 207 (.agg #[])) ∧ W'.cell? ⟨w.heap.size, 1, none⟩ = some (.map (some (A ⟨#[47]⟩))))
  ((refine AS.out _ ?_; repeat (first | exact Below.refl _ _ | apply belowA | refine belowT ?_ hB4 | refine belowT ?_ hB3 | apply Below.drew | refine set2_below ?_ (by first | exact Nat.le_refl _ | (have h3 := hB3.size; have h4 := hB4.size; simp at h3 h4 ⊢; omega)) _ _)))
  (first | (go_at_call 113; refine (HU.out _).mono ?_; rintro e w3 ⟨rfl, hB3⟩; obtain ⟨bc3, bf3⟩ := bcellN hB3; have l3 := hB3.size; (try simp at l3); (try (have z0 := bc3 w1.heap.size 0 (lt_allocD _ _); have z1 := bc3 w1.heap.size 1 (lt_allocD _ _); have z2 := bf3 w1.heap.size 0 (lt_allocD _ _); have z3 := bf3 w1.heap.size 1 (lt_allocD _ _); simp at z0 z1 z2 z3)); clear bc3 bf3) | (go_at_call 155; refine (HAt.out _ (AR.out _ (by repeat (first | exact Below.refl _ _ | apply belowA | refine belowT ?_ hB3 | apply Below.drew)))).mono ?_; rintro e w4 ⟨rfl, hB4⟩; obtain ⟨bc4, bf4⟩ := bcellN hB4; have l4 := hB4.size; (try simp at l4); (try (have z0 := bc4 w3.heap.size 0 (lt_alloc _ _); have z1 := bc4 w3.heap.size 1 (lt_alloc _ _); have z2 := bf4 w3.heap.size 0 (lt_alloc _ _); have z3 := bf4 w3.heap.size 1 (lt_alloc _ _); simp at z0 z1 z2 z3)); (try (have v0 := (bc4 w1.heap.size 0 l3).trans z0; have v1 := (bc4 w1.heap.size 1 l3).trans z1; have v2 := (bf4 w1.heap.size 0 l3).trans z2; have v3 := (bf4 w1.heap.size 1 l3).trans z3)); clear bc4 bf4))
 all_goals refine HK.out _ _ (by repeat (first | exact Below.refl _ _ | apply belowA | refine belowT ?_ hB4 | refine belowT ?_ hB3 | apply Below.drew | refine set2_below ?_ (by first | exact Nat.le_refl _ | (have h3 := hB3.size; have h4 := hB4.size; simp at h3 h4 ⊢; omega)) _ _)) ?_
 all_goals first | exact Box2.set ⟨v0, v1, v2, v3⟩ _ _ | exact Box2.set ⟨z0, z1, z2, z3⟩ _ _ | exact Box2.new _ _ _ _
end Go.Proofs.YteppodogghjfhaaGreatDoor.Mk
namespace Go.Proofs.YteppodogghjfhaaGreatDoor.Mk
open Go.RowKit Go.Shelf Go.Lib Go.Maps
attribute [local go_sem] Oper.semAt_some
theorem put_fin2 {w W W7 : World} {base N a : Nat} {es : List E} {A : ByteArray → Nat} {e : E} (T : TrM es) (R : Rep W base N es A) (hV : Turn base w W) (hp : pathB e.p = true) (hup : AtM es (upS e.p)) (hold : lookE es e.p = none)
  (hm : MapIs W7 (A (upS e.p)) (N + 1) (fun t => if t = nmS e.p then some (nodeV e.d e.x a) else kidF es A (upS e.p) t)) (ht : W.mapTurned W7 (A (upS e.p))) (ha : MapIs W a 0 (fun _ => none)) (hba : base ≤ a) (hda : ∀ p, AtM es p → A p ≠ a) :
  Turn base w W7 ∧ ∃ A' : ByteArray → Nat, A' ⟨#[47]⟩ = A ⟨#[47]⟩ ∧ A' e.p = a ∧ Rep W7 base (N + 1) (es ++ [e]) A' := by
 have hroot : e.p ≠ ⟨#[47]⟩ := fun q => by rw [q, root_no_path] at hp; cases hp
 refine ⟨hV.trans (Turn.of_map ht (R.low _ hup)), _, ?_, ?_, R.put T hp hold hm (fun p hpd hne => ?_) (ha.kept ?_) hba hda⟩
 ·
  rw [if_neg (fun q => hroot q.symm)]
 ·
  rw [if_pos rfl]
 ·
  exact ht.grown.block _ (R.kids p hpd).lt (fun q => hne (R.apart _ _ hpd hup (Option.some.inj q)))
 ·
  exact ht.grown.block _ ha.lt (fun q => hda _ hup (Option.some.inj q).symm)
set_option maxHeartbeats 4000000 in
set_option maxRecDepth 100000 in
theorem put_at (base N : Nat) (es : List E) (A : ByteArray → Nat) (T : TrM es) (w : World) (R : Rep w base N es A) (hb : base ≤ w.heap.size) (hN : N < 1000) (p : ByteArray) (hp : p.size ≤ 16777216) (d : Int) (x : ByteArray) (hpb : pathB p = true) (hA : AtM es (upS p)) (hold : lookE es p = none) :
  Calls Tryz.prog 110 #[layV A, .string p, signV d x] w fun e w' => Turn base w w' ∧ ∃ A' : ByteArray → Nat, A' ⟨#[47]⟩ = A ⟨#[47]⟩ ∧ e = .returned (nodeV d x (A' p)) ∧ Rep w' base (N + 1) (es ++ [⟨p, d, x⟩]) A' := by
 obtain ⟨t, u, htu⟩ := sign_is d x; have HTU := hid htu; rw [htu]; obtain ⟨tu, uu, hv⟩ := atV_there (A := A) T hA; have B1 := (Box2.new w (.iface 207 (.agg #[])) (.map (some (A ⟨#[47]⟩))) 146).on (.cells #[.nilIface, .map none] 144); have B2 := Box2.new (w.alloc (.cells #[.iface 207 (.agg #[]), .map (some (A ⟨#[47]⟩))] 146)) .nilIface (.map none) 144; simp only [World.size_alloc] at B2; obtain ⟨w1, hw1⟩ : ∃ w1, w1 = (w.alloc (.cells #[.iface 207 (.agg #[]), .map (some (A ⟨#[47]⟩))] 146)).alloc (.cells #[.nilIface, .map none] 144) := ⟨_, rfl⟩
 have hBw : Below w.heap.size w w1 := by rw [hw1]; exact belowA (belowA (Below.refl _ w) _) _
 rw [← hw1] at B1 B2; have HB2 := hid B2; have AS : Hid (∀ W', Below w1.heap.size w1 W' → (W'.cell? ⟨w.heap.size, 0, none⟩ = some (.iface 207 (.agg #[])) ∧ W'.cell? ⟨w.heap.size, 1, none⟩ = some (.map (some (A ⟨#[47]⟩))))) := fun W' hW => ⟨(B1.below hW).c0, (B1.below hW).c1⟩; have AR : Hid (∀ W', Below w1.heap.size w1 W' → Rep W' base N es A) := fun W' hW => (R.below hBw).below hW; have HU := hid (fun W => iPathUp_any p (by omega) W); have HN := hid (fun W => iPathName_any p (by omega) W); have hus := upS_le p hp; have HAt := hid (fun (W : World) (hW : Rep W base N es A) => at_any base N es A T ((upS p).size + 1) W hW (upS p) (Nat.lt_succ_self _) hus); rw [hv] at HAt; have HP := hid hpb; have HA := hid hA; have HO := hid hold; clear htu hv hpb hA hold; go_enter Tryz.func110, Tryz.ntmps110
 go_wp2_with fail
 rw [← hw1]; clear hw1 B1 B2
 rename_i Qx Kx hKx
 have HK : Hid (∀ (b : Nat) (W : World), Below w1.heap.size w1 W → Box2 W b (.iface tu uu) (.map (some (A (upS p)))) → Kx { tmps := #[layV A, .string p, .iface t u, .pointer (some ⟨w.heap.size, 0, none⟩), undef, undef, .pointer (some ⟨w.heap.size + 1, 0, none⟩), .pointer (some ⟨b, 0, none⟩), .bool true, undef, .tuple #[.agg #[.iface tu uu, .map (some (A (upS p)))], .bool true], .agg #[.iface 207 (.agg #[]), .map (some (A ⟨#[47]⟩))], .string p, .string (upS p), .tuple #[.agg #[.iface tu uu, .map (some (A (upS p)))], .bool true], .agg #[.iface tu uu, .map (some (A (upS p)))], .bool true, undef, undef, undef, undef, undef, undef, undef, undef, undef, undef, undef, undef, undef, undef, undef, undef], defers := [] } W) := by
  intro b W hBW hbx; refine hKx _ _ ?_; clear hKx; have HBX := hid hbx; have HBW := hid (belowT hBw hBW); have HRes := hid (HB2.out.below hBW); have HRW := hid (AR.out W hBW); obtain ⟨x0, x1, x2, x3⟩ := hbx; go_wp2_with (first | (go_at_call 153; refine (newNode_any _ _ _).mono ?_; rintro e w5 ⟨rfl, hM5, hB5⟩) | fail)
  obtain ⟨W5, hW5⟩ : ∃ W5, W5 = w5.alloc (.cells #[.iface t u, .map (some (W.heap.size + 1))] 144) := ⟨_, rfl⟩
  have hBW5 : Below W.heap.size W W5 := by rw [hW5]; exact belowA hB5 _
  have BN : Box2 W5 w5.heap.size (.iface t u) (.map (some (W.heap.size + 1))) := by rw [hW5]; exact Box2.new _ _ _ _
  have BU := HBX.out.below hBW5; have BR := HRes.out.below hBW5; have hM : MapIs W5 (W.heap.size + 1) 0 (fun _ => none) := by rw [hW5]; exact hM5.kept (Below.heap_alloc _ _ _ hM5.lt)
  have hAp : ∀ q, AtM es q → A q ≠ W.heap.size + 1 := fun q hq h => by have := (HRW.out.kids q hq).lt; omega
  have hbW : base ≤ W5.heap.size := Nat.le_trans hb (Nat.le_trans HBW.out.size hBW5.size); have hbW0 : base ≤ W.heap.size := Nat.le_trans hb HBW.out.size; have HR5 := hid (HRW.out.below hBW5); have AS2 : Hid (∀ W', Turn base W5 W' → (W'.cell? ⟨b, 1, none⟩ = some (.map (some (A (upS p)))) ∧ W'.cell? ⟨w5.heap.size, 0, none⟩ = some (.iface t u) ∧ W'.cell? ⟨w5.heap.size, 1, none⟩ = some (.map (some (W.heap.size + 1))))) := fun W' hW => ⟨(BU.turn hW).c1, (BN.turn hW).c0, (BN.turn hW).c1⟩; rw [← hW5]; clear hW5 hM5
  go_region_held3 (fun W' => W'.cell? ⟨b, 1, none⟩ = some (.map (some (A (upS p)))) ∧ W'.cell? ⟨w5.heap.size, 0, none⟩ = some (.iface t u) ∧ W'.cell? ⟨w5.heap.size, 1, none⟩ = some (.map (some (W.heap.size + 1))))
   ((first | exact AS2.out _ ((Turn.of_below (belowT (Below.refl _ _).drew hB6) hbW).trans (Turn.of_map ht7 (HR5.out.low _ HA.out))) | exact AS2.out _ (Turn.of_below (belowT (Below.refl _ _).drew hB6) hbW) | exact AS2.out _ (Turn.of_below (Below.refl _ _).drew hbW)))
   (first | (go_at_call 156; refine (HN.out _).mono ?_; rintro e w6 ⟨rfl, hB6⟩; obtain ⟨w7, hst, hm7, ht7⟩ := ((HR5.out.below (belowT (Below.refl _ _).drew hB6)).kids _ HA.out).store (by unfold maxLen; omega) (name_max HP.out) (.agg #[.iface t u, .map (some (W.heap.size + 1))])))
  all_goals
   have hB56 : Below W5.heap.size W5 w6 := belowT (Below.refl _ _).drew hB6; have hT57 : Turn base W5 w7 := (Turn.of_below hB56 hbW).trans (Turn.of_map ht7 (HR5.out.low _ HA.out)); have hTw : Turn base w w6 := (Turn.of_below (belowT HBW.out hBW5) hb).trans (Turn.of_below hB56 hbW); have fin := put_fin2 (e := ⟨p, d, x⟩) (a := W.heap.size + 1) T (HR5.out.below hB56) hTw HP.out HA.out HO.out (by unfold nodeV; rw [HTU.out]; exact hm7) ht7 (hM.kept (hB56.block _ hM.lt)) (by omega) hAp; have BR7 := BR.turn hT57; obtain ⟨n0, n1, n2, n3⟩ := BN.turn hT57; obtain ⟨r0, r1, r2, r3⟩ := BR7; go_wp2
   have hset := (Box2.mk r0 r1 r2 r3).set (.iface t u) (.map (some (W.heap.size + 1))); refine bodyPost_ret (v := .agg #[.iface t u, .map (some (W.heap.size + 1))]) (by simp [results, Tryz.results110, go_sem, hset.c0, hset.c1]) rfl ⟨turn_set fin.1 (Nat.le_trans hb (Nat.le_succ _)) (Nat.le_succ _) _ _, ?_⟩; obtain ⟨A', hA', hAp', hR'⟩ := fin.2; refine ⟨A', hA', ?_, hR'.keeps (set2_keeps _ _ _ _)⟩; unfold nodeV; rw [hAp', HTU.out]
 clear hKx
 go_region_held3 (fun W' => W'.cell? ⟨w.heap.size, 0, none⟩ = some (.iface 207 (.agg #[])) ∧ W'.cell? ⟨w.heap.size, 1, none⟩ = some (.map (some (A ⟨#[47]⟩))))
  ((refine AS.out _ ?_; repeat (first | exact Below.refl _ _ | apply belowA | refine belowT ?_ hB4 | refine belowT ?_ hB3 | apply Below.drew | refine set2_below ?_ (by first | exact Nat.le_refl _ | (have h3 := hB3.size; have h4 := hB4.size; simp at h3 h4 ⊢; omega)) _ _)))
  (first | (go_at_call 113; refine (HU.out _).mono ?_; rintro e w3 ⟨rfl, hB3⟩; obtain ⟨bc3, bf3⟩ := bcellN hB3; have l3 := hB3.size; (try simp at l3); (try (have z0 := bc3 w1.heap.size 0 (lt_allocD _ _); have z1 := bc3 w1.heap.size 1 (lt_allocD _ _); have z2 := bf3 w1.heap.size 0 (lt_allocD _ _); have z3 := bf3 w1.heap.size 1 (lt_allocD _ _); simp at z0 z1 z2 z3)); clear bc3 bf3) | (go_at_call 155; refine (HAt.out _ (AR.out _ (by repeat (first | exact Below.refl _ _ | apply belowA | refine belowT ?_ hB3 | apply Below.drew)))).mono ?_; rintro e w4 ⟨rfl, hB4⟩; obtain ⟨bc4, bf4⟩ := bcellN hB4; have l4 := hB4.size; (try simp at l4); (try (have z0 := bc4 w3.heap.size 0 (lt_alloc _ _); have z1 := bc4 w3.heap.size 1 (lt_alloc _ _); have z2 := bf4 w3.heap.size 0 (lt_alloc _ _); have z3 := bf4 w3.heap.size 1 (lt_alloc _ _); simp at z0 z1 z2 z3)); (try (have v0 := (bc4 w1.heap.size 0 l3).trans z0; have v1 := (bc4 w1.heap.size 1 l3).trans z1; have v2 := (bf4 w1.heap.size 0 l3).trans z2; have v3 := (bf4 w1.heap.size 1 l3).trans z3)); clear bc4 bf4))
 all_goals refine HK.out _ _ (by repeat (first | exact Below.refl _ _ | apply belowA | refine belowT ?_ hB4 | refine belowT ?_ hB3 | apply Below.drew | refine set2_below ?_ (by first | exact Nat.le_refl _ | (have h3 := hB3.size; have h4 := hB4.size; simp at h3 h4 ⊢; omega)) _ _)) ?_
 all_goals first | exact Box2.set ⟨v0, v1, v2, v3⟩ _ _ | exact Box2.set ⟨z0, z1, z2, z3⟩ _ _ | exact Box2.new _ _ _ _
theorem Rep.lookU {w : World} {base N : Nat} {es fs : List E} {A : ByteArray → Nat} (R : Rep w base N es A) (h : ∀ s, lookE es s = lookE fs s) : Rep w base N fs A := by
 have hat : ∀ p, AtM fs p → AtM es p := fun p hp => hp.imp id fun ⟨e, he⟩ => ⟨e, by rw [h]; exact he⟩; refine ⟨fun p hp => (R.kids p (hat p hp)).congr fun n => ?_, fun p hp => R.low p (hat p hp), fun p q hp hq => R.apart p q (hat p hp) (hat q hq)⟩; unfold kidF; rw [h]
theorem there_up {es : List E} (T : TrM es) : ∀ (n : Nat) {p q : ByteArray}, p.size ≤ n → (∃ f, lookE es p = some f) → pathB q = true → underI p q = true → ∃ f, lookE es q = some f
 | n, p, q, hn, ⟨f, hf⟩, hq, hu => by
  obtain ⟨h1, h2⟩ := look_mem hf; have hp := T.path f h1; rw [h2] at hp; have hlt := up_lt hp
  have hroot : upS p = ⟨#[47]⟩ → False := fun e => by
   rcases (under_up hp).1 hu with h | h
   ·
    rw [e] at h; rw [h, root_no_path] at hq; cases hq
   ·
    rw [e] at h; have := ((underI_iff _ _).1 h).2.1; rw [root_no_path] at this; cases this
  have hup := T.up f h1; rw [h2] at hup; rcases hup with h | ⟨k, k1, -⟩
  ·
   exact (hroot h).elim
  ·
   rcases (under_up hp).1 hu with h | h
   ·
    rw [h]; exact ⟨k, k1⟩
   ·
    match n, hn with
    | 0, hn => omega
    | n + 1, hn => exact there_up T n (by omega) ⟨k, k1⟩ hq h
def PutUp (es : List E) (e : E) (l : List E) : Prop := ∀ m, m ∈ l ↔ m = e ∨ m ∈ es ∨ (pathB m.p = true ∧ underI e.p m.p = true ∧ lookE es m.p = none ∧ m = ⟨m.p, 2, ⟨#[]⟩⟩)
theorem putUp_yes {es : List E} (T : TrM es) {e : E} (hp : pathB e.p = true) (hA : AtM es (upS e.p)) (hold : lookE es e.p = none) : PutUp es e (putE es e) := fun m => by
 rw [put_memQ T.sort]
 constructor
 ·
  rintro (h | ⟨h, _⟩)
  ·
   exact .inl h
  ·
   exact .inr (.inl h)
 ·
  rintro (h | h | ⟨h1, h2, h3, _⟩)
  ·
   exact .inl h
  ·
   exact .inr ⟨h, fun q => look_none.1 hold m h q⟩
  ·
   exfalso
   have hroot : upS e.p = ⟨#[47]⟩ → False := fun q => by
    rcases (under_up hp).1 h2 with h | h
    ·
     rw [q] at h; rw [h, root_no_path] at h1; cases h1
    ·
     rw [q] at h; have := ((underI_iff _ _).1 h).2.1; rw [root_no_path] at this; cases this
   rcases hA with q | ⟨f, hf⟩
   ·
    exact hroot q
   ·
    rcases (under_up hp).1 h2 with h | h
    ·
     rw [h, hf] at h3; cases h3
    ·
     obtain ⟨k, hk⟩ := there_up T (upS e.p).size (Nat.le_refl _) ⟨f, hf⟩ h1 h; rw [hk] at h3; cases h3
theorem putUp_no {es l : List E} {e : E} (hp : pathB e.p = true) (hu : pathB (upS e.p) = true) (hun : lookE es (upS e.p) = none) (hold : lookE es e.p = none) (h : PutUp es ⟨upS e.p, 2, ⟨#[]⟩⟩ l) (hs : Rise l) : PutUp es e (putE l e) ∧ lookE l e.p = none := by
 have hlt := up_lt hp
 have hn : lookE l e.p = none := look_none.2 fun m hm q => by
  rcases (h m).1 hm with rfl | g | ⟨g1, g2, _⟩
  ·
   have := congrArg ByteArray.size q; dsimp only at this; omega
  ·
   exact look_none.1 hold m g q
  ·
   rw [q] at g2; have h1 := under_lev (upS e.p).size (upS e.p) e.p (Nat.le_refl _) g2; have h2 := under_lev e.p.size e.p (upS e.p) (Nat.le_refl _) ((under_up hp).2 (.inl rfl)); omega
 refine ⟨fun m => ?_, hn⟩; rw [put_memQ hs, h]
 constructor
 ·
  rintro (g | ⟨rfl | g | ⟨g1, g2, g3, g4⟩, _⟩)
  ·
   exact .inl g
  ·
   exact .inr (.inr ⟨hu, (under_up hp).2 (.inl rfl), hun, rfl⟩)
  ·
   exact .inr (.inl g)
  ·
   exact .inr (.inr ⟨g1, (under_up hp).2 (.inr g2), g3, g4⟩)
 ·
  rintro (g | g | ⟨g1, g2, g3, g4⟩)
  ·
   exact .inl g
  ·
   exact .inr ⟨.inr (.inl g), fun q => look_none.1 hold m g q⟩
  ·
   refine .inr ⟨?_, fun q => ?_⟩
   ·
    rcases (under_up hp).1 g2 with q | q
    ·
     exact .inl (by rw [g4, q])
    ·
     exact .inr (.inr ⟨g1, q, g3, g4⟩)
   ·
    rw [q] at g2; have := under_lev e.p.size e.p e.p (Nat.le_refl _) g2; omega
set_option maxHeartbeats 4000000 in
set_option maxRecDepth 100000 in
theorem put_up : ∀ (n base N : Nat) (es : List E) (A : ByteArray → Nat) (_ : TrM es) (w : World) (_ : Rep w base N es A) (_ : base ≤ w.heap.size) (p : ByteArray) (_ : p.size < n) (_ : N + p.size < 1000) (_ : p.size ≤ 16777216) (d : Int) (x : ByteArray) (_ : 1 ≤ d ∧ d ≤ 4) (_ : pathB p = true)
  (_ : ∀ q f, underI p q = true → lookE es q = some f → dirK f.d = true) (_ : lookE es p = none),
  Calls Tryz.prog 110 #[layV A, .string p, signV d x] w fun e w' => Turn base w w' ∧ ∃ (A' : ByteArray → Nat) (l : List E), A' ⟨#[47]⟩ = A ⟨#[47]⟩ ∧ e = .returned (nodeV d x (A' p)) ∧ Rep w' base (N + p.size) l A' ∧ TrM l ∧ PutUp es ⟨p, d, x⟩ l
 | 0, _, _, _, _, _, _, _, _, _, h, _, _, _, _, _, _, _, _ => by omega
 | n + 1, base, N, es, A, T, w, R, hb, p, hpn, hN, hp, d, x, hd, hpb, hdir, hold => by
  have hlt := up_lt hpb; have hps : 0 < p.size := by omega
  by_cases hA : AtM es (upS p)
  ·
   refine (put_at base N es A T w R hb (by omega) p hp d x hpb hA hold).mono ?_; rintro e w' ⟨h1, A', h2, h3, h4⟩; refine ⟨h1, A', putE es ⟨p, d, x⟩, h2, h3, (h4.lookU fun s => put_app T.sort hold s).mono (by omega), tr_put T hpb hd ?_ (fun f hf => by rw [hold] at hf; cases hf), putUp_yes T hpb hA hold⟩; exact hA.imp id fun ⟨f, hf⟩ => ⟨f, hf, hdir _ f ((under_up hpb).2 (.inl rfl)) hf⟩
  ·
   have hur : upS p ≠ ⟨#[47]⟩ := fun q => hA (.inl q); have hu : pathB (upS p) = true := (stemOk_is (up_facts hpb).1).resolve_left hur
   have hun : lookE es (upS p) = none := by
    cases hl : lookE es (upS p) with
    | none => rfl
    | some f => exact absurd (.inr ⟨f, hl⟩) hA
   have hus := upS_le p hp; have HIH := hid (fun (W : World) (hW : Rep W base N es A) (hbW : base ≤ W.heap.size) => put_up n base N es A T W hW hbW (upS p) (by omega) (by omega) hus 2 ⟨#[]⟩ (by decide) hu (fun q f h1 h2 => hdir q f ((under_up hpb).2 (.inr h1)) h2) hun); simp only [nodeV, sign2] at HIH; obtain ⟨t, u, htu⟩ := sign_is d x; have HTU := hid htu; rw [htu]; have B1 := (Box2.new w (.iface 207 (.agg #[])) (.map (some (A ⟨#[47]⟩))) 146).on (.cells #[.nilIface, .map none] 144); have B2 := Box2.new (w.alloc (.cells #[.iface 207 (.agg #[]), .map (some (A ⟨#[47]⟩))] 146)) .nilIface (.map none) 144; simp only [World.size_alloc] at B2; obtain ⟨w1, hw1⟩ : ∃ w1, w1 = (w.alloc (.cells #[.iface 207 (.agg #[]), .map (some (A ⟨#[47]⟩))] 146)).alloc (.cells #[.nilIface, .map none] 144) := ⟨_, rfl⟩
   have hBw : Below w.heap.size w w1 := by rw [hw1]; exact belowA (belowA (Below.refl _ w) _) _
   rw [← hw1] at B1 B2; have HB1 := hid B1; have HB2 := hid B2; have AS : Hid (∀ W', Below w1.heap.size w1 W' → (W'.cell? ⟨w.heap.size, 0, none⟩ = some (.iface 207 (.agg #[])) ∧ W'.cell? ⟨w.heap.size, 1, none⟩ = some (.map (some (A ⟨#[47]⟩))))) := fun W' hW => ⟨(B1.below hW).c0, (B1.below hW).c1⟩; have AR : Hid (∀ W', Below w1.heap.size w1 W' → Rep W' base N es A) := fun W' hW => (R.below hBw).below hW; have HU := hid (fun W => iPathUp_any p (by omega) W); have HN := hid (fun W => iPathName_any p (by omega) W); have HAt := hid (fun (W : World) (hW : Rep W base N es A) => at_any base N es A T ((upS p).size + 1) W hW (upS p) (Nat.lt_succ_self _) hus); rw [atV_none (path_not_root hu) hun] at HAt; have HP := hid hpb; have HO := hid hold; have HUn := hid hun; have HUp := hid hu; have hbw1 : base ≤ w1.heap.size := Nat.le_trans hb hBw.size; clear htu hpb hA hold hun hu hur; go_enter Tryz.func110, Tryz.ntmps110
   go_wp2_with fail
   rw [← hw1]; have hw1' := hw1; clear hw1 B1 B2
   rename_i Qx Kx hKx
   have hs1 : Hid (w1.heap.size = w.heap.size + 2) := by show _ = _; rw [hw1']; simp
   clear hw1'; have AT : Hid (∀ W W', Below w1.heap.size w1 W → Turn base W W' → (W'.cell? ⟨w.heap.size, 0, none⟩ = some (.iface 207 (.agg #[])) ∧ W'.cell? ⟨w.heap.size, 1, none⟩ = some (.map (some (A ⟨#[47]⟩))))) := fun W W' hW hT => ⟨((HB1.out.below hW).turn hT).c0, ((HB1.out.below hW).turn hT).c1⟩; have AO : Hid (∀ W W' b uu vv, w1.heap.size ≤ b → Below w1.heap.size w1 W → Turn base W W' → ((set2 W' b uu vv).cell? ⟨w.heap.size, 0, none⟩ = some (.iface 207 (.agg #[])) ∧ (set2 W' b uu vv).cell? ⟨w.heap.size, 1, none⟩ = some (.map (some (A ⟨#[47]⟩))))) := fun W W' b uu vv hb' hW hT => ⟨(((HB1.out.below hW).turn hT).other (by have := hs1.out; omega) uu vv).c0, (((HB1.out.below hW).turn hT).other (by have := hs1.out; omega) uu vv).c1⟩
   have HK : Hid (∀ (b : Nat) (W : World), w1.heap.size ≤ b → Below w1.heap.size w1 W → Box2 W b .nilIface (.map none) → Kx { tmps := #[layV A, .string p, .iface t u, .pointer (some ⟨w.heap.size, 0, none⟩), undef, undef, .pointer (some ⟨w.heap.size + 1, 0, none⟩), .pointer (some ⟨b, 0, none⟩), .bool false, undef, .tuple #[zeroN, .bool false], .agg #[.iface 207 (.agg #[]), .map (some (A ⟨#[47]⟩))], .string p, .string (upS p), .tuple #[zeroN, .bool false], zeroN, .bool false, undef, undef, undef, undef, undef, undef, undef, undef, undef, undef, undef, undef, undef, undef, undef, undef], defers := [] } W) := by
    intro b W hbb hBW hbx; refine hKx _ _ ?_; clear hKx; have HBX := hid hbx; have HBW := hid hBW; obtain ⟨k0, k1⟩ := AS.out W hBW; obtain ⟨x0, x1, x2, x3⟩ := hbx; have HRes := hid (HB2.out.below hBW); have HRW := hid (AR.out W hBW); have hbW : base ≤ W.heap.size := Nat.le_trans hbw1 hBW.size; go_wp2
    go_region_held3 (fun W' => W'.cell? ⟨w.heap.size, 0, none⟩ = some (.iface 207 (.agg #[])) ∧ W'.cell? ⟨w.heap.size, 1, none⟩ = some (.map (some (A ⟨#[47]⟩))))
     ((first
      | exact AO.out _ _ _ _ _ hbb (belowT HBW.out (by repeat (first | exact Below.refl _ _ | refine belowT ?_ hB3 | apply Below.drew))) hT4
      | exact AT.out _ _ (belowT HBW.out (by repeat (first | exact Below.refl _ _ | refine belowT ?_ hB3 | apply Below.drew))) hT4
      | exact AS.out _ (belowT HBW.out (by repeat (first | exact Below.refl _ _ | refine belowT ?_ hB3 | apply Below.drew)))))
     (first
      | (go_at_call 113; refine (HU.out _).mono ?_; rintro e w3 ⟨rfl, hB3⟩)
      | (go_at_call 110; refine (HIH.out _ (HRW.out.below (by repeat (first | exact Below.refl _ _ | refine belowT ?_ hB3 | apply Below.drew))) (Nat.le_trans hbW (Below.size (by repeat (first | exact Below.refl _ _ | refine belowT ?_ hB3 | apply Below.drew))))).mono ?_; rintro e w4 ⟨hT4, A1, l1, hA1, rfl, hR4, hTr4, hPU4⟩; obtain ⟨z0, z1, z2, z3⟩ := (HBX.out.below (by repeat (first | exact Below.refl _ _ | refine belowT ?_ hB3 | apply Below.drew))).turn hT4))
    have hB3' : Below W.heap.size W w3 := by repeat (first | exact Below.refl _ _ | refine belowT ?_ hB3 | apply Below.drew)
    obtain ⟨X, hX⟩ : ∃ X, X = (w4.setCell ⟨b, 0, none⟩ (.iface 207 (.agg #[]))).setCell ⟨b, 1, none⟩ (.map (some (A1 (upS p)))) := ⟨_, rfl⟩
    have BU : Box2 X b (.iface 207 (.agg #[])) (.map (some (A1 (upS p)))) := by rw [hX]; exact Box2.set ⟨z0, z1, z2, z3⟩ _ _
    have hTX : Turn base w1 X := by rw [hX]; exact turn_set ((Turn.of_below (belowT HBW.out hB3') hbw1).trans hT4) (Nat.le_trans hbw1 hbb) hbb _ _
    have RX : Rep X base (N + (upS p).size) l1 A1 := by rw [hX]; exact hR4.keeps (set2_keeps w4 b (.iface 207 (.agg #[])) (.map (some (A1 (upS p)))))
    have BRes := HB2.out.turn hTX; have hbX : base ≤ X.heap.size := Nat.le_trans hbw1 hTX.below.size; have hlu : lookE l1 (upS p) = some ⟨upS p, 2, ⟨#[]⟩⟩ := look_self hTr4.sort (e := ⟨upS p, 2, ⟨#[]⟩⟩) ((hPU4 _).2 (.inl rfl)); have HA : Hid (AtM l1 (upS p)) := .inr ⟨_, hlu⟩; obtain ⟨hpu, hnl⟩ := putUp_no (e := ⟨p, d, x⟩) HP.out HUp.out HUn.out HO.out hPU4 hTr4.sort; have HTr := hid (tr_put (e := ⟨p, d, x⟩) hTr4 HP.out hd (.inr ⟨_, hlu, rfl⟩) (fun f hf => by rw [hnl] at hf; cases hf)); have HPU := hid hpu; have HNL := hid hnl; have HT1 := hid hTX; have HTr4 := hid hTr4; rw [← hX]; clear hX z0 z1 z2 z3 hT4 hR4 hPU4 hpu hnl hlu x0 x1 x2 x3 k0 k1 hB3 hB3' hTX hTr4; obtain ⟨x0, x1, x2, x3⟩ := BU; have BU : Box2 X b (.iface 207 (.agg #[])) (.map (some (A1 (upS p)))) := ⟨x0, x1, x2, x3⟩
    go_wp2_with (first | (go_at_call 153; refine (newNode_any _ _ _).mono ?_; rintro e w5 ⟨rfl, hM5, hB5⟩) | fail)
    obtain ⟨W5, hW5⟩ : ∃ W5, W5 = w5.alloc (.cells #[.iface t u, .map (some (X.heap.size + 1))] 144) := ⟨_, rfl⟩
    have hBW5 : Below X.heap.size X W5 := by rw [hW5]; exact belowA hB5 _
    have BN : Box2 W5 w5.heap.size (.iface t u) (.map (some (X.heap.size + 1))) := by rw [hW5]; exact Box2.new _ _ _ _
    have BU5 := BU.below hBW5; have BR := BRes.below hBW5; have hM : MapIs W5 (X.heap.size + 1) 0 (fun _ => none) := by rw [hW5]; exact hM5.kept (Below.heap_alloc _ _ _ hM5.lt)
    have hAp : ∀ q, AtM l1 q → A1 q ≠ X.heap.size + 1 := fun q hq h => by have := (RX.kids q hq).lt; omega
    have hbW5 : base ≤ W5.heap.size := Nat.le_trans hbX hBW5.size; have HR5 := hid (RX.below hBW5); have AS2 : Hid (∀ W', Turn base W5 W' → (W'.cell? ⟨b, 1, none⟩ = some (.map (some (A1 (upS p)))) ∧ W'.cell? ⟨w5.heap.size, 0, none⟩ = some (.iface t u) ∧ W'.cell? ⟨w5.heap.size, 1, none⟩ = some (.map (some (X.heap.size + 1))))) := fun W' hW => ⟨(BU5.turn hW).c1, (BN.turn hW).c0, (BN.turn hW).c1⟩; rw [← hW5]; clear hW5 hM5 x0 x1 x2 x3
    go_region_held3 (fun W' => W'.cell? ⟨b, 1, none⟩ = some (.map (some (A1 (upS p)))) ∧ W'.cell? ⟨w5.heap.size, 0, none⟩ = some (.iface t u) ∧ W'.cell? ⟨w5.heap.size, 1, none⟩ = some (.map (some (X.heap.size + 1))))
     ((first | exact AS2.out _ ((Turn.of_below (belowT (Below.refl _ _).drew hB6) hbW5).trans (Turn.of_map ht7 (HR5.out.low _ HA.out))) | exact AS2.out _ (Turn.of_below (belowT (Below.refl _ _).drew hB6) hbW5) | exact AS2.out _ (Turn.of_below (Below.refl _ _).drew hbW5)))
     (first | (go_at_call 156; refine (HN.out _).mono ?_; rintro e w6 ⟨rfl, hB6⟩; obtain ⟨w7, hst, hm7, ht7⟩ := ((HR5.out.below (belowT (Below.refl _ _).drew hB6)).kids _ HA.out).store (by unfold maxLen; omega) (name_max HP.out) (.agg #[.iface t u, .map (some (X.heap.size + 1))])))
    all_goals
     have hB56 : Below W5.heap.size W5 w6 := belowT (Below.refl _ _).drew hB6; have hT57 : Turn base W5 w7 := (Turn.of_below hB56 hbW5).trans (Turn.of_map ht7 (HR5.out.low _ HA.out)); have hTw : Turn base w w6 := (((Turn.of_below hBw hb).trans HT1.out).trans (Turn.of_below hBW5 hbX)).trans (Turn.of_below hB56 hbW5); have fin := put_fin2 (e := ⟨p, d, x⟩) (a := X.heap.size + 1) HTr4.out (HR5.out.below hB56) hTw HP.out HA.out HNL.out (by unfold nodeV; rw [HTU.out]; exact hm7) ht7 (hM.kept (hB56.block _ hM.lt)) (by omega) hAp; have BR7 := BR.turn hT57; obtain ⟨n0, n1, n2, n3⟩ := BN.turn hT57; obtain ⟨r0, r1, r2, r3⟩ := BR7; go_wp2
     have hset := (Box2.mk r0 r1 r2 r3).set (.iface t u) (.map (some (X.heap.size + 1))); refine bodyPost_ret (v := .agg #[.iface t u, .map (some (X.heap.size + 1))]) (by simp [results, Tryz.results110, go_sem, hset.c0, hset.c1]) rfl ⟨turn_set fin.1 (Nat.le_trans hb (Nat.le_succ _)) (Nat.le_succ _) _ _, ?_⟩; obtain ⟨A', hA', hAp', hR'⟩ := fin.2; refine ⟨A', hA'.trans hA1, ?_, putE l1 ⟨p, d, x⟩, ((hR'.keeps (set2_keeps _ _ _ _)).lookU fun s => put_app HTr4.out.sort HNL.out s).mono (by omega), HTr.out, HPU.out⟩; unfold nodeV; rw [hAp', HTU.out]
   clear hKx
   go_region_held3 (fun W' => W'.cell? ⟨w.heap.size, 0, none⟩ = some (.iface 207 (.agg #[])) ∧ W'.cell? ⟨w.heap.size, 1, none⟩ = some (.map (some (A ⟨#[47]⟩))))
    ((refine AS.out _ ?_; repeat (first | exact Below.refl _ _ | apply belowA | refine belowT ?_ hB4 | refine belowT ?_ hB3 | apply Below.drew | refine set2_below ?_ (by first | exact Nat.le_refl _ | (have h3 := hB3.size; have h4 := hB4.size; simp at h3 h4 ⊢; omega)) _ _)))
    (first | (go_at_call 113; refine (HU.out _).mono ?_; rintro e w3 ⟨rfl, hB3⟩; obtain ⟨bc3, bf3⟩ := bcellN hB3; have l3 := hB3.size; (try simp at l3); (try (have z0 := bc3 w1.heap.size 0 (lt_allocD _ _); have z1 := bc3 w1.heap.size 1 (lt_allocD _ _); have z2 := bf3 w1.heap.size 0 (lt_allocD _ _); have z3 := bf3 w1.heap.size 1 (lt_allocD _ _); simp at z0 z1 z2 z3)); clear bc3 bf3) | (go_at_call 155; refine (HAt.out _ (AR.out _ (by repeat (first | exact Below.refl _ _ | apply belowA | refine belowT ?_ hB3 | apply Below.drew)))).mono ?_; rintro e w4 ⟨rfl, hB4⟩; obtain ⟨bc4, bf4⟩ := bcellN hB4; have l4 := hB4.size; (try simp at l4); (try (have z0 := bc4 w3.heap.size 0 (lt_alloc _ _); have z1 := bc4 w3.heap.size 1 (lt_alloc _ _); have z2 := bf4 w3.heap.size 0 (lt_alloc _ _); have z3 := bf4 w3.heap.size 1 (lt_alloc _ _); simp at z0 z1 z2 z3)); (try (have v0 := (bc4 w1.heap.size 0 l3).trans z0; have v1 := (bc4 w1.heap.size 1 l3).trans z1; have v2 := (bf4 w1.heap.size 0 l3).trans z2; have v3 := (bf4 w1.heap.size 1 l3).trans z3)); clear bc4 bf4))
   all_goals refine HK.out _ _ (by first | exact Nat.le_refl _ | (have h3 := hB3.size; have h4 := hB4.size; simp at h3 h4 ⊢; omega)) (by repeat (first | exact Below.refl _ _ | apply belowA | refine belowT ?_ hB4 | refine belowT ?_ hB3 | apply Below.drew | refine set2_below ?_ (by first | exact Nat.le_refl _ | (have h3 := hB3.size; have h4 := hB4.size; simp at h3 h4 ⊢; omega)) _ _)) ?_
   all_goals first | exact Box2.set ⟨v0, v1, v2, v3⟩ _ _ | exact Box2.set ⟨z0, z1, z2, z3⟩ _ _ | exact Box2.new _ _ _ _
end Go.Proofs.YteppodogghjfhaaGreatDoor.Mk
namespace Go.Proofs.YteppodogghjfhaaGreatDoor
open Go.RowKit Go.Shelf Go.Lib
attribute [local go_sem] Oper.semAt_some
def addB (es : List E) (e : E) : Bool := (pathB e.p && (dataB e.x && !(e.d && !e.x.toList.isEmpty))) && dirE es (upS e.p)
structure AddBox (W : World) (b : Nat) (A : ByteArray → Nat) (p : ByteArray) (d : Bool) (x : ByteArray) : Prop where
 t0 : W.cell? ⟨b, 0, none⟩ = some (.bool true)
 t1 : W.cell? ⟨b, 1, none⟩ = some (.string ⟨#[]⟩)
 t2 : W.cell? ⟨b, 2, none⟩ = some (.map (some (A ⟨#[47]⟩)))
 e0 : W.cell? ⟨b + 1, 0, none⟩ = some (.string p)
 e1 : W.cell? ⟨b + 1, 1, none⟩ = some (.bool d)
 e2 : W.cell? ⟨b + 1, 2, none⟩ = some (.string x)
theorem AddBox.below {W W' : World} {b : Nat} {A : ByteArray → Nat} {p x : ByteArray} {d : Bool} (h : AddBox W b A p d x) (hB : Below W.heap.size W W') : AddBox W' b A p d x :=
 ⟨below_cell hB h.t0, below_cell hB h.t1, below_cell hB h.t2, below_cell hB h.e0, below_cell hB h.e1, below_cell hB h.e2⟩
theorem belowA {w X : World} (h : Below w.heap.size w X) (o : Obj) : Below w.heap.size w (X.alloc o) := h.alloc h.size o
theorem belowT {w X Y : World} (h : Below w.heap.size w X) (k : Below X.heap.size X Y) : Below w.heap.size w Y := h.trans (k.mono h.size)
theorem upS_size (p : ByteArray) : (upS p).size ≤ p.size + 1 := by
 unfold upS
 split
 ·
  split
  ·
   show 1 ≤ _; omega
  ·
   rw [ByteArray.size_extract]; omega
 ·
  exact Nat.zero_le _
theorem lt_alloc (w : World) (o : Obj) : w.heap.size < (w.alloc o).heap.size := by simp
theorem lt_allocD (w : World) (o : Obj) : w.heap.size < (w.drew.alloc o).heap.size := by simp
theorem look_snoc {es : List E} {e : E} (h : lookE es e.p = none) (s : ByteArray) : lookE (es ++ [e]) s = if s = e.p then some e else lookE es s := by
 rw [look_append]; by_cases q : s = e.p
 ·
  rw [if_pos q, q, h]; simp [lookE]
 ·
  rw [if_neg q]; have : lookE [e] s = none := look_none.2 (by intro f hf; rw [List.mem_singleton.1 hf]; exact fun k => q k.symm); rw [this]; cases lookE es s <;> rfl
theorem add_fin {w V V' : World} {base N a : Nat} {es : List E} {A : ByteArray → Nat} {e : E} (T : TrE es) (R : Rep V base N es A) (hV : Turn base w V) (hp : pathB e.p = true) (hup : dirE es (upS e.p) = true) (hl : ∀ f ∈ es, less f.p e.p)
  (hm : MapIs V' (A (upS e.p)) (N + 1) (fun t => if t = nmS e.p then some (nodeV e a) else kidF es A (upS e.p) t)) (ht : V.mapTurned V' (A (upS e.p)))
  (hd : e.d = true → MapIs V a 0 (fun _ => none) ∧ base ≤ a ∧ ∀ p, dirE es p = true → A p ≠ a) :
  Turn base w V' ∧ ∃ A', A' ⟨#[47]⟩ = A ⟨#[47]⟩ ∧ Rep V' base (N + 1) (es ++ [e]) A' := by
 have hnone : lookE es e.p = none := look_none.2 fun f hf q => by
  have := hl f hf; rw [q] at this; exact less_irrefl _ this
 have hroot : e.p ≠ ⟨#[47]⟩ := fun q => by rw [q, root_no_path] at hp; cases hp
 have hold : dirE es e.p = false := by
  rw [dirE_look, hnone]; have : isRoot e.p = false := path_not_root hp; rw [this]; rfl
 refine ⟨hV.trans (Turn.of_map ht (R.low _ hup)), _, ?_, R.put T hp hup hold (look_snoc hnone) hm (fun p hpd hne => ?_) (fun h => ?_)⟩
 ·
  rw [if_neg (fun q => hroot q.symm)]
 ·
  exact ht.grown.block _ (R.kids p hpd).lt (fun q => hne (R.apart _ _ hpd hup (Option.some.inj q)))
 ·
  obtain ⟨h1, h2, h3⟩ := hd h; exact ⟨h1.kept (ht.grown.block _ h1.lt (fun q => h3 _ hup (Option.some.inj q).symm)), h2, h3⟩
set_option maxHeartbeats 2000000 in
set_option maxRecDepth 100000 in
theorem add_any (w : World) (base N : Nat) (es : List E) (A : ByteArray → Nat) (ae : Int → Addr) (T : TrE es) (R : Rep w base N es A) (hE : Errs2 w ae) (p : ByteArray) (d : Bool) (x : ByteArray)
  (hp : p.size ≤ 16777216) (hx : x.size ≤ 16777216) (hb : base ≤ w.heap.size) (hN : N < 1000) (hl : ∀ f ∈ es, less f.p p) :
  Calls Tryz.prog 118 #[treeV A, .agg #[.string p, .bool d, .string x]] w fun r w' => r = .returned (.bool (addB es ⟨p, d, x⟩)) ∧ Turn base w w' ∧
   (addB es ⟨p, d, x⟩ = true → ∃ A', A' ⟨#[47]⟩ = A ⟨#[47]⟩ ∧ Rep w' base (N + 1) (es ++ [⟨p, d, x⟩]) A') := by
 obtain ⟨W0, hW0⟩ : ∃ W0, W0 = (w.alloc (.cells #[.bool true, .string ⟨#[]⟩, .map (some (A ⟨#[47]⟩))] 118)).alloc (.cells #[.string p, .bool d, .string x] 43) := ⟨_, rfl⟩
 have hBw : Below w.heap.size w W0 := hW0 ▸ ((Below.refl _ w).alloc (Nat.le_refl _) _).alloc (by simp) _
 have HX : Hid (AddBox W0 w.heap.size A p d x) := by
  subst hW0
  constructor <;> simp
 have HR := hid (R.below hBw); have HE := hid (hE.below hBw); cases hpb : pathB p with
 | false =>
  have ha : addB es ⟨p, d, x⟩ = false := by unfold addB; rw [hpb]; rfl
  rw [ha]; have HO := hid (fun W => hpb ▸ pOk_any p hp W); go_enter Tryz.func118, Tryz.ntmps118
  go_wp2_with (first | (go_at_call 159; rw [← hW0]; refine (HO.out _).mono ?_; rintro e w1 ⟨rfl, hB1⟩) | fail)
  go_ret
  exact ⟨rfl, Turn.of_below (hBw.trans (hB1.mono hBw.size)) hb, fun h => by cases h⟩
 | true =>
  have HO := hid (fun W => hpb ▸ pOk_any p hp W); cases hxb : dataB x with
  | false =>
   have ha : addB es ⟨p, d, x⟩ = false := by unfold addB; rw [hpb, hxb]; rfl
   rw [ha]; have HD := hid (fun W => hxb ▸ dataOk_any x W); go_enter Tryz.func118, Tryz.ntmps118
   go_wp2_with (first | (go_at_call 159; rw [← hW0]; refine (HO.out _).mono ?_; rintro e w1 ⟨rfl, hB1⟩; have HX1 := HX.out.below hB1; have e2 := HX1.e2; clear HX1) | (go_at_call 160; refine (HD.out _).mono ?_; rintro e w2 ⟨rfl, hB2⟩) | fail)
   go_ret
   exact ⟨rfl, Turn.of_below ((hBw.trans (hB1.mono hBw.size)).trans (hB2.mono (Nat.le_trans hBw.size hB1.size))) hb, fun h => by cases h⟩
  | true =>
   have HD := hid (fun W => hxb ▸ dataOk_any x W); by_cases hbad : d = true ∧ ¬ x.toList = []
   ·
    obtain ⟨rfl, hne⟩ := hbad; have hne' : (x.toList == []) = false := by simpa using hne
    have ha : addB es ⟨p, true, x⟩ = false := by
     unfold addB; rw [hpb, hxb]; have : x.toList.isEmpty = false := by simpa using hne
     simp [this]
    rw [ha]; go_enter Tryz.func118, Tryz.ntmps118
    go_wp2_with (first | (go_at_call 159; rw [← hW0]; refine (HO.out _).mono ?_; rintro e w1 ⟨rfl, hB1⟩; have HX1 := HX.out.below hB1; have e2 := HX1.e2; clear HX1) | (go_at_call 160; refine (HD.out _).mono ?_; rintro e w2 ⟨rfl, hB2⟩; have HX2 := (HX.out.below hB1).below hB2; have e1' := HX2.e1; have e2' := HX2.e2; clear HX2) | fail)
    go_ret
    exact ⟨rfl, Turn.of_below ((hBw.trans (hB1.mono hBw.size)).trans (hB2.mono (Nat.le_trans hBw.size hB1.size))) hb, fun h => by cases h⟩
   ·
    have hcond : d = false ∨ x.toList = [] := by
     cases d with
     | false => exact .inl rfl
     | true => exact .inr (Classical.byContradiction fun h => hbad ⟨rfl, h⟩)
    have ha : addB es ⟨p, d, x⟩ = dirE es (upS p) := by
     unfold addB; rw [hpb, hxb]; rcases hcond with rfl | h
     ·
      simp
     ·
      simp [h]
    have HU := hid (fun W => iPathUp_any p hp W); have hus : (upS p).size ≤ 4611686018427387904 := by have := upS_size p; omega
    have HDi := hid (fun (W : World) (hW : Rep W base N es A) (hE : Errs2 W ae) => dirAt_any W base N es A ae T hW hE (upS p) hus)
    have hcond' : d = true → (x.toList == []) = true := fun h => by
     rcases hcond with h1 | h1
     ·
      rw [h1] at h; cases h
     ·
      rw [h1]; rfl
    cases hdir : dirE es (upS p) with
    | false =>
     rw [hdir] at ha; rw [ha]; have hc0 : dirC es (upS p) ≠ 0 := fun h => by rw [dirC_zero h] at hdir; cases hdir
     have hdv : dirV es A (upS p) = zeroN := by unfold dirV; rw [if_neg hc0]
     have hev : errV ae (dirC es (upS p)) = .iface 302 (.pointer (some (ae (dirC es (upS p))))) := by unfold errV; rw [if_neg hc0]
     rw [hdv, hev] at HDi; cases d with
     | false =>
      go_enter Tryz.func118, Tryz.ntmps118
      go_wp2_with (first | (go_at_call 159; rw [← hW0]; refine (HO.out _).mono ?_; rintro e w1 ⟨rfl, hB1⟩; have HX1 := HX.out.below hB1; have e2 := HX1.e2; clear HX1) | (go_at_call 160; refine (HD.out _).mono ?_; rintro e w2 ⟨rfl, hB2⟩; have HX2 := (HX.out.below hB1).below hB2; have e1' := HX2.e1; have e2' := HX2.e2; clear HX2) | fail)
      clear e2 e1' e2'; have HX2 := hid ((HX.out.below hB1).below hB2); have HR2 := hid ((HR.out.below hB1).below hB2); have HE2 := hid ((HE.out.below hB1).below hB2); have hB02 : Below w.heap.size w w2 := (hBw.trans (hB1.mono hBw.size)).trans (hB2.mono (Nat.le_trans hBw.size hB1.size)); have hw2 : w.heap.size + 1 < w2.heap.size := World.block_lt_of_cell? w2 ⟨w.heap.size + 1, 0, none⟩ HX2.out.e0
      have AS : Hid (∀ W', Below w2.heap.size w2 W' → (W'.cell? ⟨w.heap.size, 0, none⟩ = some (.bool true) ∧ W'.cell? ⟨w.heap.size, 1, none⟩ = some (.string ⟨#[]⟩) ∧ W'.cell? ⟨w.heap.size, 2, none⟩ = some (.map (some (A ⟨#[47]⟩))) ∧ W'.cell? ⟨w.heap.size + 1, 0, none⟩ = some (.string p))) := fun W' hW => by
       have := HX2.out.below hW; exact ⟨this.t0, this.t1, this.t2, this.e0⟩
      have AR : Hid (∀ W', Below w2.heap.size w2 W' → Rep W' base N es A) := fun W' hW => HR2.out.below hW; have AE : Hid (∀ W', Below w2.heap.size w2 W' → Errs2 W' ae) := fun W' hW => HE2.out.below hW
      rename_i Qx Kx hKx
      have HK : Hid (∀ (b : Nat) (W : World), Below w2.heap.size w2 W → Kx { tmps := #[treeV A, .agg #[.string p, .bool false, .string x], .pointer (some ⟨w.heap.size, 0, none⟩), .pointer (some ⟨w.heap.size + 1, 0, none⟩), .bool false, .pointer (some ⟨b, 0, none⟩), .iface 302 (.pointer (some (ae (dirC es (upS p))))), .pointer (some ⟨w.heap.size + 1, 0, none⟩), .string p, .bool true, .bool false, .bool false, .pointer (some ⟨w.heap.size + 1, 2, none⟩), .string x, .bool true, .bool false, .bool false, .bool false, .pointer (some ⟨w.heap.size + 1, 1, none⟩), .bool false, .bool false, undef, undef, undef, .bool false, .bool false, .tuple #[zeroN, .iface 302 (.pointer (some (ae (dirC es (upS p)))))], treeV A, .pointer (some ⟨w.heap.size + 1, 0, none⟩), .string p, .string (upS p), .tuple #[zeroN, .iface 302 (.pointer (some (ae (dirC es (upS p)))))], zeroN, .iface 302 (.pointer (some (ae (dirC es (upS p))))), undef, undef, undef, undef, undef, undef, undef, undef, undef, undef, undef, undef, undef, undef, undef, undef, undef, undef], defers := [] } W) := by
       intro b W hBW; refine hKx _ _ ?_; go_wp2
       go_ret
       exact ⟨rfl, Turn.of_below (hB02.trans (hBW.mono (by omega))) hb, fun h => by cases h⟩
      clear hKx
      go_region_held3 (fun W' => W'.cell? ⟨w.heap.size, 0, none⟩ = some (.bool true) ∧ W'.cell? ⟨w.heap.size, 1, none⟩ = some (.string ⟨#[]⟩) ∧ W'.cell? ⟨w.heap.size, 2, none⟩ = some (.map (some (A ⟨#[47]⟩))) ∧ W'.cell? ⟨w.heap.size + 1, 0, none⟩ = some (.string p))
       ((refine AS.out _ ?_; repeat (first | exact Below.refl _ _ | apply belowA | refine belowT ?_ hB4 | refine belowT ?_ hB3 | apply Below.drew | refine set3_below ?_ (by first | exact Nat.le_refl _ | (have h3 := hB3.size; have h4 := hB4.size; simp at h3 h4 ⊢; omega)) _ _ _)))
       (first | (go_at_call 113; refine (HU.out _).mono ?_; rintro e w3 ⟨rfl, hB3⟩; obtain ⟨bc3, bf3⟩ := bcellN hB3; have l3 := hB3.size; (try simp at l3); (try (have z0 := bc3 w2.heap.size 0 (lt_allocD _ _); have z1 := bc3 w2.heap.size 1 (lt_allocD _ _); have z2 := bc3 w2.heap.size 2 (lt_allocD _ _); have z3 := bf3 w2.heap.size 0 (lt_allocD _ _); have z4 := bf3 w2.heap.size 1 (lt_allocD _ _); have z5 := bf3 w2.heap.size 2 (lt_allocD _ _); simp at z0 z1 z2 z3 z4 z5)); clear bc3 bf3) | (go_at_call 112; refine (HDi.out _ (AR.out _ (by repeat (first | exact Below.refl _ _ | apply belowA | refine belowT ?_ hB3 | apply Below.drew))) (AE.out _ (by repeat (first | exact Below.refl _ _ | apply belowA | refine belowT ?_ hB3 | apply Below.drew)))).mono ?_; rintro e w4 ⟨rfl, hB4⟩; obtain ⟨bc4, bf4⟩ := bcellN hB4; have l4 := hB4.size; (try simp at l4); (try (have z0 := bc4 w3.heap.size 0 (lt_alloc _ _); have z1 := bc4 w3.heap.size 1 (lt_alloc _ _); have z2 := bc4 w3.heap.size 2 (lt_alloc _ _); have z3 := bf4 w3.heap.size 0 (lt_alloc _ _); have z4 := bf4 w3.heap.size 1 (lt_alloc _ _); have z5 := bf4 w3.heap.size 2 (lt_alloc _ _); simp at z0 z1 z2 z3 z4 z5)); (try (have v0 := (bc4 w2.heap.size 0 l3).trans z0; have v1 := (bc4 w2.heap.size 1 l3).trans z1; have v2 := (bc4 w2.heap.size 2 l3).trans z2; have v3 := (bf4 w2.heap.size 0 l3).trans z3; have v4 := (bf4 w2.heap.size 1 l3).trans z4; have v5 := (bf4 w2.heap.size 2 l3).trans z5)); clear bc4 bf4))
      all_goals exact HK.out _ _ (by repeat (first | exact Below.refl _ _ | apply belowA | refine belowT ?_ hB4 | refine belowT ?_ hB3 | apply Below.drew | refine set3_below ?_ (by first | exact Nat.le_refl _ | (have h3 := hB3.size; have h4 := hB4.size; simp at h3 h4 ⊢; omega)) _ _ _))
     | true =>
      have hemp := hcond' rfl; have hemp' : x.toList = [] := by simpa using hemp
      go_enter Tryz.func118, Tryz.ntmps118
      go_wp2_with (first | (go_at_call 159; rw [← hW0]; refine (HO.out _).mono ?_; rintro e w1 ⟨rfl, hB1⟩; have HX1 := HX.out.below hB1; have e2 := HX1.e2; clear HX1) | (go_at_call 160; refine (HD.out _).mono ?_; rintro e w2 ⟨rfl, hB2⟩; have HX2 := (HX.out.below hB1).below hB2; have e1' := HX2.e1; have e2' := HX2.e2; clear HX2) | fail)
      clear e2 e1' e2'; have HX2 := hid ((HX.out.below hB1).below hB2); have HR2 := hid ((HR.out.below hB1).below hB2); have HE2 := hid ((HE.out.below hB1).below hB2); have hB02 : Below w.heap.size w w2 := (hBw.trans (hB1.mono hBw.size)).trans (hB2.mono (Nat.le_trans hBw.size hB1.size)); have hw2 : w.heap.size + 1 < w2.heap.size := World.block_lt_of_cell? w2 ⟨w.heap.size + 1, 0, none⟩ HX2.out.e0
      have AS : Hid (∀ W', Below w2.heap.size w2 W' → (W'.cell? ⟨w.heap.size, 0, none⟩ = some (.bool true) ∧ W'.cell? ⟨w.heap.size, 1, none⟩ = some (.string ⟨#[]⟩) ∧ W'.cell? ⟨w.heap.size, 2, none⟩ = some (.map (some (A ⟨#[47]⟩))) ∧ W'.cell? ⟨w.heap.size + 1, 0, none⟩ = some (.string p))) := fun W' hW => by
       have := HX2.out.below hW; exact ⟨this.t0, this.t1, this.t2, this.e0⟩
      have AR : Hid (∀ W', Below w2.heap.size w2 W' → Rep W' base N es A) := fun W' hW => HR2.out.below hW; have AE : Hid (∀ W', Below w2.heap.size w2 W' → Errs2 W' ae) := fun W' hW => HE2.out.below hW
      rename_i Qx Kx hKx
      have HK : Hid (∀ (b : Nat) (W : World), Below w2.heap.size w2 W → Kx { tmps := #[treeV A, .agg #[.string p, .bool true, .string x], .pointer (some ⟨w.heap.size, 0, none⟩), .pointer (some ⟨w.heap.size + 1, 0, none⟩), .bool false, .pointer (some ⟨b, 0, none⟩), .iface 302 (.pointer (some (ae (dirC es (upS p))))), .pointer (some ⟨w.heap.size + 1, 0, none⟩), .string p, .bool true, .bool false, .bool false, .pointer (some ⟨w.heap.size + 1, 2, none⟩), .string x, .bool true, .bool false, .bool false, .bool false, .pointer (some ⟨w.heap.size + 1, 1, none⟩), .bool true, .bool true, .pointer (some ⟨w.heap.size + 1, 2, none⟩), .string x, .bool false, .bool false, .bool false, .tuple #[zeroN, .iface 302 (.pointer (some (ae (dirC es (upS p)))))], treeV A, .pointer (some ⟨w.heap.size + 1, 0, none⟩), .string p, .string (upS p), .tuple #[zeroN, .iface 302 (.pointer (some (ae (dirC es (upS p)))))], zeroN, .iface 302 (.pointer (some (ae (dirC es (upS p))))), undef, undef, undef, undef, undef, undef, undef, undef, undef, undef, undef, undef, undef, undef, undef, undef, undef, undef], defers := [] } W) := by
       intro b W hBW; refine hKx _ _ ?_; go_wp2
       go_ret
       exact ⟨rfl, Turn.of_below (hB02.trans (hBW.mono (by omega))) hb, fun h => by cases h⟩
      clear hKx
      go_region_held3 (fun W' => W'.cell? ⟨w.heap.size, 0, none⟩ = some (.bool true) ∧ W'.cell? ⟨w.heap.size, 1, none⟩ = some (.string ⟨#[]⟩) ∧ W'.cell? ⟨w.heap.size, 2, none⟩ = some (.map (some (A ⟨#[47]⟩))) ∧ W'.cell? ⟨w.heap.size + 1, 0, none⟩ = some (.string p))
       ((refine AS.out _ ?_; repeat (first | exact Below.refl _ _ | apply belowA | refine belowT ?_ hB4 | refine belowT ?_ hB3 | apply Below.drew | refine set3_below ?_ (by first | exact Nat.le_refl _ | (have h3 := hB3.size; have h4 := hB4.size; simp at h3 h4 ⊢; omega)) _ _ _)))
       (first | (go_at_call 113; refine (HU.out _).mono ?_; rintro e w3 ⟨rfl, hB3⟩; obtain ⟨bc3, bf3⟩ := bcellN hB3; have l3 := hB3.size; (try simp at l3); (try (have z0 := bc3 w2.heap.size 0 (lt_allocD _ _); have z1 := bc3 w2.heap.size 1 (lt_allocD _ _); have z2 := bc3 w2.heap.size 2 (lt_allocD _ _); have z3 := bf3 w2.heap.size 0 (lt_allocD _ _); have z4 := bf3 w2.heap.size 1 (lt_allocD _ _); have z5 := bf3 w2.heap.size 2 (lt_allocD _ _); simp at z0 z1 z2 z3 z4 z5)); clear bc3 bf3) | (go_at_call 112; refine (HDi.out _ (AR.out _ (by repeat (first | exact Below.refl _ _ | apply belowA | refine belowT ?_ hB3 | apply Below.drew))) (AE.out _ (by repeat (first | exact Below.refl _ _ | apply belowA | refine belowT ?_ hB3 | apply Below.drew)))).mono ?_; rintro e w4 ⟨rfl, hB4⟩; obtain ⟨bc4, bf4⟩ := bcellN hB4; have l4 := hB4.size; (try simp at l4); (try (have z0 := bc4 w3.heap.size 0 (lt_alloc _ _); have z1 := bc4 w3.heap.size 1 (lt_alloc _ _); have z2 := bc4 w3.heap.size 2 (lt_alloc _ _); have z3 := bf4 w3.heap.size 0 (lt_alloc _ _); have z4 := bf4 w3.heap.size 1 (lt_alloc _ _); have z5 := bf4 w3.heap.size 2 (lt_alloc _ _); simp at z0 z1 z2 z3 z4 z5)); (try (have v0 := (bc4 w2.heap.size 0 l3).trans z0; have v1 := (bc4 w2.heap.size 1 l3).trans z1; have v2 := (bc4 w2.heap.size 2 l3).trans z2; have v3 := (bf4 w2.heap.size 0 l3).trans z3; have v4 := (bf4 w2.heap.size 1 l3).trans z4; have v5 := (bf4 w2.heap.size 2 l3).trans z5)); clear bc4 bf4))
      all_goals exact HK.out _ _ (by repeat (first | exact Below.refl _ _ | apply belowA | refine belowT ?_ hB4 | refine belowT ?_ hB3 | apply Below.drew | refine set3_below ?_ (by first | exact Nat.le_refl _ | (have h3 := hB3.size; have h4 := hB4.size; simp at h3 h4 ⊢; omega)) _ _ _))
    | true =>
     rw [hdir] at ha; rw [ha]; obtain ⟨xx, hxx⟩ := atE_dir (A := A) hdir; have hdv : dirV es A (upS p) = .agg #[.bool true, .string xx, .map (some (A (upS p)))] := by unfold dirV; rw [dirC_dir hdir, if_pos rfl, hxx]
     have hev : errV ae (dirC es (upS p)) = .nilIface := by rw [dirC_dir hdir]; rfl
     rw [hdv, hev] at HDi; have HN5 := hid (fun W => iPathName_any p hp W)
     have hnz : (nmS p).size ≤ maxLen := by
      have := (up_facts hpb).2.2.1; unfold nameB at this; rw [Bool.and_eq_true] at this; have := (of_decide_eq_true this.1).2; unfold maxLen; omega
     cases d with
     | false =>
      go_enter Tryz.func118, Tryz.ntmps118
      go_wp2_with (first | (go_at_call 159; rw [← hW0]; refine (HO.out _).mono ?_; rintro e w1 ⟨rfl, hB1⟩; have HX1 := HX.out.below hB1; have e2 := HX1.e2; clear HX1) | (go_at_call 160; refine (HD.out _).mono ?_; rintro e w2 ⟨rfl, hB2⟩; have HX2 := (HX.out.below hB1).below hB2; have e1' := HX2.e1; have e2' := HX2.e2; clear HX2) | fail)
      clear e2 e1' e2'; have HX2 := hid ((HX.out.below hB1).below hB2); have HR2 := hid ((HR.out.below hB1).below hB2); have HE2 := hid ((HE.out.below hB1).below hB2); have hB02 : Below w.heap.size w w2 := (hBw.trans (hB1.mono hBw.size)).trans (hB2.mono (Nat.le_trans hBw.size hB1.size)); have hw2 : w.heap.size + 1 < w2.heap.size := World.block_lt_of_cell? w2 ⟨w.heap.size + 1, 0, none⟩ HX2.out.e0
      have AS : Hid (∀ W', Below w2.heap.size w2 W' → (W'.cell? ⟨w.heap.size, 0, none⟩ = some (.bool true) ∧ W'.cell? ⟨w.heap.size, 1, none⟩ = some (.string ⟨#[]⟩) ∧ W'.cell? ⟨w.heap.size, 2, none⟩ = some (.map (some (A ⟨#[47]⟩))) ∧ W'.cell? ⟨w.heap.size + 1, 0, none⟩ = some (.string p))) := fun W' hW => by
       have := HX2.out.below hW; exact ⟨this.t0, this.t1, this.t2, this.e0⟩
      have AR : Hid (∀ W', Below w2.heap.size w2 W' → Rep W' base N es A) := fun W' hW => HR2.out.below hW; have AE : Hid (∀ W', Below w2.heap.size w2 W' → Errs2 W' ae) := fun W' hW => HE2.out.below hW
      rename_i Qx Kx hKx
      have HF6 := hid (fun W => newFile_any x (by omega) W)
      have HK : Hid (∀ (b : Nat) (W : World), Below w2.heap.size w2 W → W.cell? ⟨b, 2, none⟩ = some (.map (some (A (upS p)))) → Kx { tmps := #[treeV A, .agg #[.string p, .bool false, .string x], .pointer (some ⟨w.heap.size, 0, none⟩), .pointer (some ⟨w.heap.size + 1, 0, none⟩), .bool false, .pointer (some ⟨b, 0, none⟩), .nilIface, .pointer (some ⟨w.heap.size + 1, 0, none⟩), .string p, .bool true, .bool false, .bool false, .pointer (some ⟨w.heap.size + 1, 2, none⟩), .string x, .bool true, .bool false, .bool false, .bool false, .pointer (some ⟨w.heap.size + 1, 1, none⟩), .bool false, .bool false, undef, undef, undef, .bool false, .bool false, .tuple #[.agg #[.bool true, .string xx, .map (some (A (upS p)))], .nilIface], treeV A, .pointer (some ⟨w.heap.size + 1, 0, none⟩), .string p, .string (upS p), .tuple #[.agg #[.bool true, .string xx, .map (some (A (upS p)))], .nilIface], .agg #[.bool true, .string xx, .map (some (A (upS p)))], .nilIface, undef, undef, undef, undef, undef, undef, undef, undef, undef, undef, undef, undef, undef, undef, undef, undef, undef, undef], defers := [] } W) := by
       intro b W hBW hb2; refine hKx _ _ ?_; obtain ⟨y0, y1, y2, y3, y4, y5⟩ := HX2.out.below hBW; have hbW : base ≤ W.heap.size := Nat.le_trans hb (Nat.le_trans hB02.size hBW.size); have AS2 : Hid (∀ W', Turn base W W' → (W'.cell? ⟨b, 2, none⟩ = some (.map (some (A (upS p)))) ∧ W'.cell? ⟨w.heap.size + 1, 0, none⟩ = some (.string p) ∧ W'.cell? ⟨w.heap.size + 1, 2, none⟩ = some (.string x))) := fun W' hW => ⟨hW.cell hb2, hW.cell y3, hW.cell y5⟩; go_wp2
       go_region_held3 (fun W' => W'.cell? ⟨b, 2, none⟩ = some (.map (some (A (upS p)))) ∧ W'.cell? ⟨w.heap.size + 1, 0, none⟩ = some (.string p) ∧ W'.cell? ⟨w.heap.size + 1, 2, none⟩ = some (.string x))
        ((first | exact AS2.out _ ((Turn.of_below (belowT (belowT (Below.refl _ _).drew hB5) hB6) hbW).trans (Turn.of_map ht7 ((AR.out _ hBW).low _ hdir))) | exact AS2.out _ (Turn.of_below (belowT (belowT (Below.refl _ _).drew hB5) hB6) hbW) | exact AS2.out _ (Turn.of_below (belowT (Below.refl _ _).drew hB5) hbW) | exact AS2.out _ (Turn.of_below (Below.refl _ _).drew hbW)))
        (first | (go_at_call 156; refine (HN5.out _).mono ?_; rintro e w5 ⟨rfl, hB5⟩) | (go_at_call 161; refine (HF6.out _).mono ?_; rintro e w6 ⟨rfl, hB6⟩; obtain ⟨w7, hst, hm7, ht7⟩ := ((AR.out _ (belowT (belowT hBW.drew hB5) hB6)).kids _ hdir).store (by unfold maxLen; omega) hnz (.agg #[.bool false, .string x, .map none])))
       have RW6 := AR.out _ (belowT (belowT hBW.drew hB5) hB6); have fin := add_fin (e := ⟨p, false, x⟩) (a := 0) T RW6 (Turn.of_below ((hB02.trans (hBW.mono (by omega))).trans ((belowT (belowT (Below.refl _ _).drew hB5) hB6).mono (Nat.le_trans hB02.size hBW.size))) hb) hpb hdir hl hm7 ht7 (fun h => by cases h); go_wp2
       go_ret
       exact ⟨rfl, fin.1, fun _ => fin.2⟩
      clear hKx
      go_region_held3 (fun W' => W'.cell? ⟨w.heap.size, 0, none⟩ = some (.bool true) ∧ W'.cell? ⟨w.heap.size, 1, none⟩ = some (.string ⟨#[]⟩) ∧ W'.cell? ⟨w.heap.size, 2, none⟩ = some (.map (some (A ⟨#[47]⟩))) ∧ W'.cell? ⟨w.heap.size + 1, 0, none⟩ = some (.string p))
       ((refine AS.out _ ?_; repeat (first | exact Below.refl _ _ | apply belowA | refine belowT ?_ hB4 | refine belowT ?_ hB3 | apply Below.drew | refine set3_below ?_ (by first | exact Nat.le_refl _ | (have h3 := hB3.size; have h4 := hB4.size; simp at h3 h4 ⊢; omega)) _ _ _)))
       (first | (go_at_call 113; refine (HU.out _).mono ?_; rintro e w3 ⟨rfl, hB3⟩; obtain ⟨bc3, bf3⟩ := bcellN hB3; have l3 := hB3.size; (try simp at l3); (try (have z0 := bc3 w2.heap.size 0 (lt_allocD _ _); have z1 := bc3 w2.heap.size 1 (lt_allocD _ _); have z2 := bc3 w2.heap.size 2 (lt_allocD _ _); have z3 := bf3 w2.heap.size 0 (lt_allocD _ _); have z4 := bf3 w2.heap.size 1 (lt_allocD _ _); have z5 := bf3 w2.heap.size 2 (lt_allocD _ _); simp at z0 z1 z2 z3 z4 z5)); clear bc3 bf3) | (go_at_call 112; refine (HDi.out _ (AR.out _ (by repeat (first | exact Below.refl _ _ | apply belowA | refine belowT ?_ hB3 | apply Below.drew))) (AE.out _ (by repeat (first | exact Below.refl _ _ | apply belowA | refine belowT ?_ hB3 | apply Below.drew)))).mono ?_; rintro e w4 ⟨rfl, hB4⟩; obtain ⟨bc4, bf4⟩ := bcellN hB4; have l4 := hB4.size; (try simp at l4); (try (have z0 := bc4 w3.heap.size 0 (lt_alloc _ _); have z1 := bc4 w3.heap.size 1 (lt_alloc _ _); have z2 := bc4 w3.heap.size 2 (lt_alloc _ _); have z3 := bf4 w3.heap.size 0 (lt_alloc _ _); have z4 := bf4 w3.heap.size 1 (lt_alloc _ _); have z5 := bf4 w3.heap.size 2 (lt_alloc _ _); simp at z0 z1 z2 z3 z4 z5)); (try (have v0 := (bc4 w2.heap.size 0 l3).trans z0; have v1 := (bc4 w2.heap.size 1 l3).trans z1; have v2 := (bc4 w2.heap.size 2 l3).trans z2; have v3 := (bf4 w2.heap.size 0 l3).trans z3; have v4 := (bf4 w2.heap.size 1 l3).trans z4; have v5 := (bf4 w2.heap.size 2 l3).trans z5)); clear bc4 bf4))
      all_goals refine HK.out _ _ (by repeat (first | exact Below.refl _ _ | apply belowA | refine belowT ?_ hB4 | refine belowT ?_ hB3 | apply Below.drew | refine set3_below ?_ (by first | exact Nat.le_refl _ | (have h3 := hB3.size; have h4 := hB4.size; simp at h3 h4 ⊢; omega)) _ _ _)) ?_
      all_goals first | exact (set3_cells v0 v1 v2 _ _ _).2.2 | exact (set3_cells z0 z1 z2 _ _ _).2.2 | simp
     | true =>
      have hemp := hcond' rfl; have hemp' : x.toList = [] := by simpa using hemp
      go_enter Tryz.func118, Tryz.ntmps118
      go_wp2_with (first | (go_at_call 159; rw [← hW0]; refine (HO.out _).mono ?_; rintro e w1 ⟨rfl, hB1⟩; have HX1 := HX.out.below hB1; have e2 := HX1.e2; clear HX1) | (go_at_call 160; refine (HD.out _).mono ?_; rintro e w2 ⟨rfl, hB2⟩; have HX2 := (HX.out.below hB1).below hB2; have e1' := HX2.e1; have e2' := HX2.e2; clear HX2) | fail)
      clear e2 e1' e2'; have HX2 := hid ((HX.out.below hB1).below hB2); have HR2 := hid ((HR.out.below hB1).below hB2); have HE2 := hid ((HE.out.below hB1).below hB2); have hB02 : Below w.heap.size w w2 := (hBw.trans (hB1.mono hBw.size)).trans (hB2.mono (Nat.le_trans hBw.size hB1.size)); have hw2 : w.heap.size + 1 < w2.heap.size := World.block_lt_of_cell? w2 ⟨w.heap.size + 1, 0, none⟩ HX2.out.e0
      have AS : Hid (∀ W', Below w2.heap.size w2 W' → (W'.cell? ⟨w.heap.size, 0, none⟩ = some (.bool true) ∧ W'.cell? ⟨w.heap.size, 1, none⟩ = some (.string ⟨#[]⟩) ∧ W'.cell? ⟨w.heap.size, 2, none⟩ = some (.map (some (A ⟨#[47]⟩))) ∧ W'.cell? ⟨w.heap.size + 1, 0, none⟩ = some (.string p))) := fun W' hW => by
       have := HX2.out.below hW; exact ⟨this.t0, this.t1, this.t2, this.e0⟩
      have AR : Hid (∀ W', Below w2.heap.size w2 W' → Rep W' base N es A) := fun W' hW => HR2.out.below hW; have AE : Hid (∀ W', Below w2.heap.size w2 W' → Errs2 W' ae) := fun W' hW => HE2.out.below hW
      rename_i Qx Kx hKx
      have HF6 := hid (fun W => newFile_any x (by omega) W)
      have HK : Hid (∀ (b : Nat) (W : World), Below w2.heap.size w2 W → W.cell? ⟨b, 2, none⟩ = some (.map (some (A (upS p)))) → Kx { tmps := #[treeV A, .agg #[.string p, .bool true, .string x], .pointer (some ⟨w.heap.size, 0, none⟩), .pointer (some ⟨w.heap.size + 1, 0, none⟩), .bool false, .pointer (some ⟨b, 0, none⟩), .nilIface, .pointer (some ⟨w.heap.size + 1, 0, none⟩), .string p, .bool true, .bool false, .bool false, .pointer (some ⟨w.heap.size + 1, 2, none⟩), .string x, .bool true, .bool false, .bool false, .bool false, .pointer (some ⟨w.heap.size + 1, 1, none⟩), .bool true, .bool true, .pointer (some ⟨w.heap.size + 1, 2, none⟩), .string x, .bool false, .bool false, .bool false, .tuple #[.agg #[.bool true, .string xx, .map (some (A (upS p)))], .nilIface], treeV A, .pointer (some ⟨w.heap.size + 1, 0, none⟩), .string p, .string (upS p), .tuple #[.agg #[.bool true, .string xx, .map (some (A (upS p)))], .nilIface], .agg #[.bool true, .string xx, .map (some (A (upS p)))], .nilIface, undef, undef, undef, undef, undef, undef, undef, undef, undef, undef, undef, undef, undef, undef, undef, undef, undef, undef], defers := [] } W) := by
       intro b W hBW hb2; refine hKx _ _ ?_; obtain ⟨y0, y1, y2, y3, y4, y5⟩ := HX2.out.below hBW; have hbW : base ≤ W.heap.size := Nat.le_trans hb (Nat.le_trans hB02.size hBW.size); have AS2 : Hid (∀ W', Turn base W W' → (W'.cell? ⟨b, 2, none⟩ = some (.map (some (A (upS p)))) ∧ W'.cell? ⟨w.heap.size + 1, 0, none⟩ = some (.string p) ∧ W'.cell? ⟨w.heap.size + 1, 2, none⟩ = some (.string x))) := fun W' hW => ⟨hW.cell hb2, hW.cell y3, hW.cell y5⟩; go_wp2
       go_region_held3 (fun W' => W'.cell? ⟨b, 2, none⟩ = some (.map (some (A (upS p)))) ∧ W'.cell? ⟨w.heap.size + 1, 0, none⟩ = some (.string p) ∧ W'.cell? ⟨w.heap.size + 1, 2, none⟩ = some (.string x))
        ((first | exact AS2.out _ ((Turn.of_below (belowT (belowT (Below.refl _ _).drew hB5) hB6) hbW).trans (Turn.of_map ht7 ((AR.out _ hBW).low _ hdir))) | exact AS2.out _ (Turn.of_below (belowT (belowT (Below.refl _ _).drew hB5) hB6) hbW) | exact AS2.out _ (Turn.of_below (belowT (Below.refl _ _).drew hB5) hbW) | exact AS2.out _ (Turn.of_below (Below.refl _ _).drew hbW)))
        (first | (go_at_call 156; refine (HN5.out _).mono ?_; rintro e w5 ⟨rfl, hB5⟩) | (go_at_call 117; refine (newDir_any _).mono ?_; rintro e w6 ⟨rfl, hM6, hB6⟩; obtain ⟨w7, hst, hm7, ht7⟩ := ((AR.out _ (belowT (belowT hBW.drew hB5) hB6)).kids _ hdir).store (by unfold maxLen; omega) hnz (.agg #[.bool true, .string ⟨#[]⟩, .map (some (w5.heap.size + 1))])))
       have RW6 := AR.out _ (belowT (belowT hBW.drew hB5) hB6); have hx0 : x = ⟨#[]⟩ := notEmpty.1 (by rw [hemp']; rfl); have hszW : w.heap.size ≤ w5.heap.size := Nat.le_trans hB02.size (Nat.le_trans hBW.size hB5.size)
       have fin := add_fin (e := ⟨p, true, x⟩) (a := w5.heap.size + 1) T RW6 (Turn.of_below ((hB02.trans (hBW.mono (by omega))).trans ((belowT (belowT (Below.refl _ _).drew hB5) hB6).mono (Nat.le_trans hB02.size hBW.size))) hb) hpb hdir hl (by rw [hx0]; exact hm7) ht7 (fun _ => ⟨hM6, by omega, fun q hq h => by
        have := ((AR.out _ (belowT hBW.drew hB5)).kids q hq).lt; omega⟩)
       go_wp2
       go_ret
       exact ⟨rfl, fin.1, fun _ => fin.2⟩
      clear hKx
      go_region_held3 (fun W' => W'.cell? ⟨w.heap.size, 0, none⟩ = some (.bool true) ∧ W'.cell? ⟨w.heap.size, 1, none⟩ = some (.string ⟨#[]⟩) ∧ W'.cell? ⟨w.heap.size, 2, none⟩ = some (.map (some (A ⟨#[47]⟩))) ∧ W'.cell? ⟨w.heap.size + 1, 0, none⟩ = some (.string p))
       ((refine AS.out _ ?_; repeat (first | exact Below.refl _ _ | apply belowA | refine belowT ?_ hB4 | refine belowT ?_ hB3 | apply Below.drew | refine set3_below ?_ (by first | exact Nat.le_refl _ | (have h3 := hB3.size; have h4 := hB4.size; simp at h3 h4 ⊢; omega)) _ _ _)))
       (first | (go_at_call 113; refine (HU.out _).mono ?_; rintro e w3 ⟨rfl, hB3⟩; obtain ⟨bc3, bf3⟩ := bcellN hB3; have l3 := hB3.size; (try simp at l3); (try (have z0 := bc3 w2.heap.size 0 (lt_allocD _ _); have z1 := bc3 w2.heap.size 1 (lt_allocD _ _); have z2 := bc3 w2.heap.size 2 (lt_allocD _ _); have z3 := bf3 w2.heap.size 0 (lt_allocD _ _); have z4 := bf3 w2.heap.size 1 (lt_allocD _ _); have z5 := bf3 w2.heap.size 2 (lt_allocD _ _); simp at z0 z1 z2 z3 z4 z5)); clear bc3 bf3) | (go_at_call 112; refine (HDi.out _ (AR.out _ (by repeat (first | exact Below.refl _ _ | apply belowA | refine belowT ?_ hB3 | apply Below.drew))) (AE.out _ (by repeat (first | exact Below.refl _ _ | apply belowA | refine belowT ?_ hB3 | apply Below.drew)))).mono ?_; rintro e w4 ⟨rfl, hB4⟩; obtain ⟨bc4, bf4⟩ := bcellN hB4; have l4 := hB4.size; (try simp at l4); (try (have z0 := bc4 w3.heap.size 0 (lt_alloc _ _); have z1 := bc4 w3.heap.size 1 (lt_alloc _ _); have z2 := bc4 w3.heap.size 2 (lt_alloc _ _); have z3 := bf4 w3.heap.size 0 (lt_alloc _ _); have z4 := bf4 w3.heap.size 1 (lt_alloc _ _); have z5 := bf4 w3.heap.size 2 (lt_alloc _ _); simp at z0 z1 z2 z3 z4 z5)); (try (have v0 := (bc4 w2.heap.size 0 l3).trans z0; have v1 := (bc4 w2.heap.size 1 l3).trans z1; have v2 := (bc4 w2.heap.size 2 l3).trans z2; have v3 := (bf4 w2.heap.size 0 l3).trans z3; have v4 := (bf4 w2.heap.size 1 l3).trans z4; have v5 := (bf4 w2.heap.size 2 l3).trans z5)); clear bc4 bf4))
      all_goals refine HK.out _ _ (by repeat (first | exact Below.refl _ _ | apply belowA | refine belowT ?_ hB4 | refine belowT ?_ hB3 | apply Below.drew | refine set3_below ?_ (by first | exact Nat.le_refl _ | (have h3 := hB3.size; have h4 := hB4.size; simp at h3 h4 ⊢; omega)) _ _ _)) ?_
      all_goals first | exact (set3_cells v0 v1 v2 _ _ _).2.2 | exact (set3_cells z0 z1 z2 _ _ _).2.2 | simp
end Go.Proofs.YteppodogghjfhaaGreatDoor
namespace Go.Proofs.YteppodogghjfhaaGreatDoor
open Go.RowKit Go.Shelf Go.Lib
attribute [local go_sem] Oper.semAt_some
def lastP (es : List E) (k : Nat) : ByteArray := match k with
 | 0 => ⟨#[]⟩
 | j + 1 => ((es[j]?).map (·.p)).getD ⟨#[]⟩
theorem lastP_succ {es : List E} {k : Nat} (h : k < es.length) : lastP es (k + 1) = es[k].p := by
 show ((es[k]?).map (·.p)).getD ⟨#[]⟩ = _
 rw [List.getElem?_eq_getElem h]; rfl
theorem okAt_less {es : List E} {k : Nat} (h : k < es.length) (hl : less (lastP es k) es[k].p) : okAt es k = addB (es.take k) es[k] := by
 rw [Bool.eq_iff_iff, okAt_parts h]; unfold addB; simp only [Bool.and_eq_true, Bool.not_eq_true', Bool.and_eq_false_iff]
 constructor
 ·
  rintro ⟨h1, h2, h3, _, h5⟩; refine ⟨⟨h1, h2, ?_⟩, h5⟩; cases hd : es[k].d with
  | false => exact .inl rfl
  | true => exact .inr (by rw [notEmpty.2 (h3 hd)]; rfl)
 ·
  rintro ⟨⟨h1, h2, h3⟩, h5⟩; refine ⟨h1, h2, fun hd => ?_, ?_, h5⟩
  ·
   rcases h3 with h3 | h3
   ·
    rw [hd] at h3; cases h3
   ·
    exact notEmpty.1 (by simpa using h3)
  ·
   cases k with
   | zero => exact .inl rfl
   | succ j => exact .inr ⟨by omega, by rw [lastP_succ (by omega)] at hl; exact hl⟩
theorem okAt_not {es : List E} {k : Nat} (h : k < es.length) (hl : ¬ less (lastP es k) es[k].p) : okAt es k = false := by
 cases ho : okAt es k with
 | false => rfl
 | true =>
  exfalso
  obtain ⟨h1, _, _, h4, _⟩ := (okAt_parts h).1 ho; cases k with
  | zero =>
   have := pathB_head _ h1; refine hl (less_L.2 ?_); show Op.bytesLess [] (L es[0].p) = true
   have hlen := L_len es[0].p; cases hq : L es[0].p with
   | nil => rw [hq] at hlen; simp at hlen; omega
   | cons y r => rfl
  | succ j =>
   rcases h4 with h4 | ⟨h5, h4⟩
   ·
    omega
   ·
    rw [lastP_succ (by omega)] at hl; exact hl h4
theorem take_less {es : List E} {k : Nat} (h : k < es.length) (T : TrE (es.take k)) (hl : less (lastP es k) es[k].p) : ∀ f ∈ es.take k, less f.p es[k].p := by
 cases k with
 | zero => intro f hf; rw [List.take_zero] at hf; cases hf
 | succ j =>
  rw [lastP_succ (by omega)] at hl; exact last_less T.sort (k := j) (by rw [List.length_take]; omega) (by rw [List.length_take]; omega) (by rw [List.getElem_take]; exact hl)
theorem rep_nil {w : World} {base b : Nat} (hb : base ≤ b) (h : MapIs w b 0 (fun _ => none)) : Rep w base 0 [] (fun _ => b) := by
 have root : ∀ p, dirE [] p = true → p = ⟨#[47]⟩ := fun p hp => by
  rcases dir_look hp with h | ⟨e, h, _⟩
  ·
   exact h
  ·
   cases h
 refine ⟨fun p _ => h.congr fun n => ?_, fun _ _ => hb, fun p q hp hq _ => (root p hp).trans (root q hq).symm⟩; unfold kidF
 split <;> rfl
theorem leq_not (a b : List UInt8) : (Op.bytesLess a b || a == b) = !Op.bytesLess b a := by
 cases hb : Op.bytesLess b a with
 | true =>
  have h1 : Op.bytesLess a b = false := by
   cases h : Op.bytesLess a b with
   | false => rfl
   | true => have := bless_trans _ _ _ h hb; rw [bless_irrefl] at this; cases this
  have h2 : (a == b) = false := by
   rw [beq_eq_false_iff_ne]; intro e; rw [e, bless_irrefl] at hb; cases hb
  rw [h1, h2]; rfl
 | false =>
  by_cases e : a = b
  ·
   subst e; simp
  ·
   rw [less_total _ _ hb (fun q => e q.symm)]; rfl
theorem atSet3K {W w : World} {n b : Nat} {p q r u v x : Value} {C : World → Prop} (h0 : W.cell? ⟨b, 0, none⟩ = some p) (h1 : W.cell? ⟨b, 1, none⟩ = some q) (h2 : W.cell? ⟨b, 2, none⟩ = some r) (hB : Below n w W) (hb : n ≤ b)
  (k : ∀ Wf, Wf.cell? ⟨b, 0, none⟩ = some u → Wf.cell? ⟨b, 1, none⟩ = some v → Wf.cell? ⟨b, 2, none⟩ = some x → Below n w Wf → KeepsOthers W Wf → C Wf) : C (set3 W b u v x) := by
 obtain ⟨s0, s1, s2⟩ := set3_cells h0 h1 h2 u v x; exact k _ s0 s1 s2 (set3_below hB hb u v x) (set3_keeps W b u v x)
structure OfBox (W : World) (b c m : Nat) : Prop where
 r0 : ∃ v, W.cell? ⟨b, 0, none⟩ = some v
 r1 : ∃ v, W.cell? ⟨b, 1, none⟩ = some v
 r2 : ∃ v, W.cell? ⟨b, 2, none⟩ = some v
 f0 : W.frozen? ⟨b, 0, none⟩ = false
 f1 : W.frozen? ⟨b, 1, none⟩ = false
 f2 : W.frozen? ⟨b, 2, none⟩ = false
 t0 : W.cell? ⟨c, 0, none⟩ = some (.bool true)
 t1 : W.cell? ⟨c, 1, none⟩ = some (.string ⟨#[]⟩)
 t2 : W.cell? ⟨c, 2, none⟩ = some (.map (some m))
theorem OfBox.turn {base : Nat} {W W' : World} {b c m : Nat} (h : OfBox W b c m) (t : Turn base W W') : OfBox W' b c m := by
 obtain ⟨⟨v0, r0⟩, ⟨v1, r1⟩, ⟨v2, r2⟩, f0, f1, f2, t0, t1, t2⟩ := h; exact ⟨⟨_, t.cell r0⟩, ⟨_, t.cell r1⟩, ⟨_, t.cell r2⟩, t.frozen r0 f0, t.frozen r1 f1, t.frozen r2 f2, t.cell t0, t.cell t1, t.cell t2⟩
set_option maxHeartbeats 2000000 in
set_option maxRecDepth 100000 in
theorem treeOf_any (w : World) (a : Option Addr) (g o cap : Nat) (es : List E) (ae : Int → Addr) (hErr : Errs2 w ae) (hl : es.length ≤ 16777216) (hz : ∀ e ∈ es, e.p.size ≤ 16777216 ∧ e.x.size ≤ 16777216) (ha : 0 < es.length → a = some ⟨g, o, none⟩) (hE : Ents w g o es) :
  Calls Tryz.prog 83 #[.slice a es.length cap] w fun r w' => ∃ A, r = .returned (.tuple #[treeV A, .bool (treeE es)]) ∧ Below w.heap.size w w' ∧ (treeE es = true → Rep w' w.heap.size 16 es A) := by
 have HE := hidE hE; have HZ := hidE hz; have HEr := hidE hErr; clear hE hz hErr; by_cases h16 : es.length ≤ 16
 ·
  go_enter Tryz.func83, Tryz.ntmps83
  go_wp2_with (first | (go_at_call 117; refine (newDir_any _).mono ?_; rintro e w1 ⟨rfl, hM1, hB1⟩; obtain ⟨⟨k0, k1, k2⟩, a0, a1, a2, b0, b1, b2⟩ := boxOn (b := w.heap.size) (p := .bool false) (q := .string ⟨#[]⟩) (r := .map none) hB1 (by simp) (box3one w _ _ _ _)) | fail)
  have hB01 : Below w.heap.size w w1 := ((Below.refl _ w).alloc (Nat.le_refl _) _).trans (hB1.mono (by simp)); simp only [World.size_alloc] at hM1; have hsz1 : w.heap.size + 1 < w1.heap.size := by have := hM1.lt; omega
  have HB0 := hidE (OfBox.mk (b := w.heap.size) (c := w1.heap.size) (m := w.heap.size + 1 + 1) ⟨_, a0 (.cells #[.bool true, .string ⟨#[]⟩, .map (some (w.heap.size + 1 + 1))] 118)⟩ ⟨_, a1 _⟩ ⟨_, a2 _⟩ (b0 _) (b1 _) (b2 _) (by simp : (w1.alloc (.cells #[.bool true, .string ⟨#[]⟩, .map (some (w.heap.size + 1 + 1))] 118)).cell? ⟨w1.heap.size, 0, none⟩ = _) (by simp) (by simp)); have HR0 := hidE (rep_nil (base := w.heap.size) (by omega) (hM1.kept (w' := w1.alloc (.cells #[.bool true, .string ⟨#[]⟩, .map (some (w.heap.size + 1 + 1))] 118)) (Below.heap_alloc _ _ _ hM1.lt))); have HBw := hidE (hB01.alloc hB01.size (.cells #[.bool true, .string ⟨#[]⟩, .map (some (w.heap.size + 1 + 1))] 118)); clear k0 k1 k2 a0 a1 a2 b0 b1 b2 hM1 hB1
  go_loopw [5, 16] (fun lv iv wl => ∃ k : Nat, k ≤ es.length ∧ iv = .int .i64 k ∧ lv = .string (lastP es k) ∧ Hid (∃ A, A ⟨#[47]⟩ = w.heap.size + 1 + 1 ∧ Rep wl w.heap.size k (es.take k) A) ∧ Hid (Below w.heap.size w wl) ∧ Hid ((List.range k).all (okAt es) = true) ∧ Hid (OfBox wl w.heap.size w1.heap.size (w.heap.size + 1 + 1))) (fun _ iv _ => es.length - (RowKit.intOf iv).toNat)
  case atStart => exact ⟨0, Nat.zero_le _, rfl, rfl, ⟨_, rfl, HR0.out⟩, HBw, rfl, HB0⟩
  case round =>
   obtain ⟨k, hk, rfl, rfl, HRA, HB, HA, HO⟩ := hrel; by_cases hlt : k < es.length
   ·
    obtain rfl := ha (by omega); obtain ⟨c0, c1, c2⟩ := (HE.out.below (HB.out.mono (Nat.le_refl _))) k hlt; obtain ⟨z0, z1⟩ := HZ.out es[k] (List.getElem_mem _); obtain ⟨p, hp⟩ : ∃ p, es[k].p = p := ⟨_, rfl⟩
    obtain ⟨d, hd⟩ : ∃ d, es[k].d = d := ⟨_, rfl⟩
    obtain ⟨x, hx⟩ : ∃ x, es[k].x = x := ⟨_, rfl⟩
    have HX := hidE (show es[k] = ⟨p, d, x⟩ by rw [← hp, ← hd, ← hx]); rw [hp] at c0 z0; rw [hd] at c1; rw [hx] at c2 z1; clear hp hd hx; have hBA : Below wr.heap.size wr (wr.alloc (.cells #[.string p, .bool d, .string x] 43)) := (Below.refl _ wr).alloc (Nat.le_refl _) _; have HO2 := hidE (HO.out.turn (Turn.of_below hBA (Nat.le_refl _))); obtain ⟨⟨v0, r0⟩, ⟨v1, r1⟩, ⟨v2, r2⟩, f0, f1, f2, t0, t1, t2⟩ := HO2.out; have HL := hidE (show less (lastP es k) es[k].p ↔ Op.bytesLess (lastP es k).toList p.toList = true by rw [HX.out]; exact Iff.rfl); obtain ⟨lp, hlp⟩ : ∃ lp, lastP es k = lp := ⟨_, rfl⟩
    have HQ := hidE (leq_not p.toList lp.toList); rw [hlp] at HL; have HLP := hidE hlp; cases hls : (Op.bytesLess p.toList lp.toList || p.toList == lp.toList) with
    | true =>
     have hnl : ¬ less (lastP es k) es[k].p := fun h => by
      rw [HLP.out] at h; have h1 := HL.out.1 h; have h2 := HQ.out; rw [hls, h1] at h2; cases h2
     rw [hlp]; go_wp2
     refine atSet3 (C := bodyPost Tryz.prog Tryz.f83 _ _ _) r0 r1 r2 (HB.out.trans (hBA.mono HB.out.size)) (Nat.le_refl _) ?_; intro Wf s0 s1 s2 hBf; have hte := treeE_no hlt (okAt_not hlt hnl); refine bodyPost_ret (v := .tuple #[.agg #[.bool true, .string ⟨#[]⟩, .map (some (w.heap.size + 1 + 1))], .bool false]) (by simp [results, Tryz.results83, go_sem, s0, s1, s2]) rfl ⟨fun _ => w.heap.size + 1 + 1, ?_, hBf, ?_⟩
     ·
      rw [← hte]
     ·
      intro h; rw [← hte] at h; cases h
    | false =>
     have hle : less (lastP es k) es[k].p := by
      rw [HLP.out]; refine HL.out.2 ?_; have h2 := HQ.out; rw [hls] at h2; cases h3 : Op.bytesLess lp.toList p.toList with
      | true => rfl
      | false => rw [h3] at h2; cases h2
     have TK := tr_take k (by omega) HA.out; obtain ⟨A, hA0, RA⟩ := HRA.out; have HAd := hidE (add_any (wr.alloc (.cells #[.string p, .bool d, .string x] 43)) w.heap.size k (es.take k) A ae TK (RA.below hBA) ((HEr.out.below (HB.out)).below hBA) p d x (by omega) (by omega) (by simp; have := HB.out.size; omega) (by omega) (fun f hf => by have := take_less hlt TK hle f hf; rw [HX.out] at this; exact this)); have HOA := hidE (okAt_less hlt hle); rw [HX.out] at HOA; have htree : treeV A = .agg #[.bool true, .string ⟨#[]⟩, .map (some (w.heap.size + 1 + 1))] := by unfold treeV; rw [hA0]
     rw [htree] at HAd; have HBX := hidE (HB.out.trans (hBA.mono HB.out.size)); rw [hlp]; cases had : addB (es.take k) ⟨p, d, x⟩ with
     | false =>
      rw [had] at HAd HOA; go_wp2_with (first | (go_at_call 118; refine HAd.out.mono ?_; rintro e w5 ⟨rfl, hT5, -⟩; have HO5 := hidE (HO2.out.turn hT5); obtain ⟨⟨v0', r0'⟩, ⟨v1', r1'⟩, ⟨v2', r2'⟩, f0', f1', f2', t0', t1', t2'⟩ := HO5.out) | fail)
      refine atSet3 (C := bodyPost Tryz.prog Tryz.f83 _ _ _) r0' r1' r2' (HBX.out.trans hT5.below) (Nat.le_refl _) ?_; intro Wf s0 s1 s2 hBf; have hte := treeE_no hlt HOA.out; refine bodyPost_ret (v := .tuple #[.agg #[.bool true, .string ⟨#[]⟩, .map (some (w.heap.size + 1 + 1))], .bool false]) (by simp [results, Tryz.results83, go_sem, s0, s1, s2]) rfl ⟨fun _ => w.heap.size + 1 + 1, ?_, hBf, ?_⟩
      ·
       rw [← hte]
      ·
       intro h; rw [← hte] at h; cases h
     | true =>
      rw [had] at HAd HOA; go_wp2_with (first | (go_at_call 118; refine HAd.out.mono ?_; rintro e w5 ⟨rfl, hT5, hR5⟩; have HR5 := hidE (hR5 rfl); clear hR5; have c0' := hT5.cell (show (wr.alloc (.cells #[.string p, .bool d, .string x] 43)).cell? ⟨wr.heap.size, 0, none⟩ = some (.string p) by simp)) | fail)
      obtain ⟨A', hA', hRA'⟩ := HR5.out; refine ⟨⟨k + 1, by omega, rfl, by rw [lastP_succ hlt, HX.out], ⟨A', hA'.trans hA0, ?_⟩, HBX.out.trans hT5.below, all_range_succ _ _ HA.out HOA.out, HO2.out.turn hT5⟩, by simp [RowKit.intOf]; omega⟩; rw [List.take_succ_eq_append_getElem hlt, HX.out]; exact hRA'
   ·
    have hke : k = es.length := by omega
    obtain ⟨⟨v0, r0⟩, ⟨v1, r1⟩, ⟨v2, r2⟩, f0, f1, f2, t0, t1, t2⟩ := HO.out; obtain ⟨A, hA0, RA⟩ := HRA.out; have HRk := hidE RA
    have hte : treeE es = true := by
     unfold treeE; rw [decide_eq_true h16, Bool.true_and, ← hke]; exact HA.out
    have HK := hidE hke; clear RA HRA hke; go_wp2
    have hset : ∀ Wf, (∀ b, b < wr.heap.size → (∃ o c, wr.heap[b]? = some (.map o c)) → Wf.heap[b]? = wr.heap[b]?) → Rep Wf w.heap.size 16 es A := fun Wf hW => by
     have h1 := HRk.out; rw [HK.out, List.take_length] at h1; exact ⟨fun q hq => ((h1.keep hW).kids q hq).mono (by omega), h1.low, h1.apart⟩
    refine atSet3K (C := bodyPost Tryz.prog Tryz.f83 _ _ _) r0 r1 r2 HB.out (Nat.le_refl _) ?_; intro Wf s0 s1 s2 hBf hK; refine bodyPost_ret (v := .tuple #[.agg #[.bool true, .string ⟨#[]⟩, .map (some (w.heap.size + 1 + 1))], .bool true]) (by simp [results, Tryz.results83, go_sem, s0, s1, s2]) rfl ⟨A, ?_, hBf, fun _ => hset Wf fun b hb ⟨o, c, h⟩ => ?_⟩
    ·
     rw [hte]; unfold treeV; rw [hA0]
    ·
     rw [h]; exact hK.same b _ h rfl
 ·
  have hte : treeE es = false := by unfold treeE; rw [decide_eq_false h16]; rfl
  have h16' : (16 : Int) < es.length := by omega
  rw [hte]; go_enter Tryz.func83, Tryz.ntmps83
  go_wp2_with (first | (go_at_call 117; refine (newDir_any _).mono ?_; rintro e w1 ⟨rfl, hM1, hB1⟩; obtain ⟨⟨k0, k1, k2⟩, a0, a1, a2, b0, b1, b2⟩ := boxOn (b := w.heap.size) (p := .bool false) (q := .string ⟨#[]⟩) (r := .map none) hB1 (by simp) (box3one w _ _ _ _)) | fail)
  have hB01 : Below w.heap.size w w1 := ((Below.refl _ w).alloc (Nat.le_refl _) _).trans (hB1.mono (by simp)); refine atSet3 (C := bodyPost Tryz.prog Tryz.f83 _ _ _) (a0 _) (a1 _) (a2 _) (hB01.alloc hB01.size _) (Nat.le_refl _) ?_; intro Wf s0 s1 s2 hBf; exact bodyPost_ret (v := .tuple #[.agg #[.bool true, .string ⟨#[]⟩, .map (some (w.heap.size + 1 + 1))], .bool false]) (by simp [results, Tryz.results83, go_sem, s0, s1, s2]) rfl ⟨fun _ => w.heap.size + 1 + 1, rfl, hBf, fun h => by cases h⟩
end Go.Proofs.YteppodogghjfhaaGreatDoor
namespace Go.Proofs.YteppodogghjfhaaGreatDoor
open Go.RowKit Go.Shelf Go.Lib
attribute [local go_sem] Oper.semAt_some
theorem ent_any (d : Bool) (x : ByteArray) (m : Option Nat) (s : ByteArray) (w : World) :
  Calls Tryz.prog 85 #[.agg #[.bool d, .string x, .map m], .string s] w fun e w' => e = .returned (.agg #[.string s, .bool d, .string x]) ∧ Below w.heap.size w w' := by
 go_enter Tryz.func85, Tryz.ntmps85
 go_wp2
 exact bodyPost_ret (v := .agg #[.string s, .bool d, .string x]) (by simp [results, Tryz.results85, go_sem]) rfl ⟨rfl, ((Below.refl _ w).alloc (Nat.le_refl _) _).alloc (by simp) _⟩
theorem boxKept {W w1 : World} (hB : Below W.heap.size W w1) {b : Nat} {p q r : Value} (h : W.cell? ⟨b, 0, none⟩ = some p ∧ W.cell? ⟨b, 1, none⟩ = some q ∧ W.cell? ⟨b, 2, none⟩ = some r)
  (f : W.frozen? ⟨b, 0, none⟩ = false ∧ W.frozen? ⟨b, 1, none⟩ = false ∧ W.frozen? ⟨b, 2, none⟩ = false) :
  (w1.cell? ⟨b, 0, none⟩ = some p ∧ w1.cell? ⟨b, 1, none⟩ = some q ∧ w1.cell? ⟨b, 2, none⟩ = some r) ∧
  (∀ o, (w1.alloc o).cell? ⟨b, 0, none⟩ = some p) ∧ (∀ o, (w1.alloc o).cell? ⟨b, 1, none⟩ = some q) ∧ (∀ o, (w1.alloc o).cell? ⟨b, 2, none⟩ = some r) ∧
  (∀ o, (w1.alloc o).frozen? ⟨b, 0, none⟩ = false) ∧ (∀ o, (w1.alloc o).frozen? ⟨b, 1, none⟩ = false) ∧ (∀ o, (w1.alloc o).frozen? ⟨b, 2, none⟩ = false) ∧
  (w1.frozen? ⟨b, 0, none⟩ = false ∧ w1.frozen? ⟨b, 1, none⟩ = false ∧ w1.frozen? ⟨b, 2, none⟩ = false) := by
 have c0 := below_cell hB h.1; have c1 := below_cell hB h.2.1; have c2 := below_cell hB h.2.2; have f0 := below_frozen hB h.1 f.1; have f1 := below_frozen hB h.2.1 f.2.1; have f2 := below_frozen hB h.2.2 f.2.2; exact ⟨⟨c0, c1, c2⟩, fun o => cellOn o c0, fun o => cellOn o c1, fun o => cellOn o c2, fun o => frozenOn o c0 f0, fun o => frozenOn o c1 f1, fun o => frozenOn o c2 f2, f0, f1, f2⟩
end Go.Proofs.YteppodogghjfhaaGreatDoor
namespace Go.Proofs.YteppodogghjfhaaGreatDoor
open Go.RowKit Go.Shelf Go.Lib
attribute [local go_sem] Oper.semAt_some
end Go.Proofs.YteppodogghjfhaaGreatDoor
namespace Go.Proofs.YteppodogghjfhaaGreatDoor.Mk
open Go.RowKit Go.Shelf Go.Lib
attribute [local go_sem] Oper.semAt_some
set_option maxHeartbeats 4000000 in
set_option maxRecDepth 100000 in
theorem hides_any (base N : Nat) (es : List E) (A : ByteArray → Nat) (T : TrM es) (w : World) (R : Rep w base N es A) (s : ByteArray) (hs : s.size ≤ 16777216) :
  Calls Tryz.prog 182 #[layV A, .string s] w fun e w' => e = .returned (.bool ((ups s).any (tellM es (fun d => d != 2)))) ∧ Below w.heap.size w w' := by
 refine (callsIn_wide (n := 3)).1 ?_; refine callsIn_of_wp_marks Tryz.func182 rfl trivial ?_ rfl; simp only [Tryz.ntmps182, List.size_toArray, List.length_cons, List.length_nil, Nat.reduceAdd, Nat.reduceSub, Array.replicate_succ, Array.replicate_zero, List.push_toArray, List.append_toArray, List.nil_append, List.cons_append]
 gi_wp2_with (refine ⟨trivial, ?_⟩; gi_at_call 198; refine (callsIn_wide.2 (upward_any _ _)).mono ?_; rintro e w1 ⟨rfl, rfl⟩)
 obtain ⟨bn, hbnE⟩ : ∃ bn, bn = w.heap.size + 1 + 1 := ⟨_, rfl⟩
 obtain ⟨W0, hW0⟩ : ∃ W0, W0 = ((w.alloc (.cells #[.iface 207 (.agg #[]), .map (some (A ⟨#[47]⟩))] 146)).alloc (.cells #[.bool false] 4)).alloc (.cells #[.string s] 9) := ⟨_, rfl⟩
 have hB0 : Below w.heap.size w W0 := by rw [hW0]; exact belowA (belowA (belowA (Below.refl _ w) _) _) _
 have cN := cellNew (w.alloc (.cells #[.iface 207 (.agg #[]), .map (some (A ⟨#[47]⟩))] 146)) (.bool false) 4; have fN := frozenNew (w.alloc (.cells #[.iface 207 (.agg #[]), .map (some (A ⟨#[47]⟩))] 146)) (.bool false) 4; have cS := cellNew ((w.alloc (.cells #[.iface 207 (.agg #[]), .map (some (A ⟨#[47]⟩))] 146)).alloc (.cells #[.bool false] 4)) (.string s) 9; simp only [World.size_alloc] at cN fN cS; have hR0 : RSt w.heap.size A false W0 := by rw [hW0]; exact ⟨cellOn _ cN, frozenOn _ cN fN, ((Box2.new w _ _ _).on _).on _⟩
 have cb : W0.cell? ⟨bn, 0, none⟩ = some (.string s) := by rw [hW0, hbnE]; exact cS
 have hbn : bn < W0.heap.size := by rw [hW0, hbnE]; simp
 have hle : w.heap.size ≤ W0.heap.size := hB0.size; rw [← hW0, ← hbnE]; clear hW0 hbnE cN fN cS
 refine wpIn_rangeFunc_ownF rfl (by omega) (gf := 217) (lb := #[.pointer (some ⟨bn, 0, none⟩)]) rfl trivial (enters_of Tryz.func217 (by kernel_rfl) rfl)
  (ups_stops _ (by omega) bn s hs _ hbn cb) (fun _ _ => trivial) (fun _ _ _ _ _ _ _ _ => trivial) (Below.refl _ _) (fun _ => rfl)
  (fun pre W => (RSt w.heap.size A false W ∧ Hid ((pre.map Subtype.val).any (tellM es (fun d => d != 2)) = false)) ∧ Below w.heap.size w W)
  (fun c pre W => (c = .ret ∧ RSt w.heap.size A true W ∧ Hid ((pre.map Subtype.val).any (tellM es (fun d => d != 2)) = true)) ∧ Below w.heap.size w W)
  (OwnFrom.and (Own.from (fun s A B row hs hg hr => ⟨hs.1.kept hg hr, hs.2⟩) _) (ownFrom_below (Nat.le_refl _) hle))
  (fun c => OwnFrom.and (Own.from (fun s A B row hs hg hr => ⟨hs.1, hs.2.1.kept hg hr, hs.2.2⟩) _) (ownFrom_below (Nat.le_refl _) hle))
  ⟨⟨hR0, rfl⟩, hB0⟩
  (fun x => { tmps := #[layV A, .string s, .pointer (some ⟨w.heap.size, 0, none⟩), undef, .pointer (some ⟨w.heap.size + 1, 0, none⟩), .string x.1, undef, undef, .string s, .func (.func 217) #[] #[.pointer (some ⟨bn, 0, none⟩)], .string x.1, undef, undef, undef, undef, undef, undef, undef, undef, undef, undef, undef, undef], defers := [] }) ?assign ?body ?done ?stop
 case assign =>
  intro l x W K hK
  gi_wp2
  exact hK
 case body =>
  rintro l pre x W ⟨⟨hSt, HA⟩, hB⟩ _; obtain ⟨hpx, hsx⟩ := ups_small x.2; have hxz : x.1.size ≤ 16777216 := by omega
  have HAt := hid (at_any base N es A T (x.1.size + 1) W (R.below hB) x.1 (Nat.lt_succ_self _) hxz); have HSt := hid hSt; have HB := hid hB
  have sn : Hid (∀ b, tellM es (fun d => d != 2) x.1 = b → ((pre ++ [x]).map Subtype.val).any (tellM es (fun d => d != 2)) = b) := fun b hb => by
   rw [List.map_append, List.map_singleton, any_snoc, HA.out, hb, Bool.false_or]
  obtain ⟨sr, srf, ⟨c0, c1, f0, f1⟩⟩ := hSt; cases hlk : lookE es x.1 with
  | none =>
   have HX := hid (sn.out false (by unfold tellM; rw [hlk])); rw [atV_none (path_not_root hpx) hlk] at HAt; clear hlk hpx
   gi_wp2_with (refine ⟨trivial, ?_⟩; gi_at_call 155; refine (callsIn_wide.2 HAt.out).mono ?_; rintro e w2 ⟨rfl, hB2⟩)
   all_goals refine ⟨fun _ _ => trivial, ?_⟩
   all_goals gi_wp2
   all_goals exact ⟨keeps_of_below (belowA hB2 _), trivial, ⟨HSt.out.below (belowA hB2 _), HX⟩, belowT HB.out (belowA hB2 _)⟩
  | some e =>
   have hk := T.kind e (look_mem hlk).1; have ht : tellM es (fun d => d != 2) x.1 = (fun d : Int => d != 2) e.d := by unfold tellM; rw [hlk]
   rw [atV_some T hlk] at HAt; unfold nodeV at HAt; obtain ⟨d, hd⟩ : ∃ d, e.d = d := ⟨_, rfl⟩
   rw [hd] at HAt hk ht; obtain ⟨xx, hxx⟩ : ∃ xx, e.x = xx := ⟨_, rfl⟩
   rw [hxx] at HAt; clear hlk hpx hd hxx; rcases (by omega : d = 1 ∨ d = 2 ∨ d = 3 ∨ d = 4) with rfl | rfl | rfl | rfl
   ·
    have HX := hid (sn.out true (ht.trans rfl)); have hm : ∀ W, (method 436 212 (.agg #[.string xx]) "loop.example/pargeting/impl.hides").run Tryz.prog W = .ok (257, .agg #[.string xx]) W := fun _ => by kernel_rfl
    rw [sign1] at HAt
    gi_wp2_with (first | (refine ⟨trivial, ?_⟩; gi_at_call 155; refine (callsIn_wide.2 HAt.out).mono ?_; rintro e w2 ⟨rfl, hB2⟩) | (refine ⟨trivial, ?_⟩; gi_at_call 257; refine (callsIn_wide.2 (hides1_any _ _)).mono ?_; rintro e w3 ⟨rfl, hB3⟩; obtain ⟨kr, krf, -⟩ := (HSt.out.below (belowA hB2 _)).below hB3))
    exact ⟨(keeps_of_below (belowT (belowA hB2 _) hB3)).trans (KeepsOthers.setCell _ _ _), ⟨rfl, ((HSt.out.below (belowA hB2 _)).below hB3).set true, HX⟩, (belowT (belowT HB.out (belowA hB2 _)) hB3).setCell (p := ⟨w.heap.size + 1, 0, none⟩) (by simp) _⟩
   ·
    have HX := hid (sn.out false (ht.trans rfl)); have hm : ∀ W, (method 436 207 (.agg #[]) "loop.example/pargeting/impl.hides").run Tryz.prog W = .ok (254, .agg #[]) W := fun _ => by kernel_rfl
    rw [sign2] at HAt
    gi_wp2_with (first | (refine ⟨trivial, ?_⟩; gi_at_call 155; refine (callsIn_wide.2 HAt.out).mono ?_; rintro e w2 ⟨rfl, hB2⟩) | (refine ⟨trivial, ?_⟩; gi_at_call 254; refine (callsIn_wide.2 (hides2_any _)).mono ?_; rintro e w3 ⟨rfl, hB3⟩; obtain ⟨kr, krf, -⟩ := (HSt.out.below (belowA hB2 _)).below hB3))
    exact ⟨keeps_of_below (belowT (belowA hB2 _) hB3), trivial, ⟨(HSt.out.below (belowA hB2 _)).below hB3, HX⟩, belowT (belowT HB.out (belowA hB2 _)) hB3⟩
   ·
    have HX := hid (sn.out true (ht.trans rfl)); have hm : ∀ W, (method 436 161 (.agg #[]) "loop.example/pargeting/impl.hides").run Tryz.prog W = .ok (248, .agg #[]) W := fun _ => by kernel_rfl
    rw [sign3] at HAt
    gi_wp2_with (first | (refine ⟨trivial, ?_⟩; gi_at_call 155; refine (callsIn_wide.2 HAt.out).mono ?_; rintro e w2 ⟨rfl, hB2⟩) | (refine ⟨trivial, ?_⟩; gi_at_call 248; refine (callsIn_wide.2 (hides3_any _)).mono ?_; rintro e w3 ⟨rfl, hB3⟩; obtain ⟨kr, krf, -⟩ := (HSt.out.below (belowA hB2 _)).below hB3))
    exact ⟨(keeps_of_below (belowT (belowA hB2 _) hB3)).trans (KeepsOthers.setCell _ _ _), ⟨rfl, ((HSt.out.below (belowA hB2 _)).below hB3).set true, HX⟩, (belowT (belowT HB.out (belowA hB2 _)) hB3).setCell (p := ⟨w.heap.size + 1, 0, none⟩) (by simp) _⟩
   ·
    have HX := hid (sn.out true (ht.trans rfl)); have hm : ∀ W, (method 436 247 (.agg #[]) "loop.example/pargeting/impl.hides").run Tryz.prog W = .ok (271, .agg #[]) W := fun _ => by kernel_rfl
    rw [sign4] at HAt
    gi_wp2_with (first | (refine ⟨trivial, ?_⟩; gi_at_call 155; refine (callsIn_wide.2 HAt.out).mono ?_; rintro e w2 ⟨rfl, hB2⟩) | (refine ⟨trivial, ?_⟩; gi_at_call 271; refine (callsIn_wide.2 (hides4_any _)).mono ?_; rintro e w3 ⟨rfl, hB3⟩; obtain ⟨kr, krf, -⟩ := (HSt.out.below (belowA hB2 _)).below hB3))
    exact ⟨(keeps_of_below (belowT (belowA hB2 _) hB3)).trans (KeepsOthers.setCell _ _ _), ⟨rfl, ((HSt.out.below (belowA hB2 _)).below hB3).set true, HX⟩, (belowT (belowT HB.out (belowA hB2 _)) hB3).setCell (p := ⟨w.heap.size + 1, 0, none⟩) (by simp) _⟩
 case done =>
  rintro D ys W hD hys ⟨⟨hSt, HA⟩, hB⟩ hK; have he : (ups s).any (tellM es (fun d => d != 2)) = false := by rw [← hys]; exact HA.out
  have hS2 := hSt.set false; have hB2 := hB.setCell (p := ⟨w.heap.size + 1, 0, none⟩) (by simp) (.bool false); obtain ⟨sr, srf, -⟩ := hSt
  gi_wp2
  have hK' := (KeepsOthers.setCell W ⟨w.heap.size + 1, 0, none⟩ (.bool false)).same D _ hK rfl; refine ⟨by simp, .inl ⟨_, _, rfl, run_takeDeferred hK', ?_⟩⟩; have r0 := cell_kept hS2.r (grownBy_putObj' _ D (.deferred none)) (fun r e => by cases e; exact ⟨_, hK', rfl⟩); refine ⟨.bool false, ?_, by rw [he], hB2.trans (belowK_b (w := w) (Nat.le_refl _) _ D _ _ (by have := hB0.size; omega) hK' rfl rfl)⟩; simp [results, Tryz.f182, go_sem, r0]
 case stop =>
  rintro D c pre W hD hpre ⟨⟨rfl, hSt, HA⟩, hB⟩ hK; have he : (ups s).any (tellM es (fun d => d != 2)) = true := any_pre hpre HA.out
  gi_wp2
  refine ⟨by simp, .inl ⟨_, _, rfl, run_takeDeferred hK, ?_⟩⟩; have r0 := cell_kept hSt.r (grownBy_putObj' _ D (.deferred none)) (fun r e => by cases e; exact ⟨_, hK, rfl⟩); refine ⟨.bool true, ?_, by rw [he], hB.trans (belowK_b (w := w) (Nat.le_refl _) _ D _ _ (by have := hB0.size; omega) hK rfl rfl)⟩; simp [results, Tryz.f182, go_sem, r0]
end Go.Proofs.YteppodogghjfhaaGreatDoor.Mk
namespace Go.Proofs.YteppodogghjfhaaGreatDoor.Mk
open Go.RowKit Go.Shelf Go.Lib
theorem cov_is {es : List E} (T : TrM es) (A : ByteArray → Nat) {s : ByteArray} (hs : pathB s = true) : ((atV es A s).2 || (ups s).any (tellM es (fun d => d != 2))) = Ly.covM es s := by
 unfold Ly.covM; rw [hides_is T, hs, Bool.true_and]; cases h : lookE es s with
 | none => rw [atV_none (path_not_root hs) h]; rfl
 | some e => rw [atV_some T h]; rfl
set_option maxHeartbeats 1000000 in
set_option maxRecDepth 100000 in
theorem covers_any (base N : Nat) (es : List E) (A : ByteArray → Nat) (T : TrM es) (w : World) (R : Rep w base N es A) (s : ByteArray) (hs : pathB s = true) (hz : s.size ≤ 16777216) :
  Calls Tryz.prog 148 #[layV A, .string s] w fun e w' => e = .returned (.bool (Ly.covM es s)) ∧ Below w.heap.size w w' := by
 have HI := hid (cov_is T A hs); have HA := hid (fun (W : World) (hW : Below w.heap.size w W) => at_any base N es A T (s.size + 1) W (R.below hW) s (Nat.lt_succ_self _) hz); have HH := hid (fun (W : World) (hW : Below w.heap.size w W) => hides_any base N es A T W (R.below hW) s hz); go_enter Tryz.func148, Tryz.ntmps148
 go_wp2_with fail
 refine (HA.out _ ((Below.refl _ w).alloc (Nat.le_refl _) _)).mono ?_; rintro e w1 ⟨rfl, hB1⟩; have c0 := (hB1.cell (p := ⟨w.heap.size, 0, none⟩) (by simp))|>.trans (by simp : _ = some (.iface 207 (.agg #[])))
 have c1 := (hB1.cell (p := ⟨w.heap.size, 1, none⟩) (by simp))|>.trans (by simp : _ = some (.map (some (A ⟨#[47]⟩))))
 have hB : Below w.heap.size w w1 := ((Below.refl _ w).alloc (Nat.le_refl _) _).trans (hB1.mono (by simp)); have HB := hid hB; have HB1 := hid hB1; clear hB1 hB; cases h : lookE es s with
 | some e =>
  obtain ⟨te, ue, hse⟩ := sign_is e.d e.x; have hq : Ly.covM es s = true := by rw [← HI.out, atV_some T h]; rfl
  rw [atV_some T h]; unfold nodeV; rw [hse]; have HQ := hid hq; clear hse hq h HI; go_wp2
  go_ret
  exact ⟨by rw [HQ.out]; rfl, HB.out.alloc HB.out.size _⟩
 | none =>
  have hq : Ly.covM es s = (ups s).any (tellM es (fun d => d != 2)) := by rw [← HI.out, atV_none (path_not_root hs) h]; rfl
  rw [atV_none (path_not_root hs) h]; have HQ := hid hq; clear hq h HI; have c0' := cellOn (.cells #[.nilIface, .map none] 144) c0; have c1' := cellOn (.cells #[.nilIface, .map none] 144) c1; go_wp2_with (go_at_call 182; refine (HH.out _ (HB.out.alloc HB.out.size _)).mono ?_; rintro e w3 ⟨rfl, hB3⟩)
  go_ret
  exact ⟨by rw [HQ.out]; rfl, (HB.out.alloc HB.out.size _).trans (hB3.mono (by have := HB.out.size; simp; omega))⟩
attribute [local go_sem] Oper.semAt_some
theorem leq_not (a b : List UInt8) : (Op.bytesLess a b || a == b) = !Op.bytesLess b a := by
 cases hb : Op.bytesLess b a with
 | true =>
  have h1 : Op.bytesLess a b = false := by
   cases h : Op.bytesLess a b with
   | false => rfl
   | true => have := bless_trans _ _ _ h hb; rw [bless_irrefl] at this; cases this
  have h2 : (a == b) = false := by
   rw [beq_eq_false_iff_ne]; intro e; rw [e, bless_irrefl] at hb; cases hb
  rw [h1, h2]; rfl
 | false =>
  by_cases e : a = b
  ·
   subst e; simp
  ·
   rw [less_total _ _ hb (fun q => e q.symm)]; rfl
theorem signB_kind {d : Int} {x : ByteArray} (h : signB d x = true) : 1 ≤ d ∧ d ≤ 4 := by
 unfold signB at h
 split at h
 ·
  omega
 ·
  rw [Bool.and_eq_true] at h; have := h.1; simp only [Bool.or_eq_true, beq_iff_eq] at this; omega
theorem layB_yes {es : List E} (h : (List.range es.length).all (okM es) = true) (hl : es.length ≤ 32) : layB es = true := by
 unfold layB; rw [h, decide_eq_true hl]; rfl
theorem all_snoc {es : List E} {k : Nat} (h : (List.range k).all (okM es) = true) (h2 : okM es k = true) : (List.range (k + 1)).all (okM es) = true := by
 rw [List.range_succ, List.all_append, h]; simpa using h2
structure LBox (W : World) (b c m : Nat) : Prop where
 res : ∃ u v, Box2 W b u v
 lay : Box2 W c (.iface 207 (.agg #[])) (.map (some m))
theorem LBox.turn {base : Nat} {W W' : World} {b c m : Nat} (h : LBox W b c m) (t : Turn base W W') : LBox W' b c m := by
 obtain ⟨⟨u, v, h1⟩, h2⟩ := h; exact ⟨⟨u, v, h1.turn t⟩, h2.turn t⟩
theorem LBox.below {W W' : World} {b c m : Nat} (h : LBox W b c m) (t : Below W.heap.size W W') : LBox W' b c m := h.turn (Turn.of_below t (Nat.zero_le _))
set_option maxHeartbeats 4000000 in
set_option maxRecDepth 100000 in
theorem layerOf_any (w : World) (a : Option Addr) (g o cap : Nat) (es : List E) (hl : es.length ≤ 16777216) (hz : ∀ e ∈ es, e.p.size ≤ 16777216 ∧ e.x.size ≤ 16777216) (ha : 0 < es.length → a = some ⟨g, o, none⟩) (hE : Ents w g o es) :
  Calls Tryz.prog 102 #[.slice a es.length cap] w fun r w' => ∃ A, r = .returned (.tuple #[layV A, .bool (layB es)]) ∧ Below w.heap.size w w' ∧ (layB es = true → Rep w' w.heap.size 32 es A) := by
 have HE := hidE hE; have HZ := hidE hz; clear hE hz; have B0 := Box2.new w .nilIface (.map none) 146; by_cases h32 : es.length ≤ 32
 ·
  go_enter Tryz.func102, Tryz.ntmps102
  go_wp2_with (first | (go_at_call 108; refine (newLayer_any _).mono ?_; rintro e w1 ⟨⟨aa, haa, rfl, hM1⟩, hB1⟩; obtain ⟨k0, k1, k2, k3⟩ := B0.below hB1) | fail)
  have hB01 : Below w.heap.size w w1 := belowT (belowA (Below.refl _ w) _) hB1; simp only [World.size_alloc] at haa; have hsz1 : w.heap.size + 1 ≤ w1.heap.size := by have := hB1.size; simpa using this
  have HB0 := hidE (LBox.mk (W := w1.alloc (.cells #[.iface 207 (.agg #[]), .map (some aa)] 146)) (b := w.heap.size) (c := w1.heap.size) (m := aa) ⟨_, _, (B0.below hB1).on _⟩ (Box2.new _ _ _ _)); have HR0 := hidE (rep_nil (base := w.heap.size) (by omega) (hM1.kept (w' := w1.alloc (.cells #[.iface 207 (.agg #[]), .map (some aa)] 146)) (Below.heap_alloc _ _ _ hM1.lt))); have HBw := hidE (belowA hB01 (.cells #[.iface 207 (.agg #[]), .map (some aa)] 146)); clear k0 k1 k2 k3 hM1 hB1 B0
  go_loopw [5, 17] (fun lv iv wl => ∃ k : Nat, k ≤ es.length ∧ iv = .int .i64 k ∧ lv = .string (lastP es k) ∧ Hid (∃ A, A ⟨#[47]⟩ = aa ∧ Rep wl w.heap.size k (es.take k) A) ∧ Hid (Below w.heap.size w wl) ∧ Hid ((List.range k).all (okM es) = true) ∧ Hid (LBox wl w.heap.size w1.heap.size aa)) (fun _ iv _ => es.length - (RowKit.intOf iv).toNat)
  case atStart => exact ⟨0, Nat.zero_le _, rfl, rfl, ⟨_, rfl, HR0.out⟩, HBw, rfl, HB0⟩
  case round =>
   obtain ⟨k, hk, rfl, rfl, HRA, HB, HA, HO⟩ := hrel; by_cases hlt : k < es.length
   ·
    obtain rfl := ha (by omega); obtain ⟨c0, c1, c2⟩ := (HE.out.below (HB.out.mono (Nat.le_refl _))) k hlt; obtain ⟨z0, z1⟩ := HZ.out es[k] (List.getElem_mem _); obtain ⟨p, hp⟩ : ∃ p, es[k].p = p := ⟨_, rfl⟩
    obtain ⟨d, hd⟩ : ∃ d, es[k].d = d := ⟨_, rfl⟩
    obtain ⟨x, hx⟩ : ∃ x, es[k].x = x := ⟨_, rfl⟩
    have HX := hidE (show es[k] = ⟨p, d, x⟩ by rw [← hp, ← hd, ← hx]); rw [hp] at c0 z0; rw [hd] at c1; rw [hx] at c2 z1; clear hp hd hx; have BM := Box3.new wr (.string p) (.int .i64 d) (.string x) 99; obtain ⟨W0, hW0⟩ : ∃ W0, W0 = wr.alloc (.cells #[.string p, .int .i64 d, .string x] 99) := ⟨_, rfl⟩
    have hBA : Below wr.heap.size wr W0 := by rw [hW0]; exact belowA (Below.refl _ wr) _
    rw [← hW0] at BM; have HBM := hidE BM; have HWe := hidE hW0; have HO0 := hidE (HO.out.below hBA); have HBW0 := hidE (belowT HB.out hBA); clear BM hW0; have TK := tr_take k (by omega) HA.out; have HL := hidE (show less (lastP es k) es[k].p ↔ Op.bytesLess (lastP es k).toList p.toList = true by rw [HX.out]; exact Iff.rfl); obtain ⟨lp, hlp⟩ : ∃ lp, lastP es k = lp := ⟨_, rfl⟩
    have HQ := hidE (leq_not p.toList lp.toList); rw [hlp] at HL; have HLP := hidE hlp; have HSg := hidE (fun W => signOf_any p d x z1 W)
    have no : Hid (okM es k = false → ∀ (W : World) (b : Bool), Below w.heap.size w W → b = false → ∃ A, Ending.returned (.tuple #[.agg #[.iface 207 (.agg #[]), .map (some aa)], .bool b]) = .returned (.tuple #[layV A, .bool (layB es)]) ∧ Below w.heap.size w W ∧ (layB es = true → Rep W w.heap.size 32 es A)) := fun h1 W b h2 h3 => by
     have hte := layB_no hlt h1; exact ⟨fun _ => aa, by rw [← hte, h3], h2, fun h => by rw [← hte] at h; cases h⟩
    rw [hlp]; cases hsg : signB d x with
    | false =>
     have HN : Hid (okM es k = false) := by
      show _ = _
      by_cases hle : less (lastP es k) es[k].p
      ·
       rw [okM_less hlt TK hle, HX.out, hsg]; rfl
      ·
       exact okM_not hlt hle
     rw [hsg] at HSg; go_wp2_with (first | (go_at_call 144; rw [← HWe.out]; refine (HSg.out _).mono ?_; rintro e w2 ⟨rfl, hB2⟩; obtain ⟨⟨ru, rv, r0, r1, r2, r3⟩, l0, l1, l2, l3⟩ := HO0.out.below hB2) | fail)
     refine atSet2 (C := bodyPost Tryz.prog Tryz.f102 _ _ _) ⟨r0, r1, r2, r3⟩ (belowT HBW0.out hB2) (Nat.le_refl _) ?_; intro Wf s0 hBf _ _; exact bodyPost_ret (v := .tuple #[.agg #[.iface 207 (.agg #[]), .map (some aa)], .bool false]) (by simp [results, Tryz.results102, go_sem, s0.c0, s0.c1]) rfl (no.out HN.out Wf false hBf rfl)
    | true =>
     have hdk := signB_kind hsg; rw [hsg, signM_in hdk] at HSg; obtain ⟨ts, us, hts⟩ := sign_is d x; rw [hts] at HSg; cases hls : (Op.bytesLess p.toList lp.toList || p.toList == lp.toList) with
     | true =>
      have HN : Hid (okM es k = false) := by
       show _ = _
       refine okM_not hlt fun h => ?_; rw [HLP.out] at h; have h1 := HL.out.1 h; have h2 := HQ.out; rw [hls, h1] at h2; cases h2
      go_wp2_with (first | (go_at_call 144; rw [← HWe.out]; refine (HSg.out _).mono ?_; rintro e w2 ⟨rfl, hB2⟩; obtain ⟨⟨ru, rv, r0, r1, r2, r3⟩, l0, l1, l2, l3⟩ := HO0.out.below hB2; obtain ⟨m0, m1, m2, n0, n1, n2⟩ := HBM.out.below hB2) | fail)
      refine atSet2 (C := bodyPost Tryz.prog Tryz.f102 _ _ _) ⟨r0, r1, r2, r3⟩ (belowT HBW0.out hB2) (Nat.le_refl _) ?_; intro Wf s0 hBf _ _; exact bodyPost_ret (v := .tuple #[.agg #[.iface 207 (.agg #[]), .map (some aa)], .bool false]) (by simp [results, Tryz.results102, go_sem, s0.c0, s0.c1]) rfl (no.out HN.out Wf false hBf rfl)
     | false =>
      have hle : less (lastP es k) es[k].p := by
       rw [HLP.out]; refine HL.out.2 ?_; have h2 := HQ.out; rw [hls] at h2; cases h3 : Op.bytesLess lp.toList p.toList with
       | true => rfl
       | false => rw [h3] at h2; cases h2
      obtain ⟨A, hA0, RA⟩ := HRA.out; have HRA0 := hidE (RA.below hBA); have htree : layV A = .agg #[.iface 207 (.agg #[]), .map (some aa)] := by unfold layV; rw [hA0]
      have HTk := hidE (fun (W : World) (hW : Rep W w.heap.size k (es.take k) A) => takes_any w.heap.size k (es.take k) A TK (fun e he => (HZ.out e (List.mem_of_mem_take he)).2) W hW p z0 d x z1 hdk); have HOK := hidE (okM_less hlt TK hle); rw [HX.out] at HOK; have hless : ∀ f ∈ es.take k, less f.p p := fun f hf => by have := take_less hlt TK hle f hf; rw [HX.out] at this; exact this
      rw [htree, hts] at HTk; cases htk : takesM (es.take k) p d with
      | false =>
       rw [htk] at HTk
       have HN : Hid (okM es k = false) := by
        show _ = _
        rw [HOK.out]; show (signB d x && takesM (es.take k) p d) = false
        rw [htk, Bool.and_false]
       go_wp2_with (first | (go_at_call 144; rw [← HWe.out]; refine (HSg.out _).mono ?_; rintro e w2 ⟨rfl, hB2⟩; obtain ⟨⟨ru, rv, r0, r1, r2, r3⟩, l0, l1, l2, l3⟩ := HO0.out.below hB2; obtain ⟨m0, m1, m2, n0, n1, n2⟩ := HBM.out.below hB2) | (go_at_call 145; refine (HTk.out _ (HRA0.out.below hB2)).mono ?_; rintro e w3 ⟨rfl, hB3⟩; clear r0 r1 r2 r3 l0 l1 l2 l3 m0 m1 m2 n0 n1 n2; obtain ⟨⟨ru, rv, r0, r1, r2, r3⟩, l0, l1, l2, l3⟩ := (HO0.out.below hB2).below hB3; obtain ⟨m0, m1, m2, n0, n1, n2⟩ := (HBM.out.below hB2).below hB3) | fail)
       refine atSet2 (C := bodyPost Tryz.prog Tryz.f102 _ _ _) ⟨r0, r1, r2, r3⟩ (belowT (belowT HBW0.out hB2) hB3) (Nat.le_refl _) ?_; intro Wf s0 hBf _ _; exact bodyPost_ret (v := .tuple #[.agg #[.iface 207 (.agg #[]), .map (some aa)], .bool false]) (by simp [results, Tryz.results102, go_sem, s0.c0, s0.c1]) rfl (no.out HN.out Wf false hBf rfl)
      | true =>
       rw [htk] at HTk
       have hY : okM es k = true := by
        rw [HOK.out]; show (signB d x && takesM (es.take k) p d) = true
        rw [htk, hsg]; rfl
       have hin : inM (es.take k) p = true := by
        unfold takesM at htk; rw [Bool.and_eq_true] at htk; exact htk.1
       have hold : lookE (es.take k) p = none := look_none.2 fun f hf q => by
        have := hless f hf; rw [q] at this; exact less_irrefl _ this
       have HPu := hidE (fun (W : World) (hW : Rep W w.heap.size k (es.take k) A) (hb : w.heap.size ≤ W.heap.size) => put_any w.heap.size k (es.take k) A TK W hW hb (by omega) p z0 d x (inM_path TK hin) ((inM_look.1 hin).imp id fun ⟨f, h1, _⟩ => ⟨f, h1⟩) hold); rw [htree, hts] at HPu; have HY := hidE hY; have HA0 := hidE hA0; clear hY hin hold htk hsg hA0 hless; go_wp2_with (first | (go_at_call 144; rw [← HWe.out]; refine (HSg.out _).mono ?_; rintro e w2 ⟨rfl, hB2⟩; obtain ⟨⟨ru, rv, r0, r1, r2, r3⟩, l0, l1, l2, l3⟩ := HO0.out.below hB2; obtain ⟨m0, m1, m2, n0, n1, n2⟩ := HBM.out.below hB2) | (go_at_call 145; refine (HTk.out _ (HRA0.out.below hB2)).mono ?_; rintro e w3 ⟨rfl, hB3⟩; clear r0 r1 r2 r3 l0 l1 l2 l3 m0 m1 m2 n0 n1 n2; obtain ⟨⟨ru, rv, r0, r1, r2, r3⟩, l0, l1, l2, l3⟩ := (HO0.out.below hB2).below hB3; obtain ⟨m0, m1, m2, n0, n1, n2⟩ := (HBM.out.below hB2).below hB3) | (go_at_call 110; refine (HPu.out _ ((HRA0.out.below hB2).below hB3) (belowT (belowT HBW0.out hB2) hB3).size).mono ?_; rintro e w4 ⟨⟨v, rfl⟩, hT4, hR4⟩; clear r0 r1 r2 r3 l0 l1 l2 l3 m0 m1 m2 n0 n1 n2; obtain ⟨m0, m1, m2, n0, n1, n2⟩ := ((HBM.out.below hB2).below hB3).turn hT4) | fail)
       obtain ⟨A', hA', hRA'⟩ := hR4; refine ⟨⟨k + 1, by omega, rfl, by rw [lastP_succ hlt, HX.out], ⟨A', hA'.trans HA0.out, ?_⟩, (belowT (belowT HBW0.out hB2) hB3).trans hT4.below, all_snoc HA.out HY.out, ((HO0.out.below hB2).below hB3).turn hT4⟩, by simp [RowKit.intOf]; omega⟩; rw [List.take_succ_eq_append_getElem hlt, HX.out]; exact hRA'
   ·
    have hke : k = es.length := by omega
    obtain ⟨⟨ru, rv, r0, r1, r2, r3⟩, l0, l1, l2, l3⟩ := HO.out; obtain ⟨A, hA0, RA⟩ := HRA.out; have HRk := hidE RA; have hte : layB es = true := layB_yes (by rw [← hke]; exact HA.out) h32; have HK := hidE hke; clear RA HRA hke; go_wp2
    refine atSet2 (C := bodyPost Tryz.prog Tryz.f102 _ _ _) ⟨r0, r1, r2, r3⟩ HB.out (Nat.le_refl _) ?_; intro Wf s0 hBf hKo _; refine bodyPost_ret (v := .tuple #[.agg #[.iface 207 (.agg #[]), .map (some aa)], .bool true]) (by simp [results, Tryz.results102, go_sem, s0.c0, s0.c1]) rfl ⟨A, ?_, hBf, fun _ => ?_⟩
    ·
     rw [hte]; unfold layV; rw [hA0]
    ·
     have h1 := HRk.out; rw [HK.out, List.take_length] at h1; exact (h1.keeps hKo).mono h32
 ·
  have hte : layB es = false := by unfold layB; rw [decide_eq_false h32, Bool.and_false]
  have h32' : (32 : Int) < es.length := by omega
  rw [hte]; go_enter Tryz.func102, Tryz.ntmps102
  go_wp2_with (first | (go_at_call 108; refine (newLayer_any _).mono ?_; rintro e w1 ⟨⟨aa, haa, rfl, hM1⟩, hB1⟩; obtain ⟨k0, k1, k2, k3⟩ := (B0.below hB1).on (.cells #[.iface 207 (.agg #[]), .map (some aa)] 146)) | fail)
  have hB01 : Below w.heap.size w w1 := belowT (belowA (Below.refl _ w) _) hB1; refine atSet2 (C := bodyPost Tryz.prog Tryz.f102 _ _ _) ⟨k0, k1, k2, k3⟩ (belowA hB01 _) (Nat.le_refl _) ?_; intro Wf s0 hBf _ _; exact bodyPost_ret (v := .tuple #[.agg #[.iface 207 (.agg #[]), .map (some aa)], .bool false]) (by simp [results, Tryz.results102, go_sem, s0.c0, s0.c1]) rfl ⟨fun _ => aa, rfl, hBf, fun h => by cases h⟩
end Go.Proofs.YteppodogghjfhaaGreatDoor.Mk
namespace Go.Proofs.YteppodogghjfhaaGreatDoor
open Go.RowKit Go.Shelf Go.Lib
attribute [local go_sem] Oper.semAt_some
theorem iTreeOk_any (w : World) (a : Option Addr) (g o cap : Nat) (es : List E) (ae : Int → Addr) (hErr : Errs2 w ae) (hl : es.length ≤ 16777216) (hz : ∀ e ∈ es, e.p.size ≤ 16777216 ∧ e.x.size ≤ 16777216) (ha : 0 < es.length → a = some ⟨g, o, none⟩) (hE : Ents w g o es) :
  Calls Tryz.prog 75 #[.slice a es.length cap] w fun r w' => r = .returned (.bool (treeE es)) ∧ Below w.heap.size w w' := by
 have HT := hidE (treeOf_any w a g o cap es ae hErr hl hz ha hE); clear hErr hz ha hE; go_enter Tryz.func75, Tryz.ntmps75
 go_wp2_with (go_at_call 83; refine HT.out.mono ?_; rintro e w1 ⟨A, rfl, hB1, -⟩)
 go_ret
 exact ⟨rfl, hB1.alloc hB1.size _⟩
end Go.Proofs.YteppodogghjfhaaGreatDoor
namespace Go.Proofs.YteppodogghjfhaaGreatDoor.Mk
open Go.RowKit Go.Shelf Go.Lib
attribute [local go_sem] Oper.semAt_some
end Go.Proofs.YteppodogghjfhaaGreatDoor.Mk
