/-
  The walk of the program's own: a sign is put at a path of a layer.
-/
import Derived.Test.YtocfbplaieonkaaGreatHMkTakes
namespace Go.Proofs.YtocfbplaieonkaaGreat.Mk
open Go.RowKit Go.Shelf Go.Lib Go.Maps

attribute [local go_sem] Oper.semAt_some

/-- A mark is put: what is left. -/
theorem put_fin {w W W7 : World} {base N a : Nat} {es : List E} {A : ByteArray → Nat} {e : E} (T : TrM es) (R : Rep W base N es A) (hV : Turn base w W) (hp : pathB e.p = true) (hup : AtM es (upS e.p)) (hold : lookE es e.p = none)
    (hm : MapIs W7 (A (upS e.p)) (N + 1) (fun t => if t = nmS e.p then some (nodeV e.d e.x a) else kidF es A (upS e.p) t)) (ht : W.mapTurned W7 (A (upS e.p))) (ha : MapIs W a 0 (fun _ => none)) (hba : base ≤ a) (hda : ∀ p, AtM es p → A p ≠ a) :
    Turn base w W7 ∧ ∃ A', A' ⟨#[47]⟩ = A ⟨#[47]⟩ ∧ Rep W7 base (N + 1) (es ++ [e]) A' := by
  have hroot : e.p ≠ ⟨#[47]⟩ := fun q => by rw [q, root_no_path] at hp; cases hp
  refine ⟨hV.trans (Turn.of_map ht (R.low _ hup)), _, ?_, R.put T hp hold hm (fun p hpd hne => ?_) (ha.kept ?_) hba hda⟩
  · rw [if_neg (fun q => hroot q.symm)]
  · exact ht.grown.block _ (R.kids p hpd).lt (fun q => hne (R.apart _ _ hpd hup (Option.some.inj q)))
  · exact ht.grown.block _ ha.lt (fun q => hda _ hup (Option.some.inj q).symm)

theorem turn_set {base b : Nat} {w W : World} (h : Turn base w W) (hb : base ≤ b) (hw : w.heap.size ≤ b) (u v : Value) : Turn base w (set2 W b u v) := by
  refine ⟨set2_below h.below hb u v, fun k o h1 h2 => ?_⟩
  have hk := (Array.getElem?_eq_some_iff.1 h1).1
  exact ((set2_below (Below.refl w.heap.size W) hw u v).block k hk).trans (h.cells k o h1 h2)

set_option maxHeartbeats 4000000 in
set_option maxRecDepth 100000 in
theorem put_any (base N : Nat) (es : List E) (A : ByteArray → Nat) (T : TrM es) (w : World) (R : Rep w base N es A) (hb : base ≤ w.heap.size) (hN : N < 1000) (p : ByteArray) (hp : p.size ≤ 16777216) (d : Int) (x : ByteArray) (hpb : pathB p = true) (hA : AtM es (upS p)) (hold : lookE es p = none) :
    Calls Tryz.prog 33 #[layV A, .string p, signV d x] w fun e w' => (∃ v, e = .returned v) ∧ Turn base w w' ∧ ∃ A', A' ⟨#[47]⟩ = A ⟨#[47]⟩ ∧ Rep w' base (N + 1) (es ++ [⟨p, d, x⟩]) A' := by
  obtain ⟨t, u, htu⟩ := sign_is d x
  have HTU := hid htu
  rw [htu]
  obtain ⟨tu, uu, hv⟩ := atV_there (A := A) T hA
  have B1 := (Box2.new w (.iface 78 (.agg #[])) (.map (some (A ⟨#[47]⟩))) 45).on (.cells #[.nilIface, .map none] 43)
  have B2 := Box2.new (w.alloc (.cells #[.iface 78 (.agg #[]), .map (some (A ⟨#[47]⟩))] 45)) .nilIface (.map none) 43
  simp only [World.size_alloc] at B2
  obtain ⟨w1, hw1⟩ : ∃ w1, w1 = (w.alloc (.cells #[.iface 78 (.agg #[]), .map (some (A ⟨#[47]⟩))] 45)).alloc (.cells #[.nilIface, .map none] 43) := ⟨_, rfl⟩
  have hBw : Below w.heap.size w w1 := by rw [hw1]; exact belowA (belowA (Below.refl _ w) _) _
  rw [← hw1] at B1 B2
  have HB2 := hid B2
  have AS : Hid (∀ W', Below w1.heap.size w1 W' → (W'.cell? ⟨w.heap.size, 0, none⟩ = some (.iface 78 (.agg #[])) ∧ W'.cell? ⟨w.heap.size, 1, none⟩ = some (.map (some (A ⟨#[47]⟩))))) := fun W' hW => ⟨(B1.below hW).c0, (B1.below hW).c1⟩
  have AR : Hid (∀ W', Below w1.heap.size w1 W' → Rep W' base N es A) := fun W' hW => (R.below hBw).below hW
  have HU := hid (fun W => iPathUp_any p (by omega) W)
  have HN := hid (fun W => iPathName_any p (by omega) W)
  have hus := upS_le p hp
  have HAt := hid (fun (W : World) (hW : Rep W base N es A) => at_any base N es A T ((upS p).size + 1) W hW (upS p) (Nat.lt_succ_self _) hus)
  rw [hv] at HAt
  have HP := hid hpb
  have HA := hid hA
  have HO := hid hold
  clear htu hv hpb hA hold
  go_enter Tryz.func33, Tryz.ntmps33
  go_wp2_with fail
  rw [← hw1]
  clear hw1 B1 B2
  rename_i Qx Kx hKx
  have HK : Hid (∀ (b : Nat) (W : World), Below w1.heap.size w1 W → Box2 W b (.iface tu uu) (.map (some (A (upS p)))) → Kx { tmps := #[layV A, .string p, .iface t u, .pointer (some ⟨w.heap.size, 0, none⟩), undef, undef, .pointer (some ⟨w.heap.size + 1, 0, none⟩), .pointer (some ⟨b, 0, none⟩), .bool true, undef, .tuple #[.agg #[.iface tu uu, .map (some (A (upS p)))], .bool true], .agg #[.iface 78 (.agg #[]), .map (some (A ⟨#[47]⟩))], .string p, .string (upS p), .tuple #[.agg #[.iface tu uu, .map (some (A (upS p)))], .bool true], .agg #[.iface tu uu, .map (some (A (upS p)))], .bool true, undef, undef, undef, undef, undef, undef, undef, undef, undef, undef, undef, undef, undef, undef, undef, undef], defers := [] } W) := by
    intro b W hBW hbx
    refine hKx _ _ ?_
    clear hKx
    have HBX := hid hbx
    have HBW := hid (belowT hBw hBW)
    have HRes := hid (HB2.out.below hBW)
    have HRW := hid (AR.out W hBW)
    obtain ⟨x0, x1, x2, x3⟩ := hbx
    go_wp2_with (first | (go_at_call 44; refine (newNode_any _ _ _).mono ?_; rintro e w5 ⟨rfl, hM5, hB5⟩) | fail)
    obtain ⟨W5, hW5⟩ : ∃ W5, W5 = w5.alloc (.cells #[.iface t u, .map (some (W.heap.size + 1))] 43) := ⟨_, rfl⟩
    have hBW5 : Below W.heap.size W W5 := by rw [hW5]; exact belowA hB5 _
    have BN : Box2 W5 w5.heap.size (.iface t u) (.map (some (W.heap.size + 1))) := by rw [hW5]; exact Box2.new _ _ _ _
    have BU := HBX.out.below hBW5
    have BR := HRes.out.below hBW5
    have hM : MapIs W5 (W.heap.size + 1) 0 (fun _ => none) := by rw [hW5]; exact hM5.kept (Below.heap_alloc _ _ _ hM5.lt)
    have hAp : ∀ q, AtM es q → A q ≠ W.heap.size + 1 := fun q hq h => by have := (HRW.out.kids q hq).lt; omega
    have hbW : base ≤ W5.heap.size := Nat.le_trans hb (Nat.le_trans HBW.out.size hBW5.size)
    have hbW0 : base ≤ W.heap.size := Nat.le_trans hb HBW.out.size
    have HR5 := hid (HRW.out.below hBW5)
    have AS2 : Hid (∀ W', Turn base W5 W' → (W'.cell? ⟨b, 1, none⟩ = some (.map (some (A (upS p)))) ∧ W'.cell? ⟨w5.heap.size, 0, none⟩ = some (.iface t u) ∧ W'.cell? ⟨w5.heap.size, 1, none⟩ = some (.map (some (W.heap.size + 1))))) := fun W' hW => ⟨(BU.turn hW).c1, (BN.turn hW).c0, (BN.turn hW).c1⟩
    rw [← hW5]
    clear hW5 hM5
    go_region_held3 (fun W' => W'.cell? ⟨b, 1, none⟩ = some (.map (some (A (upS p)))) ∧ W'.cell? ⟨w5.heap.size, 0, none⟩ = some (.iface t u) ∧ W'.cell? ⟨w5.heap.size, 1, none⟩ = some (.map (some (W.heap.size + 1))))
      ((first | exact AS2.out _ ((Turn.of_below (belowT (Below.refl _ _).drew hB6) hbW).trans (Turn.of_map ht7 (HR5.out.low _ HA.out))) | exact AS2.out _ (Turn.of_below (belowT (Below.refl _ _).drew hB6) hbW) | exact AS2.out _ (Turn.of_below (Below.refl _ _).drew hbW)))
      (first | (go_at_call 49; refine (HN.out _).mono ?_; rintro e w6 ⟨rfl, hB6⟩; obtain ⟨w7, hst, hm7, ht7⟩ := ((HR5.out.below (belowT (Below.refl _ _).drew hB6)).kids _ HA.out).store (by unfold maxLen; omega) (name_max HP.out) (.agg #[.iface t u, .map (some (W.heap.size + 1))])))
    all_goals
      have hB56 : Below W5.heap.size W5 w6 := belowT (Below.refl _ _).drew hB6
      have hT57 : Turn base W5 w7 := (Turn.of_below hB56 hbW).trans (Turn.of_map ht7 (HR5.out.low _ HA.out))
      have hTw : Turn base w w6 := (Turn.of_below (belowT HBW.out hBW5) hb).trans (Turn.of_below hB56 hbW)
      have fin := put_fin (e := ⟨p, d, x⟩) (a := W.heap.size + 1) T (HR5.out.below hB56) hTw HP.out HA.out HO.out (by unfold nodeV; rw [HTU.out]; exact hm7) ht7 (hM.kept (hB56.block _ hM.lt)) (by omega) hAp
      have BR7 := BR.turn hT57
      obtain ⟨n0, n1, n2, n3⟩ := BN.turn hT57
      obtain ⟨r0, r1, r2, r3⟩ := BR7
      go_wp2
      have hset := (Box2.mk r0 r1 r2 r3).set (.iface t u) (.map (some (W.heap.size + 1)))
      refine bodyPost_ret (v := .agg #[.iface t u, .map (some (W.heap.size + 1))]) (by simp [results, Tryz.results33, go_sem, hset.c0, hset.c1]) rfl ⟨⟨_, rfl⟩, turn_set fin.1 (Nat.le_trans hb (Nat.le_succ _)) (Nat.le_succ _) _ _, ?_⟩
      obtain ⟨A', hA', hR'⟩ := fin.2
      exact ⟨A', hA', hR'.keeps (set2_keeps _ _ _ _)⟩
  clear hKx
  go_region_held3 (fun W' => W'.cell? ⟨w.heap.size, 0, none⟩ = some (.iface 78 (.agg #[])) ∧ W'.cell? ⟨w.heap.size, 1, none⟩ = some (.map (some (A ⟨#[47]⟩))))
    ((refine AS.out _ ?_; repeat (first | exact Below.refl _ _ | apply belowA | refine belowT ?_ hB4 | refine belowT ?_ hB3 | apply Below.drew | refine set2_below ?_ (by first | exact Nat.le_refl _ | (have h3 := hB3.size; have h4 := hB4.size; simp at h3 h4 ⊢; omega)) _ _)))
    (first | (go_at_call 47; refine (HU.out _).mono ?_; rintro e w3 ⟨rfl, hB3⟩; obtain ⟨bc3, bf3⟩ := bcellN hB3; have l3 := hB3.size; (try simp at l3); (try (have z0 := bc3 w1.heap.size 0 (lt_allocD _ _); have z1 := bc3 w1.heap.size 1 (lt_allocD _ _); have z2 := bf3 w1.heap.size 0 (lt_allocD _ _); have z3 := bf3 w1.heap.size 1 (lt_allocD _ _); simp at z0 z1 z2 z3)); clear bc3 bf3) | (go_at_call 35; refine (HAt.out _ (AR.out _ (by repeat (first | exact Below.refl _ _ | apply belowA | refine belowT ?_ hB3 | apply Below.drew)))).mono ?_; rintro e w4 ⟨rfl, hB4⟩; obtain ⟨bc4, bf4⟩ := bcellN hB4; have l4 := hB4.size; (try simp at l4); (try (have z0 := bc4 w3.heap.size 0 (lt_alloc _ _); have z1 := bc4 w3.heap.size 1 (lt_alloc _ _); have z2 := bf4 w3.heap.size 0 (lt_alloc _ _); have z3 := bf4 w3.heap.size 1 (lt_alloc _ _); simp at z0 z1 z2 z3)); (try (have v0 := (bc4 w1.heap.size 0 l3).trans z0; have v1 := (bc4 w1.heap.size 1 l3).trans z1; have v2 := (bf4 w1.heap.size 0 l3).trans z2; have v3 := (bf4 w1.heap.size 1 l3).trans z3)); clear bc4 bf4))
  all_goals refine HK.out _ _ (by repeat (first | exact Below.refl _ _ | apply belowA | refine belowT ?_ hB4 | refine belowT ?_ hB3 | apply Below.drew | refine set2_below ?_ (by first | exact Nat.le_refl _ | (have h3 := hB3.size; have h4 := hB4.size; simp at h3 h4 ⊢; omega)) _ _)) ?_
  all_goals first | exact Box2.set ⟨v0, v1, v2, v3⟩ _ _ | exact Box2.set ⟨z0, z1, z2, z3⟩ _ _ | exact Box2.new _ _ _ _
end Go.Proofs.YtocfbplaieonkaaGreat.Mk
