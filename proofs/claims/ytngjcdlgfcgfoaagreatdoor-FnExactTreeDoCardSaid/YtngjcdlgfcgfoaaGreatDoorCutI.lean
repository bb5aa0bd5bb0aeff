/-
  The walk of the program's own: something is taken out of the directory that it is in.
-/
import Derived.Deep.RegionHeld3
import Derived.Test.YtngjcdlgfcgfoaaGreatDoorReadyB
import Derived.Test.YtngjcdlgfcgfoaaGreatDoorDoBase
namespace Go.Proofs.YtngjcdlgfcgfoaaGreatDoor
open Go.RowKit Go.Shelf Go.Lib

attribute [local go_sem] Oper.semAt_some

set_option maxHeartbeats 4000000 in
set_option maxRecDepth 100000 in
theorem cut_any (w : World) (base N : Nat) (es : List E) (A : ByteArray → Nat) (T : TrE es) (R : Rep w base N es A) (p : ByteArray) (hpb : pathB p = true) (hp : p.size ≤ 16777216) (hdir : dirE es (upS p) = true) :
    Calls Tryz.prog 116 #[treeV A, .string p] w fun r w' => (∃ v, r = .returned v) ∧ ∃ V, Below w.heap.size w V ∧ V.mapTurned w' (A (upS p)) ∧ MapIs w' (A (upS p)) N (fun t => if t = nmS p then none else kidF es A (upS p) t) := by
  obtain ⟨W0, hW0⟩ : ∃ W0, W0 = w.alloc (.cells #[.bool true, .string ⟨#[]⟩, .map (some (A ⟨#[47]⟩))] 49) := ⟨_, rfl⟩
  have hBw : Below w.heap.size w W0 := hW0 ▸ (Below.refl _ w).alloc (Nat.le_refl _) _
  have AS : Hid (∀ W', Below W0.heap.size W0 W' → (W'.cell? ⟨w.heap.size, 0, none⟩ = some (.bool true) ∧ W'.cell? ⟨w.heap.size, 1, none⟩ = some (.string ⟨#[]⟩) ∧ W'.cell? ⟨w.heap.size, 2, none⟩ = some (.map (some (A ⟨#[47]⟩))))) := fun W' hW => by
    subst hW0
    exact box3n hW
  have AR : Hid (∀ W', Below W0.heap.size W0 W' → Rep W' base N es A) := fun W' hW => (R.below hBw).below hW
  have HU := hid (fun W => iPathUp_any p hp W)
  have hus : (upS p).size ≤ 4611686018427387904 := by have := upS_size p; omega
  have HAt := hid (fun (W : World) (hW : Rep W base N es A) => at_any W base N es A T hW (upS p) hus)
  have HN5 := hid (fun W => iPathName_any p hp W)
  have hnz := name_len hpb
  obtain ⟨xx, hxx⟩ := atE_dir (A := A) hdir
  rw [hxx] at HAt
  clear R hxx
  go_enter Tryz.func116, Tryz.ntmps116
  go_wp2_with fail
  rw [← hW0]
  clear hW0
  rename_i Qx Kx hKx
  have HK : Hid (∀ (b : Nat) (W : World), Below W0.heap.size W0 W → W.cell? ⟨b, 2, none⟩ = some (.map (some (A (upS p)))) → Kx { tmps := #[treeV A, .string p, .pointer (some ⟨w.heap.size, 0, none⟩), undef, .pointer (some ⟨b, 0, none⟩), .bool true, .tuple #[.agg #[.bool true, .string xx, .map (some (A (upS p)))], .bool true], treeV A, .string p, .string (upS p), .tuple #[.agg #[.bool true, .string xx, .map (some (A (upS p)))], .bool true], .agg #[.bool true, .string xx, .map (some (A (upS p)))], .bool true, undef, undef, undef, undef], defers := [] } W) := by
    intro b W hBW hb2
    refine hKx _ _ ?_
    go_wp2
    refine wp_region_any (by kernel_rfl) ?_
    change wpAny _ _ _ _ _ _ _ (World.drew _)
    refine wpAny_take (i := 0) (v := ?_) rfl (by kernel_rfl) (by kernel_rfl) (by kernel_rfl) (fun _ _ _ h => h) (Or.inl ⟨by rfl, ?_⟩) ?_
    rotate_left 1
    · intro w; go_simp; first | done | with_reducible rfl
    refine wpAny_take (i := 2) (v := ?_) rfl (by kernel_rfl) (by kernel_rfl) (by kernel_rfl) (fun _ _ _ h => h) (Or.inl ⟨by rfl, ?_⟩) ?_
    rotate_left 1
    · intro w; go_simp; first | done | with_reducible rfl
    refine wpAny_ready (rs := [1, 3]) (by kernel_rfl) (by simp) ?_
    refine AllReady.cons rfl (fun K hK => ?_) ?_
    · go_simp
      refine hK _ _ ?_
      clear hK K
      refine wpAny_ready (rs := [3]) (by kernel_rfl) (by simp) ?_
      refine AllReady.cons rfl (fun K hK => ?_) ?_
      · go_simp
        go_wp2_with (go_at_call 56; refine (HN5.out _).mono ?_; rintro e w7 ⟨rfl, hB7⟩; have hb7 := below_cell hB7 (show W.drew.cell? ⟨b, 2, none⟩ = some (.map (some (A (upS p)))) from hb2))
        obtain ⟨w8, hdl, hm8, ht8⟩ := ((AR.out _ (belowT (hBW.drew) hB7)).kids _ hdir).drop hnz 0
        refine wpAny_ready (rs := [4]) (by kernel_rfl) (by simp) ?_
        refine ready_delete0 _ _ _ _ rfl (by kernel_rfl) rfl hdl ?_
        refine wpAny_done (by kernel_rfl) ?_ _
        go_wp2
        refine bodyPost_end (results_none rfl _ _ _) rfl ⟨⟨_, rfl⟩, w7, hBw.trans ((belowT (hBW.drew) hB7).mono hBw.size), ht8, hm8⟩
      exact AllReady.nil
    refine AllReady.cons rfl (fun K hK => ?_) ?_
    · go_simp
      go_wp2_with (go_at_call 56; refine (HN5.out _).mono ?_; rintro e w7 ⟨rfl, hB7⟩; have hb7 := below_cell hB7 (show W.drew.cell? ⟨b, 2, none⟩ = some (.map (some (A (upS p)))) from hb2))
      refine wpAny_ready (rs := [1]) (by kernel_rfl) (by simp) ?_
      refine AllReady.cons rfl (fun K hK => ?_) ?_
      · go_simp
        refine hK _ _ ?_
        clear hK K
        obtain ⟨w8, hdl, hm8, ht8⟩ := ((AR.out _ (belowT (hBW.drew) hB7)).kids _ hdir).drop hnz 0
        refine wpAny_ready (rs := [4]) (by kernel_rfl) (by simp) ?_
        refine ready_delete0 _ _ _ _ rfl (by kernel_rfl) rfl hdl ?_
        refine wpAny_done (by kernel_rfl) ?_ _
        go_wp2
        refine bodyPost_end (results_none rfl _ _ _) rfl ⟨⟨_, rfl⟩, w7, hBw.trans ((belowT (hBW.drew) hB7).mono hBw.size), ht8, hm8⟩
      exact AllReady.nil
    exact AllReady.nil
  clear hKx
  go_region_held3 (fun W' => W'.cell? ⟨w.heap.size, 0, none⟩ = some (.bool true) ∧ W'.cell? ⟨w.heap.size, 1, none⟩ = some (.string ⟨#[]⟩) ∧ W'.cell? ⟨w.heap.size, 2, none⟩ = some (.map (some (A ⟨#[47]⟩))))
    ((refine AS.out _ ?_; repeat (first | exact Below.refl _ _ | apply belowA | refine belowT ?_ hB4 | refine belowT ?_ hB3 | apply Below.drew | refine set3_below ?_ (by first | exact Nat.le_refl _ | (have h3 := hB3.size; have h4 := hB4.size; simp at h3 h4 ⊢; omega)) _ _ _)))
    (first | (go_at_call 55; refine (HU.out _).mono ?_; rintro e w3 ⟨rfl, hB3⟩; obtain ⟨bc3, bf3⟩ := bcellN hB3; have l3 := hB3.size; (try simp at l3); (try (have z0 := bc3 W0.heap.size 0 (lt_allocD _ _); have z1 := bc3 W0.heap.size 1 (lt_allocD _ _); have z2 := bc3 W0.heap.size 2 (lt_allocD _ _); have z3 := bf3 W0.heap.size 0 (lt_allocD _ _); have z4 := bf3 W0.heap.size 1 (lt_allocD _ _); have z5 := bf3 W0.heap.size 2 (lt_allocD _ _); simp at z0 z1 z2 z3 z4 z5)); clear bc3 bf3) | (go_at_call 64; refine (HAt.out _ (AR.out _ (by repeat (first | exact Below.refl _ _ | apply belowA | refine belowT ?_ hB3 | apply Below.drew)))).mono ?_; rintro e w4 ⟨rfl, hB4⟩; obtain ⟨bc4, bf4⟩ := bcellN hB4; have l4 := hB4.size; (try simp at l4); (try (have z0 := bc4 w3.heap.size 0 (lt_alloc _ _); have z1 := bc4 w3.heap.size 1 (lt_alloc _ _); have z2 := bc4 w3.heap.size 2 (lt_alloc _ _); have z3 := bf4 w3.heap.size 0 (lt_alloc _ _); have z4 := bf4 w3.heap.size 1 (lt_alloc _ _); have z5 := bf4 w3.heap.size 2 (lt_alloc _ _); simp at z0 z1 z2 z3 z4 z5)); (try (have v0 := (bc4 W0.heap.size 0 l3).trans z0; have v1 := (bc4 W0.heap.size 1 l3).trans z1; have v2 := (bc4 W0.heap.size 2 l3).trans z2; have v3 := (bf4 W0.heap.size 0 l3).trans z3; have v4 := (bf4 W0.heap.size 1 l3).trans z4; have v5 := (bf4 W0.heap.size 2 l3).trans z5)); clear bc4 bf4))
  all_goals refine HK.out _ _ (by repeat (first | exact Below.refl _ _ | apply belowA | refine belowT ?_ hB4 | refine belowT ?_ hB3 | apply Below.drew | refine set3_below ?_ (by first | exact Nat.le_refl _ | (have h3 := hB3.size; have h4 := hB4.size; simp at h3 h4 ⊢; omega)) _ _ _)) ?_
  all_goals first | exact (set3_cells v0 v1 v2 _ _ _).2.2 | exact (set3_cells z0 z1 z2 _ _ _).2.2 | simp
end Go.Proofs.YtngjcdlgfcgfoaaGreatDoor
