/-
  The walk of the program's own LayerOn.
-/
import Derived.Test.YteppodogghjfhabGreatDoorHPk32
import Derived.Test.YteppodogghjfhabGreatDoorHSortF
import Derived.Test.YteppodogghjfhabGreatDoorHPk22
import Derived.Test.YteppodogghjfhabGreatDoorHPk12
import Derived.Shelf.SlSortCmp.NoneTotal
namespace Go.Proofs.YteppodogghjfhabGreatDoor.Ly
open Go.RowKit Go.Shelf Go.Lib Go.Maps

attribute [local go_sem] Oper.semAt_some

/-- A list that is told: where it lies, and that it may be written. -/
def RowOf (w : World) (base : Nat) (v : Value) (es : List E) : Prop := ∃ a g cap, v = .slice a es.length cap ∧ (0 < es.length → a = some ⟨g, 0, none⟩) ∧ Ents w g 0 es ∧ Room w g (es.length * 3) ∧ base ≤ g

theorem row_nil (w : World) (base : Nat) : RowOf w base (.slice none 0 0) [] := ⟨none, base, 0, rfl, fun h => absurd h (by decide), fun i h => absurd h (by simp), fun i h => absurd h (by simp), Nat.le_refl _⟩
theorem ents_block {w w' : World} {g : Nat} {es : List E} (h : Ents w g 0 es) (hb : w'.heap[g]? = w.heap[g]?) : Ents w' g 0 es := fun i hi => by
  obtain ⟨c0, c1, c2⟩ := h i hi
  exact ⟨(World.cell?_of_block (w := w) (a := ⟨g, _, none⟩) hb).trans c0, (World.cell?_of_block (w := w) (a := ⟨g, _, none⟩) hb).trans c1, (World.cell?_of_block (w := w) (a := ⟨g, _, none⟩) hb).trans c2⟩
theorem room_block {w w' : World} {g n : Nat} (h : Room w g n) (hb : w'.heap[g]? = w.heap[g]?) : Room w' g n := fun i hi => by
  obtain ⟨⟨v, hv⟩, hf⟩ := h i hi
  exact ⟨⟨v, (World.cell?_of_block (w := w) (a := ⟨g, i, none⟩) hb).trans hv⟩, (World.frozen?_of_block (w := w) (a := ⟨g, i, none⟩) hb).trans hf⟩
theorem below_putL {n D : Nat} {W : World} (h : n ≤ D) (o : Obj) : Below n W (W.putObj D o) := ⟨rfl, rfl, rfl, by simp, fun k hk => World.putObj_heap_other (by omega)⟩

theorem lay_trm {es : List Mk.E} (h : Mk.layB es = true) : Mk.TrM es := by
  unfold Mk.layB at h
  rw [Bool.and_eq_true] at h
  have := Mk.tr_take es.length (Nat.le_refl _) h.1
  rwa [List.take_length] at this
theorem lay_len32 {es : List Mk.E} (h : Mk.layB es = true) : es.length ≤ 32 := by
  unfold Mk.layB at h
  rw [Bool.and_eq_true] at h
  exact of_decide_eq_true h.2

set_option maxHeartbeats 4000000 in
set_option maxRecDepth 100000 in
theorem iLayerOn_any (w : World) (a : Option Addr) (g o cap : Nat) (l : List Mk.E) (a' : Option Addr) (g' o' cap' : Nat) (t : List E) (ae : Int → Addr) (hErr : Errs2 w ae) (hl : l.length ≤ 16777216) (ht : t.length ≤ 16777216) (hz : ∀ e ∈ l, e.p.size ≤ 16777216 ∧ e.x.size ≤ 16777216) (hz' : ∀ e ∈ t, e.p.size ≤ 16777216 ∧ e.x.size ≤ 16777216) (ha : 0 < l.length → a = some ⟨g, o, none⟩) (ha' : 0 < t.length → a' = some ⟨g', o', none⟩) (hE : Mk.Ents w g o l) (hF : Ents w g' o' t) :
    Calls Tryz.prog 65 #[.slice a l.length cap, .slice a' t.length cap'] w fun r w' => ∃ v, r = .returned (.tuple #[v, .bool (onB l t)]) ∧ RowOf w' w.heap.size v (onE l t) ∧ Below w.heap.size w w' := by
  have HL := hidE (fun (W : World) (hb : Below w.heap.size w W) => Mk.layerOf_any W a g o cap l hl hz ha (hE.below hb))
  have HT := hidE (fun (W : World) (hb : Below w.heap.size w W) => treeOf_any W a' g' o' cap' t ae (hErr.below hb) ht hz' ha' (hF.below hb))
  obtain ⟨i0, hi, hi0, hi1, hi2⟩ := info_parts Tryz.infoE'
  clear hErr hE hF
  cases hla : Mk.layB l with
  | false =>
    have hon : onB l t = false := by unfold onB; rw [hla]; rfl
    have hoE : onE l t = [] := by unfold onE; rw [hon]; rfl
    have HON := hidE hon
    have HOE := hidE hoE
    clear hon hoE
    rw [hla] at HL
    refine (callsIn_wide (n := 10)).1 ?_
    refine callsIn_of_wp_marks Tryz.func65 rfl trivial ?_ rfl
    simp only [Tryz.ntmps65, List.size_toArray, List.length_cons, List.length_nil, Nat.reduceAdd, Nat.reduceSub, Array.replicate_succ, Array.replicate_zero, List.push_toArray, List.append_toArray, List.nil_append, List.cons_append]
    refine wpIn_wide.2 ?_
    obtain ⟨W0, hW0⟩ : ∃ W0, W0 = (w.alloc (.cells #[.slice none 0 0] 28)).alloc (.cells #[.bool false] 4) := ⟨_, rfl⟩
    have hB0 : Below w.heap.size w W0 := hW0 ▸ ((Below.refl _ w).alloc (Nat.le_refl _) _).alloc (by simp) _
    have hs0 : W0.heap.size = w.heap.size + 2 := by rw [hW0]; simp
    have hr0 : Boxed W0 w.heap.size 28 (.slice none 0 0) := by rw [hW0]; exact (Below.heap_alloc (w.alloc (.cells #[.slice none 0 0] 28)) (.cells #[.bool false] 4) w.heap.size (by simp)).trans (World.alloc_heap_new w _)
    have hr1 : W0.heap[w.heap.size + 1]? = some (.cells #[.bool false] 4 (0, 0)) := by rw [hW0]; have := World.alloc_heap_new (w.alloc (.cells #[.slice none 0 0] 28)) (.cells #[.bool false] 4); simpa using this
    go_wp2_with fail
    rw [← hW0]
    refine (HL.out W0 hB0).mono ?_
    rintro e w1 ⟨A, rfl, hB1, hA⟩
    have HB1 := hidE hB1
    clear hW0 HL
    have hBl := hB1.alloc hB1.size (.cells #[.iface 169 (.agg #[]), .map (some (A ⟨#[47]⟩))] 111)
    have HBl := hidE hBl
    have hs1 := hB1.size
    go_wp2_with fail
    refine (HT.out _ (hB0.trans (hBl.mono hB0.size))).mono ?_
    rintro e w2 ⟨B, rfl, hB2, hB⟩
    have HB2 := hidE (hBl.trans (hB2.mono hBl.size))
    have h03 : Below W0.heap.size W0 (w2.alloc (.cells #[.bool true, .string ⟨#[]⟩, .map (some (B ⟨#[47]⟩))] 125)) := HB2.out.trans (((Below.refl _ w2).alloc (Nat.le_refl _) _).mono HB2.out.size)
    have hR0 : Boxed (w2.alloc (.cells #[.bool true, .string ⟨#[]⟩, .map (some (B ⟨#[47]⟩))] 125)) w.heap.size 28 (.slice none 0 0) := (h03.block _ (by omega)).trans hr0
    have hR1 : Boxed (w2.alloc (.cells #[.bool true, .string ⟨#[]⟩, .map (some (B ⟨#[47]⟩))] 125)) (w.heap.size + 1) 4 (.bool false) := (h03.block _ (by omega)).trans hr1
    have k0 := hR0.cell
    have k0' := hR0.frozen
    have k1 := hR1.cell
    have k1' := hR1.frozen
    clear hB hA hB1 hB2
    go_wp2
    have hS1 : Boxed ((w2.alloc (.cells #[.bool true, .string ⟨#[]⟩, .map (some (B ⟨#[47]⟩))] 125)).setCell ⟨w.heap.size, 0, none⟩ (.slice none 0 0)) (w.heap.size + 1) 4 (.bool false) := (Below.heap_setCell _ ⟨w.heap.size, 0, none⟩ _ _ (by simp)).trans hR1
    have f0 : Boxed (((w2.alloc (.cells #[.bool true, .string ⟨#[]⟩, .map (some (B ⟨#[47]⟩))] 125)).setCell ⟨w.heap.size, 0, none⟩ (.slice none 0 0)).setCell ⟨w.heap.size + 1, 0, none⟩ (.bool false)) w.heap.size 28 (.slice none 0 0) := (Below.heap_setCell _ ⟨w.heap.size + 1, 0, none⟩ _ _ (by simp)).trans (hR0.set _)
    have g0 := f0.cell
    have g1 := (hS1.set (.bool false)).cell
    have hBf := ((hB0.trans (h03.mono hB0.size)).setCell (p := ⟨w.heap.size, 0, none⟩) (Nat.le_refl _) (.slice none 0 0)).setCell (p := ⟨w.heap.size + 1, 0, none⟩) (by simp) (.bool false)
    exact ⟨.tuple #[.slice none 0 0, .bool false], by simp [results, Tryz.f65, go_sem, g0, g1], .slice none 0 0, by rw [HON.out], by rw [HOE.out]; exact row_nil _ _, hBf⟩
  | true =>
    cases htr : treeE t with
    | false =>
      have hon : onB l t = false := by unfold onB; rw [hla]; rw [htr]; rfl
      have hoE : onE l t = [] := by unfold onE; rw [hon]; rfl
      have HON := hidE hon
      have HOE := hidE hoE
      clear hon hoE
      rw [hla] at HL
      rw [htr] at HT
      refine (callsIn_wide (n := 10)).1 ?_
      refine callsIn_of_wp_marks Tryz.func65 rfl trivial ?_ rfl
      simp only [Tryz.ntmps65, List.size_toArray, List.length_cons, List.length_nil, Nat.reduceAdd, Nat.reduceSub, Array.replicate_succ, Array.replicate_zero, List.push_toArray, List.append_toArray, List.nil_append, List.cons_append]
      refine wpIn_wide.2 ?_
      obtain ⟨W0, hW0⟩ : ∃ W0, W0 = (w.alloc (.cells #[.slice none 0 0] 28)).alloc (.cells #[.bool false] 4) := ⟨_, rfl⟩
      have hB0 : Below w.heap.size w W0 := hW0 ▸ ((Below.refl _ w).alloc (Nat.le_refl _) _).alloc (by simp) _
      have hs0 : W0.heap.size = w.heap.size + 2 := by rw [hW0]; simp
      have hr0 : Boxed W0 w.heap.size 28 (.slice none 0 0) := by rw [hW0]; exact (Below.heap_alloc (w.alloc (.cells #[.slice none 0 0] 28)) (.cells #[.bool false] 4) w.heap.size (by simp)).trans (World.alloc_heap_new w _)
      have hr1 : W0.heap[w.heap.size + 1]? = some (.cells #[.bool false] 4 (0, 0)) := by rw [hW0]; have := World.alloc_heap_new (w.alloc (.cells #[.slice none 0 0] 28)) (.cells #[.bool false] 4); simpa using this
      go_wp2_with fail
      rw [← hW0]
      refine (HL.out W0 hB0).mono ?_
      rintro e w1 ⟨A, rfl, hB1, hA⟩
      have HB1 := hidE hB1
      clear hW0 HL
      have hBl := hB1.alloc hB1.size (.cells #[.iface 169 (.agg #[]), .map (some (A ⟨#[47]⟩))] 111)
      have HBl := hidE hBl
      have hs1 := hB1.size
      go_wp2_with fail
      refine (HT.out _ (hB0.trans (hBl.mono hB0.size))).mono ?_
      rintro e w2 ⟨B, rfl, hB2, hB⟩
      have HB2 := hidE (hBl.trans (hB2.mono hBl.size))
      have h03 : Below W0.heap.size W0 (w2.alloc (.cells #[.bool true, .string ⟨#[]⟩, .map (some (B ⟨#[47]⟩))] 125)) := HB2.out.trans (((Below.refl _ w2).alloc (Nat.le_refl _) _).mono HB2.out.size)
      have hR0 : Boxed (w2.alloc (.cells #[.bool true, .string ⟨#[]⟩, .map (some (B ⟨#[47]⟩))] 125)) w.heap.size 28 (.slice none 0 0) := (h03.block _ (by omega)).trans hr0
      have hR1 : Boxed (w2.alloc (.cells #[.bool true, .string ⟨#[]⟩, .map (some (B ⟨#[47]⟩))] 125)) (w.heap.size + 1) 4 (.bool false) := (h03.block _ (by omega)).trans hr1
      have k0 := hR0.cell
      have k0' := hR0.frozen
      have k1 := hR1.cell
      have k1' := hR1.frozen
      clear hB hA hB1 hB2
      go_wp2
      have hS1 : Boxed ((w2.alloc (.cells #[.bool true, .string ⟨#[]⟩, .map (some (B ⟨#[47]⟩))] 125)).setCell ⟨w.heap.size, 0, none⟩ (.slice none 0 0)) (w.heap.size + 1) 4 (.bool false) := (Below.heap_setCell _ ⟨w.heap.size, 0, none⟩ _ _ (by simp)).trans hR1
      have f0 : Boxed (((w2.alloc (.cells #[.bool true, .string ⟨#[]⟩, .map (some (B ⟨#[47]⟩))] 125)).setCell ⟨w.heap.size, 0, none⟩ (.slice none 0 0)).setCell ⟨w.heap.size + 1, 0, none⟩ (.bool false)) w.heap.size 28 (.slice none 0 0) := (Below.heap_setCell _ ⟨w.heap.size + 1, 0, none⟩ _ _ (by simp)).trans (hR0.set _)
      have g0 := f0.cell
      have g1 := (hS1.set (.bool false)).cell
      have hBf := ((hB0.trans (h03.mono hB0.size)).setCell (p := ⟨w.heap.size, 0, none⟩) (Nat.le_refl _) (.slice none 0 0)).setCell (p := ⟨w.heap.size + 1, 0, none⟩) (by simp) (.bool false)
      exact ⟨.tuple #[.slice none 0 0, .bool false], by simp [results, Tryz.f65, go_sem, g0, g1], .slice none 0 0, by rw [HON.out], by rw [HOE.out]; exact row_nil _ _, hBf⟩
    | true =>
      rw [hla] at HL
      rw [htr] at HT
      refine (callsIn_wide (n := 10)).1 ?_
      refine callsIn_of_wp_marks Tryz.func65 rfl trivial ?_ rfl
      simp only [Tryz.ntmps65, List.size_toArray, List.length_cons, List.length_nil, Nat.reduceAdd, Nat.reduceSub, Array.replicate_succ, Array.replicate_zero, List.push_toArray, List.append_toArray, List.nil_append, List.cons_append]
      refine wpIn_wide.2 ?_
      obtain ⟨W0, hW0⟩ : ∃ W0, W0 = (w.alloc (.cells #[.slice none 0 0] 28)).alloc (.cells #[.bool false] 4) := ⟨_, rfl⟩
      have hB0 : Below w.heap.size w W0 := hW0 ▸ ((Below.refl _ w).alloc (Nat.le_refl _) _).alloc (by simp) _
      have hs0 : W0.heap.size = w.heap.size + 2 := by rw [hW0]; simp
      have hr0 : Boxed W0 w.heap.size 28 (.slice none 0 0) := by rw [hW0]; exact (Below.heap_alloc (w.alloc (.cells #[.slice none 0 0] 28)) (.cells #[.bool false] 4) w.heap.size (by simp)).trans (World.alloc_heap_new w _)
      have hr1 : W0.heap[w.heap.size + 1]? = some (.cells #[.bool false] 4 (0, 0)) := by rw [hW0]; have := World.alloc_heap_new (w.alloc (.cells #[.slice none 0 0] 28)) (.cells #[.bool false] 4); simpa using this
      go_wp2_with fail
      rw [← hW0]
      refine (HL.out W0 hB0).mono ?_
      rintro e w1 ⟨A, rfl, hB1, hA⟩
      have HB1 := hidE hB1
      clear hW0 HL
      have hBl := hB1.alloc hB1.size (.cells #[.iface 169 (.agg #[]), .map (some (A ⟨#[47]⟩))] 111)
      have HBl := hidE hBl
      have hs1 := hB1.size
      go_wp2_with fail
      refine (HT.out _ (hB0.trans (hBl.mono hB0.size))).mono ?_
      rintro e w2 ⟨B, rfl, hB2, hB⟩
      have HB2 := hidE (hBl.trans (hB2.mono hBl.size))
      have e0 := (hB2.cell (p := ⟨w1.heap.size, 0, none⟩) (by simp)).trans (show _ = some (Value.iface 169 (.agg #[])) by simp)
      have e1 := (hB2.cell (p := ⟨w1.heap.size, 1, none⟩) (by simp)).trans (show _ = some (Value.map (some (A ⟨#[47]⟩))) by simp)
      have hs2 := hB2.size
      rw [World.size_alloc] at hs2
      have hBW : Below w2.heap.size w2 ((w2.alloc (.cells #[.bool true, .string ⟨#[]⟩, .map (some (B ⟨#[47]⟩))] 125)).alloc (.cells #[.slice none 0 0] 28)) := ((Below.refl _ w2).alloc (Nat.le_refl _) _).alloc (by simp) _
      have e0' := (hBW.cell (p := ⟨w1.heap.size, 0, none⟩) (show w1.heap.size < w2.heap.size by omega)).trans e0
      have e1' := (hBW.cell (p := ⟨w1.heap.size, 1, none⟩) (show w1.heap.size < w2.heap.size by omega)).trans e1
      have HV := hidE (fun (W : World) => view_any A B W)
      clear HT
      go_wp2_with fail
      refine (HV.out _).mono ?_
      rintro e w3 ⟨rfl, hw3⟩
      have h0 : ((w2.alloc (.cells #[.bool true, .string ⟨#[]⟩, .map (some (B ⟨#[47]⟩))] 125)).alloc (.cells #[.slice none 0 0] 28)).heap[w2.heap.size + 1]? = some (.cells #[.slice none 0 0] 28 (0, 0)) := by have := World.alloc_heap_new (w2.alloc (.cells #[.bool true, .string ⟨#[]⟩, .map (some (B ⟨#[47]⟩))] 125)) (.cells #[.slice none 0 0] 28); simpa using this
      have hsW : ((w2.alloc (.cells #[.bool true, .string ⟨#[]⟩, .map (some (B ⟨#[47]⟩))] 125)).alloc (.cells #[.slice none 0 0] 28)).heap.size = w2.heap.size + 2 := by simp
      obtain ⟨W2, hW2⟩ : ∃ W2, ((w2.alloc (.cells #[.bool true, .string ⟨#[]⟩, .map (some (B ⟨#[47]⟩))] 125)).alloc (.cells #[.slice none 0 0] 28)) = W2 := ⟨_, rfl⟩
      rw [hW2] at hw3 hBW h0 hsW e0' e1' ⊢
      clear hW2
      have hl1 : w3.heap[W2.heap.size]? = some (.cells #[.iface 169 (.agg #[]), .map (some (A ⟨#[47]⟩))] 111 (0, 0)) := by rw [hw3]; exact (Below.heap_alloc _ _ _ (by simp)).trans (World.alloc_heap_new W2 _)
      have hl2 : w3.heap[W2.heap.size + 1]? = some (.cells #[.bool true, .string ⟨#[]⟩, .map (some (B ⟨#[47]⟩))] 125 (0, 0)) := by rw [hw3]; have := World.alloc_heap_new (W2.alloc (.cells #[.iface 169 (.agg #[]), .map (some (A ⟨#[47]⟩))] 111)) (.cells #[.bool true, .string ⟨#[]⟩, .map (some (B ⟨#[47]⟩))] 125); simpa using this
      have hbx : Boxed w3 (w2.heap.size + 1) 28 (.slice none 0 0) := by
        rw [hw3]
        exact (Below.heap_alloc _ _ _ (by simp; omega)).trans ((Below.heap_alloc _ _ _ (by omega)).trans h0)
      have hs3 : w3.heap.size = w2.heap.size + 4 := by rw [hw3, World.size_alloc, World.size_alloc, hsW]
      have hBW3 : Below w2.heap.size w2 w3 := by rw [hw3]; exact ((hBW.alloc hBW.size _).alloc (by simp; omega) _)
      rw [hsW] at hl1 hl2 ⊢
      have c0 := cell_of_row w3 _ 0 _ _ _ hl1
      have c1 := cell_of_row w3 _ 1 _ _ _ hl1
      have d0 := cell_of_row w3 _ 0 _ _ _ hl2
      have d1 := cell_of_row w3 _ 1 _ _ _ hl2
      have d2 := cell_of_row w3 _ 2 _ _ _ hl2
      have RB := (hB (by simp)).below hBW3
      have RA := ((hA (by simp)).below (((Below.refl _ w1).alloc (Nat.le_refl _) (.cells #[.iface 169 (.agg #[]), .map (some (A ⟨#[47]⟩))] 111)).trans (hB2.mono (by simp)))).below hBW3
      clear hw3 e0 e1 e0' e1' HV hA hB hBW hsW hl1 hl2 h0
      have T := lay_trm hla
      obtain ⟨U, ht16⟩ := treeE_tr htr
      have hl32 := lay_len32 hla
      have hvb : w2.heap.size + 1 < w3.heap.size := by omega
      have hpt : ∀ b, ¬ pts w3 (w2.heap.size + 1) b := fun b h => by obtain ⟨o1, n1, k1, e1⟩ := h; rw [hbx.cell] at e1; cases e1
      have hrow0 : OwnE w3 (w2.heap.size + 1) (.slice none 0 0) [] := World.ownsRow_nil _ _ _ _
      have hBw := hidE (hB0.trans (HB2.out.mono hB0.size))
      have hBr := HB2
      have hs02 := HB2.out.size
      go_wp2_with fail
      refine (wpIn_wide (n := 10)).1 ?_
      refine wpIn_over rfl (by omega) (gf := 116) (lb := #[.pointer (some ⟨w2.heap.size + 3, 0, none⟩), .pointer (some ⟨w2.heap.size + 2, 0, none⟩)]) rfl trivial (enters_of Tryz.func116 (by kernel_rfl) rfl)
        (view_stops l t A B _ 32 _ 16 (w2.heap.size + 1) (by omega) (by omega) (by omega) (by omega) T U (w2.heap.size + 2) (w2.heap.size + 3) w3 (by omega) (by omega) (by omega) (by omega) (hpt _) (hpt _) c0 c1 d0 d1 d2 RA RB (fun m hm => (hz m hm).2) hvb (good_row hbx hrow0)) KpV.t ?kb (Below.refl _ _) (fun _ => rfl)
        (fun (pre : List (ItemV (viewL l t))) W => (∃ v, Boxed W (w2.heap.size + 1) 28 v ∧ OwnE W (w2.heap.size + 1) v (pre.map Subtype.val) ∧ True) ∧ pre.length ≤ 16 ∧ Below (w2.heap.size + 1) w3 W)
        (fun c (pre : List (ItemV (viewL l t))) W => c = .ret ∧ 16 < pre.length ∧ Boxed W w.heap.size 28 (.slice none 0 0) ∧ Boxed W (w.heap.size + 1) 4 (.bool false) ∧ Below w.heap.size w W)
        ?ownI ?ownX
        ⟨⟨_, hbx, hrow0, trivial⟩, by simp, Below.refl _ _⟩
        (fun x ac W => ∃ Bx, w2.heap.size + 1 < Bx ∧ (W.cell? ⟨Bx, 0, none⟩ = some (.string x.1.p) ∧ W.cell? ⟨Bx, 1, none⟩ = some (.bool x.1.d) ∧ W.cell? ⟨Bx, 2, none⟩ = some (.string x.1.x)) ∧ ac = { tmps := #[.slice a l.length cap, .slice a' t.length cap', undef, undef, .pointer (some ⟨w.heap.size, 0, none⟩), .pointer (some ⟨w.heap.size + 1, 0, none⟩), .pointer (some ⟨w1.heap.size, 0, none⟩), .bool true, .pointer (some ⟨w2.heap.size, 0, none⟩), .bool true, .pointer (some ⟨w2.heap.size + 1, 0, none⟩), .pointer (some ⟨Bx, 0, none⟩), .tuple #[Mk.layV A, .bool true], .slice a l.length cap, .tuple #[Mk.layV A, .bool true], Mk.layV A, .bool true, .tuple #[treeV B, .bool true], .slice a' t.length cap', .tuple #[treeV B, .bool true], treeV B, .bool true, .bool true, .bool false, .bool false, .bool true, .bool false, .bool false, Mk.layV A, treeV B, .func (.func 116) #[] #[.pointer (some ⟨w2.heap.size + 2 + 1, 0, none⟩), .pointer (some ⟨w2.heap.size + 2, 0, none⟩)], .agg #[.string x.1.p, .bool x.1.d, .string x.1.x], undef, undef, undef, undef, undef, undef, undef, undef, undef, undef], defers := [] })
        ?ownA
        ?assign ?body ?done ?stop
      case kb => exact fun W o o' h hc hw => ⟨KpT.b hvb W _ o o' (by omega) h hc hw, keeps_put W o' (by omega)⟩
      case ownI =>
        exact OwnFrom.and (Own.from (holdsRow_own (w2.heap.size + 1) (w2.heap.size + 1) 28 72 3 (fun (pre : List (ItemV (viewL l t))) => (pre.map Subtype.val).length) (fun (pre : List (ItemV (viewL l t))) => rowE (pre.map Subtype.val)) (fun _ _ => True)) _) (OwnFrom.and (fun _ _ _ _ hs _ _ => hs) (ownFrom_below (by omega) (by omega)))
      case ownX =>
        exact fun c => OwnFrom.and (fun _ _ _ _ hs _ _ => hs) (OwnFrom.and (fun _ _ _ _ hs _ _ => hs) (OwnFrom.and (fun _ X Y row h hg hr => (hg.block _ h.lt (fun e => by have := (hr _ e.symm).1; omega)).trans h) (OwnFrom.and (fun _ X Y row h hg hr => (hg.block _ h.lt (fun e => by have := (hr _ e.symm).1; omega)).trans h) (ownFrom_below (by omega) (by omega)))))
      case ownA =>
        exact fun x ac _ X Y row hs hg hr => by obtain ⟨Bx, h1, ⟨h2, h3, h4⟩, h5⟩ := hs; exact ⟨Bx, h1, ⟨cell_kept h2 hg (fun r e => (hr r e).2), cell_kept h3 hg (fun r e => (hr r e).2), cell_kept h4 hg (fun r e => (hr r e).2)⟩, h5⟩
      case assign =>
        rintro L pre x W K ⟨⟨v, hv, hrow, -⟩, hlen, hB⟩ hK
        gi_wp2
        exact hK _ _ ((KeepsOthers.alloc _ _).from _) ⟨kpt_of ((Below.refl _ W).alloc (Nat.le_refl _) _) hv.lt, keepsV ((Below.refl _ W).alloc (Nat.le_refl _) _)⟩ ⟨⟨v, hv.alloc _, hrow.alloc _, trivial⟩, hlen, hB.alloc (Nat.le_of_lt hv.lt) _⟩ ⟨W.heap.size, hv.lt, ⟨by simp, by simp, by simp⟩, by simp⟩
      case body =>
        rintro L pre x ac W hL ⟨⟨v, hv, hrow, -⟩, hlen, hB⟩ ⟨Bx, hBx, ⟨x0, x1, x2⟩, rfl⟩ hlt
        obtain ⟨⟨p, d, z⟩, hxm⟩ := x
        dsimp only at x0 x1 x2 ⊢
        obtain ⟨a5, cap5, rfl⟩ := row_lt hrow
        have hpl : (pre.map Subtype.val).length = pre.length := List.length_map ..
        have hrow : W.ownsRow (w2.heap.size + 1) 72 3 (.slice a5 (pre.map Subtype.val).length cap5) (pre.map Subtype.val).length (rowE (pre.map Subtype.val)) := hrow
        rw [hpl] at hv hrow
        have HV := hidE hv
        have HRow := hidE hrow
        have hcv := hv.cell
        have hvl := hv.lt
        clear hrow hv
        by_cases h16 : pre.length = 16
        · rw [h16] at hcv
          have h03 : Below W0.heap.size W0 W := (hBr.out.trans (hBW3.mono hs02)).trans (hB.mono (by omega))
          have hR0 : Boxed W w.heap.size 28 (.slice none 0 0) := (h03.block _ (by omega)).trans hr0
          have hR1 : Boxed W (w.heap.size + 1) 4 (.bool false) := (h03.block _ (by omega)).trans hr1
          have k0 := hR0.cell
          have k0' := hR0.frozen
          have k1 := hR1.cell
          have k1' := hR1.frozen
          gi_wp2
          have hS1 : Boxed (W.setCell ⟨w.heap.size, 0, none⟩ (.slice none 0 0)) (w.heap.size + 1) 4 (.bool false) := (Below.heap_setCell W ⟨w.heap.size, 0, none⟩ _ _ (by simp)).trans hR1
          refine ⟨((KeepsOthers.setCell _ _ _).trans (KeepsOthers.setCell _ _ _)).from _, rfl, by rw [List.length_append, List.length_singleton]; omega, (Below.heap_setCell _ ⟨w.heap.size + 1, 0, none⟩ _ _ (by simp)).trans (hR0.set _), hS1.set _, ((hB0.trans (h03.mono hB0.size)).setCell (p := ⟨w.heap.size, 0, none⟩) (Nat.le_refl _) _).setCell (p := ⟨w.heap.size + 1, 0, none⟩) (by simp) _⟩
        · have h16' : ¬ ((pre.length : Int) = 16) := by omega
          gi_wp2_with (gi_at_builtin; refine wpListIn_append_own_at _ rfl _ _ 28 rfl (w2.heap.size + 1) 72 i0 _ 3 40 Tryz.underlying28 hi hi0 hi1 hi2 rfl (by decide) _ _ _ rfl (HRow.out.alloc _) ⟨W.heap.size, 0, none⟩ 1 1 (cellsE ⟨p, d, z⟩) rfl rfl (cells_new W ⟨p, d, z⟩) rowE_one' (by unfold maxLen; omega) (by omega) (by simp; omega) ?_; intro v' w5 hown' hgrow hnil hat; obtain ⟨hv1, hv2, hr2, hk2, hb2⟩ := HV.out.appended (by decide) HRow.out (by omega) (Nat.le_refl _) hown' hgrow; have hKp := KpT.appended HV.out (by decide) HRow.out (by omega) (Nat.le_refl _) hown' hgrow hat; obtain ⟨g5, cap6, rfl⟩ := ownsRow_succ hown'; have hc1 := hv1.cell; have hf1 := hv1.frozen)
          gi_wp2
          refine ⟨hk2.from _, ⟨hKp, hk2.from _⟩, ⟨_, hv2, ?_, trivial⟩, by rw [List.length_append, List.length_singleton]; omega, hB.trans hb2⟩
          rw [List.map_append]
          show World.ownsRow _ _ _ _ _ (List.map Subtype.val pre ++ _).length _
          rw [List.length_append, hpl, rowE_append]
          exact hr2
      case done =>
        rintro D xs W hD hxs ⟨⟨v, hv, hrow, -⟩, hlen, hB⟩ hK
        have hvn : (viewL l t).length = (onM l t).length := view_len T U.sort
        have hxl : (viewL l t).length = xs.length := by have q := congrArg List.length hxs; rw [List.length_map] at q; exact q.symm
        have hon : onB l t = true := by unfold onB; rw [hla, htr, decide_eq_true (by omega)]; rfl
        have hoE : onE l t = onM l t := by unfold onE; rw [hon]; rfl
        have HON := hidE hon
        have HOE := hidE hoE
        have HXL := hidE hxl
        have HVN := hidE hvn
        have hv16 : (viewL l t).length ≤ 16 := by omega
        clear hon hoE hxl hvn
        rw [hxs] at hrow
        have h03 : Below W0.heap.size W0 W := (hBr.out.trans (hBW3.mono hs02)).trans (hB.mono (by omega))
        have hR0 : Boxed W w.heap.size 28 (.slice none 0 0) := (h03.block _ (by omega)).trans hr0
        have hR1 : Boxed W (w.heap.size + 1) 4 (.bool false) := (h03.block _ (by omega)).trans hr1
        have hcv := hv.cell
        have hbase : ∀ j, v.ownBlock = some j → w2.heap.size + 1 ≤ j := fun j hj => by
          rcases hrow.2 with ⟨rfl, _⟩ | ⟨g, cap, cur, rfl, hb, _⟩
          · simp [Value.ownBlock] at hj
          · obtain rfl : g = j := by simpa [Value.ownBlock] using hj
            exact hb
        have hHow : (∃ p c, v = .slice p 0 c ∧ (viewL l t).length = 0) ∨ ∃ g c, v = .slice (some ⟨g, 0, none⟩) (viewL l t).length c ∧ Ents W g 0 (viewL l t) ∧ Room W g ((viewL l t).length * 3) ∧ w2.heap.size + 1 ≤ g ∧ g < W.heap.size ∧ g ≠ w2.heap.size + 1 ∧ 0 < (viewL l t).length := by
          obtain ⟨a5, g5, c5, e5, h5, hE5, hR5, hb5⟩ := row_entsE hrow
          by_cases hz0 : (viewL l t).length = 0
          · exact .inl ⟨a5, c5, by rw [e5, hz0], hz0⟩
          · have hpos : 0 < (viewL l t).length := by omega
            obtain ⟨⟨q, hq⟩, _⟩ := hR5 0 (by omega)
            have hlt5 := World.block_lt_of_cell? W ⟨g5, 0, none⟩ hq
            refine .inr ⟨g5, c5, by rw [e5, h5 hpos], hE5, hR5, hb5, hlt5, ?_, hpos⟩
            rintro rfl
            have q0 : W.cell? ⟨w2.heap.size + 1, 0, none⟩ = some (.string _) := (hE5 0 hpos).1
            rw [hcv] at q0
            cases q0
            cases e5
        have hone := view_once T U.sort
        rcases hHow with ⟨p5, c5, rfl, hz0⟩ | ⟨g5, c5, rfl, hE5, hR5, hb5, hlt5, hne5, hpos5⟩
        · have hN := Go.Proofs.AnyF.slices_SortFunc_none sfLays p5 c5 (.func (.func 90) #[] #[]) W
          have k0 := hR0.cell
          have k0' := hR0.frozen
          have k1 := hR1.cell
          have k1' := hR1.frozen
          have hDK := hK
          have f0 : Boxed (((W.setCell ⟨w.heap.size, 0, none⟩ (.slice p5 0 c5)).setCell ⟨w.heap.size + 1, 0, none⟩ (.bool true)).putObj D (.deferred none)) w.heap.size 28 (.slice p5 0 c5) := (World.putObj_heap_other (by omega)).trans ((Below.heap_setCell _ ⟨w.heap.size + 1, 0, none⟩ _ _ (by simp)).trans (hR0.set _))
          have hS1 : Boxed (W.setCell ⟨w.heap.size, 0, none⟩ (.slice p5 0 c5)) (w.heap.size + 1) 4 (.bool false) := (Below.heap_setCell W ⟨w.heap.size, 0, none⟩ _ _ (by simp)).trans hR1
          have f1 : Boxed (((W.setCell ⟨w.heap.size, 0, none⟩ (.slice p5 0 c5)).setCell ⟨w.heap.size + 1, 0, none⟩ (.bool true)).putObj D (.deferred none)) (w.heap.size + 1) 4 (.bool true) := (World.putObj_heap_other (by omega)).trans (hS1.set _)
          have g0 := f0.cell
          have g1 := f1.cell
          have hK6 : ((W.setCell ⟨w.heap.size, 0, none⟩ (.slice p5 0 c5)).setCell ⟨w.heap.size + 1, 0, none⟩ (.bool true)).heap[D]? = some (.deferred (some [])) := ((Below.heap_setCell _ ⟨w.heap.size + 1, 0, none⟩ _ _ (by simp; omega)).trans (Below.heap_setCell _ ⟨w.heap.size, 0, none⟩ _ _ (by simp; omega))).trans hK
          have hBW : Below w.heap.size w W := hB0.trans (h03.mono hB0.size)
          have hBf : Below w.heap.size w (((W.setCell ⟨w.heap.size, 0, none⟩ (.slice p5 0 c5)).setCell ⟨w.heap.size + 1, 0, none⟩ (.bool true)).putObj D (.deferred none)) := ((hBW.setCell (p := ⟨w.heap.size, 0, none⟩) (Nat.le_refl _) _).setCell (p := ⟨w.heap.size + 1, 0, none⟩) (by simp) _).trans (below_putL (by omega) _)
          have HF := hidE (And.intro g0 (And.intro g1 (And.intro hK6 hBf)))
          clear g0 g1 hK6 hBf f0 f1 hS1 hrow hv hbase
          go_wp2_with fail
          refine hN.mono ?_
          rintro e w4 ⟨rfl, hw4⟩
          subst hw4
          go_wp2
          obtain ⟨g0, g1, hK6, hBf⟩ := HF.out
          refine ⟨by simp, .inl ⟨_, _, rfl, run_takeDeferred hK6, ?_⟩⟩
          have hoN : onM l t = [] := List.eq_nil_of_length_eq_zero (by rw [← HVN.out]; exact hz0)
          refine ⟨.tuple #[.slice p5 0 c5, .bool true], by simp [results, Tryz.f65, go_sem, g0, g1], .slice p5 0 c5, by rw [HON.out], ?_, hBf⟩
          rw [HOE.out, hoN]
          exact ⟨p5, w.heap.size, c5, rfl, fun h => absurd h (by decide), fun i h => absurd h (by simp), fun i h => absurd h (by simp), Nat.le_refl _⟩
        · have hS := sortFunc_any W g5 c5 (viewL l t) hE5 hR5 hlt5 (by omega) hone
          have hDg : D ≠ g5 := fun e => by
            obtain ⟨⟨q, hq⟩, _⟩ := hR5 0 (by omega)
            unfold World.cell? at hq
            rw [← e] at hq
            simp [hK] at hq
          have hDl : D < W.heap.size := (Array.getElem?_eq_some_iff.1 hK).1
          have hBW : Below w.heap.size w W := hB0.trans (h03.mono hB0.size)
          have hsW := h03.size
          clear hrow hv hbase
          have HG := hidE (And.intro hK (And.intro hR0 (And.intro hR1 hBW)))
          have HS := hidE hS
          clear hK hR0 hR1 hBW hS
          go_wp2_with fail
          refine HS.out.mono ?_
          rintro e w4 ⟨rfl, fs, hfl, hperm, hrise, hE6, hR6, hBut⟩
          obtain ⟨hK, hR0, hR1, hBW⟩ := HG.out
          have hfs : fs = onM l t := view_sorted T U.sort hperm hrise
          have hKb := hBut.2.2.2.2
          have hK4 : w4.heap[D]? = some (.deferred (some [])) := (hKb D hDl hDg).trans hK
          have hQ0 : Boxed w4 w.heap.size 28 (.slice none 0 0) := (hKb _ (by omega) (by omega)).trans hR0
          have hQ1 : Boxed w4 (w.heap.size + 1) 4 (.bool false) := (hKb _ (by omega) (by omega)).trans hR1
          have hcv4 := (World.cell?_of_block (w := W) (w' := w4) (a := ⟨w2.heap.size + 1, 0, none⟩) (hKb _ (World.block_lt_of_cell? W ⟨w2.heap.size + 1, 0, none⟩ hcv) (fun e => hne5 e.symm))).trans hcv
          have k0 := hQ0.cell
          have k0' := hQ0.frozen
          have k1 := hQ1.cell
          have k1' := hQ1.frozen
          have hB4 : Below w.heap.size w w4 := hBut.belowE hBW (by omega) (by omega)
          have f0 : Boxed (((w4.setCell ⟨w.heap.size, 0, none⟩ (.slice (some ⟨g5, 0, none⟩) (viewL l t).length c5)).setCell ⟨w.heap.size + 1, 0, none⟩ (.bool true)).putObj D (.deferred none)) w.heap.size 28 (.slice (some ⟨g5, 0, none⟩) (viewL l t).length c5) := (World.putObj_heap_other (by omega)).trans ((Below.heap_setCell _ ⟨w.heap.size + 1, 0, none⟩ _ _ (by simp)).trans (hQ0.set _))
          have hS1 : Boxed (w4.setCell ⟨w.heap.size, 0, none⟩ (.slice (some ⟨g5, 0, none⟩) (viewL l t).length c5)) (w.heap.size + 1) 4 (.bool false) := (Below.heap_setCell w4 ⟨w.heap.size, 0, none⟩ _ _ (by simp)).trans hQ1
          have f1 : Boxed (((w4.setCell ⟨w.heap.size, 0, none⟩ (.slice (some ⟨g5, 0, none⟩) (viewL l t).length c5)).setCell ⟨w.heap.size + 1, 0, none⟩ (.bool true)).putObj D (.deferred none)) (w.heap.size + 1) 4 (.bool true) := (World.putObj_heap_other (by omega)).trans (hS1.set _)
          have g0 := f0.cell
          have g1 := f1.cell
          have hK6 : ((w4.setCell ⟨w.heap.size, 0, none⟩ (.slice (some ⟨g5, 0, none⟩) (viewL l t).length c5)).setCell ⟨w.heap.size + 1, 0, none⟩ (.bool true)).heap[D]? = some (.deferred (some [])) := ((Below.heap_setCell _ ⟨w.heap.size + 1, 0, none⟩ _ _ (by simp; omega)).trans (Below.heap_setCell _ ⟨w.heap.size, 0, none⟩ _ _ (by simp; omega))).trans hK4
          have hBf : Below w.heap.size w (((w4.setCell ⟨w.heap.size, 0, none⟩ (.slice (some ⟨g5, 0, none⟩) (viewL l t).length c5)).setCell ⟨w.heap.size + 1, 0, none⟩ (.bool true)).putObj D (.deferred none)) := ((hB4.setCell (p := ⟨w.heap.size, 0, none⟩) (Nat.le_refl _) _).setCell (p := ⟨w.heap.size + 1, 0, none⟩) (by simp) _).trans (below_putL (by omega) _)
          have hg6 : (((w4.setCell ⟨w.heap.size, 0, none⟩ (.slice (some ⟨g5, 0, none⟩) (viewL l t).length c5)).setCell ⟨w.heap.size + 1, 0, none⟩ (.bool true)).putObj D (.deferred none)).heap[g5]? = w4.heap[g5]? := (World.putObj_heap_other hDg.symm).trans ((Below.heap_setCell _ ⟨w.heap.size + 1, 0, none⟩ _ _ (by simp; omega)).trans (Below.heap_setCell _ ⟨w.heap.size, 0, none⟩ _ _ (by simp; omega)))
          have HF := hidE (And.intro g0 (And.intro g1 (And.intro hK6 (And.intro hBf (And.intro (ents_block hE6 hg6) (And.intro (room_block hR6 hg6) (And.intro hfl hfs)))))))
          clear g0 g1 hK6 hBf f0 f1 hS1 hfl hfs hE6 hR6 hg6 hKb
          go_wp2
          obtain ⟨g0, g1, hK6, hBf, hE7, hR7, hfl, hfs⟩ := HF.out
          refine ⟨by simp, .inl ⟨_, _, rfl, run_takeDeferred hK6, ?_⟩⟩
          refine ⟨.tuple #[.slice (some ⟨g5, 0, none⟩) (viewL l t).length c5, .bool true], by simp [results, Tryz.f65, go_sem, g0, g1], .slice (some ⟨g5, 0, none⟩) (viewL l t).length c5, by rw [HON.out], ?_, hBf⟩
          rw [HOE.out, ← hfs]
          exact ⟨some ⟨g5, 0, none⟩, g5, c5, by rw [hfl], fun _ => rfl, hE7, hR7, by omega⟩
      case stop =>
        rintro D c pre W hD hSp ⟨rfl, h16, b0, b1, hBW⟩ hK
        have hlen : 16 < (onM l t).length := by
          rw [← view_len T U.sort]
          have := hSp.length_le
          rw [List.length_map] at this
          omega
        have hon : onB l t = false := by unfold onB; rw [decide_eq_false (by omega), Bool.and_false]
        have hoE : onE l t = [] := by unfold onE; rw [hon]; rfl
        have HON := hidE hon
        have HOE := hidE hoE
        clear hon hoE
        have f0 : Boxed (W.putObj D (.deferred none)) w.heap.size 28 (.slice none 0 0) := (World.putObj_heap_other (by omega)).trans b0
        have f1 : Boxed (W.putObj D (.deferred none)) (w.heap.size + 1) 4 (.bool false) := (World.putObj_heap_other (by omega)).trans b1
        have g0 := f0.cell
        have g1 := f1.cell
        have hBf : Below w.heap.size w (W.putObj D (.deferred none)) := hBW.trans (below_putL (by omega) _)
        gi_wp2
        refine ⟨by simp, .inl ⟨_, _, rfl, run_takeDeferred hK, ?_⟩⟩
        refine ⟨.tuple #[.slice none 0 0, .bool false], by simp [results, Tryz.f65, go_sem, g0, g1], .slice none 0 0, by rw [HON.out], by rw [HOE.out]; exact row_nil _ _, hBf⟩
end Go.Proofs.YteppodogghjfhabGreatDoor.Ly
