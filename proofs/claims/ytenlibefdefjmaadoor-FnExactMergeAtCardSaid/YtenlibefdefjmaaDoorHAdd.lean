/-
  The walk of the program's own: an entry is added to a tree.
-/
import Derived.Deep.RegionHeld3
import Derived.Test.YtenlibefdefjmaaDoorHPk07
import Derived.Test.YtenlibefdefjmaaDoorHPathOkI
import Derived.Test.YtenlibefdefjmaaDoorHDataI
import Derived.Test.YtenlibefdefjmaaDoorHImpl2
import Derived.Test.YtenlibefdefjmaaDoorHRepPut
namespace Go.Proofs.YtenlibefdefjmaaDoor
open Go.RowKit Go.Shelf Go.Lib

attribute [local go_sem] Oper.semAt_some

/-- The entry can be added. -/
def addB (es : List E) (e : E) : Bool := (pathB e.p && (dataB e.x && !(e.d && !e.x.toList.isEmpty))) && dirE es (upS e.p)

/-- The two boxes of add. -/
structure AddBox (W : World) (b : Nat) (A : ByteArray → Nat) (p : ByteArray) (d : Bool) (x : ByteArray) : Prop where
  t0 : W.cell? ⟨b, 0, none⟩ = some (.bool true)
  t1 : W.cell? ⟨b, 1, none⟩ = some (.string ⟨#[]⟩)
  t2 : W.cell? ⟨b, 2, none⟩ = some (.map (some (A ⟨#[47]⟩)))
  e0 : W.cell? ⟨b + 1, 0, none⟩ = some (.string p)
  e1 : W.cell? ⟨b + 1, 1, none⟩ = some (.bool d)
  e2 : W.cell? ⟨b + 1, 2, none⟩ = some (.string x)
theorem AddBox.below {W W' : World} {b : Nat} {A : ByteArray → Nat} {p x : ByteArray} {d : Bool} (h : AddBox W b A p d x) (hB : Below W.heap.size W W') : AddBox W' b A p d x :=
  ⟨below_cell hB h.t0, below_cell hB h.t1, below_cell hB h.t2, below_cell hB h.e0, below_cell hB h.e1, below_cell hB h.e2⟩

theorem belowA {w X : World} (h : Below w.heap.size w X) (o : Obj) : Below w.heap.size w (X.alloc o) := h.alloc h.size o
theorem belowT {w X Y : World} (h : Below w.heap.size w X) (k : Below X.heap.size X Y) : Below w.heap.size w Y := h.trans (k.mono h.size)
theorem upS_size (p : ByteArray) : (upS p).size ≤ p.size + 1 := by
  unfold upS
  split
  · split
    · show 1 ≤ _; omega
    · rw [ByteArray.size_extract]; omega
  · exact Nat.zero_le _

theorem lt_alloc (w : World) (o : Obj) : w.heap.size < (w.alloc o).heap.size := by simp
theorem lt_allocD (w : World) (o : Obj) : w.heap.size < (w.drew.alloc o).heap.size := by simp
theorem turnBl {base : Nat} {w X Y : World} (h : Turn base w X) (hb : base ≤ X.heap.size) (k : Below X.heap.size X Y) : Turn base w Y := h.trans (Turn.of_below k hb)
theorem look_snoc {es : List E} {e : E} (h : lookE es e.p = none) (s : ByteArray) : lookE (es ++ [e]) s = if s = e.p then some e else lookE es s := by
  rw [look_append]
  by_cases q : s = e.p
  · rw [if_pos q, q, h]; simp [lookE]
  · rw [if_neg q]
    have : lookE [e] s = none := look_none.2 (by intro f hf; rw [List.mem_singleton.1 hf]; exact fun k => q k.symm)
    rw [this]; cases lookE es s <;> rfl

/-- An entry is added: what is left. -/
theorem add_fin {w V V' : World} {base N a : Nat} {es : List E} {A : ByteArray → Nat} {e : E} (T : TrE es) (R : Rep V base N es A) (hV : Turn base w V) (hp : pathB e.p = true) (hup : dirE es (upS e.p) = true) (hl : ∀ f ∈ es, less f.p e.p)
    (hm : MapIs V' (A (upS e.p)) (N + 1) (fun t => if t = nmS e.p then some (nodeV e a) else kidF es A (upS e.p) t)) (ht : V.mapTurned V' (A (upS e.p)))
    (hd : e.d = true → MapIs V a 0 (fun _ => none) ∧ base ≤ a ∧ ∀ p, dirE es p = true → A p ≠ a) :
    Turn base w V' ∧ ∃ A', A' ⟨#[47]⟩ = A ⟨#[47]⟩ ∧ Rep V' base (N + 1) (es ++ [e]) A' := by
  have hnone : lookE es e.p = none := look_none.2 fun f hf q => by
    have := hl f hf; rw [q] at this; exact less_irrefl _ this
  have hroot : e.p ≠ ⟨#[47]⟩ := fun q => by rw [q, root_no_path] at hp; cases hp
  have hold : dirE es e.p = false := by
    rw [dirE_look, hnone]
    have : isRoot e.p = false := path_not_root hp
    rw [this]; rfl
  refine ⟨hV.trans (Turn.of_map ht (R.low _ hup)), _, ?_, R.put T hp hup hold (look_snoc hnone) hm (fun p hpd hne => ?_) (fun h => ?_)⟩
  · rw [if_neg (fun q => hroot q.symm)]
  · exact ht.grown.block _ (R.kids p hpd).lt (fun q => hne (R.apart _ _ hpd hup (Option.some.inj q)))
  · obtain ⟨h1, h2, h3⟩ := hd h
    exact ⟨h1.kept (ht.grown.block _ h1.lt (fun q => h3 _ hup (Option.some.inj q).symm)), h2, h3⟩

set_option maxHeartbeats 2000000 in
set_option maxRecDepth 100000 in
theorem add_any (w : World) (base N : Nat) (es : List E) (A : ByteArray → Nat) (ae : Int → Addr) (T : TrE es) (R : Rep w base N es A) (hE : Errs2 w ae) (p : ByteArray) (d : Bool) (x : ByteArray)
    (hp : p.size ≤ 16777216) (hx : x.size ≤ 16777216) (hb : base ≤ w.heap.size) (hN : N < 1000) (hl : ∀ f ∈ es, less f.p p) :
    Calls Tryd.prog 34 #[treeV A, .agg #[.string p, .bool d, .string x]] w fun r w' => r = .returned (.bool (addB es ⟨p, d, x⟩)) ∧ Turn base w w' ∧
      (addB es ⟨p, d, x⟩ = true → ∃ A', A' ⟨#[47]⟩ = A ⟨#[47]⟩ ∧ Rep w' base (N + 1) (es ++ [⟨p, d, x⟩]) A') := by
  obtain ⟨W0, hW0⟩ : ∃ W0, W0 = (w.alloc (.cells #[.bool true, .string ⟨#[]⟩, .map (some (A ⟨#[47]⟩))] 61)).alloc (.cells #[.string p, .bool d, .string x] 25) := ⟨_, rfl⟩
  have hBw : Below w.heap.size w W0 := hW0 ▸ ((Below.refl _ w).alloc (Nat.le_refl _) _).alloc (by simp) _
  have HX : Hid (AddBox W0 w.heap.size A p d x) := by
    subst hW0
    constructor <;> simp
  have HR := hid (R.below hBw)
  have HE := hid (hE.below hBw)
  cases hpb : pathB p with
  | false =>
    have ha : addB es ⟨p, d, x⟩ = false := by unfold addB; rw [hpb]; rfl
    rw [ha]
    have HO := hid (fun W => hpb ▸ pOk_any p hp W)
    go_enter Tryd.func34, Tryd.ntmps34
    go_wp2_with (first | (go_at_call 39; rw [← hW0]; refine (HO.out _).mono ?_; rintro e w1 ⟨rfl, hB1⟩) | fail)
    go_ret
    exact ⟨rfl, Turn.of_below (hBw.trans (hB1.mono hBw.size)) hb, fun h => by cases h⟩
  | true =>
    have HO := hid (fun W => hpb ▸ pOk_any p hp W)
    cases hxb : dataB x with
    | false =>
      have ha : addB es ⟨p, d, x⟩ = false := by unfold addB; rw [hpb, hxb]; rfl
      rw [ha]
      have HD := hid (fun W => hxb ▸ dataOk_any x W)
      go_enter Tryd.func34, Tryd.ntmps34
      go_wp2_with (first | (go_at_call 39; rw [← hW0]; refine (HO.out _).mono ?_; rintro e w1 ⟨rfl, hB1⟩; have HX1 := HX.out.below hB1; have e2 := HX1.e2; clear HX1) | (go_at_call 40; refine (HD.out _).mono ?_; rintro e w2 ⟨rfl, hB2⟩) | fail)
      go_ret
      exact ⟨rfl, Turn.of_below ((hBw.trans (hB1.mono hBw.size)).trans (hB2.mono (Nat.le_trans hBw.size hB1.size))) hb, fun h => by cases h⟩
    | true =>
      have HD := hid (fun W => hxb ▸ dataOk_any x W)
      by_cases hbad : d = true ∧ ¬ x.toList = []
      · obtain ⟨rfl, hne⟩ := hbad
        have hne' : (x.toList == []) = false := by simpa using hne
        have ha : addB es ⟨p, true, x⟩ = false := by
          unfold addB; rw [hpb, hxb]
          have : x.toList.isEmpty = false := by simpa using hne
          simp [this]
        rw [ha]
        go_enter Tryd.func34, Tryd.ntmps34
        go_wp2_with (first | (go_at_call 39; rw [← hW0]; refine (HO.out _).mono ?_; rintro e w1 ⟨rfl, hB1⟩; have HX1 := HX.out.below hB1; have e2 := HX1.e2; clear HX1) | (go_at_call 40; refine (HD.out _).mono ?_; rintro e w2 ⟨rfl, hB2⟩; have HX2 := (HX.out.below hB1).below hB2; have e1' := HX2.e1; have e2' := HX2.e2; clear HX2) | fail)
        go_ret
        exact ⟨rfl, Turn.of_below ((hBw.trans (hB1.mono hBw.size)).trans (hB2.mono (Nat.le_trans hBw.size hB1.size))) hb, fun h => by cases h⟩
      · have hcond : d = false ∨ x.toList = [] := by
          cases d with
          | false => exact .inl rfl
          | true => exact .inr (Classical.byContradiction fun h => hbad ⟨rfl, h⟩)
        have ha : addB es ⟨p, d, x⟩ = dirE es (upS p) := by
          unfold addB; rw [hpb, hxb]
          rcases hcond with rfl | h
          · simp
          · simp [h]
        have HU := hid (fun W => iPathUp_any p hp W)
        have hus : (upS p).size ≤ 4611686018427387904 := by have := upS_size p; omega
        have HDi := hid (fun (W : World) (hW : Rep W base N es A) (hE : Errs2 W ae) => dirAt_any W base N es A ae T hW hE (upS p) hus)
        have hcond' : d = true → (x.toList == []) = true := fun h => by
          rcases hcond with h1 | h1
          · rw [h1] at h; cases h
          · rw [h1]; rfl
        cases hdir : dirE es (upS p) with
        | false =>
          rw [hdir] at ha
          rw [ha]
          have hc0 : dirC es (upS p) ≠ 0 := fun h => by rw [dirC_zero h] at hdir; cases hdir
          have hdv : dirV es A (upS p) = zeroN := by unfold dirV; rw [if_neg hc0]
          have hev : errV ae (dirC es (upS p)) = .iface 86 (.pointer (some (ae (dirC es (upS p))))) := by unfold errV; rw [if_neg hc0]
          rw [hdv, hev] at HDi
          cases d with
          | false =>
            go_enter Tryd.func34, Tryd.ntmps34
            go_wp2_with (first | (go_at_call 39; rw [← hW0]; refine (HO.out _).mono ?_; rintro e w1 ⟨rfl, hB1⟩; have HX1 := HX.out.below hB1; have e2 := HX1.e2; clear HX1) | (go_at_call 40; refine (HD.out _).mono ?_; rintro e w2 ⟨rfl, hB2⟩; have HX2 := (HX.out.below hB1).below hB2; have e1' := HX2.e1; have e2' := HX2.e2; clear HX2) | fail)
            clear e2 e1' e2'
            have HX2 := hid ((HX.out.below hB1).below hB2)
            have HR2 := hid ((HR.out.below hB1).below hB2)
            have HE2 := hid ((HE.out.below hB1).below hB2)
            have hB02 : Below w.heap.size w w2 := (hBw.trans (hB1.mono hBw.size)).trans (hB2.mono (Nat.le_trans hBw.size hB1.size))
            have hw2 : w.heap.size + 1 < w2.heap.size := World.block_lt_of_cell? w2 ⟨w.heap.size + 1, 0, none⟩ HX2.out.e0
            have AS : Hid (∀ W', Below w2.heap.size w2 W' → (W'.cell? ⟨w.heap.size, 0, none⟩ = some (.bool true) ∧ W'.cell? ⟨w.heap.size, 1, none⟩ = some (.string ⟨#[]⟩) ∧ W'.cell? ⟨w.heap.size, 2, none⟩ = some (.map (some (A ⟨#[47]⟩))) ∧ W'.cell? ⟨w.heap.size + 1, 0, none⟩ = some (.string p))) := fun W' hW => by
              have := HX2.out.below hW
              exact ⟨this.t0, this.t1, this.t2, this.e0⟩
            have AR : Hid (∀ W', Below w2.heap.size w2 W' → Rep W' base N es A) := fun W' hW => HR2.out.below hW
            have AE : Hid (∀ W', Below w2.heap.size w2 W' → Errs2 W' ae) := fun W' hW => HE2.out.below hW
            rename_i Qx Kx hKx
            have HK : Hid (∀ (b : Nat) (W : World), Below w2.heap.size w2 W → Kx { tmps := #[treeV A, .agg #[.string p, .bool false, .string x], .pointer (some ⟨w.heap.size, 0, none⟩), .pointer (some ⟨w.heap.size + 1, 0, none⟩), .bool false, .pointer (some ⟨b, 0, none⟩), .iface 86 (.pointer (some (ae (dirC es (upS p))))), .pointer (some ⟨w.heap.size + 1, 0, none⟩), .string p, .bool true, .bool false, .bool false, .pointer (some ⟨w.heap.size + 1, 2, none⟩), .string x, .bool true, .bool false, .bool false, .bool false, .pointer (some ⟨w.heap.size + 1, 1, none⟩), .bool false, .bool false, undef, undef, undef, .bool false, .bool false, .tuple #[zeroN, .iface 86 (.pointer (some (ae (dirC es (upS p)))))], treeV A, .pointer (some ⟨w.heap.size + 1, 0, none⟩), .string p, .string (upS p), .tuple #[zeroN, .iface 86 (.pointer (some (ae (dirC es (upS p)))))], zeroN, .iface 86 (.pointer (some (ae (dirC es (upS p))))), undef, undef, undef, undef, undef, undef, undef, undef, undef, undef, undef, undef, undef, undef, undef, undef, undef, undef], defers := [] } W) := by
              intro b W hBW
              refine hKx _ _ ?_
              go_wp2
              go_ret
              exact ⟨rfl, Turn.of_below (hB02.trans (hBW.mono (by omega))) hb, fun h => by cases h⟩
            clear hKx
            go_region_held3 (fun W' => W'.cell? ⟨w.heap.size, 0, none⟩ = some (.bool true) ∧ W'.cell? ⟨w.heap.size, 1, none⟩ = some (.string ⟨#[]⟩) ∧ W'.cell? ⟨w.heap.size, 2, none⟩ = some (.map (some (A ⟨#[47]⟩))) ∧ W'.cell? ⟨w.heap.size + 1, 0, none⟩ = some (.string p))
              ((refine AS.out _ ?_; repeat (first | exact Below.refl _ _ | apply belowA | refine belowT ?_ hB4 | refine belowT ?_ hB3 | apply Below.drew | refine set3_below ?_ (by first | exact Nat.le_refl _ | (have h3 := hB3.size; have h4 := hB4.size; simp at h3 h4 ⊢; omega)) _ _ _)))
              (first | (go_at_call 42; refine (HU.out _).mono ?_; rintro e w3 ⟨rfl, hB3⟩; obtain ⟨bc3, bf3⟩ := bcellN hB3; have l3 := hB3.size; (try simp at l3); (try (have z0 := bc3 w2.heap.size 0 (lt_allocD _ _); have z1 := bc3 w2.heap.size 1 (lt_allocD _ _); have z2 := bc3 w2.heap.size 2 (lt_allocD _ _); have z3 := bf3 w2.heap.size 0 (lt_allocD _ _); have z4 := bf3 w2.heap.size 1 (lt_allocD _ _); have z5 := bf3 w2.heap.size 2 (lt_allocD _ _); simp at z0 z1 z2 z3 z4 z5)); clear bc3 bf3) | (go_at_call 41; refine (HDi.out _ (AR.out _ (by repeat (first | exact Below.refl _ _ | apply belowA | refine belowT ?_ hB3 | apply Below.drew))) (AE.out _ (by repeat (first | exact Below.refl _ _ | apply belowA | refine belowT ?_ hB3 | apply Below.drew)))).mono ?_; rintro e w4 ⟨rfl, hB4⟩; obtain ⟨bc4, bf4⟩ := bcellN hB4; have l4 := hB4.size; (try simp at l4); (try (have z0 := bc4 w3.heap.size 0 (lt_alloc _ _); have z1 := bc4 w3.heap.size 1 (lt_alloc _ _); have z2 := bc4 w3.heap.size 2 (lt_alloc _ _); have z3 := bf4 w3.heap.size 0 (lt_alloc _ _); have z4 := bf4 w3.heap.size 1 (lt_alloc _ _); have z5 := bf4 w3.heap.size 2 (lt_alloc _ _); simp at z0 z1 z2 z3 z4 z5)); (try (have v0 := (bc4 w2.heap.size 0 l3).trans z0; have v1 := (bc4 w2.heap.size 1 l3).trans z1; have v2 := (bc4 w2.heap.size 2 l3).trans z2; have v3 := (bf4 w2.heap.size 0 l3).trans z3; have v4 := (bf4 w2.heap.size 1 l3).trans z4; have v5 := (bf4 w2.heap.size 2 l3).trans z5)); clear bc4 bf4))
            all_goals exact HK.out _ _ (by repeat (first | exact Below.refl _ _ | apply belowA | refine belowT ?_ hB4 | refine belowT ?_ hB3 | apply Below.drew | refine set3_below ?_ (by first | exact Nat.le_refl _ | (have h3 := hB3.size; have h4 := hB4.size; simp at h3 h4 ⊢; omega)) _ _ _))
          | true =>
            have hemp := hcond' rfl
            have hemp' : x.toList = [] := by simpa using hemp
            go_enter Tryd.func34, Tryd.ntmps34
            go_wp2_with (first | (go_at_call 39; rw [← hW0]; refine (HO.out _).mono ?_; rintro e w1 ⟨rfl, hB1⟩; have HX1 := HX.out.below hB1; have e2 := HX1.e2; clear HX1) | (go_at_call 40; refine (HD.out _).mono ?_; rintro e w2 ⟨rfl, hB2⟩; have HX2 := (HX.out.below hB1).below hB2; have e1' := HX2.e1; have e2' := HX2.e2; clear HX2) | fail)
            clear e2 e1' e2'
            have HX2 := hid ((HX.out.below hB1).below hB2)
            have HR2 := hid ((HR.out.below hB1).below hB2)
            have HE2 := hid ((HE.out.below hB1).below hB2)
            have hB02 : Below w.heap.size w w2 := (hBw.trans (hB1.mono hBw.size)).trans (hB2.mono (Nat.le_trans hBw.size hB1.size))
            have hw2 : w.heap.size + 1 < w2.heap.size := World.block_lt_of_cell? w2 ⟨w.heap.size + 1, 0, none⟩ HX2.out.e0
            have AS : Hid (∀ W', Below w2.heap.size w2 W' → (W'.cell? ⟨w.heap.size, 0, none⟩ = some (.bool true) ∧ W'.cell? ⟨w.heap.size, 1, none⟩ = some (.string ⟨#[]⟩) ∧ W'.cell? ⟨w.heap.size, 2, none⟩ = some (.map (some (A ⟨#[47]⟩))) ∧ W'.cell? ⟨w.heap.size + 1, 0, none⟩ = some (.string p))) := fun W' hW => by
              have := HX2.out.below hW
              exact ⟨this.t0, this.t1, this.t2, this.e0⟩
            have AR : Hid (∀ W', Below w2.heap.size w2 W' → Rep W' base N es A) := fun W' hW => HR2.out.below hW
            have AE : Hid (∀ W', Below w2.heap.size w2 W' → Errs2 W' ae) := fun W' hW => HE2.out.below hW
            rename_i Qx Kx hKx
            have HK : Hid (∀ (b : Nat) (W : World), Below w2.heap.size w2 W → Kx { tmps := #[treeV A, .agg #[.string p, .bool true, .string x], .pointer (some ⟨w.heap.size, 0, none⟩), .pointer (some ⟨w.heap.size + 1, 0, none⟩), .bool false, .pointer (some ⟨b, 0, none⟩), .iface 86 (.pointer (some (ae (dirC es (upS p))))), .pointer (some ⟨w.heap.size + 1, 0, none⟩), .string p, .bool true, .bool false, .bool false, .pointer (some ⟨w.heap.size + 1, 2, none⟩), .string x, .bool true, .bool false, .bool false, .bool false, .pointer (some ⟨w.heap.size + 1, 1, none⟩), .bool true, .bool true, .pointer (some ⟨w.heap.size + 1, 2, none⟩), .string x, .bool false, .bool false, .bool false, .tuple #[zeroN, .iface 86 (.pointer (some (ae (dirC es (upS p)))))], treeV A, .pointer (some ⟨w.heap.size + 1, 0, none⟩), .string p, .string (upS p), .tuple #[zeroN, .iface 86 (.pointer (some (ae (dirC es (upS p)))))], zeroN, .iface 86 (.pointer (some (ae (dirC es (upS p))))), undef, undef, undef, undef, undef, undef, undef, undef, undef, undef, undef, undef, undef, undef, undef, undef, undef, undef], defers := [] } W) := by
              intro b W hBW
              refine hKx _ _ ?_
              go_wp2
              go_ret
              exact ⟨rfl, Turn.of_below (hB02.trans (hBW.mono (by omega))) hb, fun h => by cases h⟩
            clear hKx
            go_region_held3 (fun W' => W'.cell? ⟨w.heap.size, 0, none⟩ = some (.bool true) ∧ W'.cell? ⟨w.heap.size, 1, none⟩ = some (.string ⟨#[]⟩) ∧ W'.cell? ⟨w.heap.size, 2, none⟩ = some (.map (some (A ⟨#[47]⟩))) ∧ W'.cell? ⟨w.heap.size + 1, 0, none⟩ = some (.string p))
              ((refine AS.out _ ?_; repeat (first | exact Below.refl _ _ | apply belowA | refine belowT ?_ hB4 | refine belowT ?_ hB3 | apply Below.drew | refine set3_below ?_ (by first | exact Nat.le_refl _ | (have h3 := hB3.size; have h4 := hB4.size; simp at h3 h4 ⊢; omega)) _ _ _)))
              (first | (go_at_call 42; refine (HU.out _).mono ?_; rintro e w3 ⟨rfl, hB3⟩; obtain ⟨bc3, bf3⟩ := bcellN hB3; have l3 := hB3.size; (try simp at l3); (try (have z0 := bc3 w2.heap.size 0 (lt_allocD _ _); have z1 := bc3 w2.heap.size 1 (lt_allocD _ _); have z2 := bc3 w2.heap.size 2 (lt_allocD _ _); have z3 := bf3 w2.heap.size 0 (lt_allocD _ _); have z4 := bf3 w2.heap.size 1 (lt_allocD _ _); have z5 := bf3 w2.heap.size 2 (lt_allocD _ _); simp at z0 z1 z2 z3 z4 z5)); clear bc3 bf3) | (go_at_call 41; refine (HDi.out _ (AR.out _ (by repeat (first | exact Below.refl _ _ | apply belowA | refine belowT ?_ hB3 | apply Below.drew))) (AE.out _ (by repeat (first | exact Below.refl _ _ | apply belowA | refine belowT ?_ hB3 | apply Below.drew)))).mono ?_; rintro e w4 ⟨rfl, hB4⟩; obtain ⟨bc4, bf4⟩ := bcellN hB4; have l4 := hB4.size; (try simp at l4); (try (have z0 := bc4 w3.heap.size 0 (lt_alloc _ _); have z1 := bc4 w3.heap.size 1 (lt_alloc _ _); have z2 := bc4 w3.heap.size 2 (lt_alloc _ _); have z3 := bf4 w3.heap.size 0 (lt_alloc _ _); have z4 := bf4 w3.heap.size 1 (lt_alloc _ _); have z5 := bf4 w3.heap.size 2 (lt_alloc _ _); simp at z0 z1 z2 z3 z4 z5)); (try (have v0 := (bc4 w2.heap.size 0 l3).trans z0; have v1 := (bc4 w2.heap.size 1 l3).trans z1; have v2 := (bc4 w2.heap.size 2 l3).trans z2; have v3 := (bf4 w2.heap.size 0 l3).trans z3; have v4 := (bf4 w2.heap.size 1 l3).trans z4; have v5 := (bf4 w2.heap.size 2 l3).trans z5)); clear bc4 bf4))
            all_goals exact HK.out _ _ (by repeat (first | exact Below.refl _ _ | apply belowA | refine belowT ?_ hB4 | refine belowT ?_ hB3 | apply Below.drew | refine set3_below ?_ (by first | exact Nat.le_refl _ | (have h3 := hB3.size; have h4 := hB4.size; simp at h3 h4 ⊢; omega)) _ _ _))
        | true =>
          rw [hdir] at ha
          rw [ha]
          obtain ⟨xx, hxx⟩ := atE_dir (A := A) hdir
          have hdv : dirV es A (upS p) = .agg #[.bool true, .string xx, .map (some (A (upS p)))] := by unfold dirV; rw [dirC_dir hdir, if_pos rfl, hxx]
          have hev : errV ae (dirC es (upS p)) = .nilIface := by rw [dirC_dir hdir]; rfl
          rw [hdv, hev] at HDi
          have HN5 := hid (fun W => iPathName_any p hp W)
          have hnz : (nmS p).size ≤ maxLen := by
            have := (up_facts hpb).2.2.1
            unfold nameB at this
            rw [Bool.and_eq_true] at this
            have := (of_decide_eq_true this.1).2
            unfold maxLen; omega
          cases d with
          | false =>
            go_enter Tryd.func34, Tryd.ntmps34
            go_wp2_with (first | (go_at_call 39; rw [← hW0]; refine (HO.out _).mono ?_; rintro e w1 ⟨rfl, hB1⟩; have HX1 := HX.out.below hB1; have e2 := HX1.e2; clear HX1) | (go_at_call 40; refine (HD.out _).mono ?_; rintro e w2 ⟨rfl, hB2⟩; have HX2 := (HX.out.below hB1).below hB2; have e1' := HX2.e1; have e2' := HX2.e2; clear HX2) | fail)
            clear e2 e1' e2'
            have HX2 := hid ((HX.out.below hB1).below hB2)
            have HR2 := hid ((HR.out.below hB1).below hB2)
            have HE2 := hid ((HE.out.below hB1).below hB2)
            have hB02 : Below w.heap.size w w2 := (hBw.trans (hB1.mono hBw.size)).trans (hB2.mono (Nat.le_trans hBw.size hB1.size))
            have hw2 : w.heap.size + 1 < w2.heap.size := World.block_lt_of_cell? w2 ⟨w.heap.size + 1, 0, none⟩ HX2.out.e0
            have AS : Hid (∀ W', Below w2.heap.size w2 W' → (W'.cell? ⟨w.heap.size, 0, none⟩ = some (.bool true) ∧ W'.cell? ⟨w.heap.size, 1, none⟩ = some (.string ⟨#[]⟩) ∧ W'.cell? ⟨w.heap.size, 2, none⟩ = some (.map (some (A ⟨#[47]⟩))) ∧ W'.cell? ⟨w.heap.size + 1, 0, none⟩ = some (.string p))) := fun W' hW => by
              have := HX2.out.below hW
              exact ⟨this.t0, this.t1, this.t2, this.e0⟩
            have AR : Hid (∀ W', Below w2.heap.size w2 W' → Rep W' base N es A) := fun W' hW => HR2.out.below hW
            have AE : Hid (∀ W', Below w2.heap.size w2 W' → Errs2 W' ae) := fun W' hW => HE2.out.below hW
            rename_i Qx Kx hKx
            have HF6 := hid (fun W => newFile_any x (by omega) W)
            have HK : Hid (∀ (b : Nat) (W : World), Below w2.heap.size w2 W → W.cell? ⟨b, 2, none⟩ = some (.map (some (A (upS p)))) → Kx { tmps := #[treeV A, .agg #[.string p, .bool false, .string x], .pointer (some ⟨w.heap.size, 0, none⟩), .pointer (some ⟨w.heap.size + 1, 0, none⟩), .bool false, .pointer (some ⟨b, 0, none⟩), .nilIface, .pointer (some ⟨w.heap.size + 1, 0, none⟩), .string p, .bool true, .bool false, .bool false, .pointer (some ⟨w.heap.size + 1, 2, none⟩), .string x, .bool true, .bool false, .bool false, .bool false, .pointer (some ⟨w.heap.size + 1, 1, none⟩), .bool false, .bool false, undef, undef, undef, .bool false, .bool false, .tuple #[.agg #[.bool true, .string xx, .map (some (A (upS p)))], .nilIface], treeV A, .pointer (some ⟨w.heap.size + 1, 0, none⟩), .string p, .string (upS p), .tuple #[.agg #[.bool true, .string xx, .map (some (A (upS p)))], .nilIface], .agg #[.bool true, .string xx, .map (some (A (upS p)))], .nilIface, undef, undef, undef, undef, undef, undef, undef, undef, undef, undef, undef, undef, undef, undef, undef, undef, undef, undef], defers := [] } W) := by
              intro b W hBW hb2
              refine hKx _ _ ?_
              obtain ⟨y0, y1, y2, y3, y4, y5⟩ := HX2.out.below hBW
              have hbW : base ≤ W.heap.size := Nat.le_trans hb (Nat.le_trans hB02.size hBW.size)
              have AS2 : Hid (∀ W', Turn base W W' → (W'.cell? ⟨b, 2, none⟩ = some (.map (some (A (upS p)))) ∧ W'.cell? ⟨w.heap.size + 1, 0, none⟩ = some (.string p) ∧ W'.cell? ⟨w.heap.size + 1, 2, none⟩ = some (.string x))) := fun W' hW => ⟨hW.cell hb2, hW.cell y3, hW.cell y5⟩
              go_wp2
              go_region_held3 (fun W' => W'.cell? ⟨b, 2, none⟩ = some (.map (some (A (upS p)))) ∧ W'.cell? ⟨w.heap.size + 1, 0, none⟩ = some (.string p) ∧ W'.cell? ⟨w.heap.size + 1, 2, none⟩ = some (.string x))
                ((first | exact AS2.out _ ((Turn.of_below (belowT (belowT (Below.refl _ _).drew hB5) hB6) hbW).trans (Turn.of_map ht7 ((AR.out _ hBW).low _ hdir))) | exact AS2.out _ (Turn.of_below (belowT (belowT (Below.refl _ _).drew hB5) hB6) hbW) | exact AS2.out _ (Turn.of_below (belowT (Below.refl _ _).drew hB5) hbW) | exact AS2.out _ (Turn.of_below (Below.refl _ _).drew hbW)))
                (first | (go_at_call 43; refine (HN5.out _).mono ?_; rintro e w5 ⟨rfl, hB5⟩) | (go_at_call 44; refine (HF6.out _).mono ?_; rintro e w6 ⟨rfl, hB6⟩; obtain ⟨w7, hst, hm7, ht7⟩ := ((AR.out _ (belowT (belowT hBW.drew hB5) hB6)).kids _ hdir).store (by unfold maxLen; omega) hnz (.agg #[.bool false, .string x, .map none])))
              have RW6 := AR.out _ (belowT (belowT hBW.drew hB5) hB6)
              have fin := add_fin (e := ⟨p, false, x⟩) (a := 0) T RW6 (Turn.of_below ((hB02.trans (hBW.mono (by omega))).trans ((belowT (belowT (Below.refl _ _).drew hB5) hB6).mono (Nat.le_trans hB02.size hBW.size))) hb) hpb hdir hl hm7 ht7 (fun h => by cases h)
              go_wp2
              go_ret
              exact ⟨rfl, fin.1, fun _ => fin.2⟩
            clear hKx
            go_region_held3 (fun W' => W'.cell? ⟨w.heap.size, 0, none⟩ = some (.bool true) ∧ W'.cell? ⟨w.heap.size, 1, none⟩ = some (.string ⟨#[]⟩) ∧ W'.cell? ⟨w.heap.size, 2, none⟩ = some (.map (some (A ⟨#[47]⟩))) ∧ W'.cell? ⟨w.heap.size + 1, 0, none⟩ = some (.string p))
              ((refine AS.out _ ?_; repeat (first | exact Below.refl _ _ | apply belowA | refine belowT ?_ hB4 | refine belowT ?_ hB3 | apply Below.drew | refine set3_below ?_ (by first | exact Nat.le_refl _ | (have h3 := hB3.size; have h4 := hB4.size; simp at h3 h4 ⊢; omega)) _ _ _)))
              (first | (go_at_call 42; refine (HU.out _).mono ?_; rintro e w3 ⟨rfl, hB3⟩; obtain ⟨bc3, bf3⟩ := bcellN hB3; have l3 := hB3.size; (try simp at l3); (try (have z0 := bc3 w2.heap.size 0 (lt_allocD _ _); have z1 := bc3 w2.heap.size 1 (lt_allocD _ _); have z2 := bc3 w2.heap.size 2 (lt_allocD _ _); have z3 := bf3 w2.heap.size 0 (lt_allocD _ _); have z4 := bf3 w2.heap.size 1 (lt_allocD _ _); have z5 := bf3 w2.heap.size 2 (lt_allocD _ _); simp at z0 z1 z2 z3 z4 z5)); clear bc3 bf3) | (go_at_call 41; refine (HDi.out _ (AR.out _ (by repeat (first | exact Below.refl _ _ | apply belowA | refine belowT ?_ hB3 | apply Below.drew))) (AE.out _ (by repeat (first | exact Below.refl _ _ | apply belowA | refine belowT ?_ hB3 | apply Below.drew)))).mono ?_; rintro e w4 ⟨rfl, hB4⟩; obtain ⟨bc4, bf4⟩ := bcellN hB4; have l4 := hB4.size; (try simp at l4); (try (have z0 := bc4 w3.heap.size 0 (lt_alloc _ _); have z1 := bc4 w3.heap.size 1 (lt_alloc _ _); have z2 := bc4 w3.heap.size 2 (lt_alloc _ _); have z3 := bf4 w3.heap.size 0 (lt_alloc _ _); have z4 := bf4 w3.heap.size 1 (lt_alloc _ _); have z5 := bf4 w3.heap.size 2 (lt_alloc _ _); simp at z0 z1 z2 z3 z4 z5)); (try (have v0 := (bc4 w2.heap.size 0 l3).trans z0; have v1 := (bc4 w2.heap.size 1 l3).trans z1; have v2 := (bc4 w2.heap.size 2 l3).trans z2; have v3 := (bf4 w2.heap.size 0 l3).trans z3; have v4 := (bf4 w2.heap.size 1 l3).trans z4; have v5 := (bf4 w2.heap.size 2 l3).trans z5)); clear bc4 bf4))
            all_goals refine HK.out _ _ (by repeat (first | exact Below.refl _ _ | apply belowA | refine belowT ?_ hB4 | refine belowT ?_ hB3 | apply Below.drew | refine set3_below ?_ (by first | exact Nat.le_refl _ | (have h3 := hB3.size; have h4 := hB4.size; simp at h3 h4 ⊢; omega)) _ _ _)) ?_
            all_goals first | exact (set3_cells v0 v1 v2 _ _ _).2.2 | exact (set3_cells z0 z1 z2 _ _ _).2.2 | simp
          | true =>
            have hemp := hcond' rfl
            have hemp' : x.toList = [] := by simpa using hemp
            go_enter Tryd.func34, Tryd.ntmps34
            go_wp2_with (first | (go_at_call 39; rw [← hW0]; refine (HO.out _).mono ?_; rintro e w1 ⟨rfl, hB1⟩; have HX1 := HX.out.below hB1; have e2 := HX1.e2; clear HX1) | (go_at_call 40; refine (HD.out _).mono ?_; rintro e w2 ⟨rfl, hB2⟩; have HX2 := (HX.out.below hB1).below hB2; have e1' := HX2.e1; have e2' := HX2.e2; clear HX2) | fail)
            clear e2 e1' e2'
            have HX2 := hid ((HX.out.below hB1).below hB2)
            have HR2 := hid ((HR.out.below hB1).below hB2)
            have HE2 := hid ((HE.out.below hB1).below hB2)
            have hB02 : Below w.heap.size w w2 := (hBw.trans (hB1.mono hBw.size)).trans (hB2.mono (Nat.le_trans hBw.size hB1.size))
            have hw2 : w.heap.size + 1 < w2.heap.size := World.block_lt_of_cell? w2 ⟨w.heap.size + 1, 0, none⟩ HX2.out.e0
            have AS : Hid (∀ W', Below w2.heap.size w2 W' → (W'.cell? ⟨w.heap.size, 0, none⟩ = some (.bool true) ∧ W'.cell? ⟨w.heap.size, 1, none⟩ = some (.string ⟨#[]⟩) ∧ W'.cell? ⟨w.heap.size, 2, none⟩ = some (.map (some (A ⟨#[47]⟩))) ∧ W'.cell? ⟨w.heap.size + 1, 0, none⟩ = some (.string p))) := fun W' hW => by
              have := HX2.out.below hW
              exact ⟨this.t0, this.t1, this.t2, this.e0⟩
            have AR : Hid (∀ W', Below w2.heap.size w2 W' → Rep W' base N es A) := fun W' hW => HR2.out.below hW
            have AE : Hid (∀ W', Below w2.heap.size w2 W' → Errs2 W' ae) := fun W' hW => HE2.out.below hW
            rename_i Qx Kx hKx
            have HF6 := hid (fun W => newFile_any x (by omega) W)
            have HK : Hid (∀ (b : Nat) (W : World), Below w2.heap.size w2 W → W.cell? ⟨b, 2, none⟩ = some (.map (some (A (upS p)))) → Kx { tmps := #[treeV A, .agg #[.string p, .bool true, .string x], .pointer (some ⟨w.heap.size, 0, none⟩), .pointer (some ⟨w.heap.size + 1, 0, none⟩), .bool false, .pointer (some ⟨b, 0, none⟩), .nilIface, .pointer (some ⟨w.heap.size + 1, 0, none⟩), .string p, .bool true, .bool false, .bool false, .pointer (some ⟨w.heap.size + 1, 2, none⟩), .string x, .bool true, .bool false, .bool false, .bool false, .pointer (some ⟨w.heap.size + 1, 1, none⟩), .bool true, .bool true, .pointer (some ⟨w.heap.size + 1, 2, none⟩), .string x, .bool false, .bool false, .bool false, .tuple #[.agg #[.bool true, .string xx, .map (some (A (upS p)))], .nilIface], treeV A, .pointer (some ⟨w.heap.size + 1, 0, none⟩), .string p, .string (upS p), .tuple #[.agg #[.bool true, .string xx, .map (some (A (upS p)))], .nilIface], .agg #[.bool true, .string xx, .map (some (A (upS p)))], .nilIface, undef, undef, undef, undef, undef, undef, undef, undef, undef, undef, undef, undef, undef, undef, undef, undef, undef, undef], defers := [] } W) := by
              intro b W hBW hb2
              refine hKx _ _ ?_
              obtain ⟨y0, y1, y2, y3, y4, y5⟩ := HX2.out.below hBW
              have hbW : base ≤ W.heap.size := Nat.le_trans hb (Nat.le_trans hB02.size hBW.size)
              have AS2 : Hid (∀ W', Turn base W W' → (W'.cell? ⟨b, 2, none⟩ = some (.map (some (A (upS p)))) ∧ W'.cell? ⟨w.heap.size + 1, 0, none⟩ = some (.string p) ∧ W'.cell? ⟨w.heap.size + 1, 2, none⟩ = some (.string x))) := fun W' hW => ⟨hW.cell hb2, hW.cell y3, hW.cell y5⟩
              go_wp2
              go_region_held3 (fun W' => W'.cell? ⟨b, 2, none⟩ = some (.map (some (A (upS p)))) ∧ W'.cell? ⟨w.heap.size + 1, 0, none⟩ = some (.string p) ∧ W'.cell? ⟨w.heap.size + 1, 2, none⟩ = some (.string x))
                ((first | exact AS2.out _ ((Turn.of_below (belowT (belowT (Below.refl _ _).drew hB5) hB6) hbW).trans (Turn.of_map ht7 ((AR.out _ hBW).low _ hdir))) | exact AS2.out _ (Turn.of_below (belowT (belowT (Below.refl _ _).drew hB5) hB6) hbW) | exact AS2.out _ (Turn.of_below (belowT (Below.refl _ _).drew hB5) hbW) | exact AS2.out _ (Turn.of_below (Below.refl _ _).drew hbW)))
                (first | (go_at_call 43; refine (HN5.out _).mono ?_; rintro e w5 ⟨rfl, hB5⟩) | (go_at_call 33; refine (newDir_any _).mono ?_; rintro e w6 ⟨rfl, hM6, hB6⟩; obtain ⟨w7, hst, hm7, ht7⟩ := ((AR.out _ (belowT (belowT hBW.drew hB5) hB6)).kids _ hdir).store (by unfold maxLen; omega) hnz (.agg #[.bool true, .string ⟨#[]⟩, .map (some (w5.heap.size + 1))])))
              have RW6 := AR.out _ (belowT (belowT hBW.drew hB5) hB6)
              have hx0 : x = ⟨#[]⟩ := notEmpty.1 (by rw [hemp']; rfl)
              have hszW : w.heap.size ≤ w5.heap.size := Nat.le_trans hB02.size (Nat.le_trans hBW.size hB5.size)
              have fin := add_fin (e := ⟨p, true, x⟩) (a := w5.heap.size + 1) T RW6 (Turn.of_below ((hB02.trans (hBW.mono (by omega))).trans ((belowT (belowT (Below.refl _ _).drew hB5) hB6).mono (Nat.le_trans hB02.size hBW.size))) hb) hpb hdir hl (by rw [hx0]; exact hm7) ht7 (fun _ => ⟨hM6, by omega, fun q hq h => by
                have := ((AR.out _ (belowT hBW.drew hB5)).kids q hq).lt; omega⟩)
              go_wp2
              go_ret
              exact ⟨rfl, fin.1, fun _ => fin.2⟩
            clear hKx
            go_region_held3 (fun W' => W'.cell? ⟨w.heap.size, 0, none⟩ = some (.bool true) ∧ W'.cell? ⟨w.heap.size, 1, none⟩ = some (.string ⟨#[]⟩) ∧ W'.cell? ⟨w.heap.size, 2, none⟩ = some (.map (some (A ⟨#[47]⟩))) ∧ W'.cell? ⟨w.heap.size + 1, 0, none⟩ = some (.string p))
              ((refine AS.out _ ?_; repeat (first | exact Below.refl _ _ | apply belowA | refine belowT ?_ hB4 | refine belowT ?_ hB3 | apply Below.drew | refine set3_below ?_ (by first | exact Nat.le_refl _ | (have h3 := hB3.size; have h4 := hB4.size; simp at h3 h4 ⊢; omega)) _ _ _)))
              (first | (go_at_call 42; refine (HU.out _).mono ?_; rintro e w3 ⟨rfl, hB3⟩; obtain ⟨bc3, bf3⟩ := bcellN hB3; have l3 := hB3.size; (try simp at l3); (try (have z0 := bc3 w2.heap.size 0 (lt_allocD _ _); have z1 := bc3 w2.heap.size 1 (lt_allocD _ _); have z2 := bc3 w2.heap.size 2 (lt_allocD _ _); have z3 := bf3 w2.heap.size 0 (lt_allocD _ _); have z4 := bf3 w2.heap.size 1 (lt_allocD _ _); have z5 := bf3 w2.heap.size 2 (lt_allocD _ _); simp at z0 z1 z2 z3 z4 z5)); clear bc3 bf3) | (go_at_call 41; refine (HDi.out _ (AR.out _ (by repeat (first | exact Below.refl _ _ | apply belowA | refine belowT ?_ hB3 | apply Below.drew))) (AE.out _ (by repeat (first | exact Below.refl _ _ | apply belowA | refine belowT ?_ hB3 | apply Below.drew)))).mono ?_; rintro e w4 ⟨rfl, hB4⟩; obtain ⟨bc4, bf4⟩ := bcellN hB4; have l4 := hB4.size; (try simp at l4); (try (have z0 := bc4 w3.heap.size 0 (lt_alloc _ _); have z1 := bc4 w3.heap.size 1 (lt_alloc _ _); have z2 := bc4 w3.heap.size 2 (lt_alloc _ _); have z3 := bf4 w3.heap.size 0 (lt_alloc _ _); have z4 := bf4 w3.heap.size 1 (lt_alloc _ _); have z5 := bf4 w3.heap.size 2 (lt_alloc _ _); simp at z0 z1 z2 z3 z4 z5)); (try (have v0 := (bc4 w2.heap.size 0 l3).trans z0; have v1 := (bc4 w2.heap.size 1 l3).trans z1; have v2 := (bc4 w2.heap.size 2 l3).trans z2; have v3 := (bf4 w2.heap.size 0 l3).trans z3; have v4 := (bf4 w2.heap.size 1 l3).trans z4; have v5 := (bf4 w2.heap.size 2 l3).trans z5)); clear bc4 bf4))
            all_goals refine HK.out _ _ (by repeat (first | exact Below.refl _ _ | apply belowA | refine belowT ?_ hB4 | refine belowT ?_ hB3 | apply Below.drew | refine set3_below ?_ (by first | exact Nat.le_refl _ | (have h3 := hB3.size; have h4 := hB4.size; simp at h3 h4 ⊢; omega)) _ _ _)) ?_
            all_goals first | exact (set3_cells v0 v1 v2 _ _ _).2.2 | exact (set3_cells z0 z1 z2 _ _ _).2.2 | simp
end Go.Proofs.YtenlibefdefjmaaDoor
