import Derived.Deep.RegionHeld3
import Derived.Test.YtoaipphccjkphaaDoorHPk07
import Derived.Test.YtoaipphccjkphaaDoorHPk02
import Derived.Test.YtoaipphccjkphaaDoorHPk01
import Derived.Test.YtoaipphccjkphaaDoorHPk06
import Derived.Test.YtoaipphccjkphaaDoorHEntsDef
namespace Go.Proofs.YtoaipphccjkphaaDoor
open Go.RowKit Go.Shelf Go.Lib
attribute [local go_sem] Oper.semAt_some
def addB (es : List E) (e : E) : Bool := (pathB e.p && (dataB e.x && !(e.d && !e.x.toList.isEmpty))) && dirE es (upS e.p)
structure AddBox (W : World) (b : Nat) (A : ByteArray → Nat) (p : ByteArray) (d : Bool) (x : ByteArray) : Prop where
 t0 : W.cell? ⟨b, 0, none⟩ = some (.bool true)
 t1 : W.cell? ⟨b, 1, none⟩ = some (.string ⟨#[]⟩)
 t2 : W.cell? ⟨b, 2, none⟩ = some (.map (some (A ⟨#[47]⟩)))
 e0 : W.cell? ⟨b + 1, 0, none⟩ = some (.string p)
 e1 : W.cell? ⟨b + 1, 1, none⟩ = some (.bool d)
 e2 : W.cell? ⟨b + 1, 2, none⟩ = some (.string x)
theorem AddBox.below {W W' : World} {b : Nat} {A : ByteArray → Nat} {p x : ByteArray} {d : Bool} (h : AddBox W b A p d x) (hB : Below W.heap.size W W') : AddBox W' b A p d x :=
 ⟨below_cell hB h.t0, below_cell hB h.t1, below_cell hB h.t2, below_cell hB h.e0, below_cell hB h.e1, below_cell hB h.e2⟩
theorem belowA {w X : World} (h : Below w.heap.size w X) (o : Obj) : Below w.heap.size w (X.alloc o) := h.alloc h.size o
theorem belowT {w X Y : World} (h : Below w.heap.size w X) (k : Below X.heap.size X Y) : Below w.heap.size w Y := h.trans (k.mono h.size)
theorem upS_size (p : ByteArray) : (upS p).size ≤ p.size + 1 := by
 unfold upS
 split
 ·
  split
  ·
   show 1 ≤ _; omega
  ·
   rw [ByteArray.size_extract]; omega
 ·
  exact Nat.zero_le _
theorem lt_alloc (w : World) (o : Obj) : w.heap.size < (w.alloc o).heap.size := by simp
theorem lt_allocD (w : World) (o : Obj) : w.heap.size < (w.drew.alloc o).heap.size := by simp
theorem look_snoc {es : List E} {e : E} (h : lookE es e.p = none) (s : ByteArray) : lookE (es ++ [e]) s = if s = e.p then some e else lookE es s := by
 rw [look_append]; by_cases q : s = e.p
 ·
  rw [if_pos q, q, h]; simp [lookE]
 ·
  rw [if_neg q]; have : lookE [e] s = none := look_none.2 (by intro f hf; rw [List.mem_singleton.1 hf]; exact fun k => q k.symm); rw [this]; cases lookE es s <;> rfl
theorem add_fin {w V V' : World} {base N a : Nat} {es : List E} {A : ByteArray → Nat} {e : E} (T : TrE es) (R : Rep V base N es A) (hV : Turn base w V) (hp : pathB e.p = true) (hup : dirE es (upS e.p) = true) (hl : ∀ f ∈ es, less f.p e.p)
  (hm : MapIs V' (A (upS e.p)) (N + 1) (fun t => if t = nmS e.p then some (nodeV e a) else kidF es A (upS e.p) t)) (ht : V.mapTurned V' (A (upS e.p)))
  (hd : e.d = true → MapIs V a 0 (fun _ => none) ∧ base ≤ a ∧ ∀ p, dirE es p = true → A p ≠ a) :
  Turn base w V' ∧ ∃ A', A' ⟨#[47]⟩ = A ⟨#[47]⟩ ∧ Rep V' base (N + 1) (es ++ [e]) A' := by
 have hnone : lookE es e.p = none := look_none.2 fun f hf q => by
  have := hl f hf; rw [q] at this; exact less_irrefl _ this
 have hroot : e.p ≠ ⟨#[47]⟩ := fun q => by rw [q, root_no_path] at hp; cases hp
 have hold : dirE es e.p = false := by
  rw [dirE_look, hnone]; have : isRoot e.p = false := path_not_root hp; rw [this]; rfl
 refine ⟨hV.trans (Turn.of_map ht (R.low _ hup)), _, ?_, R.put T hp hup hold (look_snoc hnone) hm (fun p hpd hne => ?_) (fun h => ?_)⟩
 ·
  rw [if_neg (fun q => hroot q.symm)]
 ·
  exact ht.grown.block _ (R.kids p hpd).lt (fun q => hne (R.apart _ _ hpd hup (Option.some.inj q)))
 ·
  obtain ⟨h1, h2, h3⟩ := hd h; exact ⟨h1.kept (ht.grown.block _ h1.lt (fun q => h3 _ hup (Option.some.inj q).symm)), h2, h3⟩
set_option maxHeartbeats 2000000 in
set_option maxRecDepth 100000 in
theorem add_any (w : World) (base N : Nat) (es : List E) (A : ByteArray → Nat) (ae : Int → Addr) (T : TrE es) (R : Rep w base N es A) (hE : Errs2 w ae) (p : ByteArray) (d : Bool) (x : ByteArray)
  (hp : p.size ≤ 16777216) (hx : x.size ≤ 16777216) (hb : base ≤ w.heap.size) (hN : N < 1000) (hl : ∀ f ∈ es, less f.p p) :
  Calls Tryd.prog 55 #[treeV A, .agg #[.string p, .bool d, .string x]] w fun r w' => r = .returned (.bool (addB es ⟨p, d, x⟩)) ∧ Turn base w w' ∧
   (addB es ⟨p, d, x⟩ = true → ∃ A', A' ⟨#[47]⟩ = A ⟨#[47]⟩ ∧ Rep w' base (N + 1) (es ++ [⟨p, d, x⟩]) A') := by
 obtain ⟨W0, hW0⟩ : ∃ W0, W0 = (w.alloc (.cells #[.bool true, .string ⟨#[]⟩, .map (some (A ⟨#[47]⟩))] 64)).alloc (.cells #[.string p, .bool d, .string x] 27) := ⟨_, rfl⟩
 have hBw : Below w.heap.size w W0 := hW0 ▸ ((Below.refl _ w).alloc (Nat.le_refl _) _).alloc (by simp) _
 have HX : Hid (AddBox W0 w.heap.size A p d x) := by
  subst hW0
  constructor <;> simp
 have HR := hid (R.below hBw); have HE := hid (hE.below hBw); cases hpb : pathB p with
 | false =>
  have ha : addB es ⟨p, d, x⟩ = false := by unfold addB; rw [hpb]; rfl
  rw [ha]; have HO := hid (fun W => hpb ▸ pOk_any p hp W); go_enter Tryd.func55, Tryd.ntmps55
  go_wp2_with (first | (go_at_call 67; rw [← hW0]; refine (HO.out _).mono ?_; rintro e w1 ⟨rfl, hB1⟩) | fail)
  go_ret
  exact ⟨rfl, Turn.of_below (hBw.trans (hB1.mono hBw.size)) hb, fun h => by cases h⟩
 | true =>
  have HO := hid (fun W => hpb ▸ pOk_any p hp W); cases hxb : dataB x with
  | false =>
   have ha : addB es ⟨p, d, x⟩ = false := by unfold addB; rw [hpb, hxb]; rfl
   rw [ha]; have HD := hid (fun W => hxb ▸ dataOk_any x W); go_enter Tryd.func55, Tryd.ntmps55
   go_wp2_with (first | (go_at_call 67; rw [← hW0]; refine (HO.out _).mono ?_; rintro e w1 ⟨rfl, hB1⟩; have HX1 := HX.out.below hB1; have e2 := HX1.e2; clear HX1) | (go_at_call 68; refine (HD.out _).mono ?_; rintro e w2 ⟨rfl, hB2⟩) | fail)
   go_ret
   exact ⟨rfl, Turn.of_below ((hBw.trans (hB1.mono hBw.size)).trans (hB2.mono (Nat.le_trans hBw.size hB1.size))) hb, fun h => by cases h⟩
  | true =>
   have HD := hid (fun W => hxb ▸ dataOk_any x W); by_cases hbad : d = true ∧ ¬ x.toList = []
   ·
    obtain ⟨rfl, hne⟩ := hbad; have hne' : (x.toList == []) = false := by simpa using hne
    have ha : addB es ⟨p, true, x⟩ = false := by
     unfold addB; rw [hpb, hxb]; have : x.toList.isEmpty = false := by simpa using hne
     simp [this]
    rw [ha]; go_enter Tryd.func55, Tryd.ntmps55
    go_wp2_with (first | (go_at_call 67; rw [← hW0]; refine (HO.out _).mono ?_; rintro e w1 ⟨rfl, hB1⟩; have HX1 := HX.out.below hB1; have e2 := HX1.e2; clear HX1) | (go_at_call 68; refine (HD.out _).mono ?_; rintro e w2 ⟨rfl, hB2⟩; have HX2 := (HX.out.below hB1).below hB2; have e1' := HX2.e1; have e2' := HX2.e2; clear HX2) | fail)
    go_ret
    exact ⟨rfl, Turn.of_below ((hBw.trans (hB1.mono hBw.size)).trans (hB2.mono (Nat.le_trans hBw.size hB1.size))) hb, fun h => by cases h⟩
   ·
    have hcond : d = false ∨ x.toList = [] := by
     cases d with
     | false => exact .inl rfl
     | true => exact .inr (Classical.byContradiction fun h => hbad ⟨rfl, h⟩)
    have ha : addB es ⟨p, d, x⟩ = dirE es (upS p) := by
     unfold addB; rw [hpb, hxb]; rcases hcond with rfl | h
     ·
      simp
     ·
      simp [h]
    have HU := hid (fun W => iPathUp_any p hp W); have hus : (upS p).size ≤ 4611686018427387904 := by have := upS_size p; omega
    have HDi := hid (fun (W : World) (hW : Rep W base N es A) (hE : Errs2 W ae) => dirAt_any W base N es A ae T hW hE (upS p) hus)
    have hcond' : d = true → (x.toList == []) = true := fun h => by
     rcases hcond with h1 | h1
     ·
      rw [h1] at h; cases h
     ·
      rw [h1]; rfl
    cases hdir : dirE es (upS p) with
    | false =>
     rw [hdir] at ha; rw [ha]; have hc0 : dirC es (upS p) ≠ 0 := fun h => by rw [dirC_zero h] at hdir; cases hdir
     have hdv : dirV es A (upS p) = zeroN := by unfold dirV; rw [if_neg hc0]
     have hev : errV ae (dirC es (upS p)) = .iface 132 (.pointer (some (ae (dirC es (upS p))))) := by unfold errV; rw [if_neg hc0]
     rw [hdv, hev] at HDi; cases d with
     | false =>
      go_enter Tryd.func55, Tryd.ntmps55
      go_wp2_with (first | (go_at_call 67; rw [← hW0]; refine (HO.out _).mono ?_; rintro e w1 ⟨rfl, hB1⟩; have HX1 := HX.out.below hB1; have e2 := HX1.e2; clear HX1) | (go_at_call 68; refine (HD.out _).mono ?_; rintro e w2 ⟨rfl, hB2⟩; have HX2 := (HX.out.below hB1).below hB2; have e1' := HX2.e1; have e2' := HX2.e2; clear HX2) | fail)
      clear e2 e1' e2'; have HX2 := hid ((HX.out.below hB1).below hB2); have HR2 := hid ((HR.out.below hB1).below hB2); have HE2 := hid ((HE.out.below hB1).below hB2); have hB02 : Below w.heap.size w w2 := (hBw.trans (hB1.mono hBw.size)).trans (hB2.mono (Nat.le_trans hBw.size hB1.size)); have hw2 : w.heap.size + 1 < w2.heap.size := World.block_lt_of_cell? w2 ⟨w.heap.size + 1, 0, none⟩ HX2.out.e0
      have AS : Hid (∀ W', Below w2.heap.size w2 W' → (W'.cell? ⟨w.heap.size, 0, none⟩ = some (.bool true) ∧ W'.cell? ⟨w.heap.size, 1, none⟩ = some (.string ⟨#[]⟩) ∧ W'.cell? ⟨w.heap.size, 2, none⟩ = some (.map (some (A ⟨#[47]⟩))) ∧ W'.cell? ⟨w.heap.size + 1, 0, none⟩ = some (.string p))) := fun W' hW => by
       have := HX2.out.below hW; exact ⟨this.t0, this.t1, this.t2, this.e0⟩
      have AR : Hid (∀ W', Below w2.heap.size w2 W' → Rep W' base N es A) := fun W' hW => HR2.out.below hW; have AE : Hid (∀ W', Below w2.heap.size w2 W' → Errs2 W' ae) := fun W' hW => HE2.out.below hW
      rename_i Qx Kx hKx
      have HK : Hid (∀ (b : Nat) (W : World), Below w2.heap.size w2 W → Kx { tmps := #[treeV A, .agg #[.string p, .bool false, .string x], .pointer (some ⟨w.heap.size, 0, none⟩), .pointer (some ⟨w.heap.size + 1, 0, none⟩), .bool false, .pointer (some ⟨b, 0, none⟩), .iface 132 (.pointer (some (ae (dirC es (upS p))))), .pointer (some ⟨w.heap.size + 1, 0, none⟩), .string p, .bool true, .bool false, .bool false, .pointer (some ⟨w.heap.size + 1, 2, none⟩), .string x, .bool true, .bool false, .bool false, .bool false, .pointer (some ⟨w.heap.size + 1, 1, none⟩), .bool false, .bool false, undef, undef, undef, .bool false, .bool false, .tuple #[zeroN, .iface 132 (.pointer (some (ae (dirC es (upS p)))))], treeV A, .pointer (some ⟨w.heap.size + 1, 0, none⟩), .string p, .string (upS p), .tuple #[zeroN, .iface 132 (.pointer (some (ae (dirC es (upS p)))))], zeroN, .iface 132 (.pointer (some (ae (dirC es (upS p))))), undef, undef, undef, undef, undef, undef, undef, undef, undef, undef, undef, undef, undef, undef, undef, undef, undef, undef], defers := [] } W) := by
       intro b W hBW; refine hKx _ _ ?_; go_wp2
       go_ret
       exact ⟨rfl, Turn.of_below (hB02.trans (hBW.mono (by omega))) hb, fun h => by cases h⟩
      clear hKx
      go_region_held3 (fun W' => W'.cell? ⟨w.heap.size, 0, none⟩ = some (.bool true) ∧ W'.cell? ⟨w.heap.size, 1, none⟩ = some (.string ⟨#[]⟩) ∧ W'.cell? ⟨w.heap.size, 2, none⟩ = some (.map (some (A ⟨#[47]⟩))) ∧ W'.cell? ⟨w.heap.size + 1, 0, none⟩ = some (.string p))
       ((refine AS.out _ ?_; repeat (first | exact Below.refl _ _ | apply belowA | refine belowT ?_ hB4 | refine belowT ?_ hB3 | apply Below.drew | refine set3_below ?_ (by first | exact Nat.le_refl _ | (have h3 := hB3.size; have h4 := hB4.size; simp at h3 h4 ⊢; omega)) _ _ _)))
       (first | (go_at_call 70; refine (HU.out _).mono ?_; rintro e w3 ⟨rfl, hB3⟩; obtain ⟨bc3, bf3⟩ := bcellN hB3; have l3 := hB3.size; (try simp at l3); (try (have z0 := bc3 w2.heap.size 0 (lt_allocD _ _); have z1 := bc3 w2.heap.size 1 (lt_allocD _ _); have z2 := bc3 w2.heap.size 2 (lt_allocD _ _); have z3 := bf3 w2.heap.size 0 (lt_allocD _ _); have z4 := bf3 w2.heap.size 1 (lt_allocD _ _); have z5 := bf3 w2.heap.size 2 (lt_allocD _ _); simp at z0 z1 z2 z3 z4 z5)); clear bc3 bf3) | (go_at_call 69; refine (HDi.out _ (AR.out _ (by repeat (first | exact Below.refl _ _ | apply belowA | refine belowT ?_ hB3 | apply Below.drew))) (AE.out _ (by repeat (first | exact Below.refl _ _ | apply belowA | refine belowT ?_ hB3 | apply Below.drew)))).mono ?_; rintro e w4 ⟨rfl, hB4⟩; obtain ⟨bc4, bf4⟩ := bcellN hB4; have l4 := hB4.size; (try simp at l4); (try (have z0 := bc4 w3.heap.size 0 (lt_alloc _ _); have z1 := bc4 w3.heap.size 1 (lt_alloc _ _); have z2 := bc4 w3.heap.size 2 (lt_alloc _ _); have z3 := bf4 w3.heap.size 0 (lt_alloc _ _); have z4 := bf4 w3.heap.size 1 (lt_alloc _ _); have z5 := bf4 w3.heap.size 2 (lt_alloc _ _); simp at z0 z1 z2 z3 z4 z5)); (try (have v0 := (bc4 w2.heap.size 0 l3).trans z0; have v1 := (bc4 w2.heap.size 1 l3).trans z1; have v2 := (bc4 w2.heap.size 2 l3).trans z2; have v3 := (bf4 w2.heap.size 0 l3).trans z3; have v4 := (bf4 w2.heap.size 1 l3).trans z4; have v5 := (bf4 w2.heap.size 2 l3).trans z5)); clear bc4 bf4))
      all_goals exact HK.out _ _ (by repeat (first | exact Below.refl _ _ | apply belowA | refine belowT ?_ hB4 | refine belowT ?_ hB3 | apply Below.drew | refine set3_below ?_ (by first | exact Nat.le_refl _ | (have h3 := hB3.size; have h4 := hB4.size; simp at h3 h4 ⊢; omega)) _ _ _))
     | true =>
      have hemp := hcond' rfl; have hemp' : x.toList = [] := by simpa using hemp
      go_enter Tryd.func55, Tryd.ntmps55
      go_wp2_with (first | (go_at_call 67; rw [← hW0]; refine (HO.out _).mono ?_; rintro e w1 ⟨rfl, hB1⟩; have HX1 := HX.out.below hB1; have e2 := HX1.e2; clear HX1) | (go_at_call 68; refine (HD.out _).mono ?_; rintro e w2 ⟨rfl, hB2⟩; have HX2 := (HX.out.below hB1).below hB2; have e1' := HX2.e1; have e2' := HX2.e2; clear HX2) | fail)
      clear e2 e1' e2'; have HX2 := hid ((HX.out.below hB1).below hB2); have HR2 := hid ((HR.out.below hB1).below hB2); have HE2 := hid ((HE.out.below hB1).below hB2); have hB02 : Below w.heap.size w w2 := (hBw.trans (hB1.mono hBw.size)).trans (hB2.mono (Nat.le_trans hBw.size hB1.size)); have hw2 : w.heap.size + 1 < w2.heap.size := World.block_lt_of_cell? w2 ⟨w.heap.size + 1, 0, none⟩ HX2.out.e0
      have AS : Hid (∀ W', Below w2.heap.size w2 W' → (W'.cell? ⟨w.heap.size, 0, none⟩ = some (.bool true) ∧ W'.cell? ⟨w.heap.size, 1, none⟩ = some (.string ⟨#[]⟩) ∧ W'.cell? ⟨w.heap.size, 2, none⟩ = some (.map (some (A ⟨#[47]⟩))) ∧ W'.cell? ⟨w.heap.size + 1, 0, none⟩ = some (.string p))) := fun W' hW => by
       have := HX2.out.below hW; exact ⟨this.t0, this.t1, this.t2, this.e0⟩
      have AR : Hid (∀ W', Below w2.heap.size w2 W' → Rep W' base N es A) := fun W' hW => HR2.out.below hW; have AE : Hid (∀ W', Below w2.heap.size w2 W' → Errs2 W' ae) := fun W' hW => HE2.out.below hW
      rename_i Qx Kx hKx
      have HK : Hid (∀ (b : Nat) (W : World), Below w2.heap.size w2 W → Kx { tmps := #[treeV A, .agg #[.string p, .bool true, .string x], .pointer (some ⟨w.heap.size, 0, none⟩), .pointer (some ⟨w.heap.size + 1, 0, none⟩), .bool false, .pointer (some ⟨b, 0, none⟩), .iface 132 (.pointer (some (ae (dirC es (upS p))))), .pointer (some ⟨w.heap.size + 1, 0, none⟩), .string p, .bool true, .bool false, .bool false, .pointer (some ⟨w.heap.size + 1, 2, none⟩), .string x, .bool true, .bool false, .bool false, .bool false, .pointer (some ⟨w.heap.size + 1, 1, none⟩), .bool true, .bool true, .pointer (some ⟨w.heap.size + 1, 2, none⟩), .string x, .bool false, .bool false, .bool false, .tuple #[zeroN, .iface 132 (.pointer (some (ae (dirC es (upS p)))))], treeV A, .pointer (some ⟨w.heap.size + 1, 0, none⟩), .string p, .string (upS p), .tuple #[zeroN, .iface 132 (.pointer (some (ae (dirC es (upS p)))))], zeroN, .iface 132 (.pointer (some (ae (dirC es (upS p))))), undef, undef, undef, undef, undef, undef, undef, undef, undef, undef, undef, undef, undef, undef, undef, undef, undef, undef], defers := [] } W) := by
       intro b W hBW; refine hKx _ _ ?_; go_wp2
       go_ret
       exact ⟨rfl, Turn.of_below (hB02.trans (hBW.mono (by omega))) hb, fun h => by cases h⟩
      clear hKx
      go_region_held3 (fun W' => W'.cell? ⟨w.heap.size, 0, none⟩ = some (.bool true) ∧ W'.cell? ⟨w.heap.size, 1, none⟩ = some (.string ⟨#[]⟩) ∧ W'.cell? ⟨w.heap.size, 2, none⟩ = some (.map (some (A ⟨#[47]⟩))) ∧ W'.cell? ⟨w.heap.size + 1, 0, none⟩ = some (.string p))
       ((refine AS.out _ ?_; repeat (first | exact Below.refl _ _ | apply belowA | refine belowT ?_ hB4 | refine belowT ?_ hB3 | apply Below.drew | refine set3_below ?_ (by first | exact Nat.le_refl _ | (have h3 := hB3.size; have h4 := hB4.size; simp at h3 h4 ⊢; omega)) _ _ _)))
       (first | (go_at_call 70; refine (HU.out _).mono ?_; rintro e w3 ⟨rfl, hB3⟩; obtain ⟨bc3, bf3⟩ := bcellN hB3; have l3 := hB3.size; (try simp at l3); (try (have z0 := bc3 w2.heap.size 0 (lt_allocD _ _); have z1 := bc3 w2.heap.size 1 (lt_allocD _ _); have z2 := bc3 w2.heap.size 2 (lt_allocD _ _); have z3 := bf3 w2.heap.size 0 (lt_allocD _ _); have z4 := bf3 w2.heap.size 1 (lt_allocD _ _); have z5 := bf3 w2.heap.size 2 (lt_allocD _ _); simp at z0 z1 z2 z3 z4 z5)); clear bc3 bf3) | (go_at_call 69; refine (HDi.out _ (AR.out _ (by repeat (first | exact Below.refl _ _ | apply belowA | refine belowT ?_ hB3 | apply Below.drew))) (AE.out _ (by repeat (first | exact Below.refl _ _ | apply belowA | refine belowT ?_ hB3 | apply Below.drew)))).mono ?_; rintro e w4 ⟨rfl, hB4⟩; obtain ⟨bc4, bf4⟩ := bcellN hB4; have l4 := hB4.size; (try simp at l4); (try (have z0 := bc4 w3.heap.size 0 (lt_alloc _ _); have z1 := bc4 w3.heap.size 1 (lt_alloc _ _); have z2 := bc4 w3.heap.size 2 (lt_alloc _ _); have z3 := bf4 w3.heap.size 0 (lt_alloc _ _); have z4 := bf4 w3.heap.size 1 (lt_alloc _ _); have z5 := bf4 w3.heap.size 2 (lt_alloc _ _); simp at z0 z1 z2 z3 z4 z5)); (try (have v0 := (bc4 w2.heap.size 0 l3).trans z0; have v1 := (bc4 w2.heap.size 1 l3).trans z1; have v2 := (bc4 w2.heap.size 2 l3).trans z2; have v3 := (bf4 w2.heap.size 0 l3).trans z3; have v4 := (bf4 w2.heap.size 1 l3).trans z4; have v5 := (bf4 w2.heap.size 2 l3).trans z5)); clear bc4 bf4))
      all_goals exact HK.out _ _ (by repeat (first | exact Below.refl _ _ | apply belowA | refine belowT ?_ hB4 | refine belowT ?_ hB3 | apply Below.drew | refine set3_below ?_ (by first | exact Nat.le_refl _ | (have h3 := hB3.size; have h4 := hB4.size; simp at h3 h4 ⊢; omega)) _ _ _))
    | true =>
     rw [hdir] at ha; rw [ha]; obtain ⟨xx, hxx⟩ := atE_dir (A := A) hdir; have hdv : dirV es A (upS p) = .agg #[.bool true, .string xx, .map (some (A (upS p)))] := by unfold dirV; rw [dirC_dir hdir, if_pos rfl, hxx]
     have hev : errV ae (dirC es (upS p)) = .nilIface := by rw [dirC_dir hdir]; rfl
     rw [hdv, hev] at HDi; have HN5 := hid (fun W => iPathName_any p hp W)
     have hnz : (nmS p).size ≤ maxLen := by
      have := (up_facts hpb).2.2.1; unfold nameB at this; rw [Bool.and_eq_true] at this; have := (of_decide_eq_true this.1).2; unfold maxLen; omega
     cases d with
     | false =>
      go_enter Tryd.func55, Tryd.ntmps55
      go_wp2_with (first | (go_at_call 67; rw [← hW0]; refine (HO.out _).mono ?_; rintro e w1 ⟨rfl, hB1⟩; have HX1 := HX.out.below hB1; have e2 := HX1.e2; clear HX1) | (go_at_call 68; refine (HD.out _).mono ?_; rintro e w2 ⟨rfl, hB2⟩; have HX2 := (HX.out.below hB1).below hB2; have e1' := HX2.e1; have e2' := HX2.e2; clear HX2) | fail)
      clear e2 e1' e2'; have HX2 := hid ((HX.out.below hB1).below hB2); have HR2 := hid ((HR.out.below hB1).below hB2); have HE2 := hid ((HE.out.below hB1).below hB2); have hB02 : Below w.heap.size w w2 := (hBw.trans (hB1.mono hBw.size)).trans (hB2.mono (Nat.le_trans hBw.size hB1.size)); have hw2 : w.heap.size + 1 < w2.heap.size := World.block_lt_of_cell? w2 ⟨w.heap.size + 1, 0, none⟩ HX2.out.e0
      have AS : Hid (∀ W', Below w2.heap.size w2 W' → (W'.cell? ⟨w.heap.size, 0, none⟩ = some (.bool true) ∧ W'.cell? ⟨w.heap.size, 1, none⟩ = some (.string ⟨#[]⟩) ∧ W'.cell? ⟨w.heap.size, 2, none⟩ = some (.map (some (A ⟨#[47]⟩))) ∧ W'.cell? ⟨w.heap.size + 1, 0, none⟩ = some (.string p))) := fun W' hW => by
       have := HX2.out.below hW; exact ⟨this.t0, this.t1, this.t2, this.e0⟩
      have AR : Hid (∀ W', Below w2.heap.size w2 W' → Rep W' base N es A) := fun W' hW => HR2.out.below hW; have AE : Hid (∀ W', Below w2.heap.size w2 W' → Errs2 W' ae) := fun W' hW => HE2.out.below hW
      rename_i Qx Kx hKx
      have HF6 := hid (fun W => newFile_any x (by omega) W)
      have HK : Hid (∀ (b : Nat) (W : World), Below w2.heap.size w2 W → W.cell? ⟨b, 2, none⟩ = some (.map (some (A (upS p)))) → Kx { tmps := #[treeV A, .agg #[.string p, .bool false, .string x], .pointer (some ⟨w.heap.size, 0, none⟩), .pointer (some ⟨w.heap.size + 1, 0, none⟩), .bool false, .pointer (some ⟨b, 0, none⟩), .nilIface, .pointer (some ⟨w.heap.size + 1, 0, none⟩), .string p, .bool true, .bool false, .bool false, .pointer (some ⟨w.heap.size + 1, 2, none⟩), .string x, .bool true, .bool false, .bool false, .bool false, .pointer (some ⟨w.heap.size + 1, 1, none⟩), .bool false, .bool false, undef, undef, undef, .bool false, .bool false, .tuple #[.agg #[.bool true, .string xx, .map (some (A (upS p)))], .nilIface], treeV A, .pointer (some ⟨w.heap.size + 1, 0, none⟩), .string p, .string (upS p), .tuple #[.agg #[.bool true, .string xx, .map (some (A (upS p)))], .nilIface], .agg #[.bool true, .string xx, .map (some (A (upS p)))], .nilIface, undef, undef, undef, undef, undef, undef, undef, undef, undef, undef, undef, undef, undef, undef, undef, undef, undef, undef], defers := [] } W) := by
       intro b W hBW hb2; refine hKx _ _ ?_; obtain ⟨y0, y1, y2, y3, y4, y5⟩ := HX2.out.below hBW; have hbW : base ≤ W.heap.size := Nat.le_trans hb (Nat.le_trans hB02.size hBW.size); have AS2 : Hid (∀ W', Turn base W W' → (W'.cell? ⟨b, 2, none⟩ = some (.map (some (A (upS p)))) ∧ W'.cell? ⟨w.heap.size + 1, 0, none⟩ = some (.string p) ∧ W'.cell? ⟨w.heap.size + 1, 2, none⟩ = some (.string x))) := fun W' hW => ⟨hW.cell hb2, hW.cell y3, hW.cell y5⟩; go_wp2
       go_region_held3 (fun W' => W'.cell? ⟨b, 2, none⟩ = some (.map (some (A (upS p)))) ∧ W'.cell? ⟨w.heap.size + 1, 0, none⟩ = some (.string p) ∧ W'.cell? ⟨w.heap.size + 1, 2, none⟩ = some (.string x))
        ((first | exact AS2.out _ ((Turn.of_below (belowT (belowT (Below.refl _ _).drew hB5) hB6) hbW).trans (Turn.of_map ht7 ((AR.out _ hBW).low _ hdir))) | exact AS2.out _ (Turn.of_below (belowT (belowT (Below.refl _ _).drew hB5) hB6) hbW) | exact AS2.out _ (Turn.of_below (belowT (Below.refl _ _).drew hB5) hbW) | exact AS2.out _ (Turn.of_below (Below.refl _ _).drew hbW)))
        (first | (go_at_call 71; refine (HN5.out _).mono ?_; rintro e w5 ⟨rfl, hB5⟩) | (go_at_call 72; refine (HF6.out _).mono ?_; rintro e w6 ⟨rfl, hB6⟩; obtain ⟨w7, hst, hm7, ht7⟩ := ((AR.out _ (belowT (belowT hBW.drew hB5) hB6)).kids _ hdir).store (by unfold maxLen; omega) hnz (.agg #[.bool false, .string x, .map none])))
       have RW6 := AR.out _ (belowT (belowT hBW.drew hB5) hB6); have fin := add_fin (e := ⟨p, false, x⟩) (a := 0) T RW6 (Turn.of_below ((hB02.trans (hBW.mono (by omega))).trans ((belowT (belowT (Below.refl _ _).drew hB5) hB6).mono (Nat.le_trans hB02.size hBW.size))) hb) hpb hdir hl hm7 ht7 (fun h => by cases h); go_wp2
       go_ret
       exact ⟨rfl, fin.1, fun _ => fin.2⟩
      clear hKx
      go_region_held3 (fun W' => W'.cell? ⟨w.heap.size, 0, none⟩ = some (.bool true) ∧ W'.cell? ⟨w.heap.size, 1, none⟩ = some (.string ⟨#[]⟩) ∧ W'.cell? ⟨w.heap.size, 2, none⟩ = some (.map (some (A ⟨#[47]⟩))) ∧ W'.cell? ⟨w.heap.size + 1, 0, none⟩ = some (.string p))
       ((refine AS.out _ ?_; repeat (first | exact Below.refl _ _ | apply belowA | refine belowT ?_ hB4 | refine belowT ?_ hB3 | apply Below.drew | refine set3_below ?_ (by first | exact Nat.le_refl _ | (have h3 := hB3.size; have h4 := hB4.size; simp at h3 h4 ⊢; omega)) _ _ _)))
       (first | (go_at_call 70; refine (HU.out _).mono ?_; rintro e w3 ⟨rfl, hB3⟩; obtain ⟨bc3, bf3⟩ := bcellN hB3; have l3 := hB3.size; (try simp at l3); (try (have z0 := bc3 w2.heap.size 0 (lt_allocD _ _); have z1 := bc3 w2.heap.size 1 (lt_allocD _ _); have z2 := bc3 w2.heap.size 2 (lt_allocD _ _); have z3 := bf3 w2.heap.size 0 (lt_allocD _ _); have z4 := bf3 w2.heap.size 1 (lt_allocD _ _); have z5 := bf3 w2.heap.size 2 (lt_allocD _ _); simp at z0 z1 z2 z3 z4 z5)); clear bc3 bf3) | (go_at_call 69; refine (HDi.out _ (AR.out _ (by repeat (first | exact Below.refl _ _ | apply belowA | refine belowT ?_ hB3 | apply Below.drew))) (AE.out _ (by repeat (first | exact Below.refl _ _ | apply belowA | refine belowT ?_ hB3 | apply Below.drew)))).mono ?_; rintro e w4 ⟨rfl, hB4⟩; obtain ⟨bc4, bf4⟩ := bcellN hB4; have l4 := hB4.size; (try simp at l4); (try (have z0 := bc4 w3.heap.size 0 (lt_alloc _ _); have z1 := bc4 w3.heap.size 1 (lt_alloc _ _); have z2 := bc4 w3.heap.size 2 (lt_alloc _ _); have z3 := bf4 w3.heap.size 0 (lt_alloc _ _); have z4 := bf4 w3.heap.size 1 (lt_alloc _ _); have z5 := bf4 w3.heap.size 2 (lt_alloc _ _); simp at z0 z1 z2 z3 z4 z5)); (try (have v0 := (bc4 w2.heap.size 0 l3).trans z0; have v1 := (bc4 w2.heap.size 1 l3).trans z1; have v2 := (bc4 w2.heap.size 2 l3).trans z2; have v3 := (bf4 w2.heap.size 0 l3).trans z3; have v4 := (bf4 w2.heap.size 1 l3).trans z4; have v5 := (bf4 w2.heap.size 2 l3).trans z5)); clear bc4 bf4))
      all_goals refine HK.out _ _ (by repeat (first | exact Below.refl _ _ | apply belowA | refine belowT ?_ hB4 | refine belowT ?_ hB3 | apply Below.drew | refine set3_below ?_ (by first | exact Nat.le_refl _ | (have h3 := hB3.size; have h4 := hB4.size; simp at h3 h4 ⊢; omega)) _ _ _)) ?_
      all_goals first | exact (set3_cells v0 v1 v2 _ _ _).2.2 | exact (set3_cells z0 z1 z2 _ _ _).2.2 | simp
     | true =>
      have hemp := hcond' rfl; have hemp' : x.toList = [] := by simpa using hemp
      go_enter Tryd.func55, Tryd.ntmps55
      go_wp2_with (first | (go_at_call 67; rw [← hW0]; refine (HO.out _).mono ?_; rintro e w1 ⟨rfl, hB1⟩; have HX1 := HX.out.below hB1; have e2 := HX1.e2; clear HX1) | (go_at_call 68; refine (HD.out _).mono ?_; rintro e w2 ⟨rfl, hB2⟩; have HX2 := (HX.out.below hB1).below hB2; have e1' := HX2.e1; have e2' := HX2.e2; clear HX2) | fail)
      clear e2 e1' e2'; have HX2 := hid ((HX.out.below hB1).below hB2); have HR2 := hid ((HR.out.below hB1).below hB2); have HE2 := hid ((HE.out.below hB1).below hB2); have hB02 : Below w.heap.size w w2 := (hBw.trans (hB1.mono hBw.size)).trans (hB2.mono (Nat.le_trans hBw.size hB1.size)); have hw2 : w.heap.size + 1 < w2.heap.size := World.block_lt_of_cell? w2 ⟨w.heap.size + 1, 0, none⟩ HX2.out.e0
      have AS : Hid (∀ W', Below w2.heap.size w2 W' → (W'.cell? ⟨w.heap.size, 0, none⟩ = some (.bool true) ∧ W'.cell? ⟨w.heap.size, 1, none⟩ = some (.string ⟨#[]⟩) ∧ W'.cell? ⟨w.heap.size, 2, none⟩ = some (.map (some (A ⟨#[47]⟩))) ∧ W'.cell? ⟨w.heap.size + 1, 0, none⟩ = some (.string p))) := fun W' hW => by
       have := HX2.out.below hW; exact ⟨this.t0, this.t1, this.t2, this.e0⟩
      have AR : Hid (∀ W', Below w2.heap.size w2 W' → Rep W' base N es A) := fun W' hW => HR2.out.below hW; have AE : Hid (∀ W', Below w2.heap.size w2 W' → Errs2 W' ae) := fun W' hW => HE2.out.below hW
      rename_i Qx Kx hKx
      have HF6 := hid (fun W => newFile_any x (by omega) W)
      have HK : Hid (∀ (b : Nat) (W : World), Below w2.heap.size w2 W → W.cell? ⟨b, 2, none⟩ = some (.map (some (A (upS p)))) → Kx { tmps := #[treeV A, .agg #[.string p, .bool true, .string x], .pointer (some ⟨w.heap.size, 0, none⟩), .pointer (some ⟨w.heap.size + 1, 0, none⟩), .bool false, .pointer (some ⟨b, 0, none⟩), .nilIface, .pointer (some ⟨w.heap.size + 1, 0, none⟩), .string p, .bool true, .bool false, .bool false, .pointer (some ⟨w.heap.size + 1, 2, none⟩), .string x, .bool true, .bool false, .bool false, .bool false, .pointer (some ⟨w.heap.size + 1, 1, none⟩), .bool true, .bool true, .pointer (some ⟨w.heap.size + 1, 2, none⟩), .string x, .bool false, .bool false, .bool false, .tuple #[.agg #[.bool true, .string xx, .map (some (A (upS p)))], .nilIface], treeV A, .pointer (some ⟨w.heap.size + 1, 0, none⟩), .string p, .string (upS p), .tuple #[.agg #[.bool true, .string xx, .map (some (A (upS p)))], .nilIface], .agg #[.bool true, .string xx, .map (some (A (upS p)))], .nilIface, undef, undef, undef, undef, undef, undef, undef, undef, undef, undef, undef, undef, undef, undef, undef, undef, undef, undef], defers := [] } W) := by
       intro b W hBW hb2; refine hKx _ _ ?_; obtain ⟨y0, y1, y2, y3, y4, y5⟩ := HX2.out.below hBW; have hbW : base ≤ W.heap.size := Nat.le_trans hb (Nat.le_trans hB02.size hBW.size); have AS2 : Hid (∀ W', Turn base W W' → (W'.cell? ⟨b, 2, none⟩ = some (.map (some (A (upS p)))) ∧ W'.cell? ⟨w.heap.size + 1, 0, none⟩ = some (.string p) ∧ W'.cell? ⟨w.heap.size + 1, 2, none⟩ = some (.string x))) := fun W' hW => ⟨hW.cell hb2, hW.cell y3, hW.cell y5⟩; go_wp2
       go_region_held3 (fun W' => W'.cell? ⟨b, 2, none⟩ = some (.map (some (A (upS p)))) ∧ W'.cell? ⟨w.heap.size + 1, 0, none⟩ = some (.string p) ∧ W'.cell? ⟨w.heap.size + 1, 2, none⟩ = some (.string x))
        ((first | exact AS2.out _ ((Turn.of_below (belowT (belowT (Below.refl _ _).drew hB5) hB6) hbW).trans (Turn.of_map ht7 ((AR.out _ hBW).low _ hdir))) | exact AS2.out _ (Turn.of_below (belowT (belowT (Below.refl _ _).drew hB5) hB6) hbW) | exact AS2.out _ (Turn.of_below (belowT (Below.refl _ _).drew hB5) hbW) | exact AS2.out _ (Turn.of_below (Below.refl _ _).drew hbW)))
        (first | (go_at_call 71; refine (HN5.out _).mono ?_; rintro e w5 ⟨rfl, hB5⟩) | (go_at_call 54; refine (newDir_any _).mono ?_; rintro e w6 ⟨rfl, hM6, hB6⟩; obtain ⟨w7, hst, hm7, ht7⟩ := ((AR.out _ (belowT (belowT hBW.drew hB5) hB6)).kids _ hdir).store (by unfold maxLen; omega) hnz (.agg #[.bool true, .string ⟨#[]⟩, .map (some (w5.heap.size + 1))])))
       have RW6 := AR.out _ (belowT (belowT hBW.drew hB5) hB6); have hx0 : x = ⟨#[]⟩ := notEmpty.1 (by rw [hemp']; rfl); have hszW : w.heap.size ≤ w5.heap.size := Nat.le_trans hB02.size (Nat.le_trans hBW.size hB5.size)
       have fin := add_fin (e := ⟨p, true, x⟩) (a := w5.heap.size + 1) T RW6 (Turn.of_below ((hB02.trans (hBW.mono (by omega))).trans ((belowT (belowT (Below.refl _ _).drew hB5) hB6).mono (Nat.le_trans hB02.size hBW.size))) hb) hpb hdir hl (by rw [hx0]; exact hm7) ht7 (fun _ => ⟨hM6, by omega, fun q hq h => by
        have := ((AR.out _ (belowT hBW.drew hB5)).kids q hq).lt; omega⟩)
       go_wp2
       go_ret
       exact ⟨rfl, fin.1, fun _ => fin.2⟩
      clear hKx
      go_region_held3 (fun W' => W'.cell? ⟨w.heap.size, 0, none⟩ = some (.bool true) ∧ W'.cell? ⟨w.heap.size, 1, none⟩ = some (.string ⟨#[]⟩) ∧ W'.cell? ⟨w.heap.size, 2, none⟩ = some (.map (some (A ⟨#[47]⟩))) ∧ W'.cell? ⟨w.heap.size + 1, 0, none⟩ = some (.string p))
       ((refine AS.out _ ?_; repeat (first | exact Below.refl _ _ | apply belowA | refine belowT ?_ hB4 | refine belowT ?_ hB3 | apply Below.drew | refine set3_below ?_ (by first | exact Nat.le_refl _ | (have h3 := hB3.size; have h4 := hB4.size; simp at h3 h4 ⊢; omega)) _ _ _)))
       (first | (go_at_call 70; refine (HU.out _).mono ?_; rintro e w3 ⟨rfl, hB3⟩; obtain ⟨bc3, bf3⟩ := bcellN hB3; have l3 := hB3.size; (try simp at l3); (try (have z0 := bc3 w2.heap.size 0 (lt_allocD _ _); have z1 := bc3 w2.heap.size 1 (lt_allocD _ _); have z2 := bc3 w2.heap.size 2 (lt_allocD _ _); have z3 := bf3 w2.heap.size 0 (lt_allocD _ _); have z4 := bf3 w2.heap.size 1 (lt_allocD _ _); have z5 := bf3 w2.heap.size 2 (lt_allocD _ _); simp at z0 z1 z2 z3 z4 z5)); clear bc3 bf3) | (go_at_call 69; refine (HDi.out _ (AR.out _ (by repeat (first | exact Below.refl _ _ | apply belowA | refine belowT ?_ hB3 | apply Below.drew))) (AE.out _ (by repeat (first | exact Below.refl _ _ | apply belowA | refine belowT ?_ hB3 | apply Below.drew)))).mono ?_; rintro e w4 ⟨rfl, hB4⟩; obtain ⟨bc4, bf4⟩ := bcellN hB4; have l4 := hB4.size; (try simp at l4); (try (have z0 := bc4 w3.heap.size 0 (lt_alloc _ _); have z1 := bc4 w3.heap.size 1 (lt_alloc _ _); have z2 := bc4 w3.heap.size 2 (lt_alloc _ _); have z3 := bf4 w3.heap.size 0 (lt_alloc _ _); have z4 := bf4 w3.heap.size 1 (lt_alloc _ _); have z5 := bf4 w3.heap.size 2 (lt_alloc _ _); simp at z0 z1 z2 z3 z4 z5)); (try (have v0 := (bc4 w2.heap.size 0 l3).trans z0; have v1 := (bc4 w2.heap.size 1 l3).trans z1; have v2 := (bc4 w2.heap.size 2 l3).trans z2; have v3 := (bf4 w2.heap.size 0 l3).trans z3; have v4 := (bf4 w2.heap.size 1 l3).trans z4; have v5 := (bf4 w2.heap.size 2 l3).trans z5)); clear bc4 bf4))
      all_goals refine HK.out _ _ (by repeat (first | exact Below.refl _ _ | apply belowA | refine belowT ?_ hB4 | refine belowT ?_ hB3 | apply Below.drew | refine set3_below ?_ (by first | exact Nat.le_refl _ | (have h3 := hB3.size; have h4 := hB4.size; simp at h3 h4 ⊢; omega)) _ _ _)) ?_
      all_goals first | exact (set3_cells v0 v1 v2 _ _ _).2.2 | exact (set3_cells z0 z1 z2 _ _ _).2.2 | simp
end Go.Proofs.YtoaipphccjkphaaDoor
namespace Go.Proofs.YtoaipphccjkphaaDoor
open Go.RowKit Go.Shelf Go.Lib
attribute [local go_sem] Oper.semAt_some
def lastP (es : List E) (k : Nat) : ByteArray := match k with
 | 0 => ⟨#[]⟩
 | j + 1 => ((es[j]?).map (·.p)).getD ⟨#[]⟩
theorem lastP_succ {es : List E} {k : Nat} (h : k < es.length) : lastP es (k + 1) = es[k].p := by
 show ((es[k]?).map (·.p)).getD ⟨#[]⟩ = _
 rw [List.getElem?_eq_getElem h]; rfl
theorem okAt_less {es : List E} {k : Nat} (h : k < es.length) (hl : less (lastP es k) es[k].p) : okAt es k = addB (es.take k) es[k] := by
 rw [Bool.eq_iff_iff, okAt_parts h]; unfold addB; simp only [Bool.and_eq_true, Bool.not_eq_true', Bool.and_eq_false_iff]
 constructor
 ·
  rintro ⟨h1, h2, h3, _, h5⟩; refine ⟨⟨h1, h2, ?_⟩, h5⟩; cases hd : es[k].d with
  | false => exact .inl rfl
  | true => exact .inr (by rw [notEmpty.2 (h3 hd)]; rfl)
 ·
  rintro ⟨⟨h1, h2, h3⟩, h5⟩; refine ⟨h1, h2, fun hd => ?_, ?_, h5⟩
  ·
   rcases h3 with h3 | h3
   ·
    rw [hd] at h3; cases h3
   ·
    exact notEmpty.1 (by simpa using h3)
  ·
   cases k with
   | zero => exact .inl rfl
   | succ j => exact .inr ⟨by omega, by rw [lastP_succ (by omega)] at hl; exact hl⟩
theorem okAt_not {es : List E} {k : Nat} (h : k < es.length) (hl : ¬ less (lastP es k) es[k].p) : okAt es k = false := by
 cases ho : okAt es k with
 | false => rfl
 | true =>
  exfalso
  obtain ⟨h1, _, _, h4, _⟩ := (okAt_parts h).1 ho; cases k with
  | zero =>
   have := pathB_head _ h1; refine hl (less_L.2 ?_); show Op.bytesLess [] (L es[0].p) = true
   have hlen := L_len es[0].p; cases hq : L es[0].p with
   | nil => rw [hq] at hlen; simp at hlen; omega
   | cons y r => rfl
  | succ j =>
   rcases h4 with h4 | ⟨h5, h4⟩
   ·
    omega
   ·
    rw [lastP_succ (by omega)] at hl; exact hl h4
theorem take_less {es : List E} {k : Nat} (h : k < es.length) (T : TrE (es.take k)) (hl : less (lastP es k) es[k].p) : ∀ f ∈ es.take k, less f.p es[k].p := by
 cases k with
 | zero => intro f hf; rw [List.take_zero] at hf; cases hf
 | succ j =>
  rw [lastP_succ (by omega)] at hl; exact last_less T.sort (k := j) (by rw [List.length_take]; omega) (by rw [List.length_take]; omega) (by rw [List.getElem_take]; exact hl)
theorem rep_nil {w : World} {base b : Nat} (hb : base ≤ b) (h : MapIs w b 0 (fun _ => none)) : Rep w base 0 [] (fun _ => b) := by
 have root : ∀ p, dirE [] p = true → p = ⟨#[47]⟩ := fun p hp => by
  rcases dir_look hp with h | ⟨e, h, _⟩
  ·
   exact h
  ·
   cases h
 refine ⟨fun p _ => h.congr fun n => ?_, fun _ _ => hb, fun p q hp hq _ => (root p hp).trans (root q hq).symm⟩; unfold kidF
 split <;> rfl
theorem leq_not (a b : List UInt8) : (Op.bytesLess a b || a == b) = !Op.bytesLess b a := by
 cases hb : Op.bytesLess b a with
 | true =>
  have h1 : Op.bytesLess a b = false := by
   cases h : Op.bytesLess a b with
   | false => rfl
   | true => have := bless_trans _ _ _ h hb; rw [bless_irrefl] at this; cases this
  have h2 : (a == b) = false := by
   rw [beq_eq_false_iff_ne]; intro e; rw [e, bless_irrefl] at hb; cases hb
  rw [h1, h2]; rfl
 | false =>
  by_cases e : a = b
  ·
   subst e; simp
  ·
   rw [less_total _ _ hb (fun q => e q.symm)]; rfl
theorem atSet3K {W w : World} {n b : Nat} {p q r u v x : Value} {C : World → Prop} (h0 : W.cell? ⟨b, 0, none⟩ = some p) (h1 : W.cell? ⟨b, 1, none⟩ = some q) (h2 : W.cell? ⟨b, 2, none⟩ = some r) (hB : Below n w W) (hb : n ≤ b)
  (k : ∀ Wf, Wf.cell? ⟨b, 0, none⟩ = some u → Wf.cell? ⟨b, 1, none⟩ = some v → Wf.cell? ⟨b, 2, none⟩ = some x → Below n w Wf → KeepsOthers W Wf → C Wf) : C (set3 W b u v x) := by
 obtain ⟨s0, s1, s2⟩ := set3_cells h0 h1 h2 u v x; exact k _ s0 s1 s2 (set3_below hB hb u v x) (set3_keeps W b u v x)
structure OfBox (W : World) (b c m : Nat) : Prop where
 r0 : ∃ v, W.cell? ⟨b, 0, none⟩ = some v
 r1 : ∃ v, W.cell? ⟨b, 1, none⟩ = some v
 r2 : ∃ v, W.cell? ⟨b, 2, none⟩ = some v
 f0 : W.frozen? ⟨b, 0, none⟩ = false
 f1 : W.frozen? ⟨b, 1, none⟩ = false
 f2 : W.frozen? ⟨b, 2, none⟩ = false
 t0 : W.cell? ⟨c, 0, none⟩ = some (.bool true)
 t1 : W.cell? ⟨c, 1, none⟩ = some (.string ⟨#[]⟩)
 t2 : W.cell? ⟨c, 2, none⟩ = some (.map (some m))
theorem OfBox.turn {base : Nat} {W W' : World} {b c m : Nat} (h : OfBox W b c m) (t : Turn base W W') : OfBox W' b c m := by
 obtain ⟨⟨v0, r0⟩, ⟨v1, r1⟩, ⟨v2, r2⟩, f0, f1, f2, t0, t1, t2⟩ := h; exact ⟨⟨_, t.cell r0⟩, ⟨_, t.cell r1⟩, ⟨_, t.cell r2⟩, t.frozen r0 f0, t.frozen r1 f1, t.frozen r2 f2, t.cell t0, t.cell t1, t.cell t2⟩
set_option maxHeartbeats 2000000 in
set_option maxRecDepth 100000 in
theorem treeOf_any (w : World) (a : Option Addr) (g o cap : Nat) (es : List E) (ae : Int → Addr) (hErr : Errs2 w ae) (hl : es.length ≤ 16777216) (hz : ∀ e ∈ es, e.p.size ≤ 16777216 ∧ e.x.size ≤ 16777216) (ha : 0 < es.length → a = some ⟨g, o, none⟩) (hE : Ents w g o es) :
  Calls Tryd.prog 31 #[.slice a es.length cap] w fun r w' => ∃ A, r = .returned (.tuple #[treeV A, .bool (treeE es)]) ∧ Below w.heap.size w w' ∧ (treeE es = true → Rep w' w.heap.size 16 es A) := by
 have HE := hidE hE; have HZ := hidE hz; have HEr := hidE hErr; clear hE hz hErr; by_cases h16 : es.length ≤ 16
 ·
  go_enter Tryd.func31, Tryd.ntmps31
  go_wp2_with (first | (go_at_call 54; refine (newDir_any _).mono ?_; rintro e w1 ⟨rfl, hM1, hB1⟩; obtain ⟨⟨k0, k1, k2⟩, a0, a1, a2, b0, b1, b2⟩ := boxOn (b := w.heap.size) (p := .bool false) (q := .string ⟨#[]⟩) (r := .map none) hB1 (by simp) (box3one w _ _ _ _)) | fail)
  have hB01 : Below w.heap.size w w1 := ((Below.refl _ w).alloc (Nat.le_refl _) _).trans (hB1.mono (by simp)); simp only [World.size_alloc] at hM1; have hsz1 : w.heap.size + 1 < w1.heap.size := by have := hM1.lt; omega
  have HB0 := hidE (OfBox.mk (b := w.heap.size) (c := w1.heap.size) (m := w.heap.size + 1 + 1) ⟨_, a0 (.cells #[.bool true, .string ⟨#[]⟩, .map (some (w.heap.size + 1 + 1))] 64)⟩ ⟨_, a1 _⟩ ⟨_, a2 _⟩ (b0 _) (b1 _) (b2 _) (by simp : (w1.alloc (.cells #[.bool true, .string ⟨#[]⟩, .map (some (w.heap.size + 1 + 1))] 64)).cell? ⟨w1.heap.size, 0, none⟩ = _) (by simp) (by simp)); have HR0 := hidE (rep_nil (base := w.heap.size) (by omega) (hM1.kept (w' := w1.alloc (.cells #[.bool true, .string ⟨#[]⟩, .map (some (w.heap.size + 1 + 1))] 64)) (Below.heap_alloc _ _ _ hM1.lt))); have HBw := hidE (hB01.alloc hB01.size (.cells #[.bool true, .string ⟨#[]⟩, .map (some (w.heap.size + 1 + 1))] 64)); clear k0 k1 k2 a0 a1 a2 b0 b1 b2 hM1 hB1
  go_loopw [5, 16] (fun lv iv wl => ∃ k : Nat, k ≤ es.length ∧ iv = .int .i64 k ∧ lv = .string (lastP es k) ∧ Hid (∃ A, A ⟨#[47]⟩ = w.heap.size + 1 + 1 ∧ Rep wl w.heap.size k (es.take k) A) ∧ Hid (Below w.heap.size w wl) ∧ Hid ((List.range k).all (okAt es) = true) ∧ Hid (OfBox wl w.heap.size w1.heap.size (w.heap.size + 1 + 1))) (fun _ iv _ => es.length - (RowKit.intOf iv).toNat)
  case atStart => exact ⟨0, Nat.zero_le _, rfl, rfl, ⟨_, rfl, HR0.out⟩, HBw, rfl, HB0⟩
  case round =>
   obtain ⟨k, hk, rfl, rfl, HRA, HB, HA, HO⟩ := hrel; by_cases hlt : k < es.length
   ·
    obtain rfl := ha (by omega); obtain ⟨c0, c1, c2⟩ := (HE.out.below (HB.out.mono (Nat.le_refl _))) k hlt; obtain ⟨z0, z1⟩ := HZ.out es[k] (List.getElem_mem _); obtain ⟨p, hp⟩ : ∃ p, es[k].p = p := ⟨_, rfl⟩
    obtain ⟨d, hd⟩ : ∃ d, es[k].d = d := ⟨_, rfl⟩
    obtain ⟨x, hx⟩ : ∃ x, es[k].x = x := ⟨_, rfl⟩
    have HX := hidE (show es[k] = ⟨p, d, x⟩ by rw [← hp, ← hd, ← hx]); rw [hp] at c0 z0; rw [hd] at c1; rw [hx] at c2 z1; clear hp hd hx; have hBA : Below wr.heap.size wr (wr.alloc (.cells #[.string p, .bool d, .string x] 27)) := (Below.refl _ wr).alloc (Nat.le_refl _) _; have HO2 := hidE (HO.out.turn (Turn.of_below hBA (Nat.le_refl _))); obtain ⟨⟨v0, r0⟩, ⟨v1, r1⟩, ⟨v2, r2⟩, f0, f1, f2, t0, t1, t2⟩ := HO2.out; have HL := hidE (show less (lastP es k) es[k].p ↔ Op.bytesLess (lastP es k).toList p.toList = true by rw [HX.out]; exact Iff.rfl); obtain ⟨lp, hlp⟩ : ∃ lp, lastP es k = lp := ⟨_, rfl⟩
    have HQ := hidE (leq_not p.toList lp.toList); rw [hlp] at HL; have HLP := hidE hlp; cases hls : (Op.bytesLess p.toList lp.toList || p.toList == lp.toList) with
    | true =>
     have hnl : ¬ less (lastP es k) es[k].p := fun h => by
      rw [HLP.out] at h; have h1 := HL.out.1 h; have h2 := HQ.out; rw [hls, h1] at h2; cases h2
     rw [hlp]; go_wp2
     refine atSet3 (C := bodyPost Tryd.prog Tryd.f31 _ _ _) r0 r1 r2 (HB.out.trans (hBA.mono HB.out.size)) (Nat.le_refl _) ?_; intro Wf s0 s1 s2 hBf; have hte := treeE_no hlt (okAt_not hlt hnl); refine bodyPost_ret (v := .tuple #[.agg #[.bool true, .string ⟨#[]⟩, .map (some (w.heap.size + 1 + 1))], .bool false]) (by simp [results, Tryd.results31, go_sem, s0, s1, s2]) rfl ⟨fun _ => w.heap.size + 1 + 1, ?_, hBf, ?_⟩
     ·
      rw [← hte]
     ·
      intro h; rw [← hte] at h; cases h
    | false =>
     have hle : less (lastP es k) es[k].p := by
      rw [HLP.out]; refine HL.out.2 ?_; have h2 := HQ.out; rw [hls] at h2; cases h3 : Op.bytesLess lp.toList p.toList with
      | true => rfl
      | false => rw [h3] at h2; cases h2
     have TK := tr_take k (by omega) HA.out; obtain ⟨A, hA0, RA⟩ := HRA.out; have HAd := hidE (add_any (wr.alloc (.cells #[.string p, .bool d, .string x] 27)) w.heap.size k (es.take k) A ae TK (RA.below hBA) ((HEr.out.below (HB.out)).below hBA) p d x (by omega) (by omega) (by simp; have := HB.out.size; omega) (by omega) (fun f hf => by have := take_less hlt TK hle f hf; rw [HX.out] at this; exact this)); have HOA := hidE (okAt_less hlt hle); rw [HX.out] at HOA; have htree : treeV A = .agg #[.bool true, .string ⟨#[]⟩, .map (some (w.heap.size + 1 + 1))] := by unfold treeV; rw [hA0]
     rw [htree] at HAd; have HBX := hidE (HB.out.trans (hBA.mono HB.out.size)); rw [hlp]; cases had : addB (es.take k) ⟨p, d, x⟩ with
     | false =>
      rw [had] at HAd HOA; go_wp2_with (first | (go_at_call 55; refine HAd.out.mono ?_; rintro e w5 ⟨rfl, hT5, -⟩; have HO5 := hidE (HO2.out.turn hT5); obtain ⟨⟨v0', r0'⟩, ⟨v1', r1'⟩, ⟨v2', r2'⟩, f0', f1', f2', t0', t1', t2'⟩ := HO5.out) | fail)
      refine atSet3 (C := bodyPost Tryd.prog Tryd.f31 _ _ _) r0' r1' r2' (HBX.out.trans hT5.below) (Nat.le_refl _) ?_; intro Wf s0 s1 s2 hBf; have hte := treeE_no hlt HOA.out; refine bodyPost_ret (v := .tuple #[.agg #[.bool true, .string ⟨#[]⟩, .map (some (w.heap.size + 1 + 1))], .bool false]) (by simp [results, Tryd.results31, go_sem, s0, s1, s2]) rfl ⟨fun _ => w.heap.size + 1 + 1, ?_, hBf, ?_⟩
      ·
       rw [← hte]
      ·
       intro h; rw [← hte] at h; cases h
     | true =>
      rw [had] at HAd HOA; go_wp2_with (first | (go_at_call 55; refine HAd.out.mono ?_; rintro e w5 ⟨rfl, hT5, hR5⟩; have HR5 := hidE (hR5 rfl); clear hR5; have c0' := hT5.cell (show (wr.alloc (.cells #[.string p, .bool d, .string x] 27)).cell? ⟨wr.heap.size, 0, none⟩ = some (.string p) by simp)) | fail)
      obtain ⟨A', hA', hRA'⟩ := HR5.out; refine ⟨⟨k + 1, by omega, rfl, by rw [lastP_succ hlt, HX.out], ⟨A', hA'.trans hA0, ?_⟩, HBX.out.trans hT5.below, all_range_succ _ _ HA.out HOA.out, HO2.out.turn hT5⟩, by simp [RowKit.intOf]; omega⟩; rw [List.take_succ_eq_append_getElem hlt, HX.out]; exact hRA'
   ·
    have hke : k = es.length := by omega
    obtain ⟨⟨v0, r0⟩, ⟨v1, r1⟩, ⟨v2, r2⟩, f0, f1, f2, t0, t1, t2⟩ := HO.out; obtain ⟨A, hA0, RA⟩ := HRA.out; have HRk := hidE RA
    have hte : treeE es = true := by
     unfold treeE; rw [decide_eq_true h16, Bool.true_and, ← hke]; exact HA.out
    have HK := hidE hke; clear RA HRA hke; go_wp2
    have hset : ∀ Wf, (∀ b, b < wr.heap.size → (∃ o c, wr.heap[b]? = some (.map o c)) → Wf.heap[b]? = wr.heap[b]?) → Rep Wf w.heap.size 16 es A := fun Wf hW => by
     have h1 := HRk.out; rw [HK.out, List.take_length] at h1; exact ⟨fun q hq => ((h1.keep hW).kids q hq).mono (by omega), h1.low, h1.apart⟩
    refine atSet3K (C := bodyPost Tryd.prog Tryd.f31 _ _ _) r0 r1 r2 HB.out (Nat.le_refl _) ?_; intro Wf s0 s1 s2 hBf hK; refine bodyPost_ret (v := .tuple #[.agg #[.bool true, .string ⟨#[]⟩, .map (some (w.heap.size + 1 + 1))], .bool true]) (by simp [results, Tryd.results31, go_sem, s0, s1, s2]) rfl ⟨A, ?_, hBf, fun _ => hset Wf fun b hb ⟨o, c, h⟩ => ?_⟩
    ·
     rw [hte]; unfold treeV; rw [hA0]
    ·
     rw [h]; exact hK.same b _ h rfl
 ·
  have hte : treeE es = false := by unfold treeE; rw [decide_eq_false h16]; rfl
  have h16' : (16 : Int) < es.length := by omega
  rw [hte]; go_enter Tryd.func31, Tryd.ntmps31
  go_wp2_with (first | (go_at_call 54; refine (newDir_any _).mono ?_; rintro e w1 ⟨rfl, hM1, hB1⟩; obtain ⟨⟨k0, k1, k2⟩, a0, a1, a2, b0, b1, b2⟩ := boxOn (b := w.heap.size) (p := .bool false) (q := .string ⟨#[]⟩) (r := .map none) hB1 (by simp) (box3one w _ _ _ _)) | fail)
  have hB01 : Below w.heap.size w w1 := ((Below.refl _ w).alloc (Nat.le_refl _) _).trans (hB1.mono (by simp)); refine atSet3 (C := bodyPost Tryd.prog Tryd.f31 _ _ _) (a0 _) (a1 _) (a2 _) (hB01.alloc hB01.size _) (Nat.le_refl _) ?_; intro Wf s0 s1 s2 hBf; exact bodyPost_ret (v := .tuple #[.agg #[.bool true, .string ⟨#[]⟩, .map (some (w.heap.size + 1 + 1))], .bool false]) (by simp [results, Tryd.results31, go_sem, s0, s1, s2]) rfl ⟨fun _ => w.heap.size + 1 + 1, rfl, hBf, fun h => by cases h⟩
end Go.Proofs.YtoaipphccjkphaaDoor
namespace Go.Proofs.YtoaipphccjkphaaDoor
open Go.RowKit Go.Shelf Go.Lib
attribute [local go_sem] Oper.semAt_some
end Go.Proofs.YtoaipphccjkphaaDoor
namespace Go.Proofs.YtoaipphccjkphaaDoor
open Go.RowKit Go.Shelf Go.Lib
attribute [local go_sem] Oper.semAt_some
theorem iTreeOk_any (w : World) (a : Option Addr) (g o cap : Nat) (es : List E) (ae : Int → Addr) (hErr : Errs2 w ae) (hl : es.length ≤ 16777216) (hz : ∀ e ∈ es, e.p.size ≤ 16777216 ∧ e.x.size ≤ 16777216) (ha : 0 < es.length → a = some ⟨g, o, none⟩) (hE : Ents w g o es) :
  Calls Tryd.prog 18 #[.slice a es.length cap] w fun r w' => r = .returned (.bool (treeE es)) ∧ Below w.heap.size w w' := by
 have HT := hidE (treeOf_any w a g o cap es ae hErr hl hz ha hE); clear hErr hz ha hE; go_enter Tryd.func18, Tryd.ntmps18
 go_wp2_with (go_at_call 31; refine HT.out.mono ?_; rintro e w1 ⟨A, rfl, hB1, -⟩)
 go_ret
 exact ⟨rfl, hB1.alloc hB1.size _⟩
end Go.Proofs.YtoaipphccjkphaaDoor
namespace Go.Proofs.YtoaipphccjkphaaDoor
open Go.RowKit Go.Shelf Go.Lib
attribute [local go_sem] Oper.semAt_some
end Go.Proofs.YtoaipphccjkphaaDoor
