/-
  The walks of LayerJoin, the program's own and the model's.
-/
import Derived.Test.YtocfbplaieonkaaGreatHLyJnS
import Derived.Test.YtocfbplaieonkaaGreatHMjSettle
import Derived.Test.YtocfbplaieonkaaGreatHMkLayI
namespace Go.Proofs.YtocfbplaieonkaaGreat.Mk
open Go.RowKit Go.Lib Go.Shelf

attribute [local go_sem] Oper.semAt_some

/-- What LayerJoin tells. -/
def jnB (a b : List E) : Bool := (layB a && layB b) && decide ((Ly.tidyM (Ly.joinM a b)).length ≤ 32)
def jnE (a b : List E) : List E := if jnB a b = true then Ly.tidyM (Ly.joinM a b) else []
theorem lay_len {l : List E} (h : layB l = true) : l.length ≤ 32 := by
  unfold layB at h
  rw [Bool.and_eq_true] at h
  exact of_decide_eq_true h.2
theorem join_len (a b : List E) (ha : a.length ≤ 32) (hb : b.length ≤ 32) : (Ly.joinM a b).length ≤ 64 := by
  have h1 := upp_len b (lowF a b) a a.length (Nat.le_refl _)
  have h2 := low_len a b b.length (Nat.le_refl _)
  rw [List.take_length] at h1 h2
  show (uppF b (lowF a b) a).length ≤ 64
  omega
theorem tidy_len (l : List E) (hz : ∀ e ∈ l, e.p.size ≤ 16777216) : (Ly.tidyM l).length ≤ l.length := by
  have := (tid_facts l hz l.length (Nat.le_refl _)).1
  rwa [List.take_length] at this
theorem join_sz {a b : List E} (A : TrM a) (B : TrM b) (hz : ∀ e ∈ a, e.p.size ≤ 16777216 ∧ e.x.size ≤ 16777216) (hz' : ∀ e ∈ b, e.p.size ≤ 16777216 ∧ e.x.size ≤ 16777216) : ∀ e ∈ Ly.joinM a b, e.p.size ≤ 16777216 ∧ e.x.size ≤ 16777216 := fun e he => by
  rcases (Ly.join_mem A B e).1 he with ⟨k, hk, rfl⟩ | ⟨h, _⟩
  · exact hz k hk
  · exact hz' e h

set_option maxHeartbeats 2000000 in
set_option maxRecDepth 100000 in
theorem sLayerJoin_any (w : World) (a : Option Addr) (g o cap : Nat) (l : List E) (a' : Option Addr) (g' o' cap' : Nat) (t : List E) (hl : l.length ≤ 1048576) (ht : t.length ≤ 1048576) (hcap : l.length ≤ cap) (hcap' : t.length ≤ cap') (hz : ∀ e ∈ l, e.p.size ≤ 16777216 ∧ e.x.size ≤ 16777216) (hz' : ∀ e ∈ t, e.p.size ≤ 16777216 ∧ e.x.size ≤ 16777216) (ha : 0 < l.length → a = some ⟨g, o, none⟩) (ha' : 0 < t.length → a' = some ⟨g', o', none⟩) (hE : Ents w g o l) (hF : Ents w g' o' t) :
    Calls Tryz.prog 5 #[.slice a l.length cap, .slice a' t.length cap'] w fun r w' => ∃ v, r = .returned (.tuple #[v, .bool (jnB l t)]) ∧ OwnE w' w.heap.size v (jnE l t) ∧ Below w.heap.size w w' := by
  have HE := hidE hE
  have HF := hidE hF
  have HO := hidE (fun (W : World) (hW : Ents W g o l) => sLayerOk_any W a g o cap l (by omega) hcap hz ha hW)
  have HT := hidE (fun (W : World) (hW : Ents W g' o' t) => sLayerOk_any W a' g' o' cap' t (by omega) hcap' hz' ha' hW)
  have HD : Hid (jnB l t = ((layB l && layB t) && decide ((Ly.tidyM (Ly.joinM l t)).length ≤ 32))) := rfl
  clear hE hF
  go_enter Tryz.func5, Tryz.ntmps5
  go_wp2_with fail
  refine (HO.out _ HE.out).mono ?_
  rintro e w1 ⟨rfl, hB⟩
  have HB1 := hidE hB
  have HE1 := hidE (HE.out.below hB)
  have HF1 := hidE (HF.out.below hB)
  clear hB
  cases hly : layB l with
  | false =>
    have hn : jnB l t = false := by rw [HD.out, hly]; rfl
    have hq : jnE l t = [] := by unfold jnE; rw [hn]; rfl
    go_wp2
    go_ret2
    exact ⟨_, by rw [hn]; rfl, by rw [hq]; exact OwnE.made _ HB1.out.size, HB1.out.alloc HB1.out.size _⟩
  | true =>
    go_wp2_with fail
    refine (HT.out _ HF1.out).mono ?_
    rintro e w2 ⟨rfl, hB⟩
    have HB2 := hidE (tBelow HB1.out hB)
    have HE2 := hidE (HE1.out.below hB)
    have HF2 := hidE (HF1.out.below hB)
    clear hB HB1 HE1 HF1
    cases htr : layB t with
    | false =>
      have hn : jnB l t = false := by rw [HD.out, hly, htr]; rfl
      have hq : jnE l t = [] := by unfold jnE; rw [hn]; rfl
      go_wp2
      go_ret2
      exact ⟨_, by rw [hn]; rfl, by rw [hq]; exact OwnE.made _ HB2.out.size, HB2.out.alloc HB2.out.size _⟩
    | true =>
      have hll := lay_len hly
      have htl := lay_len htr
      have hjl := join_len l t hll htl
      have hjz := join_sz (layB_tr hly) (layB_tr htr) hz hz'
      go_wp2_with fail
      refine (l3Join_any _ a g o cap l a' g' o' cap' t (by omega) (by omega) (fun e he => (hz e he).1) (fun e he => (hz' e he).1) ha ha' HE2.out HF2.out).mono ?_
      rintro e w3 ⟨v3, rfl, ho3, hB⟩
      have HO3 := hidE (ho3.lower (base' := w.heap.size) HB2.out.size)
      have HB3 := hidE (tBelow HB2.out hB)
      clear ho3 hB HB2 HE2 HF2
      obtain ⟨a3, g3, c3, rfl, ha3, hE3, hc3⟩ := HO3.out.ents
      have HTd := hidE (l3Tidy_any w3 a3 g3 0 c3 (Ly.joinM l t) (by omega) (fun e he => (hjz e he).1) ha3 hE3)
      clear ha3 hE3
      go_wp2_with fail
      refine HTd.out.mono ?_
      rintro e w4 ⟨v4, rfl, ho4, hB⟩
      have HO4 := hidE (ho4.lower (base' := w.heap.size) HB3.out.size)
      have HB4 := hidE (tBelow HB3.out hB)
      clear ho4 hB HB3
      obtain ⟨a4, g4, c4, rfl, ha4, hE4, hc4⟩ := HO4.out.ents
      clear ha4 hE4
      by_cases h16 : (Ly.tidyM (Ly.joinM l t)).length ≤ 32
      · have hn : jnB l t = true := by rw [HD.out, hly, htr, decide_eq_true h16]; rfl
        have hq : jnE l t = Ly.tidyM (Ly.joinM l t) := by unfold jnE; rw [hn]; rfl
        go_wp2
        go_ret2
        exact ⟨_, by rw [hn]; rfl, by rw [hq]; exact HO4.out, HB4.out⟩
      · have hn : jnB l t = false := by rw [HD.out, hly, htr, decide_eq_false h16]; rfl
        have hq : jnE l t = [] := by unfold jnE; rw [hn]; rfl
        have h17 : (32 : Int) < (Ly.tidyM (Ly.joinM l t)).length := by omega
        go_wp2
        go_ret2
        exact ⟨_, by rw [hn]; rfl, by rw [hq]; exact OwnE.made _ HB4.out.size, HB4.out.alloc HB4.out.size _⟩

set_option maxHeartbeats 2000000 in
set_option maxRecDepth 100000 in
theorem iLayerJoin_any (w : World) (a : Option Addr) (g o cap : Nat) (l : List E) (a' : Option Addr) (g' o' cap' : Nat) (t : List E) (hl : l.length ≤ 16777216) (ht : t.length ≤ 16777216) (hz : ∀ e ∈ l, e.p.size ≤ 16777216 ∧ e.x.size ≤ 16777216) (hz' : ∀ e ∈ t, e.p.size ≤ 16777216 ∧ e.x.size ≤ 16777216) (ha : 0 < l.length → a = some ⟨g, o, none⟩) (ha' : 0 < t.length → a' = some ⟨g', o', none⟩) (hE : Ents w g o l) (hF : Ents w g' o' t) :
    Calls Tryz.prog 7 #[.slice a l.length cap, .slice a' t.length cap'] w fun r w' => ∃ v, r = .returned (.tuple #[v, .bool (jnB l t)]) ∧ OwnE w' w.heap.size v (jnE l t) ∧ Below w.heap.size w w' := by
  have HD : Hid (jnB l t = ((layB l && layB t) && decide ((Ly.tidyM (Ly.joinM l t)).length ≤ 32))) := rfl
  have HL := hidE (fun (W : World) (hW : Below w.heap.size w W) => layerOf_any W a g o cap l hl hz ha (hE.below hW))
  have HR := hidE (fun (W : World) (hW : Below w.heap.size w W) => layerOf_any W a' g' o' cap' t ht hz' ha' (hF.below hW))
  have HZ := hidE hz
  have HZ' := hidE hz'
  clear hE hF hz hz'
  go_enter Tryz.func7, Tryz.ntmps7
  go_wp2_with fail
  refine (HL.out _ (Below.refl _ _)).mono ?_
  rintro e w1 ⟨A, rfl, hB1, hR1⟩
  have hBa := belowA hB1 (.cells #[.iface 78 (.agg #[]), .map (some (A ⟨#[47]⟩))] 45)
  have X1 := Box2.new w1 (.iface 78 (.agg #[])) (.map (some (A ⟨#[47]⟩))) 45
  obtain ⟨W1, hW1⟩ : ∃ W1, W1 = w1.alloc (.cells #[.iface 78 (.agg #[]), .map (some (A ⟨#[47]⟩))] 45) := ⟨_, rfl⟩
  have hB11 : Below w1.heap.size w1 W1 := by rw [hW1]; exact belowA (Below.refl _ w1) _
  rw [← hW1] at hBa X1
  have HX1 := hidE X1
  have HB1 := hidE hBa
  have HR1 := hidE (fun h => (hR1 h).below hB11)
  clear X1 hBa hB1 hR1
  go_wp2_with fail
  rw [← hW1]
  clear hW1 hB11
  refine (HR.out _ HB1.out).mono ?_
  rintro e w2 ⟨B, rfl, hB2, hR2⟩
  have hBa := belowA (belowT HB1.out hB2) (.cells #[.iface 78 (.agg #[]), .map (some (B ⟨#[47]⟩))] 45)
  have X2 := Box2.new w2 (.iface 78 (.agg #[])) (.map (some (B ⟨#[47]⟩))) 45
  obtain ⟨W2, hW2⟩ : ∃ W2, W2 = w2.alloc (.cells #[.iface 78 (.agg #[]), .map (some (B ⟨#[47]⟩))] 45) := ⟨_, rfl⟩
  have hB22 : Below w2.heap.size w2 W2 := by rw [hW2]; exact belowA (Below.refl _ w2) _
  rw [← hW2] at hBa X2
  have HX2 := hidE X2
  have HX12 := hidE ((HX1.out.below hB2).below hB22)
  have HB2 := hidE hBa
  have HR2 := hidE (fun h => (hR2 h).below hB22)
  have HR12 := hidE (fun h => ((HR1.out h).below hB2).below hB22)
  clear X2 hBa hB2 hR2 HX1 HB1 HR1
  cases hly : layB l with
  | false =>
    have hn : jnB l t = false := by rw [HD.out, hly]; rfl
    have hq : jnE l t = [] := by unfold jnE; rw [hn]; rfl
    go_wp2
    rw [← hW2]
    go_ret2
    exact ⟨_, by rw [hn]; rfl, by rw [hq]; exact World.ownsRow_nil _ _ _ _, HB2.out⟩
  | true =>
    cases htr : layB t with
    | false =>
      have hn : jnB l t = false := by rw [HD.out, hly, htr]; rfl
      have hq : jnE l t = [] := by unfold jnE; rw [hn]; rfl
      go_wp2
      rw [← hW2]
      go_ret2
      exact ⟨_, by rw [hn]; rfl, by rw [hq]; exact World.ownsRow_nil _ _ _ _, HB2.out⟩
    | true =>
      have hll := lay_len hly
      have htl := lay_len htr
      have hjl := join_len l t hll htl
      have TA := layB_tr hly
      have TB := layB_tr htr
      have hjz := join_sz TA TB HZ.out HZ'.out
      have hjt := tidy_len (Ly.joinM l t) (fun e he => (hjz e he).1)
      have RJ := Ly.join_rt (Ly.lay_rt hly) (Ly.lay_rt htr)
      have HJ := hidE (fun (W : World) (hW : Below W2.heap.size W2 W) => join_any W _ 32 _ 32 l t A B TA TB ((HR12.out hly).below hW) ((HR2.out htr).below hW) (by omega) (by omega) (by omega) (by omega))
      have HS := hidE (fun (W : World) (b : Nat) (J : ByteArray → Nat) (hW : Rep W b 200 (Ly.joinM l t) J) => settled_any W b 200 (Ly.joinM l t) J (Ly.join_tr TA TB) (fun e he => (hjz e he).2) hW (by omega) (by omega))
      have HM := hidE (fun (W : World) (b : Nat) (J : ByteArray → Nat) (hW : Rep W b 200 (Ly.tidyM (Ly.joinM l t)) J) => marks_any W b 200 (Ly.tidyM (Ly.joinM l t)) J RJ.tr RJ.plain hW (by omega) (by omega))
      obtain ⟨y0, y1, y2, y3⟩ := HX12.out
      obtain ⟨z0, z1, z2, z3⟩ := HX2.out
      rw [hW2] at y0 y1 z0 z1
      clear hjz TA TB RJ
      go_wp2_with fail
      rw [← hW2]
      clear hW2 hB22 y0 y1 y2 y3 z0 z1 z2 z3
      refine (HJ.out _ (Below.refl _ _)).mono ?_
      rintro e w3 ⟨J, rfl, hB3, hR3⟩
      have HB3 := hidE (belowT HB2.out hB3)
      have HR3 := hidE hR3
      clear hB3 hR3
      go_wp2_with fail
      refine (HS.out _ _ _ HR3.out).mono ?_
      rintro e w4 ⟨J4, rfl, hB4, hR4⟩
      have HB4 := hidE (belowT HB3.out hB4)
      have HR4 := hidE hR4
      clear hB4 hR4
      go_wp2_with fail
      refine (HM.out _ _ _ HR4.out).mono ?_
      rintro e w5 ⟨v5, rfl, ho5, hB5⟩
      have HO5 := hidE (ho5.lower (base' := w.heap.size) HB4.out.size)
      have HB5 := hidE (belowT HB4.out hB5)
      clear ho5 hB5 HB3 HB4 HR3 HR4 HB2
      obtain ⟨a5, g5, c5, rfl, ha5, hE5, hc5⟩ := HO5.out.ents
      clear ha5 hE5
      by_cases h16 : (Ly.tidyM (Ly.joinM l t)).length ≤ 32
      · have hn : jnB l t = true := by rw [HD.out, hly, htr, decide_eq_true h16]; rfl
        have hq : jnE l t = Ly.tidyM (Ly.joinM l t) := by unfold jnE; rw [hn]; rfl
        go_wp2
        go_ret2
        exact ⟨_, by rw [hn]; rfl, by rw [hq]; exact HO5.out, HB5.out⟩
      · have hn : jnB l t = false := by rw [HD.out, hly, htr, decide_eq_false h16]; rfl
        have hq : jnE l t = [] := by unfold jnE; rw [hn]; rfl
        have h17 : (32 : Int) < (Ly.tidyM (Ly.joinM l t)).length := by omega
        go_wp2
        go_ret2
        exact ⟨_, by rw [hn]; rfl, by rw [hq]; exact World.ownsRow_nil _ _ _ _, HB5.out⟩
end Go.Proofs.YtocfbplaieonkaaGreat.Mk
