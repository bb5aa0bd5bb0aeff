/-
  The walk of the program's own: a joined layer, tidied.
-/
import Derived.Test.YtocfbplaieonkaaGreatHMjJoin
namespace Go.Proofs.YtocfbplaieonkaaGreat.Mk
open Go.RowKit Go.Shelf Go.Lib Go.Maps

attribute [local go_sem] Oper.semAt_some

/-- What the loop of settled keeps in mind. -/
structure StI (w W : World) (bx aj : Nat) (rA : Nat) (n : Nat) (l : List E) : Prop where
  rep : ∃ J : ByteArray → Nat, J ⟨#[47]⟩ = aj ∧ Rep W w.heap.size n l J
  below : Below w.heap.size w W
  x1 : Box2 W w.heap.size (.iface 78 (.agg #[])) (.map (some rA))
  x2 : Box2 W (w.heap.size + 1) .nilIface (.map none)
  x3 : Box2 W bx (.iface 78 (.agg #[])) (.map (some aj))
theorem StI.bel {w W W' : World} {bx aj rA n : Nat} {l : List E} (h : StI w W bx aj rA n l) (hB : Below W.heap.size W W') : StI w W' bx aj rA n l := by
  obtain ⟨⟨J, h1, h2⟩, h3, h4, h6, h7⟩ := h
  exact ⟨⟨J, h1, h2.below hB⟩, h3.trans (hB.mono h3.size), h4.below hB, h6.below hB, h7.below hB⟩
theorem StI.own {β : Type} {w : World} {B bx aj rA : Nat} (hB : w.heap.size ≤ B) (n : β → Nat) (l : β → List E) : OwnL B (fun s W => StI w W bx aj rA (n s) (l s)) := fun s W W' row h hg hr => by
  obtain ⟨⟨J, h1, h2⟩, h3, h4, h6, h7⟩ := h
  have hk := keepsA_of hg (fun r e => (hr r e).2)
  exact ⟨⟨J, h1, h2.keepsA hk⟩, h3.grown hg h3.size (fun q e => Nat.le_trans hB (hr q e).1), h4.keepsA hk, h6.keepsA hk, h7.keepsA hk⟩
theorem StI.put {w W W' : World} {bx aj rA n n' : Nat} {l l' : List E} (h : StI w W bx aj rA n l) (hT : Turn w.heap.size W W') (hR : ∃ J : ByteArray → Nat, J ⟨#[47]⟩ = aj ∧ Rep W' w.heap.size n' l' J) : StI w W' bx aj rA n' l' :=
  ⟨hR, h.below.trans hT.below, h.x1.turn hT, h.x2.turn hT, h.x3.turn hT⟩
/-- What is left of a sign below a bare one is what is left of its mark. -/
theorem left_sign {L : List E} {m : E} (hb : bareM L m.p = true) (hk : 1 ≤ m.d ∧ m.d ≤ 4) : (Ly.leftM L m = none ∧ inB m.d m.x = (.nilIface, false)) ∨ ∃ d, (d = 1 ∨ d = 2) ∧ Ly.leftM L m = some ⟨m.p, d, m.x⟩ ∧ inB m.d m.x = (signV d m.x, true) := by
  obtain ⟨p, d, x⟩ := m
  dsimp only at hb hk ⊢
  unfold Ly.leftM inB
  dsimp only
  rw [hb, if_pos rfl]
  rcases (by omega : d = 1 ∨ d = 2 ∨ d = 3 ∨ d = 4) with rfl | rfl | rfl | rfl
  · exact .inr ⟨1, .inl rfl, rfl, rfl⟩
  · exact .inr ⟨2, .inr rfl, rfl, rfl⟩
  · exact .inl ⟨rfl, rfl⟩
  · exact .inr ⟨2, .inr rfl, rfl, rfl⟩

set_option maxHeartbeats 4000000 in
set_option maxRecDepth 100000 in
theorem settled_any (w : World) (b1 N1 : Nat) (a : List E) (A : ByteArray → Nat) (TA : TrM a) (hza : ∀ e ∈ a, e.x.size ≤ 16777216) (RA : Rep w b1 N1 a A) (hN1 : N1 ≤ 1000) (ha : a.length ≤ 200) :
    Calls Tryz.prog 18 #[layV A] w fun e w' => ∃ J, e = .returned (layV J) ∧ Below w.heap.size w w' ∧ Rep w' w.heap.size 200 (Ly.tidyM a) J := by
  obtain ⟨W0, hW0⟩ : ∃ W0, W0 = (w.alloc (.cells #[.iface 78 (.agg #[]), .map (some (A ⟨#[47]⟩))] 45)).alloc (.cells #[.nilIface, .map none] 45) := ⟨_, rfl⟩
  have hB0 : Below w.heap.size w W0 := by rw [hW0]; exact belowA (belowA (Below.refl _ w) _) _
  have hs0 : W0.heap.size = w.heap.size + 2 := by rw [hW0]; simp
  have X1 : Box2 W0 w.heap.size (.iface 78 (.agg #[])) (.map (some (A ⟨#[47]⟩))) := by rw [hW0]; exact (Box2.new _ _ _ _).on _
  have X2 : Box2 W0 (w.heap.size + 1) .nilIface (.map none) := by
    rw [hW0]
    have := Box2.new (w.alloc (.cells #[.iface 78 (.agg #[]), .map (some (A ⟨#[47]⟩))] 45)) .nilIface (.map none) 45
    rwa [World.size_alloc] at this
  refine (callsIn_wide (n := 6)).1 ?_
  refine callsIn_of_wp_marks Tryz.func18 rfl trivial ?_ rfl
  simp only [Tryz.ntmps18, List.size_toArray, List.length_cons, List.length_nil, Nat.reduceAdd, Nat.reduceSub, Array.replicate_succ, Array.replicate_zero, List.push_toArray, List.append_toArray, List.nil_append, List.cons_append]
  gi_wp2_with fail
  rw [← hW0]
  refine ⟨trivial, ?_⟩
  refine (callsIn_wide.2 (newLayer_any _)).mono ?_
  rintro e w1 ⟨⟨aj, haj, rfl, hM1⟩, hB1⟩
  obtain ⟨W1, hW1⟩ : ∃ W1, W1 = w1.alloc (.cells #[.iface 78 (.agg #[]), .map (some aj)] 45) := ⟨_, rfl⟩
  have hsw := hB1.size
  have hB01 : Below W0.heap.size W0 W1 := by rw [hW1]; exact belowA hB1 _
  have hI1 : Hid (StI w W1 w1.heap.size aj (A ⟨#[47]⟩) 0 []) := by
    refine ⟨⟨fun _ => aj, rfl, ?_⟩, belowT hB0 hB01, X1.below hB01, X2.below hB01, by rw [hW1]; exact Box2.new _ _ _ _⟩
    exact rep_nil (by omega) (by rw [hW1]; exact hM1.kept (Below.heap_alloc _ _ _ hM1.lt))
  have HRA := hid (fun (W : World) (h : Below w.heap.size w W) => RA.below h)
  have HlowA : Hid (∀ p, AtM a p → A p < w.heap.size) := fun p hp => (RA.kids p hp).lt
  have hs1 : w.heap.size + 2 < W1.heap.size := by rw [hW1]; simp; omega
  have hs11 : w1.heap.size < W1.heap.size := by rw [hW1]; simp
  clear RA X1 X2 hB0 hB1 hM1 hW0 hB01
  obtain ⟨y0, y1, y2, y3⟩ := hI1.out.x1
  rw [hW1] at y0 y1
  gi_wp2_with fail
  rw [← hW1]
  refine ⟨trivial, ?_⟩
  refine (callsIn_wide.2 (all_any A _)).mono ?_
  rintro e w2 ⟨rfl, hB2, hb2, d0, d1⟩
  have hI2 := hid (hI1.out.bel hB2)
  have hsW : W1.heap.size = w1.heap.size + 1 := by rw [hW1]; simp
  rw [hsW] at hb2 d0 d1
  have hta : (toldM a ⟨#[47]⟩ ⟨#[]⟩).length = a.length := by rw [toldM_all TA, List.length_map]
  have hs2 := hB2.size
  clear y0 y1 y2 y3 hI1
  gi_wp2
  refine wpIn_map rfl (by omega) (gf := 50) (lb := #[.pointer (some ⟨w1.heap.size + 1, 0, none⟩)]) rfl trivial (enters_of Tryz.func50 (by kernel_rfl) rfl)
    (allJ_map _ (by omega) a A b1 N1 w.heap.size hN1 (by omega) TA (w1.heap.size + 1) w2 hb2 d0 d1 HlowA.out (HRA.out _ hI2.out.below)) KpM.t (fun W l o o' _ h1 h2 h3 => KpM.b W l o o' h1 h2 h3) (Below.refl _ _) (fun _ => rfl)
    (fun (pre : List (ItemM (toldM a ⟨#[47]⟩ ⟨#[]⟩))) W => StI w W w1.heap.size aj (A ⟨#[47]⟩) pre.length (Ly.leA a (marksL pre)))
    (fun _ _ _ => False)
    (StI.own (by omega) _ _) (fun _ _ _ _ _ hs _ _ => hs) hI2.out
    (fun x ac _ => ac = { tmps := #[layV A, .pointer (some ⟨w.heap.size, 0, none⟩), .pointer (some ⟨w.heap.size + 1, 0, none⟩), .pointer (some ⟨w1.heap.size, 0, none⟩), .string x.1.1, signV x.1.2.d x.1.2.x, undef, .agg #[.iface 78 (.agg #[]), .map (some aj)], layV A, .func (.func 50) #[] #[.pointer (some ⟨w1.heap.size + 1, 0, none⟩)], .string x.1.1, signV x.1.2.d x.1.2.x, undef, undef, undef, undef, undef, undef, undef, undef, undef, undef, undef, undef, undef, undef], defers := [] })
    (fun _ _ _ _ _ _ hs _ _ => hs)
    ?assign ?body ?done ?stop
  case stop =>
    rintro D c pre W _ _ h _
    exact h.elim
  case assign =>
    rintro l pre x W K hI hK
    gi_wp2
    exact hK _ _ ⟨Nat.le_refl _, fun _ _ _ h _ _ => h⟩ (KpM.of (Below.refl _ W)) hI rfl
  case body =>
    rintro l pre x ac W hl hI hsp rfl hlt
    obtain ⟨hxs, hxm⟩ := item_is TA x
    have hpr := told_pre TA hsp
    obtain ⟨⟨s, e⟩, hxi⟩ := x
    dsimp only at hxs hxm hpr ⊢
    subst hxs
    have hke := TA.kind e hxm
    have hpe := TA.path e hxm
    have hes : e.p.size ≤ 16777216 := by have := path_sizeD hpe; omega
    have hex := hza e hxm
    have hpl : pre.length < 1000 := by omega
    obtain ⟨J, hJ0, hJR⟩ := hI.rep
    have hTu := Ly.leA_tr TA ((List.prefix_append _ _).trans hpr)
    have hla : layV J = .agg #[.iface 78 (.agg #[]), .map (some aj)] := by unfold layV; rw [hJ0]
    have hff : ∀ f, Fence.wide.fn f := fun _ => trivial
    have HBa := hid (bares_any b1 N1 a A TA W (HRA.out _ hI.below) e.p hes)
    rw [bares_is TA hpe] at HBa
    have HI := hid hI
    have HX3 := hid hI.x3
    have hsn : Ly.leA a (marksL (pre ++ [(⟨(e.p, e), hxi⟩ : ItemM (toldM a ⟨#[47]⟩ ⟨#[]⟩))])) = Ly.leA a (marksL pre) ++ (Ly.leftM a e).toList := by
      rw [marksL_snoc, Ly.leA_snoc]
    have HSN := hid hsn
    obtain ⟨y0, y1, y2, y3⟩ := hI.x1
    have HPut := hid (fun (W' : World) (k : E) (hk : Ly.leftM a e = some k) (hB : Below W.heap.size W W') => put_any w.heap.size pre.length (Ly.leA a (marksL pre)) J hTu W' (hJR.below hB) (Nat.le_trans hI.below.size hB.size) hpl k.p (by rw [Ly.left_path hk]; exact hes) k.d k.x (by rw [Ly.left_path hk]; exact hpe)
      ((Ly.leA_next TA hpr hk).1.imp id fun ⟨f, h, _⟩ => ⟨f, h⟩) (look_none.2 fun f hf q => by have := (Ly.leA_next TA hpr hk).2 f hf; rw [q] at this; exact less_irrefl _ this))
    rw [hla] at HPut
    have fin : Hid (∀ (k : E) (W3 W4 : World), Ly.leftM a e = some k → Below W.heap.size W W3 → Turn w.heap.size W3 W4 → (∃ A', A' ⟨#[47]⟩ = J ⟨#[47]⟩ ∧ Rep W4 w.heap.size (pre.length + 1) (Ly.leA a (marksL pre) ++ [⟨k.p, k.d, k.x⟩]) A') →
        KeepsL w2.heap.size W W4 ∧ KpM w.heap.size W W4 ∧ StI w W4 w1.heap.size aj (A ⟨#[47]⟩) (pre ++ [(⟨(e.p, e), hxi⟩ : ItemM (toldM a ⟨#[47]⟩ ⟨#[]⟩))]).length (Ly.leA a (marksL (pre ++ [(⟨(e.p, e), hxi⟩ : ItemM (toldM a ⟨#[47]⟩ ⟨#[]⟩))])))) := by
      rintro k W3 W4 hk hB hT ⟨A', hA', hR'⟩
      refine ⟨(KeepsL.of_from (keepsBM hB)).trans (KeepsL.turn hT), (KpM.of hB).t (KpM.turn hT), ?_⟩
      rw [HSN.out, hk, List.length_append, List.length_singleton]
      exact (HI.out.bel hB).put hT ⟨A', hA'.trans hJ0, hR'⟩
    cases hb : bareM a e.p with
    | false =>
      have hk := Ly.left_self hb
      have HPe := hid (fun (W' : World) (hB : Below W.heap.size W W') => HPut.out W' e hk hB)
      have HK := hid hk
      rw [hb] at HBa
      obtain ⟨te, ue, hse⟩ := sign_is e.d e.x
      rw [hse] at HPe ⊢
      clear hI hpr hJR hTu hsn hsp HPut hb hk
      gi_wp2_with (first
        | (gi_at_call 37; refine (CallsIn.inRound l (callsIn_wide.2 HBa.out)).mono ?_; rintro e3 w3 ⟨rfl, hB3⟩; obtain ⟨q0, q1, q2, q3⟩ := HX3.out.below hB3)
        | (gi_at_call 33; refine (CallsIn.inRound l (callsIn_wide.2 (HPe.out _ hB3))).mono ?_; rintro e4 w4 ⟨⟨v4, rfl⟩, hT4, hR4⟩)
        | fail)
      exact fin.out e _ _ HK.out hB3 hT4 hR4
    | true =>
      rw [hb] at HBa
      have HIn := hid (fun (W' : World) => inBare_any e.d e.x hex hke W')
      rcases left_sign hb hke with ⟨hk, hv⟩ | ⟨d, hd, hk, hv⟩
      · rw [hv] at HIn
        obtain ⟨te, ue, hse⟩ := sign_is e.d e.x
        rw [hse] at HIn ⊢
        have HK := hid hk
        clear hI hpr hJR hTu hsn hsp HPut hb hk
        gi_wp2_with (first
          | (gi_at_call 37; refine (CallsIn.inRound l (callsIn_wide.2 HBa.out)).mono ?_; rintro e3 w3 ⟨rfl, hB3⟩)
          | (gi_at_call 38; refine (CallsIn.inRound l (callsIn_wide.2 (HIn.out _))).mono ?_; rintro e4 w4 ⟨rfl, hB4⟩)
          | fail)
        refine ⟨KeepsL.of_from (keepsBM (belowT hB3 hB4)), KpM.of (belowT hB3 hB4), ?_⟩
        show StI _ _ _ _ _ _ _
        rw [HSN.out, HK.out, List.length_append, List.length_singleton]
        obtain ⟨⟨J', g1, g2⟩, g3, g4, g5, g6⟩ := HI.out.bel (belowT hB3 hB4)
        exact ⟨⟨J', g1, by rw [Option.toList_none, List.append_nil]; exact g2.mono (by omega)⟩, g3, g4, g5, g6⟩
      · rw [hv] at HIn
        have HPe := hid (fun (W' : World) (hB : Below W.heap.size W W') => HPut.out W' ⟨e.p, d, e.x⟩ hk hB)
        obtain ⟨te, ue, hse⟩ := sign_is e.d e.x
        obtain ⟨td, ud, hsd⟩ := sign_is d e.x
        rw [hse] at HIn ⊢
        dsimp only at HPe HIn
        rw [hsd] at HPe HIn
        have HK := hid hk
        clear hI hpr hJR hTu hsn hsp HPut hb hk hv hse hsd
        gi_wp2_with (first
          | (gi_at_call 37; refine (CallsIn.inRound l (callsIn_wide.2 HBa.out)).mono ?_; rintro e3 w3 ⟨rfl, hB3⟩)
          | (gi_at_call 38; refine (CallsIn.inRound l (callsIn_wide.2 (HIn.out _))).mono ?_; rintro e4 w4 ⟨rfl, hB4⟩; obtain ⟨q0, q1, q2, q3⟩ := (HX3.out.below hB3).below hB4)
          | (gi_at_call 33; refine (CallsIn.inRound l (callsIn_wide.2 (HPe.out _ (belowT hB3 hB4)))).mono ?_; rintro e5 w5 ⟨⟨v5, rfl⟩, hT5, hR5⟩)
          | fail)
        exact fin.out _ _ _ HK.out (belowT hB3 hB4) hT5 hR5
  case done =>
    rintro D xs X hD hxs hI hK
    have hall : Ly.leA a (marksL xs) = Ly.tidyM a := by rw [marksL_all TA hxs, Ly.tidy_is TA]; rfl
    have hxl : xs.length = a.length := by
      have := congrArg List.length hxs
      rwa [List.length_map, hta] at this
    rw [hall, hxl] at hI
    have HI := hid hI
    obtain ⟨y0, y1, y2, y3⟩ := hI.x3
    obtain ⟨z0, z1, z2, z3⟩ := hI.x2
    clear hI hall
    gi_wp2
    have hset := (Box2.mk z0 z1 z2 z3).set (.iface 78 (.agg #[])) (.map (some aj))
    have hBs := set2_below (Below.refl w.heap.size X) (Nat.le_add_right w.heap.size 1) (.iface 78 (.agg #[])) (.map (some aj))
    have hko := set2_keeps X (w.heap.size + 1) (.iface 78 (.agg #[])) (.map (some aj))
    obtain ⟨X', hX'⟩ : ∃ X', X' = (X.setCell ⟨w.heap.size + 1, 0, none⟩ (.iface 78 (.agg #[]))).setCell ⟨w.heap.size + 1, 1, none⟩ (.map (some aj)) := ⟨_, rfl⟩
    have hX2 : set2 X (w.heap.size + 1) (.iface 78 (.agg #[])) (.map (some aj)) = X' := hX'.symm
    rw [hX2] at hset hBs hko
    rw [← hX']
    have hK' := hko.same D _ hK rfl
    refine ⟨by simp, .inl ⟨_, _, rfl, run_takeDeferred hK', ?_⟩⟩
    obtain ⟨⟨J, g1, g2⟩, g3, _⟩ := HI.out
    have hp : KeepsA X' (X'.putObj D (.deferred none)) := fun k o h1 h2 => by
      have n1 : k ≠ D := fun e => by
        rw [e, hK'] at h1; cases h1
        rcases h2 with q | q <;> cases q
      exact (World.putObj_heap_other n1).trans h1
    have hset2 := hset.keepsA hp
    refine ⟨layV J, ?_, J, rfl, ?_, ?_⟩
    · have h0 := hset2.c0
      have h1 := hset2.c1
      simp [results, Tryz.f18, go_sem, h0, h1, g1]
    · exact (g3.trans hBs).trans (below_putM (by omega) _)
    · exact ((g2.keeps hko).keepsA hp).mono (by omega)
end Go.Proofs.YtocfbplaieonkaaGreat.Mk
