import Derived.Test.YteppodogghjfhabGreatDoorHMjJoinP
import Derived.Test.YteppodogghjfhabGreatDoorHPk22
import Derived.Test.YteppodogghjfhabGreatDoorHPk12
import Derived.Test.YteppodogghjfhabGreatDoorHPk05
import Derived.Test.YteppodogghjfhabGreatDoorHPk18
import Derived.Test.YteppodogghjfhabGreatDoorHLyJnS
namespace Go.Proofs.YteppodogghjfhabGreatDoor.Mk
open Go.RowKit Go.Shelf Go.Lib Go.Maps
attribute [local go_sem] Oper.semAt_some
structure JnI (w W : World) (bx aj : Nat) (rA rB : Nat) (n : Nat) (l : List E) : Prop where
 rep : ∃ J : ByteArray → Nat, J ⟨#[47]⟩ = aj ∧ Rep W w.heap.size n l J
 below : Below w.heap.size w W
 x1 : Box2 W w.heap.size (.iface 169 (.agg #[])) (.map (some rA))
 x2 : Box2 W (w.heap.size + 1) (.iface 169 (.agg #[])) (.map (some rB))
 x3 : Box2 W (w.heap.size + 2) .nilIface (.map none)
 x5 : Box2 W bx (.iface 169 (.agg #[])) (.map (some aj))
theorem JnI.bel {w W W' : World} {bx aj rA rB n : Nat} {l : List E} (h : JnI w W bx aj rA rB n l) (hB : Below W.heap.size W W') : JnI w W' bx aj rA rB n l := by
 obtain ⟨⟨J, h1, h2⟩, h3, h4, h5, h6, h7⟩ := h; exact ⟨⟨J, h1, h2.below hB⟩, h3.trans (hB.mono h3.size), h4.below hB, h5.below hB, h6.below hB, h7.below hB⟩
theorem JnI.own {β : Type} {w : World} {B bx aj rA rB : Nat} (hB : w.heap.size ≤ B) (n : β → Nat) (l : β → List E) : OwnL B (fun s W => JnI w W bx aj rA rB (n s) (l s)) := fun s W W' row h hg hr => by
 obtain ⟨⟨J, h1, h2⟩, h3, h4, h5, h6, h7⟩ := h; have hk := keepsA_of hg (fun r e => (hr r e).2); exact ⟨⟨J, h1, h2.keepsA hk⟩, h3.grown hg h3.size (fun q e => Nat.le_trans hB (hr q e).1), h4.keepsA hk, h5.keepsA hk, h6.keepsA hk, h7.keepsA hk⟩
theorem JnI.put {w W W' : World} {bx aj rA rB n n' : Nat} {l l' : List E} (h : JnI w W bx aj rA rB n l) (hT : Turn w.heap.size W W') (hR : ∃ J : ByteArray → Nat, J ⟨#[47]⟩ = aj ∧ Rep W' w.heap.size n' l' J) : JnI w W' bx aj rA rB n' l' :=
 ⟨hR, h.below.trans hT.below, h.x1.turn hT, h.x2.turn hT, h.x3.turn hT, h.x5.turn hT⟩
theorem cov_free {a : List E} (A : TrM a) (m : E) : Ly.covM a m.p = !Ly.freeM a m := by
 have h1 := Ly.free_iff A m; unfold Ly.covM; cases hl : lookE a m.p with
 | some k =>
  have : Ly.freeM a m = false := by
   cases q : Ly.freeM a m with
   | false => rfl
   | true => rw [(h1.1 q).2] at hl; cases hl
  rw [this]; rfl
 | none =>
  rw [hl] at h1; cases hh : hidesM a m.p with
  | true =>
   have : Ly.freeM a m = false := by
    cases q : Ly.freeM a m with
    | false => rfl
    | true => rw [(h1.1 q).1] at hh; cases hh
   rw [this]; rfl
  | false => rw [h1.2 ⟨hh, rfl⟩]; rfl
theorem told_pre {es : List E} (T : TrM es) {pre : List (ItemM (toldM es ⟨#[47]⟩ ⟨#[]⟩))} {x : ItemM (toldM es ⟨#[47]⟩ ⟨#[]⟩)} (h : (pre ++ [x]).map Subtype.val <+: toldM es ⟨#[47]⟩ ⟨#[]⟩) : marksL pre ++ [x.1.2] <+: es := by
 have h1 : marksL (pre ++ [x]) = ((pre ++ [x]).map Subtype.val).map Prod.snd := by unfold marksL; rw [List.map_map]; rfl
 rw [← marksL_snoc, h1]; have h2 : es = (toldM es ⟨#[47]⟩ ⟨#[]⟩).map Prod.snd := by rw [toldM_all T, List.map_map]; exact (List.map_id'' (fun _ => rfl) es).symm
 obtain ⟨r, hr⟩ := h; exact ⟨r.map Prod.snd, by rw [← List.map_append, hr]; exact h2.symm⟩
theorem item_is {es : List E} (T : TrM es) (x : ItemM (toldM es ⟨#[47]⟩ ⟨#[]⟩)) : x.1.1 = x.1.2.p ∧ x.1.2 ∈ es := by
 obtain ⟨⟨s, e⟩, h⟩ := x; rw [toldM_all T, List.mem_map] at h; obtain ⟨e', h1, h2⟩ := h
 injection h2 with h2 h3
 subst h3; exact ⟨h2.symm, h1⟩
set_option maxHeartbeats 4000000 in
set_option maxRecDepth 100000 in
theorem join_any (w : World) (b1 N1 b2 N2 : Nat) (a b : List E) (A B : ByteArray → Nat) (TA : TrM a) (TB : TrM b) (RA : Rep w b1 N1 a A) (RB : Rep w b2 N2 b B) (hN1 : N1 ≤ 1000) (hN2 : N2 ≤ 1000) (ha : a.length ≤ 100) (hb : b.length ≤ 100) :
  Calls Tryz.prog 80 #[layV A, layV B] w fun e w' => ∃ J, e = .returned (layV J) ∧ Below w.heap.size w w' ∧ Rep w' w.heap.size 200 (Ly.joinM a b) J := by
 obtain ⟨W0, hW0⟩ : ∃ W0, W0 = ((w.alloc (.cells #[.iface 169 (.agg #[]), .map (some (A ⟨#[47]⟩))] 111)).alloc (.cells #[.iface 169 (.agg #[]), .map (some (B ⟨#[47]⟩))] 111)).alloc (.cells #[.nilIface, .map none] 111) := ⟨_, rfl⟩
 have hB0 : Below w.heap.size w W0 := by rw [hW0]; exact belowA (belowA (belowA (Below.refl _ w) _) _) _
 have hs0 : W0.heap.size = w.heap.size + 3 := by rw [hW0]; simp
 have X1 : Box2 W0 w.heap.size (.iface 169 (.agg #[])) (.map (some (A ⟨#[47]⟩))) := by rw [hW0]; exact ((Box2.new _ _ _ _).on _).on _
 have X2 : Box2 W0 (w.heap.size + 1) (.iface 169 (.agg #[])) (.map (some (B ⟨#[47]⟩))) := by
  rw [hW0]; have := (Box2.new (w.alloc (.cells #[.iface 169 (.agg #[]), .map (some (A ⟨#[47]⟩))] 111)) (.iface 169 (.agg #[])) (.map (some (B ⟨#[47]⟩))) 111).on (.cells #[.nilIface, .map none] 111)
  rwa [World.size_alloc] at this
 have X3 : Box2 W0 (w.heap.size + 2) .nilIface (.map none) := by
  rw [hW0]; have := Box2.new ((w.alloc (.cells #[.iface 169 (.agg #[]), .map (some (A ⟨#[47]⟩))] 111)).alloc (.cells #[.iface 169 (.agg #[]), .map (some (B ⟨#[47]⟩))] 111)) .nilIface (.map none) 111
  rwa [World.size_alloc, World.size_alloc] at this
 refine (callsIn_wide (n := 6)).1 ?_; refine callsIn_of_wp_marks Tryz.func80 rfl trivial ?_ rfl; simp only [Tryz.ntmps80, List.size_toArray, List.length_cons, List.length_nil, Nat.reduceAdd, Nat.reduceSub, Array.replicate_succ, Array.replicate_zero, List.push_toArray, List.append_toArray, List.nil_append, List.cons_append]
 gi_wp2_with fail
 rw [← hW0]; refine ⟨trivial, ?_⟩; refine (callsIn_wide.2 (newLayer_any _)).mono ?_; rintro e w1 ⟨⟨aj, haj, rfl, hM1⟩, hB1⟩; obtain ⟨W1, hW1⟩ : ∃ W1, W1 = w1.alloc (.cells #[.iface 169 (.agg #[]), .map (some aj)] 111) := ⟨_, rfl⟩
 have hsw := hB1.size; have hB01 : Below W0.heap.size W0 W1 := by rw [hW1]; exact belowA hB1 _
 have hI1 : Hid (JnI w W1 w1.heap.size aj (A ⟨#[47]⟩) (B ⟨#[47]⟩) 0 []) := by
  refine ⟨⟨fun _ => aj, rfl, ?_⟩, belowT hB0 hB01, X1.below hB01, X2.below hB01, X3.below hB01, by rw [hW1]; exact Box2.new _ _ _ _⟩; exact rep_nil (by omega) (by rw [hW1]; exact hM1.kept (Below.heap_alloc _ _ _ hM1.lt))
 have HRA := hid (fun (W : World) (h : Below w.heap.size w W) => RA.below h); have HRB := hid (fun (W : World) (h : Below w.heap.size w W) => RB.below h); have HlowA : Hid (∀ p, AtM a p → A p < w.heap.size) := fun p hp => (RA.kids p hp).lt; have HlowB : Hid (∀ p, AtM b p → B p < w.heap.size) := fun p hp => (RB.kids p hp).lt; have hs1 : w.heap.size + 3 < W1.heap.size := by rw [hW1]; simp; omega
 have hs11 : w1.heap.size < W1.heap.size := by rw [hW1]; simp
 clear RA RB X1 X2 X3 hB0 hB1 hM1 hW0 hB01; obtain ⟨y0, y1, y2, y3⟩ := hI1.out.x1; rw [hW1] at y0 y1
 gi_wp2_with fail
 rw [← hW1]; refine ⟨trivial, ?_⟩; refine (callsIn_wide.2 (all_any A _)).mono ?_; rintro e w2 ⟨rfl, hB2, hb2, d0, d1⟩; have hI2 := hid (hI1.out.bel hB2); have hsW : W1.heap.size = w1.heap.size + 1 := by rw [hW1]; simp
 rw [hsW] at hb2 d0 d1; have hta : (toldM a ⟨#[47]⟩ ⟨#[]⟩).length = a.length := by rw [toldM_all TA, List.length_map]
 have htb : (toldM b ⟨#[47]⟩ ⟨#[]⟩).length = b.length := by rw [toldM_all TB, List.length_map]
 have hs2 := hB2.size; clear y0 y1 y2 y3 hI1
 gi_wp2
 refine wpIn_map rfl (by omega) (gf := 133) (lb := #[.pointer (some ⟨w1.heap.size + 1, 0, none⟩)]) rfl trivial (enters_of Tryz.func133 (by kernel_rfl) rfl)
  (allJ_map _ (by omega) a A b1 N1 w.heap.size hN1 (by omega) TA (w1.heap.size + 1) w2 hb2 d0 d1 HlowA.out (HRA.out _ hI2.out.below)) KpM.t (fun W l o o' _ h1 h2 h3 => KpM.b W l o o' h1 h2 h3) (Below.refl _ _) (fun _ => rfl)
  (fun (pre : List (ItemM (toldM a ⟨#[47]⟩ ⟨#[]⟩))) W => JnI w W w1.heap.size aj (A ⟨#[47]⟩) (B ⟨#[47]⟩) pre.length (Ly.upA b (marksL pre)))
  (fun _ _ _ => False)
  (JnI.own (by omega) _ _) (fun _ _ _ _ _ hs _ _ => hs) hI2.out
  (fun x ac _ => ac = { tmps := #[layV A, layV B, .pointer (some ⟨w.heap.size, 0, none⟩), .pointer (some ⟨w.heap.size + 1, 0, none⟩), .pointer (some ⟨w.heap.size + 1 + 1, 0, none⟩), .pointer (some ⟨w1.heap.size, 0, none⟩), .string x.1.1, signV x.1.2.d x.1.2.x, undef, undef, undef, undef, .agg #[.iface 169 (.agg #[]), .map (some aj)], layV A, .func (.func 133) #[] #[.pointer (some ⟨w1.heap.size + 1, 0, none⟩)], .string x.1.1, signV x.1.2.d x.1.2.x, undef, undef, undef, undef, undef, undef, undef, undef, undef, undef, undef, undef, undef, undef, undef, undef, undef, undef, undef, undef, undef, undef, undef, undef, undef, undef, undef, undef, undef, undef, undef, undef, undef, undef, undef, undef], defers := [] })
  (fun _ _ _ _ _ _ hs _ _ => hs)
  ?assign ?body ?done ?stop
 case stop =>
  rintro D c pre W _ _ h _; exact h.elim
 case assign =>
  rintro l pre x W K hI hK
  gi_wp2
  exact hK _ _ ⟨Nat.le_refl _, fun _ _ _ h _ _ => h⟩ (KpM.of (Below.refl _ W)) hI rfl
 case body =>
  rintro l pre x ac W hl hI hsp rfl hlt; obtain ⟨hxs, hxm⟩ := item_is TA x; have hpr := told_pre TA hsp; obtain ⟨⟨s, e⟩, hxi⟩ := x; dsimp only at hxs hxm hpr ⊢; subst hxs; obtain ⟨hup, hnone⟩ := Ly.upA_next TA b hpr; have hke := TA.kind e hxm; have hpe := TA.path e hxm; have hes : e.p.size ≤ 16777216 := by have := path_sizeD hpe; omega
  have hpl : pre.length < 1000 := by omega
  obtain ⟨J, hJ0, hJR⟩ := hI.rep; have hTu := Ly.upA_tr TA b ((List.prefix_append _ _).trans hpr); have hla : layV J = .agg #[.iface 169 (.agg #[]), .map (some aj)] := by unfold layV; rw [hJ0]
  have HPut := hid (fun (W' : World) (d : Int) (hB : Below W.heap.size W W') => putq_any w.heap.size pre.length (Ly.upA b (marksL pre)) J hTu W' (hJR.below hB) (Nat.le_trans hI.below.size hB.size) hpl e.p hes d e.x hpe hup hnone); rw [hla] at HPut; have HAt := hid (at_any b2 N2 b B TB (e.p.size + 1) W (HRB.out _ hI.below) e.p (Nat.lt_succ_self _) hes)
  have hsn : Ly.upA b (marksL (pre ++ [(⟨(e.p, e), hxi⟩ : ItemM (toldM a ⟨#[47]⟩ ⟨#[]⟩))])) = putE (Ly.upA b (marksL pre)) ⟨e.p, Ly.bothK e.d (kindM b e.p), e.x⟩ := by
   rw [marksL_snoc, Ly.upA_snoc]; rfl
  have HI := hid hI; have HSN := hid hsn; have hff : ∀ f, Fence.wide.fn f := fun _ => trivial
  have fin : Hid (∀ (d : Int) (W3 W4 : World), d = Ly.bothK e.d (kindM b e.p) → Below W.heap.size W W3 → Turn w.heap.size W3 W4 → (∃ A', A' ⟨#[47]⟩ = J ⟨#[47]⟩ ∧ Rep W4 w.heap.size (pre.length + 1) (putE (Ly.upA b (marksL pre)) ⟨e.p, d, e.x⟩) A') →
    KeepsL w2.heap.size W W4 ∧ KpM w.heap.size W W4 ∧ JnI w W4 w1.heap.size aj (A ⟨#[47]⟩) (B ⟨#[47]⟩) (pre ++ [(⟨(e.p, e), hxi⟩ : ItemM (toldM a ⟨#[47]⟩ ⟨#[]⟩))]).length (Ly.upA b (marksL (pre ++ [(⟨(e.p, e), hxi⟩ : ItemM (toldM a ⟨#[47]⟩ ⟨#[]⟩))])))) := by
   rintro d W3 W4 rfl hB hT ⟨A', hA', hR'⟩; refine ⟨(KeepsL.of_from (keepsBM hB)).trans (KeepsL.turn hT), (KpM.of hB).t (KpM.turn hT), ?_⟩; rw [HSN.out, List.length_append, List.length_singleton]; exact (HI.out.bel hB).put hT ⟨A', hA'.trans hJ0, hR'⟩
  obtain ⟨y0, y1, y2, y3⟩ := hI.x2; have HX5 := hid hI.x5; cases hlk : lookE b e.p with
  | none =>
   have hkb : kindM b e.p = 0 := by rw [kind_look, hlk]; rfl
   have hbk : e.d = Ly.bothK e.d (kindM b e.p) := by unfold Ly.bothK; rw [hkb, if_neg (by omega)]
   rw [atV_none (path_not_root hpe) hlk] at HAt; obtain ⟨te, ue, hse⟩ := sign_is e.d e.x; have HPe := hid (fun (W' : World) (hB : Below W.heap.size W W') => HPut.out W' e.d hB); rw [hse] at HPe ⊢; have HBK := hid hbk; clear hI hpr hup hnone hJR hTu hsn hlk hbk hsp HPut
   gi_wp2_with (first
    | (gi_at_call 110; refine (CallsIn.inRound l (callsIn_wide.2 HAt.out)).mono ?_; rintro e3 w3 ⟨rfl, hB3⟩; obtain ⟨q0, q1, q2, q3⟩ := (HX5.out.below hB3).on (.cells #[.nilIface, .map none] 109))
    | (gi_at_call 96; refine (CallsIn.inRound l (callsIn_wide.2 (HPe.out _ (belowA hB3 _)))).mono ?_; rintro e4 w4 ⟨⟨v4, rfl⟩, hT4, hR4⟩)
    | fail)
   exact fin.out _ _ _ HBK.out (belowA hB3 _) hT4 hR4
  | some f =>
   have hkf := TB.kind f (look_mem hlk).1; have hkb : kindM b e.p = f.d := by rw [kind_look, hlk]; rfl
   rw [atV_some TB hlk] at HAt; unfold nodeV at HAt; obtain ⟨te, ue, fe, hse, hme, hce, hhe⟩ := hides_of hke e.x; obtain ⟨tf, uf, ff, hsf, hmf, hcf, hhf⟩ := hides_of hkf f.x; have HHe := hid hhe; have HHf := hid hhf; rw [hsf] at HAt
   have hcase : (e.d = 2 ∧ f.d = 2 ∧ Ly.bothK e.d (kindM b e.p) = e.d) ∨ (e.d = 2 ∧ f.d ≠ 2 ∧ Ly.bothK e.d (kindM b e.p) = 4) ∨ (e.d ≠ 2 ∧ Ly.bothK e.d (kindM b e.p) = e.d) := by
    unfold Ly.bothK; rw [hkb]; by_cases h1 : e.d = 2
    ·
     by_cases h2 : f.d = 2
     ·
      exact .inl ⟨h1, h2, by rw [if_neg (fun q => q.2.2 h2)]⟩
     ·
      exact .inr (.inl ⟨h1, h2, by rw [if_pos ⟨h1, by omega, h2⟩]⟩)
    ·
     exact .inr (.inr ⟨h1, by rw [if_neg (fun q => h1 q.1)]⟩)
   have HPe := hid (fun (W' : World) (hB : Below W.heap.size W W') => HPut.out W' e.d hB); have HPb := hid (fun (W' : World) (hB : Below W.heap.size W W') => HPut.out W' 4 hB); rw [hse] at HPe ⊢; rw [sign4] at HPb; clear hI hpr hup hnone hJR hTu hsn hlk hsp HPut hhe hhf hse hsf hkb; rcases hcase with ⟨h1, h2, h3⟩ | ⟨h1, h2, h3⟩ | ⟨h1, h3⟩
   ·
    have g1 : (e.d != 2) = false := by rw [h1]; rfl
    have g2 : (f.d != 2) = false := by rw [h2]; rfl
    rw [g1] at HHe; rw [g2] at HHf; have HBK := hid h3.symm; clear h1 h2 h3 g1 g2
    gi_wp2_with (first
     | (gi_at_call 110; refine (CallsIn.inRound l (callsIn_wide.2 HAt.out)).mono ?_; rintro e3 w3 ⟨rfl, hB3⟩; have HXn := hid (Box2.new w3 (.iface tf uf) (.map (some (B e.p))) 109); have HX3 := hid (HX5.out.below hB3))
     | (refine (CallsIn.inRound l (callsIn_wide.2 (HHe.out _))).mono ?_; rintro e5 w5 ⟨rfl, hB5⟩; obtain ⟨p0, p1, p2, p3⟩ := HXn.out.below hB5; obtain ⟨q0, q1, q2, q3⟩ := ((HX3.out.on _).below hB5))
     | (refine (CallsIn.inRound l (callsIn_wide.2 (HHf.out _))).mono ?_; rintro e6 w6 ⟨rfl, hB6⟩; clear q0 q1 q2 q3; obtain ⟨q0, q1, q2, q3⟩ := (((HX3.out.on _).below hB5).below hB6))
     | (gi_at_call 96; refine (CallsIn.inRound l (callsIn_wide.2 (HPe.out _ (belowT (belowT (belowA hB3 _) hB5) hB6)))).mono ?_; rintro e4 w4 ⟨⟨v4, rfl⟩, hT4, hR4⟩)
     | fail)
    exact fin.out _ _ _ HBK.out (belowT (belowT (belowA hB3 _) hB5) hB6) hT4 hR4
   ·
    have g1 : (e.d != 2) = false := by rw [h1]; rfl
    have g2 : (f.d != 2) = true := by simpa using h2
    rw [g1] at HHe; rw [g2] at HHf; have HBK := hid h3.symm; clear h1 h2 h3 g1 g2
    gi_wp2_with (first
     | (gi_at_call 110; refine (CallsIn.inRound l (callsIn_wide.2 HAt.out)).mono ?_; rintro e3 w3 ⟨rfl, hB3⟩; have HXn := hid (Box2.new w3 (.iface tf uf) (.map (some (B e.p))) 109); have HX3 := hid (HX5.out.below hB3))
     | (refine (CallsIn.inRound l (callsIn_wide.2 (HHe.out _))).mono ?_; rintro e5 w5 ⟨rfl, hB5⟩; obtain ⟨p0, p1, p2, p3⟩ := HXn.out.below hB5; obtain ⟨q0, q1, q2, q3⟩ := ((HX3.out.on _).below hB5))
     | (refine (CallsIn.inRound l (callsIn_wide.2 (HHf.out _))).mono ?_; rintro e6 w6 ⟨rfl, hB6⟩; clear q0 q1 q2 q3; obtain ⟨q0, q1, q2, q3⟩ := (((HX3.out.on _).below hB5).below hB6))
     | (gi_at_call 96; refine (CallsIn.inRound l (callsIn_wide.2 (HPb.out _ (belowT (belowT (belowA hB3 _) hB5) hB6)))).mono ?_; rintro e4 w4 ⟨⟨v4, rfl⟩, hT4, hR4⟩)
     | fail)
    exact fin.out _ _ _ HBK.out (belowT (belowT (belowA hB3 _) hB5) hB6) hT4 hR4
   ·
    have g1 : (e.d != 2) = true := by simpa using h1
    rw [g1] at HHe; have HBK := hid h3.symm; clear h1 h3 g1
    gi_wp2_with (first
     | (gi_at_call 110; refine (CallsIn.inRound l (callsIn_wide.2 HAt.out)).mono ?_; rintro e3 w3 ⟨rfl, hB3⟩; have HXn := hid (Box2.new w3 (.iface tf uf) (.map (some (B e.p))) 109); have HX3 := hid (HX5.out.below hB3))
     | (refine (CallsIn.inRound l (callsIn_wide.2 (HHe.out _))).mono ?_; rintro e5 w5 ⟨rfl, hB5⟩; obtain ⟨p0, p1, p2, p3⟩ := HXn.out.below hB5; obtain ⟨q0, q1, q2, q3⟩ := ((HX3.out.on _).below hB5))
     | (gi_at_call 96; refine (CallsIn.inRound l (callsIn_wide.2 (HPe.out _ (belowT (belowA hB3 _) hB5)))).mono ?_; rintro e4 w4 ⟨⟨v4, rfl⟩, hT4, hR4⟩)
     | fail)
    exact fin.out _ _ _ HBK.out (belowT (belowA hB3 _) hB5) hT4 hR4
 case done =>
  rintro D xs W hD hxs hI hK; have hall : Ly.upA b (marksL xs) = Ly.loB a b [] := by rw [marksL_all TA hxs]; rfl
  have hxl : xs.length = a.length := by
   have := congrArg List.length hxs
   rwa [List.length_map, hta] at this
  rw [hall, hxl] at hI; obtain ⟨y0, y1, y2, y3⟩ := hI.x2; have HI := hid hI; clear hI hall
  gi_wp2_with fail
  refine ⟨trivial, ?_⟩; refine (callsIn_wide.2 (all_any B _)).mono ?_; rintro e w3 ⟨rfl, hB3, hb3, f0, f1⟩; have hI3 := hid (HI.out.bel hB3); have hs3 := hB3.size; have hD3 : w3.heap[D]? = some (.deferred (some [])) := (hB3.block _ (Array.getElem?_eq_some_iff.1 hK).1).trans hK; have hDl := (Array.getElem?_eq_some_iff.1 hK).1; have hIs := HI.out.below.size; clear y0 y1 y2 y3 HI
  gi_wp2
  refine wpIn_map rfl (by omega) (gf := 133) (lb := #[.pointer (some ⟨W.heap.size, 0, none⟩)]) rfl trivial (enters_of Tryz.func133 (by kernel_rfl) rfl)
   (allJ_map _ (by omega) b B b2 N2 w.heap.size hN2 (by omega) TB W.heap.size w3 hb3 f0 f1 HlowB.out (HRB.out _ hI3.out.below)) KpM.t (fun W l o o' _ h1 h2 h3 => KpM.b W l o o' h1 h2 h3) (Below.refl _ _) (fun _ => rfl)
   (fun (pre : List (ItemM (toldM b ⟨#[47]⟩ ⟨#[]⟩))) W => JnI w W w1.heap.size aj (A ⟨#[47]⟩) (B ⟨#[47]⟩) (a.length + pre.length) (Ly.loB a b (marksL pre)) ∧ W.heap[D]? = some (.deferred (some [])))
   (fun _ _ _ => False)
   (OwnL.and (JnI.own (by omega) _ _) (fun _ X Y row h hg hr => (hg.block D (Array.getElem?_eq_some_iff.1 h).1 (fun e => by have := (hr D e.symm).1; omega)).trans h)) (fun _ _ _ _ _ hs _ _ => hs) ⟨hI3.out, hD3⟩
   (fun x ac _ => ac = { tmps := #[layV A, layV B, .pointer (some ⟨w.heap.size, 0, none⟩), .pointer (some ⟨w.heap.size + 1, 0, none⟩), .pointer (some ⟨w.heap.size + 1 + 1, 0, none⟩), .pointer (some ⟨w1.heap.size, 0, none⟩), undef, undef, undef, undef, .string x.1.1, signV x.1.2.d x.1.2.x, .agg #[.iface 169 (.agg #[]), .map (some aj)], layV A, .func (.func 133) #[] #[.pointer (some ⟨w1.heap.size + 1, 0, none⟩)], undef, undef, undef, undef, undef, undef, undef, undef, undef, undef, undef, undef, undef, undef, undef, undef, undef, undef, undef, undef, undef, undef, undef, undef, undef, layV B, .func (.func 133) #[] #[.pointer (some ⟨W.heap.size, 0, none⟩)], .string x.1.1, signV x.1.2.d x.1.2.x, undef, undef, undef, undef, undef, undef, undef, undef, undef], defers := [] })
   (fun _ _ _ _ _ _ hs _ _ => hs)
   ?assign2 ?body2 ?done2 ?stop2
  case stop2 =>
   rintro D c pre W _ _ h _; exact h.elim
  case assign2 =>
   rintro l pre x W4 K hI hK4
   gi_wp2
   exact hK4 _ _ ⟨Nat.le_refl _, fun _ _ _ h _ _ => h⟩ (KpM.of (Below.refl _ W4)) hI rfl
  case body2 =>
   rintro l pre x ac X hl ⟨hI, hDX⟩ hsp rfl hlt; obtain ⟨hxs', hxm⟩ := item_is TB x; have hpr := told_pre TB hsp; obtain ⟨⟨s, e⟩, hxi⟩ := x; dsimp only at hxs' hxm hpr ⊢; subst hxs'; have hpe := TB.path e hxm; have hes : e.p.size ≤ 16777216 := by have := path_sizeD hpe; omega
   have hpl : a.length + pre.length < 1000 := by omega
   obtain ⟨J, hJ0, hJR⟩ := hI.rep; have hTl := Ly.loB_tr TA TB ((List.prefix_append _ _).trans hpr); have hla : layV J = .agg #[.iface 169 (.agg #[]), .map (some aj)] := by unfold layV; rw [hJ0]
   have hff : ∀ f, Fence.wide.fn f := fun _ => trivial; have HCo := hid (covers_any b1 N1 a A TA X (HRA.out _ hI.below) e.p hpe hes); rw [cov_free TA e] at HCo; have HX5 := hid hI.x5; have HI := hid hI
   have hsn : Ly.loB a b (marksL (pre ++ [(⟨(e.p, e), hxi⟩ : ItemM (toldM b ⟨#[47]⟩ ⟨#[]⟩))])) = if Ly.freeM a e = true then putE (Ly.loB a b (marksL pre)) e else Ly.loB a b (marksL pre) := by
    rw [marksL_snoc, Ly.loB_snoc]
   have HSN := hid hsn; obtain ⟨y0, y1, y2, y3⟩ := hI.x1; cases hfr : Ly.freeM a e with
   | false =>
    rw [hfr] at HCo HSN; clear hI hpr hJR hTl hsn hsp hfr
    gi_wp2_with (first
     | (gi_at_call 111; refine (CallsIn.inRound l (callsIn_wide.2 HCo.out)).mono ?_; rintro e4 w4 ⟨rfl, hB4⟩)
     | fail)
    refine ⟨KeepsL.of_from (keepsBM hB4), KpM.of hB4, ?_, (hB4.block _ (Array.getElem?_eq_some_iff.1 hDX).1).trans hDX⟩; rw [HSN.out, if_neg (by decide), List.length_append, List.length_singleton]; obtain ⟨⟨J', g1, g2⟩, g3, g4, g5, g6, g7⟩ := HI.out.bel hB4; exact ⟨⟨J', g1, g2.mono (by omega)⟩, g3, g4, g5, g6, g7⟩
   | true =>
    obtain ⟨hup, hnone⟩ := Ly.loB_next TA TB hpr hfr; have HPut := hid (fun (W' : World) (hB : Below X.heap.size X W') => putq_any w.heap.size (a.length + pre.length) (Ly.loB a b (marksL pre)) J hTl W' (hJR.below hB) (Nat.le_trans hI.below.size hB.size) hpl e.p hes e.d e.x hpe hup hnone); rw [hla] at HPut; obtain ⟨te, ue, hse⟩ := sign_is e.d e.x; rw [hse] at HPut ⊢; rw [hfr] at HCo HSN; clear hI hpr hJR hTl hsn hsp hfr hup hnone
    gi_wp2_with (first
     | (gi_at_call 111; refine (CallsIn.inRound l (callsIn_wide.2 HCo.out)).mono ?_; rintro e4 w4 ⟨rfl, hB4⟩; obtain ⟨q0, q1, q2, q3⟩ := HX5.out.below hB4)
     | (gi_at_call 96; refine (CallsIn.inRound l (callsIn_wide.2 (HPut.out _ hB4))).mono ?_; rintro e5 w5 ⟨⟨v5, rfl⟩, hT5, hR5⟩)
     | fail)
    refine ⟨(KeepsL.of_from (keepsBM hB4)).trans (KeepsL.turn hT5), (KpM.of hB4).t (KpM.turn hT5), ?_, hT5.cells _ _ ((hB4.block _ (Array.getElem?_eq_some_iff.1 hDX).1).trans hDX) (fun _ _ e => by cases e)⟩; rw [HSN.out, if_pos trivial, List.length_append, List.length_singleton]; obtain ⟨A', hA', hR'⟩ := hR5; exact (HI.out.bel hB4).put hT5 ⟨A', hA'.trans hJ0, hR'⟩
  case done2 =>
   rintro D2 ys X hD2 hys ⟨hI, hDX⟩ hK2; have hall2 : Ly.loB a b (marksL ys) = Ly.joinM a b := by rw [marksL_all TB hys]; exact Ly.loB_join TA TB
   have hyl : ys.length = b.length := by
    have := congrArg List.length hys
    rwa [List.length_map, htb] at this
   rw [hall2, hyl] at hI; have HI := hid hI; obtain ⟨y0, y1, y2, y3⟩ := hI.x5; obtain ⟨z0, z1, z2, z3⟩ := hI.x3; clear hI hall2
   gi_wp2
   have hDD : D ≠ D2 := by omega
   have hset := (Box2.mk z0 z1 z2 z3).set (.iface 169 (.agg #[])) (.map (some aj)); have hBs := set2_below (Below.refl w.heap.size X) (Nat.le_add_right w.heap.size (1 + 1)) (.iface 169 (.agg #[])) (.map (some aj)); have hko := set2_keeps X (w.heap.size + 1 + 1) (.iface 169 (.agg #[])) (.map (some aj)); obtain ⟨X', hX'⟩ : ∃ X', X' = (X.setCell ⟨w.heap.size + 1 + 1, 0, none⟩ (.iface 169 (.agg #[]))).setCell ⟨w.heap.size + 1 + 1, 1, none⟩ (.map (some aj)) := ⟨_, rfl⟩
   have hX2 : set2 X (w.heap.size + 1 + 1) (.iface 169 (.agg #[])) (.map (some aj)) = X' := hX'.symm; rw [hX2] at hset hBs hko; rw [← hX']; have hK2' := hko.same D2 _ hK2 rfl; have hDX' := hko.same D _ hDX rfl; have hD6 : (X'.putObj D2 (.deferred none)).heap[D]? = some (.deferred (some [])) := (World.putObj_heap_other hDD).trans hDX'; refine ⟨by simp, .inl ⟨_, _, rfl, run_takeDeferred hK2', ?_⟩⟩; refine ⟨by simp, .inl ⟨_, _, rfl, run_takeDeferred hD6, ?_⟩⟩; obtain ⟨⟨J, g1, g2⟩, g3, _⟩ := HI.out
   have hp : KeepsA X' ((X'.putObj D2 (.deferred none)).putObj D (.deferred none)) := fun k o h1 h2 => by
    have n2 : k ≠ D2 := fun e => by
     rw [e, hK2'] at h1; cases h1; rcases h2 with q | q <;> cases q
    have n1 : k ≠ D := fun e => by
     rw [e, hDX'] at h1; cases h1; rcases h2 with q | q <;> cases q
    exact (World.putObj_heap_other n1).trans ((World.putObj_heap_other n2).trans h1)
   have hset2 := hset.keepsA hp; refine ⟨layV J, ?_, J, rfl, ?_, ?_⟩
   ·
    have h0 := hset2.c0; have h1 := hset2.c1; simp [results, Tryz.f80, go_sem, h0, h1, g1]
   ·
    exact below_putM (by omega) _ |> fun h => (g3.trans hBs).trans ((below_putM (by omega) _).trans h)
   ·
    exact ((g2.keeps hko).keepsA hp).mono (by omega)
end Go.Proofs.YteppodogghjfhabGreatDoor.Mk
namespace Go.Proofs.YteppodogghjfhabGreatDoor.Mk
open Go.RowKit Go.Shelf Go.Lib Go.Maps
attribute [local go_sem] Oper.semAt_some
structure StI (w W : World) (bx aj : Nat) (rA : Nat) (n : Nat) (l : List E) : Prop where
 rep : ∃ J : ByteArray → Nat, J ⟨#[47]⟩ = aj ∧ Rep W w.heap.size n l J
 below : Below w.heap.size w W
 x1 : Box2 W w.heap.size (.iface 169 (.agg #[])) (.map (some rA))
 x2 : Box2 W (w.heap.size + 1) .nilIface (.map none)
 x3 : Box2 W bx (.iface 169 (.agg #[])) (.map (some aj))
theorem StI.bel {w W W' : World} {bx aj rA n : Nat} {l : List E} (h : StI w W bx aj rA n l) (hB : Below W.heap.size W W') : StI w W' bx aj rA n l := by
 obtain ⟨⟨J, h1, h2⟩, h3, h4, h6, h7⟩ := h; exact ⟨⟨J, h1, h2.below hB⟩, h3.trans (hB.mono h3.size), h4.below hB, h6.below hB, h7.below hB⟩
theorem StI.own {β : Type} {w : World} {B bx aj rA : Nat} (hB : w.heap.size ≤ B) (n : β → Nat) (l : β → List E) : OwnL B (fun s W => StI w W bx aj rA (n s) (l s)) := fun s W W' row h hg hr => by
 obtain ⟨⟨J, h1, h2⟩, h3, h4, h6, h7⟩ := h; have hk := keepsA_of hg (fun r e => (hr r e).2); exact ⟨⟨J, h1, h2.keepsA hk⟩, h3.grown hg h3.size (fun q e => Nat.le_trans hB (hr q e).1), h4.keepsA hk, h6.keepsA hk, h7.keepsA hk⟩
theorem StI.put {w W W' : World} {bx aj rA n n' : Nat} {l l' : List E} (h : StI w W bx aj rA n l) (hT : Turn w.heap.size W W') (hR : ∃ J : ByteArray → Nat, J ⟨#[47]⟩ = aj ∧ Rep W' w.heap.size n' l' J) : StI w W' bx aj rA n' l' :=
 ⟨hR, h.below.trans hT.below, h.x1.turn hT, h.x2.turn hT, h.x3.turn hT⟩
theorem left_sign {L : List E} {m : E} (hb : bareM L m.p = true) (hk : 1 ≤ m.d ∧ m.d ≤ 4) : (Ly.leftM L m = none ∧ inB m.d m.x = (.nilIface, false)) ∨ ∃ d, (d = 1 ∨ d = 2) ∧ Ly.leftM L m = some ⟨m.p, d, m.x⟩ ∧ inB m.d m.x = (signV d m.x, true) := by
 obtain ⟨p, d, x⟩ := m; dsimp only at hb hk ⊢; unfold Ly.leftM inB; dsimp only; rw [hb, if_pos rfl]; rcases (by omega : d = 1 ∨ d = 2 ∨ d = 3 ∨ d = 4) with rfl | rfl | rfl | rfl
 ·
  exact .inr ⟨1, .inl rfl, rfl, rfl⟩
 ·
  exact .inr ⟨2, .inr rfl, rfl, rfl⟩
 ·
  exact .inl ⟨rfl, rfl⟩
 ·
  exact .inr ⟨2, .inr rfl, rfl, rfl⟩
set_option maxHeartbeats 4000000 in
set_option maxRecDepth 100000 in
theorem settled_any (w : World) (b1 N1 : Nat) (a : List E) (A : ByteArray → Nat) (TA : TrM a) (hza : ∀ e ∈ a, e.x.size ≤ 16777216) (RA : Rep w b1 N1 a A) (hN1 : N1 ≤ 1000) (ha : a.length ≤ 200) :
  Calls Tryz.prog 81 #[layV A] w fun e w' => ∃ J, e = .returned (layV J) ∧ Below w.heap.size w w' ∧ Rep w' w.heap.size 200 (Ly.tidyM a) J := by
 obtain ⟨W0, hW0⟩ : ∃ W0, W0 = (w.alloc (.cells #[.iface 169 (.agg #[]), .map (some (A ⟨#[47]⟩))] 111)).alloc (.cells #[.nilIface, .map none] 111) := ⟨_, rfl⟩
 have hB0 : Below w.heap.size w W0 := by rw [hW0]; exact belowA (belowA (Below.refl _ w) _) _
 have hs0 : W0.heap.size = w.heap.size + 2 := by rw [hW0]; simp
 have X1 : Box2 W0 w.heap.size (.iface 169 (.agg #[])) (.map (some (A ⟨#[47]⟩))) := by rw [hW0]; exact (Box2.new _ _ _ _).on _
 have X2 : Box2 W0 (w.heap.size + 1) .nilIface (.map none) := by
  rw [hW0]; have := Box2.new (w.alloc (.cells #[.iface 169 (.agg #[]), .map (some (A ⟨#[47]⟩))] 111)) .nilIface (.map none) 111
  rwa [World.size_alloc] at this
 refine (callsIn_wide (n := 6)).1 ?_; refine callsIn_of_wp_marks Tryz.func81 rfl trivial ?_ rfl; simp only [Tryz.ntmps81, List.size_toArray, List.length_cons, List.length_nil, Nat.reduceAdd, Nat.reduceSub, Array.replicate_succ, Array.replicate_zero, List.push_toArray, List.append_toArray, List.nil_append, List.cons_append]
 gi_wp2_with fail
 rw [← hW0]; refine ⟨trivial, ?_⟩; refine (callsIn_wide.2 (newLayer_any _)).mono ?_; rintro e w1 ⟨⟨aj, haj, rfl, hM1⟩, hB1⟩; obtain ⟨W1, hW1⟩ : ∃ W1, W1 = w1.alloc (.cells #[.iface 169 (.agg #[]), .map (some aj)] 111) := ⟨_, rfl⟩
 have hsw := hB1.size; have hB01 : Below W0.heap.size W0 W1 := by rw [hW1]; exact belowA hB1 _
 have hI1 : Hid (StI w W1 w1.heap.size aj (A ⟨#[47]⟩) 0 []) := by
  refine ⟨⟨fun _ => aj, rfl, ?_⟩, belowT hB0 hB01, X1.below hB01, X2.below hB01, by rw [hW1]; exact Box2.new _ _ _ _⟩; exact rep_nil (by omega) (by rw [hW1]; exact hM1.kept (Below.heap_alloc _ _ _ hM1.lt))
 have HRA := hid (fun (W : World) (h : Below w.heap.size w W) => RA.below h); have HlowA : Hid (∀ p, AtM a p → A p < w.heap.size) := fun p hp => (RA.kids p hp).lt; have hs1 : w.heap.size + 2 < W1.heap.size := by rw [hW1]; simp; omega
 have hs11 : w1.heap.size < W1.heap.size := by rw [hW1]; simp
 clear RA X1 X2 hB0 hB1 hM1 hW0 hB01; obtain ⟨y0, y1, y2, y3⟩ := hI1.out.x1; rw [hW1] at y0 y1
 gi_wp2_with fail
 rw [← hW1]; refine ⟨trivial, ?_⟩; refine (callsIn_wide.2 (all_any A _)).mono ?_; rintro e w2 ⟨rfl, hB2, hb2, d0, d1⟩; have hI2 := hid (hI1.out.bel hB2); have hsW : W1.heap.size = w1.heap.size + 1 := by rw [hW1]; simp
 rw [hsW] at hb2 d0 d1; have hta : (toldM a ⟨#[47]⟩ ⟨#[]⟩).length = a.length := by rw [toldM_all TA, List.length_map]
 have hs2 := hB2.size; clear y0 y1 y2 y3 hI1
 gi_wp2
 refine wpIn_map rfl (by omega) (gf := 133) (lb := #[.pointer (some ⟨w1.heap.size + 1, 0, none⟩)]) rfl trivial (enters_of Tryz.func133 (by kernel_rfl) rfl)
  (allJ_map _ (by omega) a A b1 N1 w.heap.size hN1 (by omega) TA (w1.heap.size + 1) w2 hb2 d0 d1 HlowA.out (HRA.out _ hI2.out.below)) KpM.t (fun W l o o' _ h1 h2 h3 => KpM.b W l o o' h1 h2 h3) (Below.refl _ _) (fun _ => rfl)
  (fun (pre : List (ItemM (toldM a ⟨#[47]⟩ ⟨#[]⟩))) W => StI w W w1.heap.size aj (A ⟨#[47]⟩) pre.length (Ly.leA a (marksL pre)))
  (fun _ _ _ => False)
  (StI.own (by omega) _ _) (fun _ _ _ _ _ hs _ _ => hs) hI2.out
  (fun x ac _ => ac = { tmps := #[layV A, .pointer (some ⟨w.heap.size, 0, none⟩), .pointer (some ⟨w.heap.size + 1, 0, none⟩), .pointer (some ⟨w1.heap.size, 0, none⟩), .string x.1.1, signV x.1.2.d x.1.2.x, undef, .agg #[.iface 169 (.agg #[]), .map (some aj)], layV A, .func (.func 133) #[] #[.pointer (some ⟨w1.heap.size + 1, 0, none⟩)], .string x.1.1, signV x.1.2.d x.1.2.x, undef, undef, undef, undef, undef, undef, undef, undef, undef, undef, undef, undef, undef, undef], defers := [] })
  (fun _ _ _ _ _ _ hs _ _ => hs)
  ?assign ?body ?done ?stop
 case stop =>
  rintro D c pre W _ _ h _; exact h.elim
 case assign =>
  rintro l pre x W K hI hK
  gi_wp2
  exact hK _ _ ⟨Nat.le_refl _, fun _ _ _ h _ _ => h⟩ (KpM.of (Below.refl _ W)) hI rfl
 case body =>
  rintro l pre x ac W hl hI hsp rfl hlt; obtain ⟨hxs, hxm⟩ := item_is TA x; have hpr := told_pre TA hsp; obtain ⟨⟨s, e⟩, hxi⟩ := x; dsimp only at hxs hxm hpr ⊢; subst hxs; have hke := TA.kind e hxm; have hpe := TA.path e hxm; have hes : e.p.size ≤ 16777216 := by have := path_sizeD hpe; omega
  have hex := hza e hxm; have hpl : pre.length < 1000 := by omega
  obtain ⟨J, hJ0, hJR⟩ := hI.rep; have hTu := Ly.leA_tr TA ((List.prefix_append _ _).trans hpr); have hla : layV J = .agg #[.iface 169 (.agg #[]), .map (some aj)] := by unfold layV; rw [hJ0]
  have hff : ∀ f, Fence.wide.fn f := fun _ => trivial; have HBa := hid (bares_any b1 N1 a A TA W (HRA.out _ hI.below) e.p hes); rw [bares_is TA hpe] at HBa; have HI := hid hI; have HX3 := hid hI.x3
  have hsn : Ly.leA a (marksL (pre ++ [(⟨(e.p, e), hxi⟩ : ItemM (toldM a ⟨#[47]⟩ ⟨#[]⟩))])) = Ly.leA a (marksL pre) ++ (Ly.leftM a e).toList := by
   rw [marksL_snoc, Ly.leA_snoc]
  have HSN := hid hsn; obtain ⟨y0, y1, y2, y3⟩ := hI.x1
  have HPut := hid (fun (W' : World) (k : E) (hk : Ly.leftM a e = some k) (hB : Below W.heap.size W W') => put_any w.heap.size pre.length (Ly.leA a (marksL pre)) J hTu W' (hJR.below hB) (Nat.le_trans hI.below.size hB.size) hpl k.p (by rw [Ly.left_path hk]; exact hes) k.d k.x (by rw [Ly.left_path hk]; exact hpe)
   ((Ly.leA_next TA hpr hk).1.imp id fun ⟨f, h, _⟩ => ⟨f, h⟩) (look_none.2 fun f hf q => by have := (Ly.leA_next TA hpr hk).2 f hf; rw [q] at this; exact less_irrefl _ this))
  rw [hla] at HPut
  have fin : Hid (∀ (k : E) (W3 W4 : World), Ly.leftM a e = some k → Below W.heap.size W W3 → Turn w.heap.size W3 W4 → (∃ A', A' ⟨#[47]⟩ = J ⟨#[47]⟩ ∧ Rep W4 w.heap.size (pre.length + 1) (Ly.leA a (marksL pre) ++ [⟨k.p, k.d, k.x⟩]) A') →
    KeepsL w2.heap.size W W4 ∧ KpM w.heap.size W W4 ∧ StI w W4 w1.heap.size aj (A ⟨#[47]⟩) (pre ++ [(⟨(e.p, e), hxi⟩ : ItemM (toldM a ⟨#[47]⟩ ⟨#[]⟩))]).length (Ly.leA a (marksL (pre ++ [(⟨(e.p, e), hxi⟩ : ItemM (toldM a ⟨#[47]⟩ ⟨#[]⟩))])))) := by
   rintro k W3 W4 hk hB hT ⟨A', hA', hR'⟩; refine ⟨(KeepsL.of_from (keepsBM hB)).trans (KeepsL.turn hT), (KpM.of hB).t (KpM.turn hT), ?_⟩; rw [HSN.out, hk, List.length_append, List.length_singleton]; exact (HI.out.bel hB).put hT ⟨A', hA'.trans hJ0, hR'⟩
  cases hb : bareM a e.p with
  | false =>
   have hk := Ly.left_self hb; have HPe := hid (fun (W' : World) (hB : Below W.heap.size W W') => HPut.out W' e hk hB); have HK := hid hk; rw [hb] at HBa; obtain ⟨te, ue, hse⟩ := sign_is e.d e.x; rw [hse] at HPe ⊢; clear hI hpr hJR hTu hsn hsp HPut hb hk
   gi_wp2_with (first
    | (gi_at_call 112; refine (CallsIn.inRound l (callsIn_wide.2 HBa.out)).mono ?_; rintro e3 w3 ⟨rfl, hB3⟩; obtain ⟨q0, q1, q2, q3⟩ := HX3.out.below hB3)
    | (gi_at_call 96; refine (CallsIn.inRound l (callsIn_wide.2 (HPe.out _ hB3))).mono ?_; rintro e4 w4 ⟨⟨v4, rfl⟩, hT4, hR4⟩)
    | fail)
   exact fin.out e _ _ HK.out hB3 hT4 hR4
  | true =>
   rw [hb] at HBa; have HIn := hid (fun (W' : World) => inBare_any e.d e.x hex hke W'); rcases left_sign hb hke with ⟨hk, hv⟩ | ⟨d, hd, hk, hv⟩
   ·
    rw [hv] at HIn; obtain ⟨te, ue, hse⟩ := sign_is e.d e.x; rw [hse] at HIn ⊢; have HK := hid hk; clear hI hpr hJR hTu hsn hsp HPut hb hk
    gi_wp2_with (first
     | (gi_at_call 112; refine (CallsIn.inRound l (callsIn_wide.2 HBa.out)).mono ?_; rintro e3 w3 ⟨rfl, hB3⟩)
     | (gi_at_call 113; refine (CallsIn.inRound l (callsIn_wide.2 (HIn.out _))).mono ?_; rintro e4 w4 ⟨rfl, hB4⟩)
     | fail)
    refine ⟨KeepsL.of_from (keepsBM (belowT hB3 hB4)), KpM.of (belowT hB3 hB4), ?_⟩; show StI _ _ _ _ _ _ _
    rw [HSN.out, HK.out, List.length_append, List.length_singleton]; obtain ⟨⟨J', g1, g2⟩, g3, g4, g5, g6⟩ := HI.out.bel (belowT hB3 hB4); exact ⟨⟨J', g1, by rw [Option.toList_none, List.append_nil]; exact g2.mono (by omega)⟩, g3, g4, g5, g6⟩
   ·
    rw [hv] at HIn; have HPe := hid (fun (W' : World) (hB : Below W.heap.size W W') => HPut.out W' ⟨e.p, d, e.x⟩ hk hB); obtain ⟨te, ue, hse⟩ := sign_is e.d e.x; obtain ⟨td, ud, hsd⟩ := sign_is d e.x; rw [hse] at HIn ⊢; dsimp only at HPe HIn; rw [hsd] at HPe HIn; have HK := hid hk; clear hI hpr hJR hTu hsn hsp HPut hb hk hv hse hsd
    gi_wp2_with (first
     | (gi_at_call 112; refine (CallsIn.inRound l (callsIn_wide.2 HBa.out)).mono ?_; rintro e3 w3 ⟨rfl, hB3⟩)
     | (gi_at_call 113; refine (CallsIn.inRound l (callsIn_wide.2 (HIn.out _))).mono ?_; rintro e4 w4 ⟨rfl, hB4⟩; obtain ⟨q0, q1, q2, q3⟩ := (HX3.out.below hB3).below hB4)
     | (gi_at_call 96; refine (CallsIn.inRound l (callsIn_wide.2 (HPe.out _ (belowT hB3 hB4)))).mono ?_; rintro e5 w5 ⟨⟨v5, rfl⟩, hT5, hR5⟩)
     | fail)
    exact fin.out _ _ _ HK.out (belowT hB3 hB4) hT5 hR5
 case done =>
  rintro D xs X hD hxs hI hK; have hall : Ly.leA a (marksL xs) = Ly.tidyM a := by rw [marksL_all TA hxs, Ly.tidy_is TA]; rfl
  have hxl : xs.length = a.length := by
   have := congrArg List.length hxs
   rwa [List.length_map, hta] at this
  rw [hall, hxl] at hI; have HI := hid hI; obtain ⟨y0, y1, y2, y3⟩ := hI.x3; obtain ⟨z0, z1, z2, z3⟩ := hI.x2; clear hI hall
  gi_wp2
  have hset := (Box2.mk z0 z1 z2 z3).set (.iface 169 (.agg #[])) (.map (some aj)); have hBs := set2_below (Below.refl w.heap.size X) (Nat.le_add_right w.heap.size 1) (.iface 169 (.agg #[])) (.map (some aj)); have hko := set2_keeps X (w.heap.size + 1) (.iface 169 (.agg #[])) (.map (some aj)); obtain ⟨X', hX'⟩ : ∃ X', X' = (X.setCell ⟨w.heap.size + 1, 0, none⟩ (.iface 169 (.agg #[]))).setCell ⟨w.heap.size + 1, 1, none⟩ (.map (some aj)) := ⟨_, rfl⟩
  have hX2 : set2 X (w.heap.size + 1) (.iface 169 (.agg #[])) (.map (some aj)) = X' := hX'.symm; rw [hX2] at hset hBs hko; rw [← hX']; have hK' := hko.same D _ hK rfl; refine ⟨by simp, .inl ⟨_, _, rfl, run_takeDeferred hK', ?_⟩⟩; obtain ⟨⟨J, g1, g2⟩, g3, _⟩ := HI.out
  have hp : KeepsA X' (X'.putObj D (.deferred none)) := fun k o h1 h2 => by
   have n1 : k ≠ D := fun e => by
    rw [e, hK'] at h1; cases h1; rcases h2 with q | q <;> cases q
   exact (World.putObj_heap_other n1).trans h1
  have hset2 := hset.keepsA hp; refine ⟨layV J, ?_, J, rfl, ?_, ?_⟩
  ·
   have h0 := hset2.c0; have h1 := hset2.c1; simp [results, Tryz.f81, go_sem, h0, h1, g1]
  ·
   exact (g3.trans hBs).trans (below_putM (by omega) _)
  ·
   exact ((g2.keeps hko).keepsA hp).mono (by omega)
end Go.Proofs.YteppodogghjfhabGreatDoor.Mk
namespace Go.Proofs.YteppodogghjfhabGreatDoor.Mk
open Go.RowKit Go.Lib Go.Shelf
attribute [local go_sem] Oper.semAt_some
def jnB (a b : List E) : Bool := (layB a && layB b) && decide ((Ly.tidyM (Ly.joinM a b)).length ≤ 32)
def jnE (a b : List E) : List E := if jnB a b = true then Ly.tidyM (Ly.joinM a b) else []
theorem lay_len {l : List E} (h : layB l = true) : l.length ≤ 32 := by
 unfold layB at h; rw [Bool.and_eq_true] at h; exact of_decide_eq_true h.2
theorem join_len (a b : List E) (ha : a.length ≤ 32) (hb : b.length ≤ 32) : (Ly.joinM a b).length ≤ 64 := by
 have h1 := upp_len b (lowF a b) a a.length (Nat.le_refl _); have h2 := low_len a b b.length (Nat.le_refl _); rw [List.take_length] at h1 h2; show (uppF b (lowF a b) a).length ≤ 64
 omega
theorem tidy_len (l : List E) (hz : ∀ e ∈ l, e.p.size ≤ 16777216) : (Ly.tidyM l).length ≤ l.length := by
 have := (tid_facts l hz l.length (Nat.le_refl _)).1
 rwa [List.take_length] at this
theorem join_sz {a b : List E} (A : TrM a) (B : TrM b) (hz : ∀ e ∈ a, e.p.size ≤ 16777216 ∧ e.x.size ≤ 16777216) (hz' : ∀ e ∈ b, e.p.size ≤ 16777216 ∧ e.x.size ≤ 16777216) : ∀ e ∈ Ly.joinM a b, e.p.size ≤ 16777216 ∧ e.x.size ≤ 16777216 := fun e he => by
 rcases (Ly.join_mem A B e).1 he with ⟨k, hk, rfl⟩ | ⟨h, _⟩
 ·
  exact hz k hk
 ·
  exact hz' e h
set_option maxHeartbeats 2000000 in
set_option maxRecDepth 100000 in
theorem sLayerJoin_any (w : World) (a : Option Addr) (g o cap : Nat) (l : List E) (a' : Option Addr) (g' o' cap' : Nat) (t : List E) (hl : l.length ≤ 1048576) (ht : t.length ≤ 1048576) (hcap : l.length ≤ cap) (hcap' : t.length ≤ cap') (hz : ∀ e ∈ l, e.p.size ≤ 16777216 ∧ e.x.size ≤ 16777216) (hz' : ∀ e ∈ t, e.p.size ≤ 16777216 ∧ e.x.size ≤ 16777216) (ha : 0 < l.length → a = some ⟨g, o, none⟩) (ha' : 0 < t.length → a' = some ⟨g', o', none⟩) (hE : Ents w g o l) (hF : Ents w g' o' t) :
  Calls Tryz.prog 36 #[.slice a l.length cap, .slice a' t.length cap'] w fun r w' => ∃ v, r = .returned (.tuple #[v, .bool (jnB l t)]) ∧ OwnE w' w.heap.size v (jnE l t) ∧ Below w.heap.size w w' := by
 have HE := hidE hE; have HF := hidE hF; have HO := hidE (fun (W : World) (hW : Ents W g o l) => sLayerOk_any W a g o cap l (by omega) hcap hz ha hW); have HT := hidE (fun (W : World) (hW : Ents W g' o' t) => sLayerOk_any W a' g' o' cap' t (by omega) hcap' hz' ha' hW); have HD : Hid (jnB l t = ((layB l && layB t) && decide ((Ly.tidyM (Ly.joinM l t)).length ≤ 32))) := rfl; clear hE hF; go_enter Tryz.func36, Tryz.ntmps36
 go_wp2_with fail
 refine (HO.out _ HE.out).mono ?_; rintro e w1 ⟨rfl, hB⟩; have HB1 := hidE hB; have HE1 := hidE (HE.out.below hB); have HF1 := hidE (HF.out.below hB); clear hB; cases hly : layB l with
 | false =>
  have hn : jnB l t = false := by rw [HD.out, hly]; rfl
  have hq : jnE l t = [] := by unfold jnE; rw [hn]; rfl
  go_wp2
  go_ret2
  exact ⟨_, by rw [hn]; rfl, by rw [hq]; exact OwnE.made _ HB1.out.size, HB1.out.alloc HB1.out.size _⟩
 | true =>
  go_wp2_with fail
  refine (HT.out _ HF1.out).mono ?_; rintro e w2 ⟨rfl, hB⟩; have HB2 := hidE (tBelow HB1.out hB); have HE2 := hidE (HE1.out.below hB); have HF2 := hidE (HF1.out.below hB); clear hB HB1 HE1 HF1; cases htr : layB t with
  | false =>
   have hn : jnB l t = false := by rw [HD.out, hly, htr]; rfl
   have hq : jnE l t = [] := by unfold jnE; rw [hn]; rfl
   go_wp2
   go_ret2
   exact ⟨_, by rw [hn]; rfl, by rw [hq]; exact OwnE.made _ HB2.out.size, HB2.out.alloc HB2.out.size _⟩
  | true =>
   have hll := lay_len hly; have htl := lay_len htr; have hjl := join_len l t hll htl; have hjz := join_sz (layB_tr hly) (layB_tr htr) hz hz'; go_wp2_with fail
   refine (l3Join_any _ a g o cap l a' g' o' cap' t (by omega) (by omega) (fun e he => (hz e he).1) (fun e he => (hz' e he).1) ha ha' HE2.out HF2.out).mono ?_; rintro e w3 ⟨v3, rfl, ho3, hB⟩; have HO3 := hidE (ho3.lower (base' := w.heap.size) HB2.out.size); have HB3 := hidE (tBelow HB2.out hB); clear ho3 hB HB2 HE2 HF2; obtain ⟨a3, g3, c3, rfl, ha3, hE3, hc3⟩ := HO3.out.ents; have HTd := hidE (l3Tidy_any w3 a3 g3 0 c3 (Ly.joinM l t) (by omega) (fun e he => (hjz e he).1) ha3 hE3); clear ha3 hE3; go_wp2_with fail
   refine HTd.out.mono ?_; rintro e w4 ⟨v4, rfl, ho4, hB⟩; have HO4 := hidE (ho4.lower (base' := w.heap.size) HB3.out.size); have HB4 := hidE (tBelow HB3.out hB); clear ho4 hB HB3; obtain ⟨a4, g4, c4, rfl, ha4, hE4, hc4⟩ := HO4.out.ents; clear ha4 hE4; by_cases h16 : (Ly.tidyM (Ly.joinM l t)).length ≤ 32
   ·
    have hn : jnB l t = true := by rw [HD.out, hly, htr, decide_eq_true h16]; rfl
    have hq : jnE l t = Ly.tidyM (Ly.joinM l t) := by unfold jnE; rw [hn]; rfl
    go_wp2
    go_ret2
    exact ⟨_, by rw [hn]; rfl, by rw [hq]; exact HO4.out, HB4.out⟩
   ·
    have hn : jnB l t = false := by rw [HD.out, hly, htr, decide_eq_false h16]; rfl
    have hq : jnE l t = [] := by unfold jnE; rw [hn]; rfl
    have h17 : (32 : Int) < (Ly.tidyM (Ly.joinM l t)).length := by omega
    go_wp2
    go_ret2
    exact ⟨_, by rw [hn]; rfl, by rw [hq]; exact OwnE.made _ HB4.out.size, HB4.out.alloc HB4.out.size _⟩
set_option maxHeartbeats 2000000 in
set_option maxRecDepth 100000 in
theorem iLayerJoin_any (w : World) (a : Option Addr) (g o cap : Nat) (l : List E) (a' : Option Addr) (g' o' cap' : Nat) (t : List E) (hl : l.length ≤ 16777216) (ht : t.length ≤ 16777216) (hz : ∀ e ∈ l, e.p.size ≤ 16777216 ∧ e.x.size ≤ 16777216) (hz' : ∀ e ∈ t, e.p.size ≤ 16777216 ∧ e.x.size ≤ 16777216) (ha : 0 < l.length → a = some ⟨g, o, none⟩) (ha' : 0 < t.length → a' = some ⟨g', o', none⟩) (hE : Ents w g o l) (hF : Ents w g' o' t) :
  Calls Tryz.prog 55 #[.slice a l.length cap, .slice a' t.length cap'] w fun r w' => ∃ v, r = .returned (.tuple #[v, .bool (jnB l t)]) ∧ OwnE w' w.heap.size v (jnE l t) ∧ Below w.heap.size w w' := by
 have HD : Hid (jnB l t = ((layB l && layB t) && decide ((Ly.tidyM (Ly.joinM l t)).length ≤ 32))) := rfl; have HL := hidE (fun (W : World) (hW : Below w.heap.size w W) => layerOf_any W a g o cap l hl hz ha (hE.below hW)); have HR := hidE (fun (W : World) (hW : Below w.heap.size w W) => layerOf_any W a' g' o' cap' t ht hz' ha' (hF.below hW)); have HZ := hidE hz; have HZ' := hidE hz'; clear hE hF hz hz'; go_enter Tryz.func55, Tryz.ntmps55
 go_wp2_with fail
 refine (HL.out _ (Below.refl _ _)).mono ?_; rintro e w1 ⟨A, rfl, hB1, hR1⟩; have hBa := belowA hB1 (.cells #[.iface 169 (.agg #[]), .map (some (A ⟨#[47]⟩))] 111); have X1 := Box2.new w1 (.iface 169 (.agg #[])) (.map (some (A ⟨#[47]⟩))) 111; obtain ⟨W1, hW1⟩ : ∃ W1, W1 = w1.alloc (.cells #[.iface 169 (.agg #[]), .map (some (A ⟨#[47]⟩))] 111) := ⟨_, rfl⟩
 have hB11 : Below w1.heap.size w1 W1 := by rw [hW1]; exact belowA (Below.refl _ w1) _
 rw [← hW1] at hBa X1; have HX1 := hidE X1; have HB1 := hidE hBa; have HR1 := hidE (fun h => (hR1 h).below hB11); clear X1 hBa hB1 hR1; go_wp2_with fail
 rw [← hW1]; clear hW1 hB11; refine (HR.out _ HB1.out).mono ?_; rintro e w2 ⟨B, rfl, hB2, hR2⟩; have hBa := belowA (belowT HB1.out hB2) (.cells #[.iface 169 (.agg #[]), .map (some (B ⟨#[47]⟩))] 111); have X2 := Box2.new w2 (.iface 169 (.agg #[])) (.map (some (B ⟨#[47]⟩))) 111; obtain ⟨W2, hW2⟩ : ∃ W2, W2 = w2.alloc (.cells #[.iface 169 (.agg #[]), .map (some (B ⟨#[47]⟩))] 111) := ⟨_, rfl⟩
 have hB22 : Below w2.heap.size w2 W2 := by rw [hW2]; exact belowA (Below.refl _ w2) _
 rw [← hW2] at hBa X2; have HX2 := hidE X2; have HX12 := hidE ((HX1.out.below hB2).below hB22); have HB2 := hidE hBa; have HR2 := hidE (fun h => (hR2 h).below hB22); have HR12 := hidE (fun h => ((HR1.out h).below hB2).below hB22); clear X2 hBa hB2 hR2 HX1 HB1 HR1; cases hly : layB l with
 | false =>
  have hn : jnB l t = false := by rw [HD.out, hly]; rfl
  have hq : jnE l t = [] := by unfold jnE; rw [hn]; rfl
  go_wp2
  rw [← hW2]
  go_ret2
  exact ⟨_, by rw [hn]; rfl, by rw [hq]; exact World.ownsRow_nil _ _ _ _, HB2.out⟩
 | true =>
  cases htr : layB t with
  | false =>
   have hn : jnB l t = false := by rw [HD.out, hly, htr]; rfl
   have hq : jnE l t = [] := by unfold jnE; rw [hn]; rfl
   go_wp2
   rw [← hW2]
   go_ret2
   exact ⟨_, by rw [hn]; rfl, by rw [hq]; exact World.ownsRow_nil _ _ _ _, HB2.out⟩
  | true =>
   have hll := lay_len hly; have htl := lay_len htr; have hjl := join_len l t hll htl; have TA := layB_tr hly; have TB := layB_tr htr; have hjz := join_sz TA TB HZ.out HZ'.out; have hjt := tidy_len (Ly.joinM l t) (fun e he => (hjz e he).1); have RJ := Ly.join_rt (Ly.lay_rt hly) (Ly.lay_rt htr); have HJ := hidE (fun (W : World) (hW : Below W2.heap.size W2 W) => join_any W _ 32 _ 32 l t A B TA TB ((HR12.out hly).below hW) ((HR2.out htr).below hW) (by omega) (by omega) (by omega) (by omega)); have HS := hidE (fun (W : World) (b : Nat) (J : ByteArray → Nat) (hW : Rep W b 200 (Ly.joinM l t) J) => settled_any W b 200 (Ly.joinM l t) J (Ly.join_tr TA TB) (fun e he => (hjz e he).2) hW (by omega) (by omega)); have HM := hidE (fun (W : World) (b : Nat) (J : ByteArray → Nat) (hW : Rep W b 200 (Ly.tidyM (Ly.joinM l t)) J) => marks_any W b 200 (Ly.tidyM (Ly.joinM l t)) J RJ.tr RJ.plain hW (by omega) (by omega)); obtain ⟨y0, y1, y2, y3⟩ := HX12.out; obtain ⟨z0, z1, z2, z3⟩ := HX2.out; rw [hW2] at y0 y1 z0 z1; clear hjz TA TB RJ; go_wp2_with fail
   rw [← hW2]; clear hW2 hB22 y0 y1 y2 y3 z0 z1 z2 z3; refine (HJ.out _ (Below.refl _ _)).mono ?_; rintro e w3 ⟨J, rfl, hB3, hR3⟩; have HB3 := hidE (belowT HB2.out hB3); have HR3 := hidE hR3; clear hB3 hR3; go_wp2_with fail
   refine (HS.out _ _ _ HR3.out).mono ?_; rintro e w4 ⟨J4, rfl, hB4, hR4⟩; have HB4 := hidE (belowT HB3.out hB4); have HR4 := hidE hR4; clear hB4 hR4; go_wp2_with fail
   refine (HM.out _ _ _ HR4.out).mono ?_; rintro e w5 ⟨v5, rfl, ho5, hB5⟩; have HO5 := hidE (ho5.lower (base' := w.heap.size) HB4.out.size); have HB5 := hidE (belowT HB4.out hB5); clear ho5 hB5 HB3 HB4 HR3 HR4 HB2; obtain ⟨a5, g5, c5, rfl, ha5, hE5, hc5⟩ := HO5.out.ents; clear ha5 hE5; by_cases h16 : (Ly.tidyM (Ly.joinM l t)).length ≤ 32
   ·
    have hn : jnB l t = true := by rw [HD.out, hly, htr, decide_eq_true h16]; rfl
    have hq : jnE l t = Ly.tidyM (Ly.joinM l t) := by unfold jnE; rw [hn]; rfl
    go_wp2
    go_ret2
    exact ⟨_, by rw [hn]; rfl, by rw [hq]; exact HO5.out, HB5.out⟩
   ·
    have hn : jnB l t = false := by rw [HD.out, hly, htr, decide_eq_false h16]; rfl
    have hq : jnE l t = [] := by unfold jnE; rw [hn]; rfl
    have h17 : (32 : Int) < (Ly.tidyM (Ly.joinM l t)).length := by omega
    go_wp2
    go_ret2
    exact ⟨_, by rw [hn]; rfl, by rw [hq]; exact World.ownsRow_nil _ _ _ _, HB5.out⟩
end Go.Proofs.YteppodogghjfhabGreatDoor.Mk
