/-
  The walk of the program's own: the layer of a list.
-/
import Derived.Test.YtocfbplaieonkaaGreatHPk01
import Derived.Test.YtocfbplaieonkaaGreatHMkPut
namespace Go.Proofs.YtocfbplaieonkaaGreat.Mk
open Go.RowKit Go.Shelf Go.Lib

attribute [local go_sem] Oper.semAt_some

theorem leq_not (a b : List UInt8) : (Op.bytesLess a b || a == b) = !Op.bytesLess b a := by
  cases hb : Op.bytesLess b a with
  | true =>
    have h1 : Op.bytesLess a b = false := by
      cases h : Op.bytesLess a b with
      | false => rfl
      | true => have := bless_trans _ _ _ h hb; rw [bless_irrefl] at this; cases this
    have h2 : (a == b) = false := by
      rw [beq_eq_false_iff_ne]; intro e; rw [e, bless_irrefl] at hb; cases hb
    rw [h1, h2]; rfl
  | false =>
    by_cases e : a = b
    · subst e; simp
    · rw [less_total _ _ hb (fun q => e q.symm)]; rfl
theorem signB_kind {d : Int} {x : ByteArray} (h : signB d x = true) : 1 ≤ d ∧ d ≤ 4 := by
  unfold signB at h
  split at h
  · omega
  · rw [Bool.and_eq_true] at h
    have := h.1
    simp only [Bool.or_eq_true, beq_iff_eq] at this
    omega
theorem layB_yes {es : List E} (h : (List.range es.length).all (okM es) = true) (hl : es.length ≤ 32) : layB es = true := by
  unfold layB; rw [h, decide_eq_true hl]; rfl
theorem all_snoc {es : List E} {k : Nat} (h : (List.range k).all (okM es) = true) (h2 : okM es k = true) : (List.range (k + 1)).all (okM es) = true := by
  rw [List.range_succ, List.all_append, h]; simpa using h2
/-- The boxes of layerOf. -/
structure LBox (W : World) (b c m : Nat) : Prop where
  res : ∃ u v, Box2 W b u v
  lay : Box2 W c (.iface 78 (.agg #[])) (.map (some m))
theorem LBox.turn {base : Nat} {W W' : World} {b c m : Nat} (h : LBox W b c m) (t : Turn base W W') : LBox W' b c m := by
  obtain ⟨⟨u, v, h1⟩, h2⟩ := h
  exact ⟨⟨u, v, h1.turn t⟩, h2.turn t⟩
theorem LBox.below {W W' : World} {b c m : Nat} (h : LBox W b c m) (t : Below W.heap.size W W') : LBox W' b c m := h.turn (Turn.of_below t (Nat.zero_le _))

set_option maxHeartbeats 4000000 in
set_option maxRecDepth 100000 in
theorem layerOf_any (w : World) (a : Option Addr) (g o cap : Nat) (es : List E) (hl : es.length ≤ 16777216) (hz : ∀ e ∈ es, e.p.size ≤ 16777216 ∧ e.x.size ≤ 16777216) (ha : 0 < es.length → a = some ⟨g, o, none⟩) (hE : Ents w g o es) :
    Calls Tryz.prog 16 #[.slice a es.length cap] w fun r w' => ∃ A, r = .returned (.tuple #[layV A, .bool (layB es)]) ∧ Below w.heap.size w w' ∧ (layB es = true → Rep w' w.heap.size 32 es A) := by
  have HE := hidE hE
  have HZ := hidE hz
  clear hE hz
  have B0 := Box2.new w .nilIface (.map none) 45
  by_cases h32 : es.length ≤ 32
  · go_enter Tryz.func16, Tryz.ntmps16
    go_wp2_with (first | (go_at_call 30; refine (newLayer_any _).mono ?_; rintro e w1 ⟨⟨aa, haa, rfl, hM1⟩, hB1⟩; obtain ⟨k0, k1, k2, k3⟩ := B0.below hB1) | fail)
    have hB01 : Below w.heap.size w w1 := belowT (belowA (Below.refl _ w) _) hB1
    simp only [World.size_alloc] at haa
    have hsz1 : w.heap.size + 1 ≤ w1.heap.size := by have := hB1.size; simpa using this
    have HB0 := hidE (LBox.mk (W := w1.alloc (.cells #[.iface 78 (.agg #[]), .map (some aa)] 45)) (b := w.heap.size) (c := w1.heap.size) (m := aa) ⟨_, _, (B0.below hB1).on _⟩ (Box2.new _ _ _ _))
    have HR0 := hidE (rep_nil (base := w.heap.size) (by omega) (hM1.kept (w' := w1.alloc (.cells #[.iface 78 (.agg #[]), .map (some aa)] 45)) (Below.heap_alloc _ _ _ hM1.lt)))
    have HBw := hidE (belowA hB01 (.cells #[.iface 78 (.agg #[]), .map (some aa)] 45))
    clear k0 k1 k2 k3 hM1 hB1 B0
    go_loopw [5, 17] (fun lv iv wl => ∃ k : Nat, k ≤ es.length ∧ iv = .int .i64 k ∧ lv = .string (lastP es k) ∧ Hid (∃ A, A ⟨#[47]⟩ = aa ∧ Rep wl w.heap.size k (es.take k) A) ∧ Hid (Below w.heap.size w wl) ∧ Hid ((List.range k).all (okM es) = true) ∧ Hid (LBox wl w.heap.size w1.heap.size aa)) (fun _ iv _ => es.length - (RowKit.intOf iv).toNat)
    case atStart => exact ⟨0, Nat.zero_le _, rfl, rfl, ⟨_, rfl, HR0.out⟩, HBw, rfl, HB0⟩
    case round =>
      obtain ⟨k, hk, rfl, rfl, HRA, HB, HA, HO⟩ := hrel
      by_cases hlt : k < es.length
      · obtain rfl := ha (by omega)
        obtain ⟨c0, c1, c2⟩ := (HE.out.below (HB.out.mono (Nat.le_refl _))) k hlt
        obtain ⟨z0, z1⟩ := HZ.out es[k] (List.getElem_mem _)
        obtain ⟨p, hp⟩ : ∃ p, es[k].p = p := ⟨_, rfl⟩
        obtain ⟨d, hd⟩ : ∃ d, es[k].d = d := ⟨_, rfl⟩
        obtain ⟨x, hx⟩ : ∃ x, es[k].x = x := ⟨_, rfl⟩
        have HX := hidE (show es[k] = ⟨p, d, x⟩ by rw [← hp, ← hd, ← hx])
        rw [hp] at c0 z0
        rw [hd] at c1
        rw [hx] at c2 z1
        clear hp hd hx
        have BM := Box3.new wr (.string p) (.int .i64 d) (.string x) 37
        obtain ⟨W0, hW0⟩ : ∃ W0, W0 = wr.alloc (.cells #[.string p, .int .i64 d, .string x] 37) := ⟨_, rfl⟩
        have hBA : Below wr.heap.size wr W0 := by rw [hW0]; exact belowA (Below.refl _ wr) _
        rw [← hW0] at BM
        have HBM := hidE BM
        have HWe := hidE hW0
        have HO0 := hidE (HO.out.below hBA)
        have HBW0 := hidE (belowT HB.out hBA)
        clear BM hW0
        have TK := tr_take k (by omega) HA.out
        have HL := hidE (show less (lastP es k) es[k].p ↔ Op.bytesLess (lastP es k).toList p.toList = true by rw [HX.out]; exact Iff.rfl)
        obtain ⟨lp, hlp⟩ : ∃ lp, lastP es k = lp := ⟨_, rfl⟩
        have HQ := hidE (leq_not p.toList lp.toList)
        rw [hlp] at HL
        have HLP := hidE hlp
        have HSg := hidE (fun W => signOf_any p d x z1 W)
        have no : Hid (okM es k = false → ∀ (W : World) (b : Bool), Below w.heap.size w W → b = false → ∃ A, Ending.returned (.tuple #[.agg #[.iface 78 (.agg #[]), .map (some aa)], .bool b]) = .returned (.tuple #[layV A, .bool (layB es)]) ∧ Below w.heap.size w W ∧ (layB es = true → Rep W w.heap.size 32 es A)) := fun h1 W b h2 h3 => by
          have hte := layB_no hlt h1
          exact ⟨fun _ => aa, by rw [← hte, h3], h2, fun h => by rw [← hte] at h; cases h⟩
        rw [hlp]
        cases hsg : signB d x with
        | false =>
          have HN : Hid (okM es k = false) := by
            show _ = _
            by_cases hle : less (lastP es k) es[k].p
            · rw [okM_less hlt TK hle, HX.out, hsg]; rfl
            · exact okM_not hlt hle
          rw [hsg] at HSg
          go_wp2_with (first | (go_at_call 31; rw [← HWe.out]; refine (HSg.out _).mono ?_; rintro e w2 ⟨rfl, hB2⟩; obtain ⟨⟨ru, rv, r0, r1, r2, r3⟩, l0, l1, l2, l3⟩ := HO0.out.below hB2) | fail)
          refine atSet2 (C := bodyPost Tryz.prog Tryz.f16 _ _ _) ⟨r0, r1, r2, r3⟩ (belowT HBW0.out hB2) (Nat.le_refl _) ?_
          intro Wf s0 hBf _ _
          exact bodyPost_ret (v := .tuple #[.agg #[.iface 78 (.agg #[]), .map (some aa)], .bool false]) (by simp [results, Tryz.results16, go_sem, s0.c0, s0.c1]) rfl (no.out HN.out Wf false hBf rfl)
        | true =>
          have hdk := signB_kind hsg
          rw [hsg, signM_in hdk] at HSg
          obtain ⟨ts, us, hts⟩ := sign_is d x
          rw [hts] at HSg
          cases hls : (Op.bytesLess p.toList lp.toList || p.toList == lp.toList) with
          | true =>
            have HN : Hid (okM es k = false) := by
              show _ = _
              refine okM_not hlt fun h => ?_
              rw [HLP.out] at h
              have h1 := HL.out.1 h
              have h2 := HQ.out
              rw [hls, h1] at h2; cases h2
            go_wp2_with (first | (go_at_call 31; rw [← HWe.out]; refine (HSg.out _).mono ?_; rintro e w2 ⟨rfl, hB2⟩; obtain ⟨⟨ru, rv, r0, r1, r2, r3⟩, l0, l1, l2, l3⟩ := HO0.out.below hB2; obtain ⟨m0, m1, m2, n0, n1, n2⟩ := HBM.out.below hB2) | fail)
            refine atSet2 (C := bodyPost Tryz.prog Tryz.f16 _ _ _) ⟨r0, r1, r2, r3⟩ (belowT HBW0.out hB2) (Nat.le_refl _) ?_
            intro Wf s0 hBf _ _
            exact bodyPost_ret (v := .tuple #[.agg #[.iface 78 (.agg #[]), .map (some aa)], .bool false]) (by simp [results, Tryz.results16, go_sem, s0.c0, s0.c1]) rfl (no.out HN.out Wf false hBf rfl)
          | false =>
            have hle : less (lastP es k) es[k].p := by
              rw [HLP.out]
              refine HL.out.2 ?_
              have h2 := HQ.out
              rw [hls] at h2
              cases h3 : Op.bytesLess lp.toList p.toList with
              | true => rfl
              | false => rw [h3] at h2; cases h2
            obtain ⟨A, hA0, RA⟩ := HRA.out
            have HRA0 := hidE (RA.below hBA)
            have htree : layV A = .agg #[.iface 78 (.agg #[]), .map (some aa)] := by unfold layV; rw [hA0]
            have HTk := hidE (fun (W : World) (hW : Rep W w.heap.size k (es.take k) A) => takes_any w.heap.size k (es.take k) A TK (fun e he => (HZ.out e (List.mem_of_mem_take he)).2) W hW p z0 d x z1 hdk)
            have HOK := hidE (okM_less hlt TK hle)
            rw [HX.out] at HOK
            have hless : ∀ f ∈ es.take k, less f.p p := fun f hf => by have := take_less hlt TK hle f hf; rw [HX.out] at this; exact this
            rw [htree, hts] at HTk
            cases htk : takesM (es.take k) p d with
            | false =>
              rw [htk] at HTk
              have HN : Hid (okM es k = false) := by
                show _ = _
                rw [HOK.out]
                show (signB d x && takesM (es.take k) p d) = false
                rw [htk, Bool.and_false]
              go_wp2_with (first | (go_at_call 31; rw [← HWe.out]; refine (HSg.out _).mono ?_; rintro e w2 ⟨rfl, hB2⟩; obtain ⟨⟨ru, rv, r0, r1, r2, r3⟩, l0, l1, l2, l3⟩ := HO0.out.below hB2; obtain ⟨m0, m1, m2, n0, n1, n2⟩ := HBM.out.below hB2) | (go_at_call 32; refine (HTk.out _ (HRA0.out.below hB2)).mono ?_; rintro e w3 ⟨rfl, hB3⟩; clear r0 r1 r2 r3 l0 l1 l2 l3 m0 m1 m2 n0 n1 n2; obtain ⟨⟨ru, rv, r0, r1, r2, r3⟩, l0, l1, l2, l3⟩ := (HO0.out.below hB2).below hB3; obtain ⟨m0, m1, m2, n0, n1, n2⟩ := (HBM.out.below hB2).below hB3) | fail)
              refine atSet2 (C := bodyPost Tryz.prog Tryz.f16 _ _ _) ⟨r0, r1, r2, r3⟩ (belowT (belowT HBW0.out hB2) hB3) (Nat.le_refl _) ?_
              intro Wf s0 hBf _ _
              exact bodyPost_ret (v := .tuple #[.agg #[.iface 78 (.agg #[]), .map (some aa)], .bool false]) (by simp [results, Tryz.results16, go_sem, s0.c0, s0.c1]) rfl (no.out HN.out Wf false hBf rfl)
            | true =>
              rw [htk] at HTk
              have hY : okM es k = true := by
                rw [HOK.out]
                show (signB d x && takesM (es.take k) p d) = true
                rw [htk, hsg]; rfl
              have hin : inM (es.take k) p = true := by
                unfold takesM at htk
                rw [Bool.and_eq_true] at htk
                exact htk.1
              have hold : lookE (es.take k) p = none := look_none.2 fun f hf q => by
                have := hless f hf
                rw [q] at this
                exact less_irrefl _ this
              have HPu := hidE (fun (W : World) (hW : Rep W w.heap.size k (es.take k) A) (hb : w.heap.size ≤ W.heap.size) => put_any w.heap.size k (es.take k) A TK W hW hb (by omega) p z0 d x (inM_path TK hin) ((inM_look.1 hin).imp id fun ⟨f, h1, _⟩ => ⟨f, h1⟩) hold)
              rw [htree, hts] at HPu
              have HY := hidE hY
              have HA0 := hidE hA0
              clear hY hin hold htk hsg hA0 hless
              go_wp2_with (first | (go_at_call 31; rw [← HWe.out]; refine (HSg.out _).mono ?_; rintro e w2 ⟨rfl, hB2⟩; obtain ⟨⟨ru, rv, r0, r1, r2, r3⟩, l0, l1, l2, l3⟩ := HO0.out.below hB2; obtain ⟨m0, m1, m2, n0, n1, n2⟩ := HBM.out.below hB2) | (go_at_call 32; refine (HTk.out _ (HRA0.out.below hB2)).mono ?_; rintro e w3 ⟨rfl, hB3⟩; clear r0 r1 r2 r3 l0 l1 l2 l3 m0 m1 m2 n0 n1 n2; obtain ⟨⟨ru, rv, r0, r1, r2, r3⟩, l0, l1, l2, l3⟩ := (HO0.out.below hB2).below hB3; obtain ⟨m0, m1, m2, n0, n1, n2⟩ := (HBM.out.below hB2).below hB3) | (go_at_call 33; refine (HPu.out _ ((HRA0.out.below hB2).below hB3) (belowT (belowT HBW0.out hB2) hB3).size).mono ?_; rintro e w4 ⟨⟨v, rfl⟩, hT4, hR4⟩; clear r0 r1 r2 r3 l0 l1 l2 l3 m0 m1 m2 n0 n1 n2; obtain ⟨m0, m1, m2, n0, n1, n2⟩ := ((HBM.out.below hB2).below hB3).turn hT4) | fail)
              obtain ⟨A', hA', hRA'⟩ := hR4
              refine ⟨⟨k + 1, by omega, rfl, by rw [lastP_succ hlt, HX.out], ⟨A', hA'.trans HA0.out, ?_⟩, (belowT (belowT HBW0.out hB2) hB3).trans hT4.below, all_snoc HA.out HY.out, ((HO0.out.below hB2).below hB3).turn hT4⟩, by simp [RowKit.intOf]; omega⟩
              rw [List.take_succ_eq_append_getElem hlt, HX.out]
              exact hRA'
      · have hke : k = es.length := by omega
        obtain ⟨⟨ru, rv, r0, r1, r2, r3⟩, l0, l1, l2, l3⟩ := HO.out
        obtain ⟨A, hA0, RA⟩ := HRA.out
        have HRk := hidE RA
        have hte : layB es = true := layB_yes (by rw [← hke]; exact HA.out) h32
        have HK := hidE hke
        clear RA HRA hke
        go_wp2
        refine atSet2 (C := bodyPost Tryz.prog Tryz.f16 _ _ _) ⟨r0, r1, r2, r3⟩ HB.out (Nat.le_refl _) ?_
        intro Wf s0 hBf hKo _
        refine bodyPost_ret (v := .tuple #[.agg #[.iface 78 (.agg #[]), .map (some aa)], .bool true]) (by simp [results, Tryz.results16, go_sem, s0.c0, s0.c1]) rfl ⟨A, ?_, hBf, fun _ => ?_⟩
        · rw [hte]; unfold layV; rw [hA0]
        · have h1 := HRk.out
          rw [HK.out, List.take_length] at h1
          exact (h1.keeps hKo).mono h32
  · have hte : layB es = false := by unfold layB; rw [decide_eq_false h32, Bool.and_false]
    have h32' : (32 : Int) < es.length := by omega
    rw [hte]
    go_enter Tryz.func16, Tryz.ntmps16
    go_wp2_with (first | (go_at_call 30; refine (newLayer_any _).mono ?_; rintro e w1 ⟨⟨aa, haa, rfl, hM1⟩, hB1⟩; obtain ⟨k0, k1, k2, k3⟩ := (B0.below hB1).on (.cells #[.iface 78 (.agg #[]), .map (some aa)] 45)) | fail)
    have hB01 : Below w.heap.size w w1 := belowT (belowA (Below.refl _ w) _) hB1
    refine atSet2 (C := bodyPost Tryz.prog Tryz.f16 _ _ _) ⟨k0, k1, k2, k3⟩ (belowA hB01 _) (Nat.le_refl _) ?_
    intro Wf s0 hBf _ _
    exact bodyPost_ret (v := .tuple #[.agg #[.iface 78 (.agg #[]), .map (some aa)], .bool false]) (by simp [results, Tryz.results16, go_sem, s0.c0, s0.c1]) rfl ⟨fun _ => aa, rfl, hBf, fun h => by cases h⟩
end Go.Proofs.YtocfbplaieonkaaGreat.Mk
