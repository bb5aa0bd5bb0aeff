/-
  The walk of the program's own: the tree of a list.
-/
import Derived.Test.YtenlibefdefjmaaDoorHEntsDef
import Derived.Test.YtenlibefdefjmaaDoorHAdd
namespace Go.Proofs.YtenlibefdefjmaaDoor
open Go.RowKit Go.Shelf Go.Lib

attribute [local go_sem] Oper.semAt_some

theorem Errs2.turn {base : Nat} {w w' : World} {ae : Int → Addr} (h : Errs2 w ae) (t : Turn base w w') : Errs2 w' ae := ⟨t.cell h.noneC, t.cell h.fileC⟩
/-- The path ahead of the place k. -/
def lastP (es : List E) (k : Nat) : ByteArray := match k with
  | 0 => ⟨#[]⟩
  | j + 1 => ((es[j]?).map (·.p)).getD ⟨#[]⟩
theorem lastP_succ {es : List E} {k : Nat} (h : k < es.length) : lastP es (k + 1) = es[k].p := by
  show ((es[k]?).map (·.p)).getD ⟨#[]⟩ = _
  rw [List.getElem?_eq_getElem h]; rfl
theorem okAt_less {es : List E} {k : Nat} (h : k < es.length) (hl : less (lastP es k) es[k].p) : okAt es k = addB (es.take k) es[k] := by
  rw [Bool.eq_iff_iff, okAt_parts h]
  unfold addB
  simp only [Bool.and_eq_true, Bool.not_eq_true', Bool.and_eq_false_iff]
  constructor
  · rintro ⟨h1, h2, h3, _, h5⟩
    refine ⟨⟨h1, h2, ?_⟩, h5⟩
    cases hd : es[k].d with
    | false => exact .inl rfl
    | true => exact .inr (by rw [notEmpty.2 (h3 hd)]; rfl)
  · rintro ⟨⟨h1, h2, h3⟩, h5⟩
    refine ⟨h1, h2, fun hd => ?_, ?_, h5⟩
    · rcases h3 with h3 | h3
      · rw [hd] at h3; cases h3
      · exact notEmpty.1 (by simpa using h3)
    · cases k with
      | zero => exact .inl rfl
      | succ j => exact .inr ⟨by omega, by rw [lastP_succ (by omega)] at hl; exact hl⟩
theorem okAt_not {es : List E} {k : Nat} (h : k < es.length) (hl : ¬ less (lastP es k) es[k].p) : okAt es k = false := by
  cases ho : okAt es k with
  | false => rfl
  | true =>
    exfalso
    obtain ⟨h1, _, _, h4, _⟩ := (okAt_parts h).1 ho
    cases k with
    | zero =>
      have := pathB_head _ h1
      refine hl (less_L.2 ?_)
      show Op.bytesLess [] (L es[0].p) = true
      have hlen := L_len es[0].p
      cases hq : L es[0].p with
      | nil => rw [hq] at hlen; simp at hlen; omega
      | cons y r => rfl
    | succ j =>
      rcases h4 with h4 | ⟨h5, h4⟩
      · omega
      · rw [lastP_succ (by omega)] at hl; exact hl h4
theorem take_less {es : List E} {k : Nat} (h : k < es.length) (T : TrE (es.take k)) (hl : less (lastP es k) es[k].p) : ∀ f ∈ es.take k, less f.p es[k].p := by
  cases k with
  | zero => intro f hf; rw [List.take_zero] at hf; cases hf
  | succ j =>
    rw [lastP_succ (by omega)] at hl
    exact last_less T.sort (k := j) (by rw [List.length_take]; omega) (by rw [List.length_take]; omega) (by rw [List.getElem_take]; exact hl)
theorem rep_nil {w : World} {base b : Nat} (hb : base ≤ b) (h : MapIs w b 0 (fun _ => none)) : Rep w base 0 [] (fun _ => b) := by
  have root : ∀ p, dirE [] p = true → p = ⟨#[47]⟩ := fun p hp => by
    rcases dir_look hp with h | ⟨e, h, _⟩
    · exact h
    · cases h
  refine ⟨fun p _ => h.congr fun n => ?_, fun _ _ => hb, fun p q hp hq _ => (root p hp).trans (root q hq).symm⟩
  unfold kidF
  split <;> rfl

theorem leq_not (a b : List UInt8) : (Op.bytesLess a b || a == b) = !Op.bytesLess b a := by
  cases hb : Op.bytesLess b a with
  | true =>
    have h1 : Op.bytesLess a b = false := by
      cases h : Op.bytesLess a b with
      | false => rfl
      | true => have := bless_trans _ _ _ h hb; rw [bless_irrefl] at this; cases this
    have h2 : (a == b) = false := by
      rw [beq_eq_false_iff_ne]; intro e; rw [e, bless_irrefl] at hb; cases hb
    rw [h1, h2]; rfl
  | false =>
    by_cases e : a = b
    · subst e; simp
    · rw [less_total _ _ hb (fun q => e q.symm)]; rfl
theorem atSet3K {W w : World} {n b : Nat} {p q r u v x : Value} {C : World → Prop} (h0 : W.cell? ⟨b, 0, none⟩ = some p) (h1 : W.cell? ⟨b, 1, none⟩ = some q) (h2 : W.cell? ⟨b, 2, none⟩ = some r) (hB : Below n w W) (hb : n ≤ b)
    (k : ∀ Wf, Wf.cell? ⟨b, 0, none⟩ = some u → Wf.cell? ⟨b, 1, none⟩ = some v → Wf.cell? ⟨b, 2, none⟩ = some x → Below n w Wf → KeepsOthers W Wf → C Wf) : C (set3 W b u v x) := by
  obtain ⟨s0, s1, s2⟩ := set3_cells h0 h1 h2 u v x
  exact k _ s0 s1 s2 (set3_below hB hb u v x) (set3_keeps W b u v x)
/-- The boxes of treeOf. -/
structure OfBox (W : World) (b c m : Nat) : Prop where
  r0 : ∃ v, W.cell? ⟨b, 0, none⟩ = some v
  r1 : ∃ v, W.cell? ⟨b, 1, none⟩ = some v
  r2 : ∃ v, W.cell? ⟨b, 2, none⟩ = some v
  f0 : W.frozen? ⟨b, 0, none⟩ = false
  f1 : W.frozen? ⟨b, 1, none⟩ = false
  f2 : W.frozen? ⟨b, 2, none⟩ = false
  t0 : W.cell? ⟨c, 0, none⟩ = some (.bool true)
  t1 : W.cell? ⟨c, 1, none⟩ = some (.string ⟨#[]⟩)
  t2 : W.cell? ⟨c, 2, none⟩ = some (.map (some m))
theorem OfBox.turn {base : Nat} {W W' : World} {b c m : Nat} (h : OfBox W b c m) (t : Turn base W W') : OfBox W' b c m := by
  obtain ⟨⟨v0, r0⟩, ⟨v1, r1⟩, ⟨v2, r2⟩, f0, f1, f2, t0, t1, t2⟩ := h
  exact ⟨⟨_, t.cell r0⟩, ⟨_, t.cell r1⟩, ⟨_, t.cell r2⟩, t.frozen r0 f0, t.frozen r1 f1, t.frozen r2 f2, t.cell t0, t.cell t1, t.cell t2⟩

set_option maxHeartbeats 2000000 in
set_option maxRecDepth 100000 in
theorem treeOf_any (w : World) (a : Option Addr) (g o cap : Nat) (es : List E) (ae : Int → Addr) (hErr : Errs2 w ae) (hl : es.length ≤ 16777216) (hz : ∀ e ∈ es, e.p.size ≤ 16777216 ∧ e.x.size ≤ 16777216) (ha : 0 < es.length → a = some ⟨g, o, none⟩) (hE : Ents w g o es) :
    Calls Tryd.prog 26 #[.slice a es.length cap] w fun r w' => ∃ A, r = .returned (.tuple #[treeV A, .bool (treeE es)]) ∧ Below w.heap.size w w' ∧ (treeE es = true → Rep w' w.heap.size 16 es A) := by
  have HE := hidE hE
  have HZ := hidE hz
  have HEr := hidE hErr
  clear hE hz hErr
  by_cases h16 : es.length ≤ 16
  · go_enter Tryd.func26, Tryd.ntmps26
    go_wp2_with (first | (go_at_call 33; refine (newDir_any _).mono ?_; rintro e w1 ⟨rfl, hM1, hB1⟩; obtain ⟨⟨k0, k1, k2⟩, a0, a1, a2, b0, b1, b2⟩ := boxOn (b := w.heap.size) (p := .bool false) (q := .string ⟨#[]⟩) (r := .map none) hB1 (by simp) (box3one w _ _ _ _)) | fail)
    have hB01 : Below w.heap.size w w1 := ((Below.refl _ w).alloc (Nat.le_refl _) _).trans (hB1.mono (by simp))
    simp only [World.size_alloc] at hM1
    have hsz1 : w.heap.size + 1 < w1.heap.size := by have := hM1.lt; omega
    have HB0 := hidE (OfBox.mk (b := w.heap.size) (c := w1.heap.size) (m := w.heap.size + 1 + 1) ⟨_, a0 (.cells #[.bool true, .string ⟨#[]⟩, .map (some (w.heap.size + 1 + 1))] 61)⟩ ⟨_, a1 _⟩ ⟨_, a2 _⟩ (b0 _) (b1 _) (b2 _) (by simp : (w1.alloc (.cells #[.bool true, .string ⟨#[]⟩, .map (some (w.heap.size + 1 + 1))] 61)).cell? ⟨w1.heap.size, 0, none⟩ = _) (by simp) (by simp))
    have HR0 := hidE (rep_nil (base := w.heap.size) (by omega) (hM1.kept (w' := w1.alloc (.cells #[.bool true, .string ⟨#[]⟩, .map (some (w.heap.size + 1 + 1))] 61)) (Below.heap_alloc _ _ _ hM1.lt)))
    have HBw := hidE (hB01.alloc hB01.size (.cells #[.bool true, .string ⟨#[]⟩, .map (some (w.heap.size + 1 + 1))] 61))
    clear k0 k1 k2 a0 a1 a2 b0 b1 b2 hM1 hB1
    go_loopw [5, 16] (fun lv iv wl => ∃ k : Nat, k ≤ es.length ∧ iv = .int .i64 k ∧ lv = .string (lastP es k) ∧ Hid (∃ A, A ⟨#[47]⟩ = w.heap.size + 1 + 1 ∧ Rep wl w.heap.size k (es.take k) A) ∧ Hid (Below w.heap.size w wl) ∧ Hid ((List.range k).all (okAt es) = true) ∧ Hid (OfBox wl w.heap.size w1.heap.size (w.heap.size + 1 + 1))) (fun _ iv _ => es.length - (RowKit.intOf iv).toNat)
    case atStart => exact ⟨0, Nat.zero_le _, rfl, rfl, ⟨_, rfl, HR0.out⟩, HBw, rfl, HB0⟩
    case round =>
      obtain ⟨k, hk, rfl, rfl, HRA, HB, HA, HO⟩ := hrel
      by_cases hlt : k < es.length
      · obtain rfl := ha (by omega)
        obtain ⟨c0, c1, c2⟩ := (HE.out.below (HB.out.mono (Nat.le_refl _))) k hlt
        obtain ⟨z0, z1⟩ := HZ.out es[k] (List.getElem_mem _)
        obtain ⟨p, hp⟩ : ∃ p, es[k].p = p := ⟨_, rfl⟩
        obtain ⟨d, hd⟩ : ∃ d, es[k].d = d := ⟨_, rfl⟩
        obtain ⟨x, hx⟩ : ∃ x, es[k].x = x := ⟨_, rfl⟩
        have HX := hidE (show es[k] = ⟨p, d, x⟩ by rw [← hp, ← hd, ← hx])
        rw [hp] at c0 z0
        rw [hd] at c1
        rw [hx] at c2 z1
        clear hp hd hx
        have hBA : Below wr.heap.size wr (wr.alloc (.cells #[.string p, .bool d, .string x] 25)) := (Below.refl _ wr).alloc (Nat.le_refl _) _
        have HO2 := hidE (HO.out.turn (Turn.of_below hBA (Nat.le_refl _)))
        obtain ⟨⟨v0, r0⟩, ⟨v1, r1⟩, ⟨v2, r2⟩, f0, f1, f2, t0, t1, t2⟩ := HO2.out
        have HL := hidE (show less (lastP es k) es[k].p ↔ Op.bytesLess (lastP es k).toList p.toList = true by rw [HX.out]; exact Iff.rfl)
        obtain ⟨lp, hlp⟩ : ∃ lp, lastP es k = lp := ⟨_, rfl⟩
        have HQ := hidE (leq_not p.toList lp.toList)
        rw [hlp] at HL
        have HLP := hidE hlp
        cases hls : (Op.bytesLess p.toList lp.toList || p.toList == lp.toList) with
        | true =>
          have hnl : ¬ less (lastP es k) es[k].p := fun h => by
            rw [HLP.out] at h
            have h1 := HL.out.1 h
            have h2 := HQ.out
            rw [hls, h1] at h2; cases h2
          rw [hlp]
          go_wp2
          refine atSet3 (C := bodyPost Tryd.prog Tryd.f26 _ _ _) r0 r1 r2 (HB.out.trans (hBA.mono HB.out.size)) (Nat.le_refl _) ?_
          intro Wf s0 s1 s2 hBf
          have hte := treeE_no hlt (okAt_not hlt hnl)
          refine bodyPost_ret (v := .tuple #[.agg #[.bool true, .string ⟨#[]⟩, .map (some (w.heap.size + 1 + 1))], .bool false]) (by simp [results, Tryd.results26, go_sem, s0, s1, s2]) rfl ⟨fun _ => w.heap.size + 1 + 1, ?_, hBf, ?_⟩
          · rw [← hte]
          · intro h; rw [← hte] at h; cases h
        | false =>
          have hle : less (lastP es k) es[k].p := by
            rw [HLP.out]
            refine HL.out.2 ?_
            have h2 := HQ.out
            rw [hls] at h2
            cases h3 : Op.bytesLess lp.toList p.toList with
            | true => rfl
            | false => rw [h3] at h2; cases h2
          have TK := tr_take k (by omega) HA.out
          obtain ⟨A, hA0, RA⟩ := HRA.out
          have HAd := hidE (add_any (wr.alloc (.cells #[.string p, .bool d, .string x] 25)) w.heap.size k (es.take k) A ae TK (RA.below hBA) ((HEr.out.below (HB.out)).below hBA) p d x (by omega) (by omega) (by simp; have := HB.out.size; omega) (by omega) (fun f hf => by have := take_less hlt TK hle f hf; rw [HX.out] at this; exact this))
          have HOA := hidE (okAt_less hlt hle)
          rw [HX.out] at HOA
          have htree : treeV A = .agg #[.bool true, .string ⟨#[]⟩, .map (some (w.heap.size + 1 + 1))] := by unfold treeV; rw [hA0]
          rw [htree] at HAd
          have HBX := hidE (HB.out.trans (hBA.mono HB.out.size))
          rw [hlp]
          cases had : addB (es.take k) ⟨p, d, x⟩ with
          | false =>
            rw [had] at HAd HOA
            go_wp2_with (first | (go_at_call 34; refine HAd.out.mono ?_; rintro e w5 ⟨rfl, hT5, -⟩; have HO5 := hidE (HO2.out.turn hT5); obtain ⟨⟨v0', r0'⟩, ⟨v1', r1'⟩, ⟨v2', r2'⟩, f0', f1', f2', t0', t1', t2'⟩ := HO5.out) | fail)
            refine atSet3 (C := bodyPost Tryd.prog Tryd.f26 _ _ _) r0' r1' r2' (HBX.out.trans hT5.below) (Nat.le_refl _) ?_
            intro Wf s0 s1 s2 hBf
            have hte := treeE_no hlt HOA.out
            refine bodyPost_ret (v := .tuple #[.agg #[.bool true, .string ⟨#[]⟩, .map (some (w.heap.size + 1 + 1))], .bool false]) (by simp [results, Tryd.results26, go_sem, s0, s1, s2]) rfl ⟨fun _ => w.heap.size + 1 + 1, ?_, hBf, ?_⟩
            · rw [← hte]
            · intro h; rw [← hte] at h; cases h
          | true =>
            rw [had] at HAd HOA
            go_wp2_with (first | (go_at_call 34; refine HAd.out.mono ?_; rintro e w5 ⟨rfl, hT5, hR5⟩; have HR5 := hidE (hR5 rfl); clear hR5; have c0' := hT5.cell (show (wr.alloc (.cells #[.string p, .bool d, .string x] 25)).cell? ⟨wr.heap.size, 0, none⟩ = some (.string p) by simp)) | fail)
            obtain ⟨A', hA', hRA'⟩ := HR5.out
            refine ⟨⟨k + 1, by omega, rfl, by rw [lastP_succ hlt, HX.out], ⟨A', hA'.trans hA0, ?_⟩, HBX.out.trans hT5.below, all_range_succ _ _ HA.out HOA.out, HO2.out.turn hT5⟩, by simp [RowKit.intOf]; omega⟩
            rw [List.take_succ_eq_append_getElem hlt, HX.out]
            exact hRA'
      · have hke : k = es.length := by omega
        obtain ⟨⟨v0, r0⟩, ⟨v1, r1⟩, ⟨v2, r2⟩, f0, f1, f2, t0, t1, t2⟩ := HO.out
        obtain ⟨A, hA0, RA⟩ := HRA.out
        have HRk := hidE RA
        have hte : treeE es = true := by
          unfold treeE; rw [decide_eq_true h16, Bool.true_and, ← hke]; exact HA.out
        have HK := hidE hke
        clear RA HRA hke
        go_wp2
        have hset : ∀ Wf, (∀ b, b < wr.heap.size → (∃ o c, wr.heap[b]? = some (.map o c)) → Wf.heap[b]? = wr.heap[b]?) → Rep Wf w.heap.size 16 es A := fun Wf hW => by
          have h1 := HRk.out
          rw [HK.out, List.take_length] at h1
          exact ⟨fun q hq => ((h1.keep hW).kids q hq).mono (by omega), h1.low, h1.apart⟩
        refine atSet3K (C := bodyPost Tryd.prog Tryd.f26 _ _ _) r0 r1 r2 HB.out (Nat.le_refl _) ?_
        intro Wf s0 s1 s2 hBf hK
        refine bodyPost_ret (v := .tuple #[.agg #[.bool true, .string ⟨#[]⟩, .map (some (w.heap.size + 1 + 1))], .bool true]) (by simp [results, Tryd.results26, go_sem, s0, s1, s2]) rfl ⟨A, ?_, hBf, fun _ => hset Wf fun b hb ⟨o, c, h⟩ => ?_⟩
        · rw [hte]; unfold treeV; rw [hA0]
        · rw [h]; exact hK.same b _ h rfl
  · have hte : treeE es = false := by unfold treeE; rw [decide_eq_false h16]; rfl
    have h16' : (16 : Int) < es.length := by omega
    rw [hte]
    go_enter Tryd.func26, Tryd.ntmps26
    go_wp2_with (first | (go_at_call 33; refine (newDir_any _).mono ?_; rintro e w1 ⟨rfl, hM1, hB1⟩; obtain ⟨⟨k0, k1, k2⟩, a0, a1, a2, b0, b1, b2⟩ := boxOn (b := w.heap.size) (p := .bool false) (q := .string ⟨#[]⟩) (r := .map none) hB1 (by simp) (box3one w _ _ _ _)) | fail)
    have hB01 : Below w.heap.size w w1 := ((Below.refl _ w).alloc (Nat.le_refl _) _).trans (hB1.mono (by simp))
    refine atSet3 (C := bodyPost Tryd.prog Tryd.f26 _ _ _) (a0 _) (a1 _) (a2 _) (hB01.alloc hB01.size _) (Nat.le_refl _) ?_
    intro Wf s0 s1 s2 hBf
    exact bodyPost_ret (v := .tuple #[.agg #[.bool true, .string ⟨#[]⟩, .map (some (w.heap.size + 1 + 1))], .bool false]) (by simp [results, Tryd.results26, go_sem, s0, s1, s2]) rfl ⟨fun _ => w.heap.size + 1 + 1, rfl, hBf, fun h => by cases h⟩
end Go.Proofs.YtenlibefdefjmaaDoor
