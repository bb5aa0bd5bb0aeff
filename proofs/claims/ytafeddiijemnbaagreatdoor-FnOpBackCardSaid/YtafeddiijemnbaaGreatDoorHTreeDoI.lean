import Derived.Test.YtafeddiijemnbaaGreatDoorHPk26
import Derived.Test.YtafeddiijemnbaaGreatDoorHPk02
import Derived.Test.YtafeddiijemnbaaGreatDoorHEntsI
namespace Go.Proofs.YtafeddiijemnbaaGreatDoor
open Go.RowKit Go.Shelf Go.Lib
attribute [local go_sem] Oper.semAt_some
theorem Errs8.turn {base : Nat} {w w' : World} {ae : Int → Addr} (h : Errs8 w ae) (t : Turn base w w') : Errs8 w' ae :=
 ⟨⟨t.cell h.two.noneC, t.cell h.two.fileC⟩, t.cell h.bad, t.cell h.there, t.cell h.isDir, t.cell h.kept, t.cell h.under, t.cell h.room, h.ne, fun c h1 h2 => by
  obtain ⟨cs, ty, k⟩ := h.row c h1 h2
  exact ⟨cs, ty, t.cells _ _ k (fun _ _ q => by cases q)⟩⟩
theorem made_tr {es : List E} {k : Int} {p t x : ByteArray} (T : TrE es) (hes : es.length ≤ 16) (hop : (pathB p && fitB k t x) = true) (hc : codeC es k p t = 0) : TrE (madeE es k p t x) ∧ (madeE es k p t x).length ≤ 17 := by
 obtain ⟨hpb, hfb⟩ : pathB p = true ∧ fitB k t x = true := by rwa [Bool.and_eq_true] at hop
 have hput := fun e => put_len es e; rcases fit_kind hfb with rfl | rfl | rfl | rfl | rfl
 ·
  have hc' : newC es p = 0 := hc
  have hdir : dirE es (upS p) = true := by
   cases h : dirE es (upS p) with
   | true => rfl
   | false =>
    have hc0 : dirC es (upS p) ≠ 0 := fun q => by rw [dirC_zero q] at h; cases h
    rw [newC_up hc0] at hc'; exact absurd hc' hc0
  have hl : lookE es p = none := by
   cases h : lookE es p with
   | none => rfl
   | some f => rw [newC_there hdir hpb h] at hc'; cases hc'
  exact ⟨tr_put (e := ⟨p, true, ⟨#[]⟩⟩) T hpb rfl (fun _ => rfl) (dir_isRoot hpb hl) hdir, by show (putE es _).length ≤ 17; have := hput ⟨p, true, ⟨#[]⟩⟩; omega⟩
 ·
  have hc' : putC es p = 0 := hc
  have hdir : dirE es (upS p) = true := by
   cases h : dirE es (upS p) with
   | true => rfl
   | false =>
    have hc0 : dirC es (upS p) ≠ 0 := fun q => by rw [dirC_zero q] at h; cases h
    rw [putC_up hc0] at hc'; exact absurd hc' hc0
  have hold : dirE es p = false := by
   cases h : lookE es p with
   | none => exact dir_isRoot hpb h
   | some f =>
    rw [putC_there hdir hpb h] at hc'; rw [dirE_look, h, root_not_path hpb]; cases hd : f.d with
    | false => simp [hd]
    | true => rw [hd] at hc'; cases hc'
  have hxd : dataB x = true := by
   have : (emB t && dataB x) = true := hfb; rw [Bool.and_eq_true] at this; exact this.2
  exact ⟨tr_put (e := ⟨p, false, x⟩) T hpb hxd (fun h => by cases h) hold hdir, by show (putE es _).length ≤ 17; have := hput ⟨p, false, x⟩; omega⟩
 ·
  have hc' : offC es 3 p = 0 := hc; refine ⟨tr_off T (kids_nil ?_), Nat.le_trans (List.length_filter_le _ _) (by omega)⟩; cases h : lookE es p with
  | none => rw [offC_none hpb h] at hc'; cases hc'
  | some f =>
   rw [offC_some hpb h] at hc'
   split at hc'
   ·
    cases hc'
   ·
    split at hc'
    ·
     cases hc'
    ·
     split at hc'
     ·
      cases hc'
     ·
      rename_i h3; exact List.length_eq_zero_iff.1 (by omega)
 ·
  have hc' : offC es 4 p = 0 := hc; refine ⟨tr_off T (kids_nil ?_), Nat.le_trans (List.length_filter_le _ _) (by omega)⟩; cases h : lookE es p with
  | none => rw [offC_none hpb h] at hc'; cases hc'
  | some f =>
   rw [offC_some hpb h] at hc'
   split at hc'
   ·
    cases hc'
   ·
    split at hc'
    ·
     cases hc'
    ·
     split at hc'
     ·
      cases hc'
     ·
      rename_i h3; exact List.length_eq_zero_iff.1 (by omega)
 ·
  have hc' : moveC es p t = 0 := hc
  have htb : pathB t = true := by
   have : (pathB t && emB x) = true := hfb; rw [Bool.and_eq_true] at this; exact this.1
  have hm : (movE es p t).length ≤ es.length := by
   have := mov_len es p t es.length (Nat.le_refl _)
   rwa [List.take_length] at this
  refine ⟨?_, by show (movE es p t).length ≤ 17; omega⟩; cases hl : lookE es p with
  | none => rw [moveC_none hpb hl] at hc'; cases hc'
  | some e =>
   have hdir : dirE es (upS t) = true := by
    cases h : dirE es (upS t) with
    | true => rfl
    | false =>
     have hc0 : dirC es (upS t) ≠ 0 := fun q => by rw [dirC_zero q] at h; cases h
     rw [moveC_up hpb hl hc0] at hc'; exact absurd hc' hc0
   rw [moveC_on hpb htb hl hdir] at hc'; cases hlt : lookE es t with
   | some f => rw [hlt] at hc'; cases hc'
   | none =>
    rw [hlt] at hc'; cases hun : underI t p with
    | true => rw [hun] at hc'; cases hc'
    | false =>
     rw [hun] at hc'; cases hfi : fitE es p t with
     | false => rw [hfi] at hc'; cases hc'
     | true => exact Mv.tr ⟨T, hpb, htb, ⟨e, hl⟩, hdir, hlt, hun, hfi⟩
theorem dirC_range (es : List E) (s : ByteArray) : 0 ≤ dirC es s ∧ dirC es s ≤ 8 := by unfold dirC; split <;> (try split) <;> decide
theorem upC_range (es : List E) (s : ByteArray) : 0 ≤ upC es s ∧ upC es s ≤ 8 := dirC_range es (upS s)
theorem newC_range (es : List E) (s : ByteArray) : 0 ≤ newC es s ∧ newC es s ≤ 8 := by
 have := upC_range es s; unfold newC; split
 ·
  exact this
 ·
  split
  ·
   decide
  ·
   split <;> decide
theorem code_range (es : List E) (k : Int) (p t : ByteArray) : 0 ≤ codeC es k p t ∧ codeC es k p t ≤ 8 := by
 unfold codeC
 split
 ·
  exact newC_range es p
 ·
  split
  ·
   unfold putC; split
   ·
    split <;> decide
   ·
    exact newC_range es p
  ·
   split
   ·
    have := upC_range es t; unfold moveC; split
    ·
     decide
    ·
     split
     ·
      exact this
     ·
      split
      ·
       decide
      ·
       split
       ·
        decide
       ·
        split <;> decide
   ·
    unfold offC; split
    ·
     decide
    ·
     split
     ·
      decide
     ·
      split
      ·
       decide
      ·
       split <;> decide
theorem end_range (es : List E) (k : Int) (p t x : ByteArray) : 0 ≤ endC es k p t x ∧ endC es k p t x ≤ 8 := by
 unfold endC; split
 ·
  exact code_range es k p t
 ·
  decide
set_option maxHeartbeats 2000000 in
set_option maxRecDepth 100000 in
theorem iTreeDo_any (w : World) (a : Option Addr) (g o cap : Nat) (es : List E) (k : Int) (p t x : ByteArray) (ae : Int → Addr) (hErr : Errs8 w ae) (hl : es.length ≤ 16777216) (hp : p.size ≤ 16777216) (ht : t.size ≤ 16777216) (hx : x.size ≤ 16777216) (hz : ∀ e ∈ es, e.p.size ≤ 16777216 ∧ e.x.size ≤ 16777216) (ha : 0 < es.length → a = some ⟨g, o, none⟩) (hE : Ents w g o es) :
  Calls Tryz.prog 7 #[.slice a es.length cap, opV k p t x] w fun r w' => ∃ v, r = .returned (.tuple #[v, .int .i64 (doC es ⟨k, p, t, x⟩)]) ∧ OwnE w' w.heap.size v (doE es ⟨k, p, t, x⟩) ∧ Below w.heap.size w w' := by
 obtain ⟨W0, hW0⟩ : ∃ W0, W0 = w.alloc (.cells #[.int .i64 k, .string p, .string t, .string x] 25) := ⟨_, rfl⟩
 have hBw : Below w.heap.size w W0 := hW0 ▸ (Below.refl _ w).alloc (Nat.le_refl _) _; have HX := hid (fun (W' : World) (h : Below W0.heap.size W0 W') => box4i (w := w) (a := .int .i64 k) (b := .string p) (c := .string t) (d := .string x) (T := 25) (w' := W') (by rw [← hW0]; exact h)); have HT := hid (treeOf_any W0 a g o cap es ae (hErr.below hBw).two hl hz ha (hE.below hBw)); have HEr := hid (hErr.below hBw); clear hErr hz ha hE
 have hdo : doC es ⟨k, p, t, x⟩ = if treeE es = true then endC es k p t x else 1 := by
  unfold doC endC; rw [fit_op]; cases treeE es <;> rfl
 cases htr : treeE es with
 | false =>
  have hd : doE es ⟨k, p, t, x⟩ = [] := by unfold doE; rw [htr]; rfl
  rw [hd, hdo, htr, if_neg (by decide)]; rw [htr] at HT; go_enter Tryz.func7, Tryz.ntmps7
  go_wp2_with (go_at_call 10; rw [← hW0]; refine HT.out.mono ?_; rintro e w1 ⟨A, rfl, hB1, -⟩)
  exact bodyPost_ret (v := .tuple #[.slice none 0 0, .int .i64 1]) (by simp [results, Tryz.results7, go_sem]) rfl ⟨_, rfl, World.ownsRow_nil _ _ _ _, belowA (hBw.trans (hB1.mono hBw.size)) _⟩
 | true =>
  obtain ⟨T, hes⟩ := treeE_tr htr
  have hde : doE es ⟨k, p, t, x⟩ = if endC es k p t x = 0 then madeE es k p t x else es := by
   unfold doE; rw [hdo, htr]; rfl
  rw [hde, hdo, htr, if_pos rfl]; rw [htr] at HT
  have hT2 : TrE (if endC es k p t x = 0 then madeE es k p t x else es) ∧ (if endC es k p t x = 0 then madeE es k p t x else es).length ≤ 17 := by
   by_cases h0 : endC es k p t x = 0
   ·
    rw [if_pos h0]; cases hop : (pathB p && fitB k t x) with
    | false => unfold endC at h0; rw [hop] at h0; cases h0
    | true => exact made_tr T hes hop (by unfold endC at h0; rw [hop] at h0; exact h0)
   ·
    rw [if_neg h0]; exact ⟨T, by omega⟩
  obtain ⟨r0, r8⟩ := end_range es k p t x; have HDo := hid (fun (W : World) (A : ByteArray → Nat) (R : Rep W W0.heap.size 16 es A) (hE : Errs8 W ae) (hb : W0.heap.size ≤ W.heap.size) => do_any W W0.heap.size 16 es A ae T R hE k p t x hp ht hx hb (by omega) hes); obtain ⟨c, hc⟩ : ∃ c, endC es k p t x = c := ⟨_, rfl⟩
  obtain ⟨es2, hes2⟩ : ∃ es2, (if endC es k p t x = 0 then madeE es k p t x else es) = es2 := ⟨_, rfl⟩
  rw [hes2] at hT2 HDo ⊢; rw [hc] at HDo r0 r8 ⊢; obtain ⟨ev, hev⟩ : ∃ ev, errV ae c = ev := ⟨_, rfl⟩
  have HCo := hid (fun (W : World) (hE : Errs8 W ae) => doCode_any W ae hE c r0 r8); rw [hev] at HDo HCo; clear hev hc hes2 hde hdo; have HEn := hid (fun (W : World) (A' : ByteArray → Nat) (R : Rep W W0.heap.size 17 es2 A') => ents_any W W0.heap.size 17 es2 A' hT2.1 R (by omega) (by omega)); go_enter Tryz.func7, Tryz.ntmps7
  go_wp2_with fail
  rw [← hW0]; clear hW0; refine HT.out.mono ?_; rintro e w1 ⟨A, rfl, hB1, hR⟩; obtain ⟨W1, hW1⟩ : ∃ W1, W1 = w1.alloc (.cells #[.bool true, .string ⟨#[]⟩, .map (some (A ⟨#[47]⟩))] 38) := ⟨_, rfl⟩
  have hB2 : Below W0.heap.size W0 W1 := by rw [hW1]; exact belowA hB1 _
  have HR1 : Hid (Rep W1 W0.heap.size 16 es A) := by rw [hW1]; exact (hR trivial).below ((Below.refl _ w1).alloc (Nat.le_refl _) _)
  have tb : Hid (W1.cell? ⟨w1.heap.size, 0, none⟩ = some (.bool true) ∧ W1.cell? ⟨w1.heap.size, 1, none⟩ = some (.string ⟨#[]⟩) ∧ W1.cell? ⟨w1.heap.size, 2, none⟩ = some (.map (some (A ⟨#[47]⟩)))) := by rw [hW1]; exact ⟨by simp, by simp, by simp⟩
  obtain ⟨x0, x1, x2, x3⟩ := HX.out _ hB1; have k0 := fun o => cellOn o x0; have k1 := fun o => cellOn o x1; have k2 := fun o => cellOn o x2; have k3 := fun o => cellOn o x3; clear hR; go_wp2_with fail
  rw [← hW1]; refine (HDo.out W1 A HR1.out (HEr.out.below hB2) hB2.size).mono ?_; rintro e w2 ⟨rfl, ht2, A', hA', hR2⟩; have y0 := ht2.cell tb.out.1; have y1 := ht2.cell tb.out.2.1; have y2 := ht2.cell tb.out.2.2; have hEn := HEn.out w2 A' hR2; unfold treeV at hEn; rw [hA'] at hEn; have HEn2 := hid hEn; clear hEn HEn k0 k1 k2 k3 x0 x1 x2 x3 hW1; go_wp2_with fail
  refine HEn2.out.mono ?_; rintro e w3 ⟨v, rfl, hown, hB3⟩; have HOw := hid hown; clear hown y0 y1 y2; go_wp2_with fail
  refine (HCo.out _ (((HEr.out.below hB2).turn ht2).below hB3)).mono ?_; rintro e w4 ⟨rfl, rfl⟩; have hBf : Below w.heap.size w w4 := (hBw.trans ((hB2.trans (ht2.below.trans (hB3.mono (Nat.le_trans hB2.size ht2.below.size)))).mono hBw.size))
  go_wp2
  exact bodyPost_ret (v := .tuple #[v, .int .i64 c]) (by simp [results, Tryz.results7, go_sem]) rfl ⟨_, rfl, HOw.out.lower (Nat.le_trans hBw.size (Nat.le_trans hB2.size ht2.below.size)), hBf⟩
end Go.Proofs.YtafeddiijemnbaaGreatDoor
