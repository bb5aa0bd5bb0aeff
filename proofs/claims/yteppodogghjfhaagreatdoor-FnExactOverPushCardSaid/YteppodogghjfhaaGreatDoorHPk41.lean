import Derived.Test.YteppodogghjfhaaGreatDoorHPk39
import Derived.Test.YteppodogghjfhaaGreatDoorHPk30
import Derived.Test.YteppodogghjfhaaGreatDoorHRdList
import Derived.Test.YteppodogghjfhaaGreatDoorHPk20
import Derived.Laws.Append
import Derived.Laws.AppendOwn
import Derived.Maps.AppendAt
namespace Go.Proofs.YteppodogghjfhaaGreatDoor.Ov
open Go.RowKit Go.Lib
theorem RP.fresh {w : World} {v : Value} {es : List E} (h : RP w v es) (hn : es.length ≤ 1000) :
  Calls Tryz.prog 45 #[v, .func (.func 46) #[] #[]] w fun r w' => ∃ u, r = .returned u ∧ OwnE w' w.heap.size u es ∧ Below w.heap.size w w' := by
 obtain ⟨a, g, o, cap, rfl, h1, h3, h4, h5⟩ := h; exact freshList_any w a g o cap es hn h3 h4 h5
theorem lo_len (x : O) : (loO x).length ≤ 16 := by
 unfold loO; cases h : okB x with
 | false => exact Nat.zero_le _
 | true => exact (lw_parts (ok_parts h).1).2.2.2
theorem se_len (x : O) : (seO x).length ≤ 16 := by
 unfold seO; cases h : okB x with
 | false => exact Nat.zero_le _
 | true => exact (treeE_tr (ok_parts h).2.2.2.2.2.1).2
open Go.Sort
theorem own_oeT {w : World} {base : Nat} {v : Value} {es : List E} (h : OwnE w base v es) : OE base w.heap.size w v es := by
 obtain ⟨a, g, cap, rfl, h1, h2, h3, h4⟩ := row_entsE h; obtain ⟨a', g', cap', e, k1, k2, k3⟩ := h.ents; cases e; exact ⟨a, g, cap, rfl, k3, fun p => ⟨h1 p, h4, World.block_lt_of_cell? w ⟨g, _, none⟩ (h2 0 p).1⟩, h2, h3⟩
theorem own_om {w : World} {base : Nat} {v : Value} {es : List Mk.E} (h : Mk.OwnE w base v es) : OM base w.heap.size w v es := by
 obtain ⟨a, g, cap, rfl, h1, h2, h3, h4⟩ := Mk.row_entsE h; obtain ⟨a', g', cap', e, k1, k2, k3⟩ := h.ents; cases e; exact ⟨a, g, cap, rfl, k3, fun p => ⟨h1 p, h4, World.block_lt_of_cell? w ⟨g, _, none⟩ (h2 0 p).1⟩, h2, h3⟩
structure Few (x : O) : Prop where
 b : x.b.length ≤ 1000
 l : x.l.length ≤ 1000
 m : ∀ l ∈ x.l, l.length ≤ 1000
 u : x.u.length ≤ 1000
set_option maxHeartbeats 4000000 in
set_option maxRecDepth 100000 in
theorem tell_any (w : World) (v : Value) (x : O) (lo se : List E) (h : TreeV w v x lo se) (hf : Few x) :
  Calls Tryz.prog 93 #[v] w fun r w' => ∃ u, r = .returned u ∧ OO w.heap.size w'.heap.size w' u x ∧ Below w.heap.size w w' := by
 obtain ⟨t0, t1, t2, t3, t4, rfl, r0, r1, r2, r3, r4⟩ := h; obtain ⟨p0, y0, z0, d0, rfl, -⟩ := id r0; obtain ⟨p1, y1, z1, d1, rfl, -⟩ := id r1; obtain ⟨p2, y2, z2, d2, rfl, -⟩ := id r2; obtain ⟨p3, y3, z3, d3, rfl, -⟩ := r3; obtain ⟨p4, y4, z4, d4, rfl, -⟩ := r4; obtain ⟨V, hV⟩ : ∃ V, w.alloc (.cells #[.slice p0 x.b.length d0, .slice p1 x.l.length d1, .slice p2 x.u.length d2, .slice p3 lo.length d3, .slice p4 se.length d4] 67) = V := ⟨_, rfl⟩
 have hC : C5 V w.heap.size (.slice p0 x.b.length d0) (.slice p1 x.l.length d1) (.slice p2 x.u.length d2) (.slice p3 lo.length d3) (.slice p4 se.length d4) := by rw [← hV]; exact C5.new _ _ _ _ _ _ _
 have hVs : V.heap.size = w.heap.size + 1 := by rw [← hV]; simp
 have hVb : Below w.heap.size w V := by rw [← hV]; exact (Below.refl _ w).alloc (Nat.le_refl _) _
 obtain ⟨W1, hW1⟩ : ∃ W1, V.alloc (.cells #[.slice none 0 0, .slice none 0 0, .slice none 0 0] 33) = W1 := ⟨_, rfl⟩
 have hB1 : Below w.heap.size w W1 := by rw [← hW1]; exact hVb.alloc hVb.size _
 have hB2 : Below V.heap.size V W1 := by rw [← hW1]; exact (Below.refl _ V).alloc (Nat.le_refl _) _
 have hR1 : W1.heap[V.heap.size]? = some (.cells #[.slice none 0 0, .slice none 0 0, .slice none 0 0] 33 (0, 0)) := by rw [← hW1]; exact heap_alloc_new V _
 have hs1 : W1.heap.size = V.heap.size + 1 := by rw [← hW1]; simp
 have HF := hidE (fun (W' : World) (h : Below W1.heap.size W1 W') => show W'.heap[w.heap.size + 1]? = some (.cells #[.slice none 0 0, .slice none 0 0, .slice none 0 0] 33 (0, 0)) from by rw [h.block _ (by omega), ← hVs]; exact hR1); have HC := hidE (fun (W' : World) (hb : Below V.heap.size V W') => hC.below hb); have R0 := hidE (fun (W : World) (hb : Below w.heap.size w W) => (r0.below hb).fresh hf.b); have R1 := hidE (fun (W : World) (hb : Below w.heap.size w W) => freshLL_any W _ x.l (r1.below hb) hf.l hf.m); have R2 := hidE (fun (W : World) (hb : Below w.heap.size w W) => freshLayer_any W _ x.u (r2.below hb) hf.u); have HB1 := hidE hB1; have HB2 := hidE hB2; clear r0 r1 r2 hC hVb hB1 hB2 hR1 hf; go_enter Tryz.func93, Tryz.ntmps93
 go_wp2
 refine wp_region_held_drew (S := fun W' => Below V.heap.size V W') (by kernel_rfl) (HB2.out.trans (((Below.refl W1.heap.size W1).drew).mono (by omega))) (fun hS0 => ?_); have hT0 : Below W1.heap.size W1 W1.drew := (Below.refl _ W1).drew; refine wpAnyH_take (i := 0) (v := ?_) rfl (by kernel_rfl) (by kernel_rfl) (by kernel_rfl) (fun _ _ _ h => h) (Or.inl ⟨by kernel_rfl, ?_⟩) hS0 ?_
 rotate_left 1
 ·
  intro w' hw'; obtain ⟨q0, q1, q2, q3, q4, -, -, -, -, -⟩ := HC.out w' hw'; go_simp; first | done | with_reducible rfl
 refine wpAnyH_take (i := 1) (v := ?_) rfl (by kernel_rfl) (by kernel_rfl) (by kernel_rfl) (fun _ _ _ h => h) (Or.inl ⟨by kernel_rfl, ?_⟩) hS0 ?_
 rotate_left 1
 ·
  intro w' hw'; obtain ⟨q0, q1, q2, q3, q4, -, -, -, -, -⟩ := HC.out w' hw'; go_simp; first | done | with_reducible rfl
 refine wpAnyH_take (i := 2) (v := ?_) rfl (by kernel_rfl) (by kernel_rfl) (by kernel_rfl) (fun _ _ _ h => h) (Or.inl ⟨by kernel_rfl, ?_⟩) hS0 ?_
 rotate_left 1
 ·
  intro w' hw'; obtain ⟨q0, q1, q2, q3, q4, -, -, -, -, -⟩ := HC.out w' hw'; go_simp; first | done | with_reducible rfl
 refine wpAnyH_take (i := 4) (v := ?_) rfl (by kernel_rfl) (by kernel_rfl) (by kernel_rfl) (fun _ _ _ h => h) (Or.inl ⟨by kernel_rfl, ?_⟩) hS0 ?_
 rotate_left 1
 ·
  intro w' hw'; obtain ⟨q0, q1, q2, q3, q4, -, -, -, -, -⟩ := HC.out w' hw'; go_simp; first | done | with_reducible rfl
 refine wpAnyH_take (i := 5) (v := ?_) rfl (by kernel_rfl) (by kernel_rfl) (by kernel_rfl) (fun _ _ _ h => h) (Or.inl ⟨by kernel_rfl, ?_⟩) hS0 ?_
 rotate_left 1
 ·
  intro w' hw'; obtain ⟨q0, q1, q2, q3, q4, -, -, -, -, -⟩ := HC.out w' hw'; go_simp; first | done | with_reducible rfl
 refine wpAnyH_take (i := 6) (v := ?_) rfl (by kernel_rfl) (by kernel_rfl) (by kernel_rfl) (fun _ _ _ h => h) (Or.inl ⟨by kernel_rfl, ?_⟩) hS0 ?_
 rotate_left 1
 ·
  intro w' hw'; obtain ⟨q0, q1, q2, q3, q4, -, -, -, -, -⟩ := HC.out w' hw'; go_simp; first | done | with_reducible rfl
 refine wpAnyH_take (i := 8) (v := ?_) rfl (by kernel_rfl) (by kernel_rfl) (by kernel_rfl) (fun _ _ _ h => h) (Or.inl ⟨by kernel_rfl, ?_⟩) hS0 ?_
 rotate_left 1
 ·
  intro w' hw'; obtain ⟨q0, q1, q2, q3, q4, -, -, -, -, -⟩ := HC.out w' hw'; go_simp; first | done | with_reducible rfl
 refine wpAnyH_take (i := 9) (v := ?_) rfl (by kernel_rfl) (by kernel_rfl) (by kernel_rfl) (fun _ _ _ h => h) (Or.inl ⟨by kernel_rfl, ?_⟩) hS0 ?_
 rotate_left 1
 ·
  intro w' hw'; obtain ⟨q0, q1, q2, q3, q4, -, -, -, -, -⟩ := HC.out w' hw'; go_simp; first | done | with_reducible rfl
 refine wpAnyH_take (i := 10) (v := ?_) rfl (by kernel_rfl) (by kernel_rfl) (by kernel_rfl) (fun _ _ _ h => h) (Or.inl ⟨by kernel_rfl, ?_⟩) hS0 ?_
 rotate_left 1
 ·
  intro w' hw'; obtain ⟨q0, q1, q2, q3, q4, -, -, -, -, -⟩ := HC.out w' hw'; go_simp; first | done | with_reducible rfl
 refine wpAnyH_ready (rs := [3]) (by kernel_rfl) (by simp) (AllReadyH.cons rfl (fun K hK => ?_) AllReadyH.nil); go_simp; go_wp2_with (first | (go_at_call 45; refine (R0.out _ (B3 HB1.out hT0)).mono ?_; rintro e w2 ⟨u0, rfl, hO0, hBa⟩) | fail)
 have hT1 : Below W1.heap.size W1 w2 := hT0.trans (hBa.mono hT0.size); have hS1 : Below V.heap.size V w2 := HB2.out.trans (hT1.mono (by omega)); have E0 := hidE (own_oeT hO0); clear hO0; have hz0 := hBa.size; clear hBa; refine hK.out _ _ hS1 (fun _ => ?_); clear hK K; refine wpAnyH_ready (rs := [7]) (by kernel_rfl) (by simp) (AllReadyH.cons rfl (fun K hK => ?_) AllReadyH.nil); go_simp; go_wp2_with (first | (go_at_call 130; refine (R1.out _ (B3 HB1.out hT1)).mono ?_; rintro e w3 ⟨u1, rfl, hO1, hBa⟩) | fail)
 have hT2 : Below W1.heap.size W1 w3 := hT1.trans (hBa.mono hT1.size); have hS2 : Below V.heap.size V w3 := HB2.out.trans (hT2.mono (by omega)); have E1 := hidE hO1.ol; have E0' := hidE (E0.out.below hBa); clear hO1 E0; have hz1 := hBa.size; clear hBa; refine hK.out _ _ hS2 (fun _ => ?_); clear hK K; refine wpAnyH_ready (rs := [11]) (by kernel_rfl) (by simp) (AllReadyH.cons rfl (fun K hK => ?_) AllReadyH.nil); go_simp; go_wp2_with (first | (go_at_call 131; refine (R2.out _ (B3 HB1.out hT2)).mono ?_; rintro e w4 ⟨u2, rfl, hO2, hBa⟩) | fail)
 have hT3 : Below W1.heap.size W1 w4 := hT2.trans (hBa.mono hT2.size); have hS3 : Below V.heap.size V w4 := HB2.out.trans (hT3.mono (by omega)); have E2 := hidE (own_om hO2); have E1' := hidE (E1.out.below hBa); have E0'' := hidE (E0'.out.below hBa); clear hO2 E1 E0'; have hz2 := hBa.size; clear hBa; obtain ⟨b0, e0, n0, rfl, -⟩ := id E0''.out; obtain ⟨b1, e1, n1, f1, rfl, -⟩ := id E1'.out; obtain ⟨b2, e2, n2, rfl, -⟩ := id E2.out; refine hK.out _ _ hS3 (fun _ => ?_); clear hK K; refine wpAnyH_take (i := 12) (v := ?_) rfl (by kernel_rfl) (by kernel_rfl) (by kernel_rfl) (fun _ _ _ h => h) (Or.inl ⟨by kernel_rfl, ?_⟩) hS3 ?_
 rotate_left 1
 ·
  intro w' hw'; go_simp; first | done | with_reducible rfl
 have hz := HF.out _ hT3; obtain ⟨⟨r0, r0'⟩, r1, r2⟩ := set3_rules hz; have r1a := fun u => (r1 u).1; have r1b := fun u => (r1 u).2; have r2a := fun u x => (r2 u x).1; have r2b := fun u x => (r2 u x).2; clear r1 r2; have s3 := set3_is hz (.slice b0 x.b.length n0) (.slice b1 x.l.length n1) (.slice b2 x.u.length n2); have hSf := s3.1.below hS3 (by omega); have hBf := s3.1.below (HB1.out.trans (hT3.mono HB1.out.size)) (by omega); have z0 := cell_of_row _ (w.heap.size + 1) 0 _ _ _ s3.2; have z1 := cell_of_row _ (w.heap.size + 1) 1 _ _ _ s3.2; have z2 := cell_of_row _ (w.heap.size + 1) 2 _ _ _ s3.2; refine wpAnyH_ready (rs := [13]) (by kernel_rfl) (by simp) (AllReadyH.cons rfl (fun K hK => ?_) AllReadyH.nil); go_simp; refine hK.out _ _ hSf (fun _ => ?_); clear hK K; refine wpAnyH_done (by kernel_rfl) ?_ _; go_wp2
 have K := fun (X : World) (i : Nat) (y : Value) => setW (w.heap.size + 1) X i y; have hzz := hT0.size; refine bodyPost_ret (v := .agg #[.slice b0 x.b.length n0, .slice b1 x.l.length n1, .slice b2 x.u.length n2]) (by simp [results, Tryz.results93, go_sem, z0, z1, z2]) rfl ⟨_, rfl, ⟨_, _, _, w2.heap.size, w3.heap.size, rfl, by omega, by omega, by simp only [World.size_setCell]; omega, ?_, ?_, ?_⟩, hBf⟩
 ·
  exact ((((E0''.out.win (K _ _ _) (.inl (by omega))).win (K _ _ _) (.inl (by omega))).win (K _ _ _) (.inl (by omega))).mono (by omega) (Nat.le_refl _))
 ·
  exact ((((E1'.out.win (K _ _ _) (.inl (by omega))).win (K _ _ _) (.inl (by omega))).win (K _ _ _) (.inl (by omega))).mono (by omega) (Nat.le_refl _))
 ·
  exact ((((E2.out.win (K _ _ _) (.inl (by omega))).win (K _ _ _) (.inl (by omega))).win (K _ _ _) (.inl (by omega))).mono (by omega) (by simp only [World.size_setCell]; omega))
theorem rows_ne {w : World} {b1 b2 n m s1 s2 : Nat} {e1 e2 : TypeId} {v u : Value} {xs ys : List Value} (hne : e1 ≠ e2) (h : w.ownsRow b1 e1 s1 v n xs) (k : w.ownsRow b2 e2 s2 u m ys) : u.ownBlock = none ∨ u.ownBlock ≠ v.ownBlock := by
  obtain ⟨_, ⟨rfl, _⟩ | ⟨g, cap, cur, rfl, _, hg, _⟩⟩ := k
  · exact .inl rfl
  · obtain ⟨_, ⟨rfl, _⟩ | ⟨g', cap', cur', rfl, _, hg', _⟩⟩ := h
    · exact .inr (by simp [Value.ownBlock])
    · refine .inr fun e => ?_
      simp only [Value.ownBlock, Option.some.injEq] at e; subst e; rw [hg] at hg'; simp at hg'; exact hne hg'.2.symm
theorem tag_ne {w : World} {b n s k : Nat} {e T : TypeId} {v : Value} {xs : List Value} {cs : Array Value} {f : Nat × Nat} (hne : e ≠ T) (h : w.ownsRow b e s v n xs) (hk : w.heap[k]? = some (.cells cs T f)) : v.ownBlock = none ∨ v.ownBlock ≠ some k := by
  obtain ⟨_, ⟨rfl, _⟩ | ⟨g, cap, cur, rfl, _, hg, _⟩⟩ := h
  · exact .inl rfl
  · refine .inr fun e2 => ?_
    simp only [Value.ownBlock, Option.some.injEq] at e2; subst e2; rw [hg] at hk; simp at hk; exact hne hk.2.1
theorem blk_keep {w w' : World} {k : Nat} {v : Value} {o : Obj} (hk : w.heap[k]? = some o) (hg : w.grownBy w' v.ownBlock) (hne : v.ownBlock = none ∨ v.ownBlock ≠ some k) : w'.heap[k]? = some o := by
  have lt : k < w.heap.size := by
    rcases Nat.lt_or_ge k w.heap.size with h | h
    · exact h
    · rw [Array.getElem?_eq_none h] at hk; cases hk
  rw [hg.block k lt (fun e => by rcases hne with h | h; · rw [h] at e; cases e
                                 · exact h e.symm)]
  exact hk
theorem blk_below {w w' : World} {k : Nat} {o : Obj} (hk : w.heap[k]? = some o) (hb : Below w.heap.size w w') : w'.heap[k]? = some o := by
  have lt : k < w.heap.size := by
    rcases Nat.lt_or_ge k w.heap.size with h | h
    · exact h
    · rw [Array.getElem?_eq_none h] at hk; cases hk
  rw [hb.block k lt]; exact hk
theorem ownE_kept {w w' : World} {base : Nat} {v : Value} {es : List E} {row : Option Nat} (h : OwnE w base v es) (hg : w.grownBy w' row) (hne : v.ownBlock = none ∨ v.ownBlock ≠ row) : OwnE w' base v es := World.ownsRow.kept h hg hne
theorem ownM_kept {w w' : World} {base : Nat} {v : Value} {es : List Mk.E} {row : Option Nat} (h : Mk.OwnE w base v es) (hg : w.grownBy w' row) (hne : v.ownBlock = none ∨ v.ownBlock ≠ row) : Mk.OwnE w' base v es := World.ownsRow.kept h hg hne
theorem stepE_app {w : World} {ops : Array Oper} {o : Oper} {a : Act} {K : Act → World → Prop} {Q : Exit → Act → World → Prop} {E0 : Prop} (hgd : o.guard = none) (s x : Operand)
    (ho : o.op = .call { callee := .builtin .append, args := #[s, x], argTypes := #[29, 29] })
    (base : Nat) (v : Value) (es : List E) (hs : a.eval s = v) (hown : OwnE w base v es)
    (ax : Option Addr) (c g of : Nat) (fs : List E) (m : Nat) (hm : fs.length = m) (hx : a.eval x = .slice ax m c) (hax : 0 < fs.length → ax = some ⟨g, of, none⟩) (hF : Ents w g of fs)
    (hl : es.length + fs.length ≤ 2097152) (hbase : base ≤ w.heap.size)
    (h : ∀ v' w', OwnE w' base v' (es ++ fs) → w.grownBy w' v.ownBlock → K (a.put o.dst v') w') : if Region.wanted o (yielded ops a.tmps) = true then Oper.wp Tryz.prog o a w K Q else E0 := by
  have hw : Region.wanted o (yielded ops a.tmps) = true := by simp [Region.wanted, hgd]
  rw [if_pos hw]; obtain ⟨i0, hi, hz0, hz1, hz2⟩ := info_parts Tryz.infoE'; subst hm; by_cases hm : 0 < fs.length
  · obtain rfl := hax hm
    refine wp_append_own w s x 29 ho base 43 i0 _ 3 40 Tryz.underlying29 hi hz0 hz1 hz2 rfl (by decide) v es.length (rowE es) hs hown _ _ _ (rowE fs) hx (rowE_len fs) (rowE_cells hF) rowE_oneCell (by unfold maxLen; omega) (by omega) hbase ?_; intro v' w' ho' hg _; refine h v' w' ?_ hg; show World.ownsRow w' base 43 3 v' (es ++ fs).length (rowE (es ++ fs))
    rw [rowE_append, List.length_append]; exact ho'
  · have h0 : fs = [] := List.length_eq_zero_iff.1 (by omega)
    subst h0; unfold Oper.wp execOp
    have hv : ∃ b n cap, v = .slice b n cap ∧ n ≤ cap := by
      obtain ⟨_, ⟨rfl, _⟩ | ⟨g, cap, cur, rfl, _, _, hcap, _⟩⟩ := hown
      · exact ⟨_, _, _, rfl, Nat.le_refl _⟩
      · exact ⟨_, _, _, rfl, hcap⟩
    obtain ⟨b, n, cap, rfl, hle⟩ := hv; have hr := run_append_no w i0 hi o.type b n cap hle ax c; have hx' : a.eval x = .slice ax 0 c := hx; simp only [ho, resolve, invoke, builtin, Sem.run_bind, Sem.run_pure, Result.andThen_ok, List.map_toArray, List.map_cons, List.map_nil, hs, hx', hr]; exact h _ _ (by rw [List.append_nil]; exact hown) ⟨rfl, rfl, rfl, Nat.le_refl _, fun _ _ _ => rfl⟩
theorem stepM_app {w : World} {ops : Array Oper} {o : Oper} {a : Act} {K : Act → World → Prop} {Q : Exit → Act → World → Prop} {E0 : Prop} (hgd : o.guard = none) (s x : Operand)
    (ho : o.op = .call { callee := .builtin .append, args := #[s, x], argTypes := #[31, 31] })
    (base : Nat) (v : Value) (es : List Mk.E) (hs : a.eval s = v) (hown : Mk.OwnE w base v es)
    (ax : Option Addr) (c g of : Nat) (fs : List Mk.E) (m : Nat) (hm : fs.length = m) (hx : a.eval x = .slice ax m c) (hax : 0 < fs.length → ax = some ⟨g, of, none⟩) (hF : Mk.Ents w g of fs)
    (hl : es.length + fs.length ≤ 2097152) (hbase : base ≤ w.heap.size)
    (h : ∀ v' w', Mk.OwnE w' base v' (es ++ fs) → w.grownBy w' v.ownBlock → K (a.put o.dst v') w') : if Region.wanted o (yielded ops a.tmps) = true then Oper.wp Tryz.prog o a w K Q else E0 := by
  have hw : Region.wanted o (yielded ops a.tmps) = true := by simp [Region.wanted, hgd]
  rw [if_pos hw]; obtain ⟨i0, hi, hz0, hz1, hz2⟩ := info_parts Mk.Tryz.infoE'; subst hm; by_cases hm : 0 < fs.length
  · obtain rfl := hax hm
    refine wp_append_own w s x 31 ho base 99 i0 _ 3 40 Tryz.underlying31 hi hz0 hz1 hz2 rfl (by decide) v es.length (Mk.rowE es) hs hown _ _ _ (Mk.rowE fs) hx (Mk.rowE_len fs) (Mk.rowE_cells hF) Mk.rowE_oneCell (by unfold maxLen; omega) (by omega) hbase ?_; intro v' w' ho' hg _; refine h v' w' ?_ hg; show World.ownsRow w' base 99 3 v' (es ++ fs).length (Mk.rowE (es ++ fs))
    rw [Mk.rowE_append, List.length_append]; exact ho'
  · have h0 : fs = [] := List.length_eq_zero_iff.1 (by omega)
    subst h0; unfold Oper.wp execOp
    have hv : ∃ b n cap, v = .slice b n cap ∧ n ≤ cap := by
      obtain ⟨_, ⟨rfl, _⟩ | ⟨g, cap, cur, rfl, _, _, hcap, _⟩⟩ := hown
      · exact ⟨_, _, _, rfl, Nat.le_refl _⟩
      · exact ⟨_, _, _, rfl, hcap⟩
    obtain ⟨b, n, cap, rfl, hle⟩ := hv; have hr := Mk.run_append_no w i0 hi o.type b n cap hle ax c; have hx' : a.eval x = .slice ax 0 c := hx; simp only [ho, resolve, invoke, builtin, Sem.run_bind, Sem.run_pure, Result.andThen_ok, List.map_toArray, List.map_cons, List.map_nil, hs, hx', hr]; exact h _ _ (by rw [List.append_nil]; exact hown) ⟨rfl, rfl, rfl, Nat.le_refl _, fun _ _ _ => rfl⟩
theorem stepL_app {w : World} {ops : Array Oper} {o : Oper} {a : Act} {K : Act → World → Prop} {Q : Exit → Act → World → Prop} {E0 : Prop} (hgd : o.guard = none) (s x : Operand)
    (ho : o.op = .call { callee := .builtin .append, args := #[s, x], argTypes := #[30, 30] })
    (base : Nat) (v : Value) (n : Nat) (us : List Value) (hs : a.eval s = v) (hown : w.ownsRow base 31 1 v n us)
    (g : Nat) (u : Value) (hx : a.eval x = .slice (some ⟨g, 0, none⟩) 1 1) (hF : ∀ j y, [u][j]? = some y → w.cell? ((⟨g, 0, none⟩ : Addr).add j) = some y) (h1 : ∀ y ∈ [u], y.oneCell' = true)
    (hl : n ≤ 2000000) (hbase : base ≤ w.heap.size)
    (h : ∀ v' w', w'.ownsRow base 31 1 v' (n + 1) (us ++ [u]) → w.grownBy w' v.ownBlock → K (a.put o.dst v') w') : if Region.wanted o (yielded ops a.tmps) = true then Oper.wp Tryz.prog o a w K Q else E0 := by
  have hw : Region.wanted o (yielded ops a.tmps) = true := by simp [Region.wanted, hgd]
  rw [if_pos hw]; obtain ⟨i0, hi, hz0, hz1, hz2⟩ := info_parts Tryz.infoL; exact wp_append_own w s x 30 ho base 31 i0 _ 1 24 Tryz.underlying30 hi hz0 hz1 hz2 rfl (by decide) v n us hs hown _ 1 1 [u] hx rfl hF h1 (by unfold maxLen; omega) (by omega) hbase (fun v' w' ho' hg _ => h v' w' ho' hg)
theorem LR.kept {w w' : World} {base k : Nat} {v : Value} {ls : List (List Mk.E)} {cs : Array Value} {f : Nat × Nat} (h : LR w base v ls) (hk : w.heap[k]? = some (.cells cs 33 f)) (hg : w.grownBy w' (some k)) : LR w' base v ls := by
  obtain ⟨us, h1, h2, h3, h4⟩ := h; exact ⟨us, h1, World.ownsRow.kept h2 hg (tag_ne (by decide) h2 hk), fun i hi hi2 => ownM_kept (h3 i hi hi2) hg (tag_ne (by decide) (h3 i hi hi2) hk), h4⟩
theorem set_mid {w : World} {k : Nat} {p q r : Value} {T : TypeId} (h : w.heap[k]? = some (.cells #[p, q, r] T (0, 0))) (y : Value) : (w.setCell ⟨k, 1, none⟩ y).heap[k]? = some (.cells #[p, y, r] T (0, 0)) ∧ OnlyB3 k w (w.setCell ⟨k, 1, none⟩ y) := by
  rw [setCell_eq_setRow w k 1 _ T (0, 0) y h]; exact ⟨setRow_heap w k _ (#[p, q, r].setIfInBounds 1 y) T (0, 0) h, OnlyB3.setRow k w _⟩
theorem box_cell {w : World} {k : Nat} {p q r : Value} {T : TypeId} (h : w.heap[k]? = some (.cells #[p, q, r] T (0, 0))) : (w.cell? ⟨k, 0, none⟩ = some p ∧ w.cell? ⟨k, 1, none⟩ = some q ∧ w.cell? ⟨k, 2, none⟩ = some r) ∧ (w.frozen? ⟨k, 0, none⟩ = false ∧ w.frozen? ⟨k, 1, none⟩ = false ∧ w.frozen? ⟨k, 2, none⟩ = false) := by
  have hf : ∀ j, w.frozen? ⟨k, j, none⟩ = false := fun j => by simp [World.frozen?, h]
  have hc : ∀ j, w.cell? ⟨k, j, none⟩ = #[p, q, r][j]? := fun j => cell_of_row w k j _ _ _ h; exact ⟨⟨hc 0, hc 1, hc 2⟩, hf 0, hf 1, hf 2⟩
theorem box_mid {w : World} {k : Nat} {p q r : Value} {T : TypeId} (h : w.heap[k]? = some (.cells #[p, q, r] T (0, 0))) : w.cell? ⟨k, 1, none⟩ = some q := (box_cell h).1.2.1
theorem box_midf {w : World} {k : Nat} {p q r : Value} {T : TypeId} (h : w.heap[k]? = some (.cells #[p, q, r] T (0, 0))) : w.frozen? ⟨k, 1, none⟩ = false := (box_cell h).2.2.1
theorem only_grown {b : Nat} {w w' : World} (h : OnlyB3 b w w') : w.grownBy w' (some b) := ⟨h.os, h.tape, h.output, Nat.le_of_eq h.size.symm, fun k _ hk => h.block k (fun e => hk (by rw [e]))⟩
def CpO (w : World) (base : Nat) (v : Value) (x : O) : Prop := ∃ v0 v1 v2, v = .agg #[v0, v1, v2] ∧ OwnE w base v0 x.b ∧ LR w base v1 x.l ∧ Mk.OwnE w base v2 x.u
theorem LR.lower {w : World} {base b : Nat} {v : Value} {ls : List (List Mk.E)} (h : LR w base v ls) (hb : b ≤ base) : LR w b v ls := by
  obtain ⟨us, h1, ⟨k1, k2⟩, h3, h4⟩ := h; refine ⟨us, h1, ⟨k1, ?_⟩, fun i hi hi2 => (h3 i hi hi2).lower hb, h4⟩; rcases k2 with k2 | ⟨g, cap, cur, e1, e2, e3⟩
  · exact .inl k2
  · exact .inr ⟨g, cap, cur, e1, Nat.le_trans hb e2, e3⟩
theorem LR.rl {w : World} {base : Nat} {v : Value} {ls : List (List Mk.E)} (h : LR w base v ls) (hl : ls.length ≤ 1048576) (hz : ∀ l ∈ ls, l.length ≤ 1048576 ∧ SmM l) : RL w v ls := by
  obtain ⟨a1, g1, c1, f, rfl, q1, q2, q3, q4⟩ := h.ol; refine ⟨a1, g1, 0, c1, rfl, hl, q1, fun p => (q2 p).1, fun i hi => ?_⟩; obtain ⟨ai, ci, c, z1, z2, z3, z4⟩ := q3 i hi; have hzz := hz ls[i] (List.getElem_mem _); exact ⟨_, by rw [Nat.zero_add]; exact c, ⟨ai, f i, 0, ci, rfl, hzz.1, z1, hzz.2, fun p => (z2 p).1, z3⟩⟩
theorem alA {V X : World} (o : Obj) (L : V.heap.size + 1 ≤ X.heap.size) (S : Below V.heap.size V X) : ∃ Y, X.alloc o = Y ∧ Below X.heap.size X Y ∧ V.heap.size + 1 ≤ Y.heap.size ∧ Below V.heap.size V Y :=
 have hb : Below X.heap.size X (X.alloc o) := (Below.refl _ X).alloc (Nat.le_refl _) _
 ⟨_, rfl, hb, by have := hb.size; omega, S.trans (hb.mono (by omega))⟩
theorem grA {V X Y : World} {v : Value} {T : TypeId} {s n : Nat} {xs : List Value} (L : V.heap.size + 1 ≤ X.heap.size) (S : Below V.heap.size V X) (hg : X.grownBy Y v.ownBlock) (w : X.ownsRow V.heap.size T s v n xs) : V.heap.size + 1 ≤ Y.heap.size ∧ Below V.heap.size V Y :=
 ⟨by have := hg.size; omega, S.grown hg (by omega) (fun q hq => (World.ownsRow.lt w q hq).1)⟩
theorem alB {V R X : World} (o : Obj) (B : Below R.heap.size R X) (S : Below V.heap.size V R) (h : V.heap.size ≤ R.heap.size) : ∃ Y, X.alloc o = Y ∧ Below X.heap.size X Y ∧ Below R.heap.size R Y ∧ Below V.heap.size V Y :=
 have hb : Below X.heap.size X (X.alloc o) := (Below.refl _ X).alloc (Nat.le_refl _) _
 ⟨_, rfl, hb, B3 B hb, S.trans ((B3 B hb).mono h)⟩
theorem set3_flat {w : World} {b : Nat} {c0 c1 c2 : Value} {T : TypeId} (h : w.heap[b]? = some (.cells #[c0, c1, c2] T (0, 0))) : w.cell? ⟨b, 0, none⟩ = some c0 ∧ w.frozen? ⟨b, 0, none⟩ = false ∧ (∀ u, (w.setCell ⟨b, 0, none⟩ u).cell? ⟨b, 1, none⟩ = some c1) ∧ (∀ u, (w.setCell ⟨b, 0, none⟩ u).frozen? ⟨b, 1, none⟩ = false) ∧ (∀ u x, ((w.setCell ⟨b, 0, none⟩ u).setCell ⟨b, 1, none⟩ x).cell? ⟨b, 2, none⟩ = some c2) ∧ (∀ u x, ((w.setCell ⟨b, 0, none⟩ u).setCell ⟨b, 1, none⟩ x).frozen? ⟨b, 2, none⟩ = false) :=
 have r := set3_rules h
 ⟨r.1.1, r.1.2, fun u => (r.2.1 u).1, fun u => (r.2.1 u).2, fun u x => (r.2.2 u x).1, fun u x => (r.2.2 u x).2⟩
set_option maxHeartbeats 8000000 in
set_option maxRecDepth 100000 in
theorem sl4Copy_any (w : World) (v : Value) (x : O) (h : Lie w v x) :
  Calls Tryz.prog 55 #[v] w fun r w' => ∃ u, r = .returned u ∧ Lie w' u x ∧ CpO w' w.heap.size u x ∧ Below w.heap.size w w' := by
 obtain ⟨v0, v1, v2, rfl, h0, h1, h2⟩ := h; obtain ⟨a0, g0, o0, c0, rfl, hl0, hc0, hz0, ha0, hE0⟩ := id h0; obtain ⟨a1, g1, o1, c1, rfl, hl1, hc1, ha1, hE1⟩ := id h1; obtain ⟨a2, g2, o2, c2, rfl, hl2, hc2, hz2, ha2, hE2⟩ := id h2; obtain ⟨V, hV⟩ : ∃ V, w.alloc (.cells #[.slice a0 x.b.length c0, .slice a1 x.l.length c1, .slice a2 x.u.length c2] 33) = V := ⟨_, rfl⟩
 have hC : C3 V w.heap.size (.slice a0 x.b.length c0) (.slice a1 x.l.length c1) (.slice a2 x.u.length c2) := by rw [← hV]; exact C3.new _ _ _ _ _
 have hVs : V.heap.size = w.heap.size + 1 := by rw [← hV]; simp
 have hVb : Below w.heap.size w V := by rw [← hV]; exact (Below.refl _ w).alloc (Nat.le_refl _) _
 obtain ⟨W1, hW1⟩ : ∃ W1, V.alloc (.cells #[.slice none 0 0, .slice none 0 0, .slice none 0 0] 33) = W1 := ⟨_, rfl⟩
 have hB2 : Below V.heap.size V W1 := by rw [← hW1]; exact (Below.refl _ V).alloc (Nat.le_refl _) _
 have hs1 : W1.heap.size = V.heap.size + 1 := by rw [← hW1]; simp
 have hZ : W1.heap[w.heap.size + 1]? = some (.cells #[.slice none 0 0, .slice none 0 0, .slice none 0 0] 33 (0, 0)) := by rw [← hW1, ← hVs]; exact heap_alloc_new V _
 have FC := hidE (fun (W' : World) (hb : Below V.heap.size V W') => hC.below hb); have FE := hidE (fun (W : World) (hb : Below V.heap.size V W) => (hE0.below hVb).below hb); have FL := hidE (fun (W : World) (hb : Below V.heap.size V W) => (h1.below hVb).below hb); have FU := hidE (fun (W : World) (hb : Below V.heap.size V W) => (hE2.below hVb).below hb); have FV := hidE hVb; have HL1 := hidE hE1
 have HLs := hidE (fun l (hl : l ∈ x.l) => (show l.length ≤ 1048576 ∧ SmM l from by
  obtain ⟨i, hi, rfl⟩ := List.getElem_of_mem hl; obtain ⟨u, _, ⟨_, _, _, _, _, q1, _, q3, _⟩⟩ := hE1 i hi
  exact ⟨q1, q3⟩))
 have HZ0 := hidE hz0; have HZ2 := hidE hz2; clear h0 h1 h2 hC hE0 hE1 hE2 hz0 hz2 hVb; go_enter Tryz.func55, Tryz.ntmps55
 go_wp2
 rename_i Q0 K0 hK0
 have T : ∀ (t5 t6 t7 t9 t10 t11 t13 : Value) (pE pM : Option Addr) (cE cM k : Nat) (W : World), Below V.heap.size V W → OwnE W V.heap.size (.slice pE x.b.length cE) x.b → Mk.OwnE W V.heap.size (.slice pM x.u.length cM) x.u → W.heap[k]? = some (.cells #[.slice pE x.b.length cE, .slice none 0 0, .slice pM x.u.length cM] 33 (0, 0)) → w.heap.size + 1 < k → W.heap[w.heap.size + 1]? = some (.cells #[.slice none 0 0, .slice none 0 0, .slice none 0 0] 33 (0, 0)) →
   K0 { tmps := #[.agg #[.slice a0 x.b.length c0, .slice a1 x.l.length c1, .slice a2 x.u.length c2], .pointer (some ⟨w.heap.size, 0, none⟩), .pointer (some ⟨w.heap.size + 1, 0, none⟩), .pointer (some ⟨k, 0, none⟩), undef, t5, t6, t7, .slice pE x.b.length cE, t9, t10, t11, .slice pM x.u.length cM, t13, undef, undef, undef, undef, undef, undef, undef, undef, undef, undef, undef, undef, undef, undef, undef, undef, undef, undef, undef, undef], defers := [] } W := by
  intro t5 t6 t7 t9 t10 t11 t13 pE pM cE cM k W hW hE hM hK hk hZ; refine hK0 _ _ ?_; have HE := hidE hE; have HM := hidE hM; have HK := hidE hK; have HZ := hidE hZ; have HW := hidE hW; clear hE hM hK hZ hW hK0; go_wp2
  go_loopw [4] (fun iv wl => ∃ (j : Nat) (u1 : Value), j ≤ x.l.length ∧ iv = .int .i64 j ∧ Hid (wl.heap[k]? = some (.cells #[.slice pE x.b.length cE, u1, .slice pM x.u.length cM] 33 (0, 0))) ∧ Hid (LR wl V.heap.size u1 (x.l.take j)) ∧ Hid (OwnE wl V.heap.size (.slice pE x.b.length cE) x.b) ∧ Hid (Mk.OwnE wl V.heap.size (.slice pM x.u.length cM) x.u) ∧ Hid (wl.heap[w.heap.size + 1]? = some (.cells #[.slice none 0 0, .slice none 0 0, .slice none 0 0] 33 (0, 0))) ∧ Hid (Below V.heap.size V wl)) (fun iv _ => x.l.length - (RowKit.intOf iv).toNat)
  case atStart => exact ⟨0, _, Nat.zero_le _, rfl, HK, LR.nil _ _, HE, HM, HZ, HW⟩
  case round =>
   clear HE HM HK HZ HW; obtain ⟨j, u1, hj, rfl, HK, HL, HE, HM, HZ, HW⟩ := hrel; obtain ⟨q0, q1, q2, -, -, -⟩ := FC.out _ HW.out; by_cases hlt : j < x.l.length
   ·
    obtain rfl := ha1 (by omega); obtain ⟨u, uc, ur⟩ := HL1.out j hlt; obtain ⟨au, gu, ou, cu, rfl, ul1, ul2, ul3, ul4, ul5⟩ := id ur; have HU := hidE (fun (W' : World) (hb : Below V.heap.size V W') => show W'.cell? ⟨g1, o1 + j, none⟩ = some (.slice au x.l[j].length cu) from (hb.cell (p := ⟨g1, o1 + j, none⟩) (by have := World.block_lt_of_cell? w ⟨g1, o1 + j, none⟩ uc; dsimp only at this ⊢; omega)).trans ((FV.out.cell (p := ⟨g1, o1 + j, none⟩) (World.block_lt_of_cell? w ⟨g1, o1 + j, none⟩ uc)).trans uc)); have HUE := hidE (fun (W' : World) (hb : Below V.heap.size V W') => (ul5.below FV.out).below hb); have HT := hidE (show x.l.take (j + 1) = x.l.take j ++ [x.l[j]] from List.take_succ_eq_append_getElem hlt); have hszr := HW.out.size; clear ur ul5 uc; go_wp2
    refine wp_region_held_drew (S := fun W' => Below V.heap.size V W') (by kernel_rfl) (HW.out.trans (((Below.refl wr.heap.size wr).drew).mono hszr)) (fun hS0 => ?_); refine wpAnyH_take (i := 0) (v := ?_) rfl (by kernel_rfl) (by kernel_rfl) (by kernel_rfl) (fun _ _ _ h => h) (Or.inl ⟨by kernel_rfl, ?_⟩) hS0 ?_
    rotate_left 1
    ·
     intro w' hw'; obtain ⟨z0, z1, z2, -, -, -⟩ := FC.out w' hw'; have zu := HU.out w' hw'; go_simp; first | done | with_reducible rfl
    refine wpAnyH_take (i := 3) (v := ?_) rfl (by kernel_rfl) (by kernel_rfl) (by kernel_rfl) (fun _ _ _ h => h) (Or.inl ⟨by kernel_rfl, ?_⟩) hS0 ?_
    rotate_left 1
    ·
     intro w' hw'; obtain ⟨z0, z1, z2, -, -, -⟩ := FC.out w' hw'; have zu := HU.out w' hw'; go_simp; first | done | with_reducible rfl
    refine wpAnyH_take (i := 4) (v := ?_) rfl (by kernel_rfl) (by kernel_rfl) (by kernel_rfl) (fun _ _ _ h => h) (Or.inl ⟨by kernel_rfl, ?_⟩) hS0 ?_
    rotate_left 1
    ·
     intro w' hw'; obtain ⟨z0, z1, z2, -, -, -⟩ := FC.out w' hw'; have zu := HU.out w' hw'; go_simp; first | done | with_reducible rfl
    refine wpAnyH_take (i := 5) (v := ?_) rfl (by kernel_rfl) (by kernel_rfl) (by kernel_rfl) (fun _ _ _ h => h) (Or.inl ⟨by kernel_rfl, ?_⟩) hS0 ?_
    rotate_left 1
    ·
     intro w' hw'; obtain ⟨z0, z1, z2, -, -, -⟩ := FC.out w' hw'; have zu := HU.out w' hw'; go_simp; first | done | with_reducible rfl
    refine wpAnyH_take (i := 6) (v := ?_) rfl (by kernel_rfl) (by kernel_rfl) (by kernel_rfl) (fun _ _ _ h => h) (Or.inl ⟨by kernel_rfl, ?_⟩) hS0 ?_
    rotate_left 1
    ·
     intro w' hw'; obtain ⟨z0, z1, z2, -, -, -⟩ := FC.out w' hw'; have zu := HU.out w' hw'; go_simp; first | done | with_reducible rfl
    refine wpAnyH_take (i := 7) (v := ?_) rfl (by kernel_rfl) (by kernel_rfl) (by kernel_rfl) (fun _ _ _ h => h) (Or.inl ⟨by kernel_rfl, ?_⟩) hS0 ?_
    rotate_left 1
    ·
     intro w' hw'; obtain ⟨z0, z1, z2, -, -, -⟩ := FC.out w' hw'; have zu := HU.out w' hw'; go_simp; first | done | with_reducible rfl
    have B0 : Below wr.heap.size wr wr.drew := (Below.refl _ wr).drew; have S0 := hS0; obtain ⟨X0, hX0⟩ : ∃ X0, wr.drew = X0 := ⟨_, rfl⟩
    rw [hX0] at S0 B0 ⊢; clear hX0 hS0; refine wpAnyH_ready (rs := [1, 2]) (by kernel_rfl) (by simp) ?_; refine AllReadyH.cons rfl (fun K hK => ?_) ?_
    ·
     skip
     have kk := blk_below HK.out B0; have b1 := box_mid kk; clear kk; go_simp; refine hK.out _ _ S0 (fun _ => ?_); clear hK K b1; refine wpAnyH_ready (rs := [2]) (by kernel_rfl) (by simp) (AllReadyH.cons rfl (fun K hK => ?_) AllReadyH.nil); go_simp; obtain ⟨X1, hY, hb, B1, S1⟩ := alB (.cells #[] 99) B0 HW.out hszr; have I1 : Mk.OwnE X1 wr.heap.size (.slice (some ⟨X0.heap.size, 0, none⟩) 0 0) [] := by rw [← hY]; exact Mk.OwnE.made X0 B0.size
     rw [hY]; refine hK.out _ _ S1 (fun _ => ?_); clear hK K hY hb; refine wpAnyH_ready (rs := [8]) (by kernel_rfl) (by simp) (AllReadyH.cons rfl (fun K hK => ?_) AllReadyH.nil); have hsx := B1.size; refine stepM_app (by rfl) _ _ (by rfl) wr.heap.size _ [] (by rfl) I1 au cu gu ou x.l[j] x.l[j].length rfl (by rfl) ul4 (HUE.out _ S1) (by simp; omega) hsx ?_; intro v2 X2 hown hgrow; have I2 : Mk.OwnE X2 wr.heap.size v2 x.l[j] := hown; clear hown; have B2 : Below wr.heap.size wr X2 := B1.grown hgrow hsx (fun q hq => (World.ownsRow.lt I1 q hq).1); have S2 : Below V.heap.size V X2 := HW.out.trans (B2.mono hszr); obtain ⟨p2, _, c2', rfl, -⟩ := id I2.ents; refine hK.out _ _ S2 (fun _ => ?_); clear hK K hgrow hsx I1; refine wpAnyH_ready (rs := [9]) (by kernel_rfl) (by simp) (AllReadyH.cons rfl (fun K hK => ?_) AllReadyH.nil); go_simp; have hnw := news_slice X2 (.slice p2 x.l[j].length c2'); obtain ⟨X3, hY, hb, B3, S3⟩ := alB (.cells #[.slice p2 x.l[j].length c2'] 31) B2 HW.out hszr; have I3 := Mk.OwnE.below I2 hb; rw [hY] at hnw ⊢; refine hK.out _ _ S3 (fun _ => ?_); clear hK K hY hb I2; refine wpAnyH_ready (rs := [10]) (by kernel_rfl) (by simp) (AllReadyH.cons rfl (fun K hK => ?_) AllReadyH.nil); have hsx := B3.size; obtain ⟨us, w1, w2, w3, w4, w5⟩ := HL.out.grow B3; refine stepL_app (by rfl) _ _ (by rfl) V.heap.size _ _ us (by rfl) w2 _ (.slice p2 x.l[j].length c2') (by rfl) hnw (one_slice _ _ _) (by rw [List.length_take]; omega) (by omega) ?_; intro v4 X4 hown hgrow; have R4 : LR X4 V.heap.size v4 (x.l.take j ++ [x.l[j]]) := LR.push w1 w2 w3 w4 I3 hszr w5 hown hgrow; have S4 : Below V.heap.size V X4 := S3.grown hgrow (by omega) (fun q hq => (World.ownsRow.lt w2 q hq).1); have K4 := blk_keep (blk_below HK.out B3) hgrow (tag_ne (by decide) w2 (blk_below HK.out B3)); have Z4 := blk_keep (blk_below HZ.out B3) hgrow (tag_ne (by decide) w2 (blk_below HZ.out B3)); have E4 := ownE_kept (OwnE.below HE.out B3) hgrow (rows_ne (by decide) w2 (OwnE.below HE.out B3)); have M4 := ownM_kept (Mk.OwnE.below HM.out B3) hgrow (rows_ne (by decide) w2 (Mk.OwnE.below HM.out B3)); obtain ⟨us4, -, ⟨-, ⟨-, e0⟩ | ⟨g4, cap4, -, rfl, -⟩⟩, -⟩ := id R4
     ·
      rw [List.length_append, List.length_singleton] at e0; omega
     ·
      obtain ⟨n4, hn4⟩ : ∃ n4, (x.l.take j ++ [x.l[j]]).length = n4 := ⟨_, rfl⟩
      rw [hn4] at R4 ⊢; refine hK.out _ _ S4 (fun _ => ?_); clear hK K hgrow hsx hown w1 w2 w3 w4 w5 I3 hnw hn4; refine wpAnyH_take (i := 11) (v := ?_) rfl (by kernel_rfl) (by kernel_rfl) (by kernel_rfl) (fun _ _ _ h => h) (Or.inl ⟨by kernel_rfl, ?_⟩) S4 ?_
      rotate_left 1
      ·
       intro w' hw'; go_simp; first | done | with_reducible rfl
      have b1 := box_mid K4; have f1 := box_midf K4; obtain ⟨m1, m2⟩ := set_mid K4 (Value.slice (some ⟨g4, 0, none⟩) n4 cap4); have hgk := only_grown m2; have hSf := m2.below S4 (by omega); refine wpAnyH_ready (rs := [12]) (by kernel_rfl) (by simp) (AllReadyH.cons rfl (fun K hK => ?_) AllReadyH.nil); go_simp; refine hK.out _ _ hSf (fun _ => ?_); clear hK K b1 f1; refine wpAnyH_done (by kernel_rfl) ?_ _; have HK5 := hidE m1; have HL5 := hidE (R4.kept K4 hgk); have HE5 := hidE (ownE_kept E4 hgk (tag_ne (by decide) E4 K4)); have HM5 := hidE (ownM_kept M4 hgk (tag_ne (by decide) M4 K4)); have HZ5 := hidE ((m2.block _ (by omega)).trans Z4); have HW5 := hidE hSf; clear m1 m2 hgk hSf R4 E4 M4 Z4 K4; go_wp2
      go_roundw
      case rel => exact ⟨j + 1, _, by omega, by go_num, HK5, by rw [HT.out]; exact HL5, HE5, HM5, HZ5, HW5⟩
      case measure => simp [RowKit.intOf]; omega
    refine AllReadyH.cons rfl (fun K hK => ?_) ?_
    ·
     skip
     go_simp; obtain ⟨X1, hY, hb, B1, S1⟩ := alB (.cells #[] 99) B0 HW.out hszr; have I1 : Mk.OwnE X1 wr.heap.size (.slice (some ⟨X0.heap.size, 0, none⟩) 0 0) [] := by rw [← hY]; exact Mk.OwnE.made X0 B0.size
     rw [hY]; refine hK.out _ _ S1 (fun _ => ?_); clear hK K hY hb; refine wpAnyH_ready (rs := [1, 8]) (by kernel_rfl) (by simp) ?_; refine AllReadyH.cons rfl (fun K hK => ?_) ?_
     ·
      skip
      have kk := blk_below HK.out B1; have b1 := box_mid kk; clear kk; go_simp; refine hK.out _ _ S1 (fun _ => ?_); clear hK K b1; refine wpAnyH_ready (rs := [8]) (by kernel_rfl) (by simp) (AllReadyH.cons rfl (fun K hK => ?_) AllReadyH.nil); have hsx := B1.size; refine stepM_app (by rfl) _ _ (by rfl) wr.heap.size _ [] (by rfl) I1 au cu gu ou x.l[j] x.l[j].length rfl (by rfl) ul4 (HUE.out _ S1) (by simp; omega) hsx ?_; intro v2 X2 hown hgrow; have I2 : Mk.OwnE X2 wr.heap.size v2 x.l[j] := hown; clear hown; have B2 : Below wr.heap.size wr X2 := B1.grown hgrow hsx (fun q hq => (World.ownsRow.lt I1 q hq).1); have S2 : Below V.heap.size V X2 := HW.out.trans (B2.mono hszr); obtain ⟨p2, _, c2', rfl, -⟩ := id I2.ents; refine hK.out _ _ S2 (fun _ => ?_); clear hK K hgrow hsx I1; refine wpAnyH_ready (rs := [9]) (by kernel_rfl) (by simp) (AllReadyH.cons rfl (fun K hK => ?_) AllReadyH.nil); go_simp; have hnw := news_slice X2 (.slice p2 x.l[j].length c2'); obtain ⟨X3, hY, hb, B3, S3⟩ := alB (.cells #[.slice p2 x.l[j].length c2'] 31) B2 HW.out hszr; have I3 := Mk.OwnE.below I2 hb; rw [hY] at hnw ⊢; refine hK.out _ _ S3 (fun _ => ?_); clear hK K hY hb I2; refine wpAnyH_ready (rs := [10]) (by kernel_rfl) (by simp) (AllReadyH.cons rfl (fun K hK => ?_) AllReadyH.nil); have hsx := B3.size; obtain ⟨us, w1, w2, w3, w4, w5⟩ := HL.out.grow B3; refine stepL_app (by rfl) _ _ (by rfl) V.heap.size _ _ us (by rfl) w2 _ (.slice p2 x.l[j].length c2') (by rfl) hnw (one_slice _ _ _) (by rw [List.length_take]; omega) (by omega) ?_; intro v4 X4 hown hgrow; have R4 : LR X4 V.heap.size v4 (x.l.take j ++ [x.l[j]]) := LR.push w1 w2 w3 w4 I3 hszr w5 hown hgrow; have S4 : Below V.heap.size V X4 := S3.grown hgrow (by omega) (fun q hq => (World.ownsRow.lt w2 q hq).1); have K4 := blk_keep (blk_below HK.out B3) hgrow (tag_ne (by decide) w2 (blk_below HK.out B3)); have Z4 := blk_keep (blk_below HZ.out B3) hgrow (tag_ne (by decide) w2 (blk_below HZ.out B3)); have E4 := ownE_kept (OwnE.below HE.out B3) hgrow (rows_ne (by decide) w2 (OwnE.below HE.out B3)); have M4 := ownM_kept (Mk.OwnE.below HM.out B3) hgrow (rows_ne (by decide) w2 (Mk.OwnE.below HM.out B3)); obtain ⟨us4, -, ⟨-, ⟨-, e0⟩ | ⟨g4, cap4, -, rfl, -⟩⟩, -⟩ := id R4
      ·
       rw [List.length_append, List.length_singleton] at e0; omega
      ·
       obtain ⟨n4, hn4⟩ : ∃ n4, (x.l.take j ++ [x.l[j]]).length = n4 := ⟨_, rfl⟩
       rw [hn4] at R4 ⊢; refine hK.out _ _ S4 (fun _ => ?_); clear hK K hgrow hsx hown w1 w2 w3 w4 w5 I3 hnw hn4; refine wpAnyH_take (i := 11) (v := ?_) rfl (by kernel_rfl) (by kernel_rfl) (by kernel_rfl) (fun _ _ _ h => h) (Or.inl ⟨by kernel_rfl, ?_⟩) S4 ?_
       rotate_left 1
       ·
        intro w' hw'; go_simp; first | done | with_reducible rfl
       have b1 := box_mid K4; have f1 := box_midf K4; obtain ⟨m1, m2⟩ := set_mid K4 (Value.slice (some ⟨g4, 0, none⟩) n4 cap4); have hgk := only_grown m2; have hSf := m2.below S4 (by omega); refine wpAnyH_ready (rs := [12]) (by kernel_rfl) (by simp) (AllReadyH.cons rfl (fun K hK => ?_) AllReadyH.nil); go_simp; refine hK.out _ _ hSf (fun _ => ?_); clear hK K b1 f1; refine wpAnyH_done (by kernel_rfl) ?_ _; have HK5 := hidE m1; have HL5 := hidE (R4.kept K4 hgk); have HE5 := hidE (ownE_kept E4 hgk (tag_ne (by decide) E4 K4)); have HM5 := hidE (ownM_kept M4 hgk (tag_ne (by decide) M4 K4)); have HZ5 := hidE ((m2.block _ (by omega)).trans Z4); have HW5 := hidE hSf; clear m1 m2 hgk hSf R4 E4 M4 Z4 K4; go_wp2
       go_roundw
       case rel => exact ⟨j + 1, _, by omega, by go_num, HK5, by rw [HT.out]; exact HL5, HE5, HM5, HZ5, HW5⟩
       case measure => simp [RowKit.intOf]; omega
     refine AllReadyH.cons rfl (fun K hK => ?_) ?_
     ·
      skip
      have hsx := B1.size; refine stepM_app (by rfl) _ _ (by rfl) wr.heap.size _ [] (by rfl) I1 au cu gu ou x.l[j] x.l[j].length rfl (by rfl) ul4 (HUE.out _ S1) (by simp; omega) hsx ?_; intro v2 X2 hown hgrow; have I2 : Mk.OwnE X2 wr.heap.size v2 x.l[j] := hown; clear hown; have B2 : Below wr.heap.size wr X2 := B1.grown hgrow hsx (fun q hq => (World.ownsRow.lt I1 q hq).1); have S2 : Below V.heap.size V X2 := HW.out.trans (B2.mono hszr); obtain ⟨p2, _, c2', rfl, -⟩ := id I2.ents; refine hK.out _ _ S2 (fun _ => ?_); clear hK K hgrow hsx I1; refine wpAnyH_ready (rs := [1, 9]) (by kernel_rfl) (by simp) ?_; refine AllReadyH.cons rfl (fun K hK => ?_) ?_
      ·
       skip
       have kk := blk_below HK.out B2; have b1 := box_mid kk; clear kk; go_simp; refine hK.out _ _ S2 (fun _ => ?_); clear hK K b1; refine wpAnyH_ready (rs := [9]) (by kernel_rfl) (by simp) (AllReadyH.cons rfl (fun K hK => ?_) AllReadyH.nil); go_simp; have hnw := news_slice X2 (.slice p2 x.l[j].length c2'); obtain ⟨X3, hY, hb, B3, S3⟩ := alB (.cells #[.slice p2 x.l[j].length c2'] 31) B2 HW.out hszr; have I3 := Mk.OwnE.below I2 hb; rw [hY] at hnw ⊢; refine hK.out _ _ S3 (fun _ => ?_); clear hK K hY hb I2; refine wpAnyH_ready (rs := [10]) (by kernel_rfl) (by simp) (AllReadyH.cons rfl (fun K hK => ?_) AllReadyH.nil); have hsx := B3.size; obtain ⟨us, w1, w2, w3, w4, w5⟩ := HL.out.grow B3; refine stepL_app (by rfl) _ _ (by rfl) V.heap.size _ _ us (by rfl) w2 _ (.slice p2 x.l[j].length c2') (by rfl) hnw (one_slice _ _ _) (by rw [List.length_take]; omega) (by omega) ?_; intro v4 X4 hown hgrow; have R4 : LR X4 V.heap.size v4 (x.l.take j ++ [x.l[j]]) := LR.push w1 w2 w3 w4 I3 hszr w5 hown hgrow; have S4 : Below V.heap.size V X4 := S3.grown hgrow (by omega) (fun q hq => (World.ownsRow.lt w2 q hq).1); have K4 := blk_keep (blk_below HK.out B3) hgrow (tag_ne (by decide) w2 (blk_below HK.out B3)); have Z4 := blk_keep (blk_below HZ.out B3) hgrow (tag_ne (by decide) w2 (blk_below HZ.out B3)); have E4 := ownE_kept (OwnE.below HE.out B3) hgrow (rows_ne (by decide) w2 (OwnE.below HE.out B3)); have M4 := ownM_kept (Mk.OwnE.below HM.out B3) hgrow (rows_ne (by decide) w2 (Mk.OwnE.below HM.out B3)); obtain ⟨us4, -, ⟨-, ⟨-, e0⟩ | ⟨g4, cap4, -, rfl, -⟩⟩, -⟩ := id R4
       ·
        rw [List.length_append, List.length_singleton] at e0; omega
       ·
        obtain ⟨n4, hn4⟩ : ∃ n4, (x.l.take j ++ [x.l[j]]).length = n4 := ⟨_, rfl⟩
        rw [hn4] at R4 ⊢; refine hK.out _ _ S4 (fun _ => ?_); clear hK K hgrow hsx hown w1 w2 w3 w4 w5 I3 hnw hn4; refine wpAnyH_take (i := 11) (v := ?_) rfl (by kernel_rfl) (by kernel_rfl) (by kernel_rfl) (fun _ _ _ h => h) (Or.inl ⟨by kernel_rfl, ?_⟩) S4 ?_
        rotate_left 1
        ·
         intro w' hw'; go_simp; first | done | with_reducible rfl
        have b1 := box_mid K4; have f1 := box_midf K4; obtain ⟨m1, m2⟩ := set_mid K4 (Value.slice (some ⟨g4, 0, none⟩) n4 cap4); have hgk := only_grown m2; have hSf := m2.below S4 (by omega); refine wpAnyH_ready (rs := [12]) (by kernel_rfl) (by simp) (AllReadyH.cons rfl (fun K hK => ?_) AllReadyH.nil); go_simp; refine hK.out _ _ hSf (fun _ => ?_); clear hK K b1 f1; refine wpAnyH_done (by kernel_rfl) ?_ _; have HK5 := hidE m1; have HL5 := hidE (R4.kept K4 hgk); have HE5 := hidE (ownE_kept E4 hgk (tag_ne (by decide) E4 K4)); have HM5 := hidE (ownM_kept M4 hgk (tag_ne (by decide) M4 K4)); have HZ5 := hidE ((m2.block _ (by omega)).trans Z4); have HW5 := hidE hSf; clear m1 m2 hgk hSf R4 E4 M4 Z4 K4; go_wp2
        go_roundw
        case rel => exact ⟨j + 1, _, by omega, by go_num, HK5, by rw [HT.out]; exact HL5, HE5, HM5, HZ5, HW5⟩
        case measure => simp [RowKit.intOf]; omega
      refine AllReadyH.cons rfl (fun K hK => ?_) ?_
      ·
       skip
       go_simp; have hnw := news_slice X2 (.slice p2 x.l[j].length c2'); obtain ⟨X3, hY, hb, B3, S3⟩ := alB (.cells #[.slice p2 x.l[j].length c2'] 31) B2 HW.out hszr; have I3 := Mk.OwnE.below I2 hb; rw [hY] at hnw ⊢; refine hK.out _ _ S3 (fun _ => ?_); clear hK K hY hb I2; refine wpAnyH_ready (rs := [1]) (by kernel_rfl) (by simp) (AllReadyH.cons rfl (fun K hK => ?_) AllReadyH.nil); have kk := blk_below HK.out B3; have b1 := box_mid kk; clear kk; go_simp; refine hK.out _ _ S3 (fun _ => ?_); clear hK K b1; refine wpAnyH_ready (rs := [10]) (by kernel_rfl) (by simp) (AllReadyH.cons rfl (fun K hK => ?_) AllReadyH.nil); have hsx := B3.size; obtain ⟨us, w1, w2, w3, w4, w5⟩ := HL.out.grow B3; refine stepL_app (by rfl) _ _ (by rfl) V.heap.size _ _ us (by rfl) w2 _ (.slice p2 x.l[j].length c2') (by rfl) hnw (one_slice _ _ _) (by rw [List.length_take]; omega) (by omega) ?_; intro v4 X4 hown hgrow; have R4 : LR X4 V.heap.size v4 (x.l.take j ++ [x.l[j]]) := LR.push w1 w2 w3 w4 I3 hszr w5 hown hgrow; have S4 : Below V.heap.size V X4 := S3.grown hgrow (by omega) (fun q hq => (World.ownsRow.lt w2 q hq).1); have K4 := blk_keep (blk_below HK.out B3) hgrow (tag_ne (by decide) w2 (blk_below HK.out B3)); have Z4 := blk_keep (blk_below HZ.out B3) hgrow (tag_ne (by decide) w2 (blk_below HZ.out B3)); have E4 := ownE_kept (OwnE.below HE.out B3) hgrow (rows_ne (by decide) w2 (OwnE.below HE.out B3)); have M4 := ownM_kept (Mk.OwnE.below HM.out B3) hgrow (rows_ne (by decide) w2 (Mk.OwnE.below HM.out B3)); obtain ⟨us4, -, ⟨-, ⟨-, e0⟩ | ⟨g4, cap4, -, rfl, -⟩⟩, -⟩ := id R4
       ·
        rw [List.length_append, List.length_singleton] at e0; omega
       ·
        obtain ⟨n4, hn4⟩ : ∃ n4, (x.l.take j ++ [x.l[j]]).length = n4 := ⟨_, rfl⟩
        rw [hn4] at R4 ⊢; refine hK.out _ _ S4 (fun _ => ?_); clear hK K hgrow hsx hown w1 w2 w3 w4 w5 I3 hnw hn4; refine wpAnyH_take (i := 11) (v := ?_) rfl (by kernel_rfl) (by kernel_rfl) (by kernel_rfl) (fun _ _ _ h => h) (Or.inl ⟨by kernel_rfl, ?_⟩) S4 ?_
        rotate_left 1
        ·
         intro w' hw'; go_simp; first | done | with_reducible rfl
        have b1 := box_mid K4; have f1 := box_midf K4; obtain ⟨m1, m2⟩ := set_mid K4 (Value.slice (some ⟨g4, 0, none⟩) n4 cap4); have hgk := only_grown m2; have hSf := m2.below S4 (by omega); refine wpAnyH_ready (rs := [12]) (by kernel_rfl) (by simp) (AllReadyH.cons rfl (fun K hK => ?_) AllReadyH.nil); go_simp; refine hK.out _ _ hSf (fun _ => ?_); clear hK K b1 f1; refine wpAnyH_done (by kernel_rfl) ?_ _; have HK5 := hidE m1; have HL5 := hidE (R4.kept K4 hgk); have HE5 := hidE (ownE_kept E4 hgk (tag_ne (by decide) E4 K4)); have HM5 := hidE (ownM_kept M4 hgk (tag_ne (by decide) M4 K4)); have HZ5 := hidE ((m2.block _ (by omega)).trans Z4); have HW5 := hidE hSf; clear m1 m2 hgk hSf R4 E4 M4 Z4 K4; go_wp2
        go_roundw
        case rel => exact ⟨j + 1, _, by omega, by go_num, HK5, by rw [HT.out]; exact HL5, HE5, HM5, HZ5, HW5⟩
        case measure => simp [RowKit.intOf]; omega
      exact AllReadyH.nil
     exact AllReadyH.nil
    exact AllReadyH.nil
   ·
    have hke : x.l.take j = x.l := List.take_of_length_le (by omega); rw [hke] at HL; obtain ⟨us4, -, ⟨-, ⟨rfl, e0⟩ | ⟨g4, cap4, -, rfl, -⟩⟩, -⟩ := id HL.out
    ·
     obtain ⟨⟨b0, b1, b2⟩, f0, f1, f2⟩ := box_cell HK.out; have hzr := HZ.out; obtain ⟨r0, r0', r1a, r1b, r2a, r2b⟩ := set3_flat hzr; have s3 := set3_is hzr (.slice pE x.b.length cE) (.slice none 0 0) (.slice pM x.u.length cM); have z0 := cell_of_row _ (w.heap.size + 1) 0 _ _ _ s3.2; have z1 := cell_of_row _ (w.heap.size + 1) 1 _ _ _ s3.2; have z2 := cell_of_row _ (w.heap.size + 1) 2 _ _ _ s3.2; have hgk := only_grown s3.1; have hBf := s3.1.below (FV.out.trans (HW.out.mono FV.out.size)) (by omega); have L5 := HL.out.kept hzr hgk; have E5 := ownE_kept HE.out hgk (tag_ne (by decide) HE.out hzr); have M5 := ownM_kept HM.out hgk (tag_ne (by decide) HM.out hzr); clear hgk; go_wp2
     exact bodyPost_ret (v := .agg #[.slice pE x.b.length cE, .slice none 0 0, .slice pM x.u.length cM]) (by simp [results, Tryz.results55, go_sem, z0, z1, z2]) rfl ⟨_, rfl, ⟨_, _, _, rfl, own_re E5 hl0 HZ0.out, L5.rl hl1 (fun l hl => HLs.out l hl), own_rm M5 hl2 HZ2.out⟩, ⟨_, _, _, rfl, E5.lower (by omega), L5.lower (by omega), M5.lower (by omega)⟩, hBf⟩
    ·
     obtain ⟨⟨b0, b1, b2⟩, f0, f1, f2⟩ := box_cell HK.out; have hzr := HZ.out; obtain ⟨r0, r0', r1a, r1b, r2a, r2b⟩ := set3_flat hzr; have s3 := set3_is hzr (.slice pE x.b.length cE) (.slice (some ⟨g4, 0, none⟩) x.l.length cap4) (.slice pM x.u.length cM); have z0 := cell_of_row _ (w.heap.size + 1) 0 _ _ _ s3.2; have z1 := cell_of_row _ (w.heap.size + 1) 1 _ _ _ s3.2; have z2 := cell_of_row _ (w.heap.size + 1) 2 _ _ _ s3.2; have hgk := only_grown s3.1; have hBf := s3.1.below (FV.out.trans (HW.out.mono FV.out.size)) (by omega); have L5 := HL.out.kept hzr hgk; have E5 := ownE_kept HE.out hgk (tag_ne (by decide) HE.out hzr); have M5 := ownM_kept HM.out hgk (tag_ne (by decide) HM.out hzr); clear hgk; go_wp2
     exact bodyPost_ret (v := .agg #[.slice pE x.b.length cE, .slice (some ⟨g4, 0, none⟩) x.l.length cap4, .slice pM x.u.length cM]) (by simp [results, Tryz.results55, go_sem, z0, z1, z2]) rfl ⟨_, rfl, ⟨_, _, _, rfl, own_re E5 hl0 HZ0.out, L5.rl hl1 (fun l hl => HLs.out l hl), own_rm M5 hl2 HZ2.out⟩, ⟨_, _, _, rfl, E5.lower (by omega), L5.lower (by omega), M5.lower (by omega)⟩, hBf⟩
 have T2 : ∀ (t5 t6 t7 t9 t10 t11 t13 : Value) (pE pM : Option Addr) (cE cM k : Nat) (W : World), Below V.heap.size V W → OwnE W V.heap.size (.slice pE x.b.length cE) x.b → Mk.OwnE W V.heap.size (.slice pM x.u.length cM) x.u → W.heap[k]? = some (.cells #[.slice none 0 0, .slice none 0 0, .slice none 0 0] 33 (0, 0)) → w.heap.size + 1 < k → W.heap[w.heap.size + 1]? = some (.cells #[.slice none 0 0, .slice none 0 0, .slice none 0 0] 33 (0, 0)) → V.heap.size ≤ k →
   K0 { tmps := #[.agg #[.slice a0 x.b.length c0, .slice a1 x.l.length c1, .slice a2 x.u.length c2], .pointer (some ⟨w.heap.size, 0, none⟩), .pointer (some ⟨w.heap.size + 1, 0, none⟩), .pointer (some ⟨k, 0, none⟩), undef, t5, t6, t7, .slice pE x.b.length cE, t9, t10, t11, .slice pM x.u.length cM, t13, undef, undef, undef, undef, undef, undef, undef, undef, undef, undef, undef, undef, undef, undef, undef, undef, undef, undef, undef, undef], defers := [] } (((W.setCell ⟨k, 0, none⟩ (.slice pE x.b.length cE)).setCell ⟨k, 1, none⟩ (.slice none 0 0)).setCell ⟨k, 2, none⟩ (.slice pM x.u.length cM)) := by
  intro t5 t6 t7 t9 t10 t11 t13 pE pM cE cM k W hS hE hM hK hk hZ hVk; have s3 := set3_is hK (.slice pE x.b.length cE) (.slice none 0 0) (.slice pM x.u.length cM); have hgk := only_grown s3.1; exact T _ _ _ _ _ _ _ pE pM cE cM _ _ (s3.1.below hS hVk) (ownE_kept hE hgk (tag_ne (by decide) hE hK)) (ownM_kept hM hgk (tag_ne (by decide) hM hK)) s3.2 hk (by rw [s3.1.block _ (by omega)]; exact hZ)
 clear T; clear hK0; refine wp_region_held_drew (S := fun W' => Below V.heap.size V W') (by kernel_rfl) (hB2.trans (((Below.refl W1.heap.size W1).drew).mono (by omega))) (fun hS0 => ?_); refine wpAnyH_take (i := 1) (v := ?_) rfl (by kernel_rfl) (by kernel_rfl) (by kernel_rfl) (fun _ _ _ h => h) (Or.inl ⟨by kernel_rfl, ?_⟩) hS0 ?_
 rotate_left 1
 ·
  intro w' hw'; obtain ⟨q0, q1, q2, -, -, -⟩ := FC.out w' hw'; go_simp; first | done | with_reducible rfl
 refine wpAnyH_take (i := 2) (v := ?_) rfl (by kernel_rfl) (by kernel_rfl) (by kernel_rfl) (fun _ _ _ h => h) (Or.inl ⟨by kernel_rfl, ?_⟩) hS0 ?_
 rotate_left 1
 ·
  intro w' hw'; obtain ⟨q0, q1, q2, -, -, -⟩ := FC.out w' hw'; go_simp; first | done | with_reducible rfl
 refine wpAnyH_take (i := 5) (v := ?_) rfl (by kernel_rfl) (by kernel_rfl) (by kernel_rfl) (fun _ _ _ h => h) (Or.inl ⟨by kernel_rfl, ?_⟩) hS0 ?_
 rotate_left 1
 ·
  intro w' hw'; obtain ⟨q0, q1, q2, -, -, -⟩ := FC.out w' hw'; go_simp; first | done | with_reducible rfl
 refine wpAnyH_take (i := 6) (v := ?_) rfl (by kernel_rfl) (by kernel_rfl) (by kernel_rfl) (fun _ _ _ h => h) (Or.inl ⟨by kernel_rfl, ?_⟩) hS0 ?_
 rotate_left 1
 ·
  intro w' hw'; obtain ⟨q0, q1, q2, -, -, -⟩ := FC.out w' hw'; go_simp; first | done | with_reducible rfl
 have hd : Below W1.heap.size W1 W1.drew := (Below.refl _ W1).drew; have hZd : W1.drew.heap[w.heap.size + 1]? = some (.cells #[.slice none 0 0, .slice none 0 0, .slice none 0 0] 33 (0, 0)) := blk_below hZ hd; have hs2 : V.heap.size + 1 ≤ W1.drew.heap.size := by have := hd.size; omega
 obtain ⟨X0, hX0⟩ : ∃ X0, W1.drew = X0 := ⟨_, rfl⟩
 rw [hX0] at hS0 hZd hs2 ⊢; clear hX0 hd; have S0 := hS0; have Z0 := hZd; have L0 := hs2; clear hZd hs2; refine wpAnyH_ready (rs := [0, 4, 9]) (by kernel_rfl) (by simp) ?_; refine AllReadyH.cons rfl (fun K hK => ?_) ?_
 ·
  skip
  go_simp; obtain ⟨X1, hY, hb, L1, S1⟩ := alA (.cells #[] 43) L0 S0; have Z1 := blk_below Z0 hb; have E1 : OwnE X1 V.heap.size (.slice (some ⟨X0.heap.size, 0, none⟩) 0 0) [] := by rw [← hY]; exact OwnE.made X0 (by omega)
  rw [hY]; refine hK.out _ _ S1 (fun _ => ?_); clear hK K hY hb; refine wpAnyH_ready (rs := [3, 4, 9]) (by kernel_rfl) (by simp) ?_; refine AllReadyH.cons rfl (fun K hK => ?_) ?_
  ·
   skip
   refine stepE_app (by rfl) _ _ (by rfl) V.heap.size _ [] (by rfl) E1 a0 c0 g0 o0 x.b x.b.length rfl (by rfl) ha0 (FE.out _ S1) (by simp; omega) (by omega) ?_; intro u X2 hown hgrow; have E2 : OwnE X2 V.heap.size u x.b := hown; clear hown; obtain ⟨L2, S2⟩ := grA L1 S1 hgrow E1; have Z2 := blk_keep Z1 hgrow (tag_ne (by decide) E1 Z1); obtain ⟨pE, _, cE, rfl, -⟩ := id E2.ents; refine hK.out _ _ S2 (fun _ => ?_); clear hK K hgrow; refine wpAnyH_ready (rs := [4, 9]) (by kernel_rfl) (by simp) ?_; refine AllReadyH.cons rfl (fun K hK => ?_) ?_
   ·
    skip
    go_simp; obtain ⟨X3, hY, hb, L3, S3⟩ := alA (.cells #[] 99) L2 S2; have Z3 := blk_below Z2 hb; have E3 := E2.below hb; have M3 : Mk.OwnE X3 V.heap.size (.slice (some ⟨X2.heap.size, 0, none⟩) 0 0) [] := by rw [← hY]; exact Mk.OwnE.made X2 (by omega)
    rw [hY]; refine hK.out _ _ S3 (fun _ => ?_); clear hK K hY hb; refine wpAnyH_ready (rs := [7, 9]) (by kernel_rfl) (by simp) ?_; refine AllReadyH.cons rfl (fun K hK => ?_) ?_
    ·
     skip
     refine stepM_app (by rfl) _ _ (by rfl) V.heap.size _ [] (by rfl) M3 a2 c2 g2 o2 x.u x.u.length rfl (by rfl) ha2 (FU.out _ S3) (by simp; omega) (by omega) ?_; intro u X4 hown hgrow; have M4 : Mk.OwnE X4 V.heap.size u x.u := hown; clear hown; obtain ⟨L4, S4⟩ := grA L3 S3 hgrow M3; have Z4 := blk_keep Z3 hgrow (tag_ne (by decide) M3 Z3); have E4 := ownE_kept E3 hgrow (rows_ne (by decide) M3 E3); obtain ⟨pM, _, cM, rfl, -⟩ := id M4.ents; refine hK.out _ _ S4 (fun _ => ?_); clear hK K hgrow; refine wpAnyH_take (i := 8) (v := ?_) rfl (by kernel_rfl) (by kernel_rfl) (by kernel_rfl) (fun _ _ _ h => h) (Or.inl ⟨by kernel_rfl, ?_⟩) S4 ?_
     rotate_left 1
     ·
      intro w' hw'; go_simp; first | done | with_reducible rfl
     refine wpAnyH_ready (rs := [9]) (by kernel_rfl) (by simp) (AllReadyH.cons rfl (fun K hK => ?_) AllReadyH.nil); go_simp; obtain ⟨X5, hY, hb, L5, S5⟩ := alA (.cells #[.slice none 0 0, .slice none 0 0, .slice none 0 0] 33) L4 S4; have Z5 := blk_below Z4 hb; have E5 := E4.below hb; have M5 := M4.below hb; have K5 : X5.heap[X4.heap.size]? = some (.cells #[.slice none 0 0, .slice none 0 0, .slice none 0 0] 33 (0, 0)) := by rw [← hY]; exact heap_alloc_new X4 _
     have hk : w.heap.size + 1 < X4.heap.size := by omega
     rw [hY]; refine hK.out _ _ S5 (fun _ => ?_); clear hK K hY hb; obtain ⟨r0, r0', r1a, r1b, r2a, r2b⟩ := set3_flat K5; have hSf := (set3_is K5 (.slice pE x.b.length cE) (.slice none 0 0) (.slice pM x.u.length cM)).1.below S5 (by omega); refine wpAnyH_ready (rs := [10]) (by kernel_rfl) (by simp) (AllReadyH.cons rfl (fun K hK => ?_) AllReadyH.nil); go_simp; refine hK.out _ _ hSf (fun _ => ?_); clear hK K r0 r0' r1a r1b r2a r2b; refine wpAnyH_done (by kernel_rfl) ?_ _; exact T2 _ _ _ _ _ _ _ pE pM cE cM _ _ S5 E5 M5 K5 hk Z5 (by omega)
    refine AllReadyH.cons rfl (fun K hK => ?_) ?_
    ·
     skip
     go_simp; obtain ⟨X4, hY, hb, L4, S4⟩ := alA (.cells #[.slice none 0 0, .slice none 0 0, .slice none 0 0] 33) L3 S3; have Z4 := blk_below Z3 hb; have E4 := E3.below hb; have M4 := M3.below hb; have K4 : X4.heap[X3.heap.size]? = some (.cells #[.slice none 0 0, .slice none 0 0, .slice none 0 0] 33 (0, 0)) := by rw [← hY]; exact heap_alloc_new X3 _
     have hk : w.heap.size + 1 < X3.heap.size := by omega
     rw [hY]; refine hK.out _ _ S4 (fun _ => ?_); clear hK K hY hb; refine wpAnyH_ready (rs := [7]) (by kernel_rfl) (by simp) (AllReadyH.cons rfl (fun K hK => ?_) AllReadyH.nil); refine stepM_app (by rfl) _ _ (by rfl) V.heap.size _ [] (by rfl) M4 a2 c2 g2 o2 x.u x.u.length rfl (by rfl) ha2 (FU.out _ S4) (by simp; omega) (by omega) ?_; intro u X5 hown hgrow; have M5 : Mk.OwnE X5 V.heap.size u x.u := hown; clear hown; obtain ⟨L5, S5⟩ := grA L4 S4 hgrow M4; have Z5 := blk_keep Z4 hgrow (tag_ne (by decide) M4 Z4); have E5 := ownE_kept E4 hgrow (rows_ne (by decide) M4 E4); have K5 := blk_keep K4 hgrow (tag_ne (by decide) M4 K4); obtain ⟨pM, _, cM, rfl, -⟩ := id M5.ents; refine hK.out _ _ S5 (fun _ => ?_); clear hK K hgrow; refine wpAnyH_take (i := 8) (v := ?_) rfl (by kernel_rfl) (by kernel_rfl) (by kernel_rfl) (fun _ _ _ h => h) (Or.inl ⟨by kernel_rfl, ?_⟩) S5 ?_
     rotate_left 1
     ·
      intro w' hw'; go_simp; first | done | with_reducible rfl
     obtain ⟨r0, r0', r1a, r1b, r2a, r2b⟩ := set3_flat K5; have hSf := (set3_is K5 (.slice pE x.b.length cE) (.slice none 0 0) (.slice pM x.u.length cM)).1.below S5 (by omega); refine wpAnyH_ready (rs := [10]) (by kernel_rfl) (by simp) (AllReadyH.cons rfl (fun K hK => ?_) AllReadyH.nil); go_simp; refine hK.out _ _ hSf (fun _ => ?_); clear hK K r0 r0' r1a r1b r2a r2b; refine wpAnyH_done (by kernel_rfl) ?_ _; exact T2 _ _ _ _ _ _ _ pE pM cE cM _ _ S5 E5 M5 K5 hk Z5 (by omega)
    exact AllReadyH.nil
   refine AllReadyH.cons rfl (fun K hK => ?_) ?_
   ·
    skip
    go_simp; obtain ⟨X3, hY, hb, L3, S3⟩ := alA (.cells #[.slice none 0 0, .slice none 0 0, .slice none 0 0] 33) L2 S2; have Z3 := blk_below Z2 hb; have E3 := E2.below hb; have K3 : X3.heap[X2.heap.size]? = some (.cells #[.slice none 0 0, .slice none 0 0, .slice none 0 0] 33 (0, 0)) := by rw [← hY]; exact heap_alloc_new X2 _
    have hk : w.heap.size + 1 < X2.heap.size := by omega
    rw [hY]; refine hK.out _ _ S3 (fun _ => ?_); clear hK K hY hb; refine wpAnyH_ready (rs := [4]) (by kernel_rfl) (by simp) (AllReadyH.cons rfl (fun K hK => ?_) AllReadyH.nil); go_simp; obtain ⟨X4, hY, hb, L4, S4⟩ := alA (.cells #[] 99) L3 S3; have Z4 := blk_below Z3 hb; have E4 := E3.below hb; have K4 := blk_below K3 hb; have M4 : Mk.OwnE X4 V.heap.size (.slice (some ⟨X3.heap.size, 0, none⟩) 0 0) [] := by rw [← hY]; exact Mk.OwnE.made X3 (by omega)
    rw [hY]; refine hK.out _ _ S4 (fun _ => ?_); clear hK K hY hb; refine wpAnyH_ready (rs := [7]) (by kernel_rfl) (by simp) (AllReadyH.cons rfl (fun K hK => ?_) AllReadyH.nil); refine stepM_app (by rfl) _ _ (by rfl) V.heap.size _ [] (by rfl) M4 a2 c2 g2 o2 x.u x.u.length rfl (by rfl) ha2 (FU.out _ S4) (by simp; omega) (by omega) ?_; intro u X5 hown hgrow; have M5 : Mk.OwnE X5 V.heap.size u x.u := hown; clear hown; obtain ⟨L5, S5⟩ := grA L4 S4 hgrow M4; have Z5 := blk_keep Z4 hgrow (tag_ne (by decide) M4 Z4); have E5 := ownE_kept E4 hgrow (rows_ne (by decide) M4 E4); have K5 := blk_keep K4 hgrow (tag_ne (by decide) M4 K4); obtain ⟨pM, _, cM, rfl, -⟩ := id M5.ents; refine hK.out _ _ S5 (fun _ => ?_); clear hK K hgrow; refine wpAnyH_take (i := 8) (v := ?_) rfl (by kernel_rfl) (by kernel_rfl) (by kernel_rfl) (fun _ _ _ h => h) (Or.inl ⟨by kernel_rfl, ?_⟩) S5 ?_
    rotate_left 1
    ·
     intro w' hw'; go_simp; first | done | with_reducible rfl
    obtain ⟨r0, r0', r1a, r1b, r2a, r2b⟩ := set3_flat K5; have hSf := (set3_is K5 (.slice pE x.b.length cE) (.slice none 0 0) (.slice pM x.u.length cM)).1.below S5 (by omega); refine wpAnyH_ready (rs := [10]) (by kernel_rfl) (by simp) (AllReadyH.cons rfl (fun K hK => ?_) AllReadyH.nil); go_simp; refine hK.out _ _ hSf (fun _ => ?_); clear hK K r0 r0' r1a r1b r2a r2b; refine wpAnyH_done (by kernel_rfl) ?_ _; exact T2 _ _ _ _ _ _ _ pE pM cE cM _ _ S5 E5 M5 K5 hk Z5 (by omega)
   exact AllReadyH.nil
  refine AllReadyH.cons rfl (fun K hK => ?_) ?_
  ·
   skip
   go_simp; obtain ⟨X2, hY, hb, L2, S2⟩ := alA (.cells #[] 99) L1 S1; have Z2 := blk_below Z1 hb; have E2 := E1.below hb; have M2 : Mk.OwnE X2 V.heap.size (.slice (some ⟨X1.heap.size, 0, none⟩) 0 0) [] := by rw [← hY]; exact Mk.OwnE.made X1 (by omega)
   rw [hY]; refine hK.out _ _ S2 (fun _ => ?_); clear hK K hY hb; refine wpAnyH_ready (rs := [3, 9]) (by kernel_rfl) (by simp) ?_; refine AllReadyH.cons rfl (fun K hK => ?_) ?_
   ·
    skip
    refine stepE_app (by rfl) _ _ (by rfl) V.heap.size _ [] (by rfl) E2 a0 c0 g0 o0 x.b x.b.length rfl (by rfl) ha0 (FE.out _ S2) (by simp; omega) (by omega) ?_; intro u X3 hown hgrow; have E3 : OwnE X3 V.heap.size u x.b := hown; clear hown; obtain ⟨L3, S3⟩ := grA L2 S2 hgrow E2; have Z3 := blk_keep Z2 hgrow (tag_ne (by decide) E2 Z2); have M3 := ownM_kept M2 hgrow (rows_ne (by decide) E2 M2); obtain ⟨pE, _, cE, rfl, -⟩ := id E3.ents; refine hK.out _ _ S3 (fun _ => ?_); clear hK K hgrow; refine wpAnyH_ready (rs := [7, 9]) (by kernel_rfl) (by simp) ?_; refine AllReadyH.cons rfl (fun K hK => ?_) ?_
    ·
     skip
     refine stepM_app (by rfl) _ _ (by rfl) V.heap.size _ [] (by rfl) M3 a2 c2 g2 o2 x.u x.u.length rfl (by rfl) ha2 (FU.out _ S3) (by simp; omega) (by omega) ?_; intro u X4 hown hgrow; have M4 : Mk.OwnE X4 V.heap.size u x.u := hown; clear hown; obtain ⟨L4, S4⟩ := grA L3 S3 hgrow M3; have Z4 := blk_keep Z3 hgrow (tag_ne (by decide) M3 Z3); have E4 := ownE_kept E3 hgrow (rows_ne (by decide) M3 E3); obtain ⟨pM, _, cM, rfl, -⟩ := id M4.ents; refine hK.out _ _ S4 (fun _ => ?_); clear hK K hgrow; refine wpAnyH_take (i := 8) (v := ?_) rfl (by kernel_rfl) (by kernel_rfl) (by kernel_rfl) (fun _ _ _ h => h) (Or.inl ⟨by kernel_rfl, ?_⟩) S4 ?_
     rotate_left 1
     ·
      intro w' hw'; go_simp; first | done | with_reducible rfl
     refine wpAnyH_ready (rs := [9]) (by kernel_rfl) (by simp) (AllReadyH.cons rfl (fun K hK => ?_) AllReadyH.nil); go_simp; obtain ⟨X5, hY, hb, L5, S5⟩ := alA (.cells #[.slice none 0 0, .slice none 0 0, .slice none 0 0] 33) L4 S4; have Z5 := blk_below Z4 hb; have E5 := E4.below hb; have M5 := M4.below hb; have K5 : X5.heap[X4.heap.size]? = some (.cells #[.slice none 0 0, .slice none 0 0, .slice none 0 0] 33 (0, 0)) := by rw [← hY]; exact heap_alloc_new X4 _
     have hk : w.heap.size + 1 < X4.heap.size := by omega
     rw [hY]; refine hK.out _ _ S5 (fun _ => ?_); clear hK K hY hb; obtain ⟨r0, r0', r1a, r1b, r2a, r2b⟩ := set3_flat K5; have hSf := (set3_is K5 (.slice pE x.b.length cE) (.slice none 0 0) (.slice pM x.u.length cM)).1.below S5 (by omega); refine wpAnyH_ready (rs := [10]) (by kernel_rfl) (by simp) (AllReadyH.cons rfl (fun K hK => ?_) AllReadyH.nil); go_simp; refine hK.out _ _ hSf (fun _ => ?_); clear hK K r0 r0' r1a r1b r2a r2b; refine wpAnyH_done (by kernel_rfl) ?_ _; exact T2 _ _ _ _ _ _ _ pE pM cE cM _ _ S5 E5 M5 K5 hk Z5 (by omega)
    refine AllReadyH.cons rfl (fun K hK => ?_) ?_
    ·
     skip
     go_simp; obtain ⟨X4, hY, hb, L4, S4⟩ := alA (.cells #[.slice none 0 0, .slice none 0 0, .slice none 0 0] 33) L3 S3; have Z4 := blk_below Z3 hb; have E4 := E3.below hb; have M4 := M3.below hb; have K4 : X4.heap[X3.heap.size]? = some (.cells #[.slice none 0 0, .slice none 0 0, .slice none 0 0] 33 (0, 0)) := by rw [← hY]; exact heap_alloc_new X3 _
     have hk : w.heap.size + 1 < X3.heap.size := by omega
     rw [hY]; refine hK.out _ _ S4 (fun _ => ?_); clear hK K hY hb; refine wpAnyH_ready (rs := [7]) (by kernel_rfl) (by simp) (AllReadyH.cons rfl (fun K hK => ?_) AllReadyH.nil); refine stepM_app (by rfl) _ _ (by rfl) V.heap.size _ [] (by rfl) M4 a2 c2 g2 o2 x.u x.u.length rfl (by rfl) ha2 (FU.out _ S4) (by simp; omega) (by omega) ?_; intro u X5 hown hgrow; have M5 : Mk.OwnE X5 V.heap.size u x.u := hown; clear hown; obtain ⟨L5, S5⟩ := grA L4 S4 hgrow M4; have Z5 := blk_keep Z4 hgrow (tag_ne (by decide) M4 Z4); have E5 := ownE_kept E4 hgrow (rows_ne (by decide) M4 E4); have K5 := blk_keep K4 hgrow (tag_ne (by decide) M4 K4); obtain ⟨pM, _, cM, rfl, -⟩ := id M5.ents; refine hK.out _ _ S5 (fun _ => ?_); clear hK K hgrow; refine wpAnyH_take (i := 8) (v := ?_) rfl (by kernel_rfl) (by kernel_rfl) (by kernel_rfl) (fun _ _ _ h => h) (Or.inl ⟨by kernel_rfl, ?_⟩) S5 ?_
     rotate_left 1
     ·
      intro w' hw'; go_simp; first | done | with_reducible rfl
     obtain ⟨r0, r0', r1a, r1b, r2a, r2b⟩ := set3_flat K5; have hSf := (set3_is K5 (.slice pE x.b.length cE) (.slice none 0 0) (.slice pM x.u.length cM)).1.below S5 (by omega); refine wpAnyH_ready (rs := [10]) (by kernel_rfl) (by simp) (AllReadyH.cons rfl (fun K hK => ?_) AllReadyH.nil); go_simp; refine hK.out _ _ hSf (fun _ => ?_); clear hK K r0 r0' r1a r1b r2a r2b; refine wpAnyH_done (by kernel_rfl) ?_ _; exact T2 _ _ _ _ _ _ _ pE pM cE cM _ _ S5 E5 M5 K5 hk Z5 (by omega)
    exact AllReadyH.nil
   refine AllReadyH.cons rfl (fun K hK => ?_) ?_
   ·
    skip
    go_simp; obtain ⟨X3, hY, hb, L3, S3⟩ := alA (.cells #[.slice none 0 0, .slice none 0 0, .slice none 0 0] 33) L2 S2; have Z3 := blk_below Z2 hb; have E3 := E2.below hb; have M3 := M2.below hb; have K3 : X3.heap[X2.heap.size]? = some (.cells #[.slice none 0 0, .slice none 0 0, .slice none 0 0] 33 (0, 0)) := by rw [← hY]; exact heap_alloc_new X2 _
    have hk : w.heap.size + 1 < X2.heap.size := by omega
    rw [hY]; refine hK.out _ _ S3 (fun _ => ?_); clear hK K hY hb; refine wpAnyH_ready (rs := [3]) (by kernel_rfl) (by simp) (AllReadyH.cons rfl (fun K hK => ?_) AllReadyH.nil); refine stepE_app (by rfl) _ _ (by rfl) V.heap.size _ [] (by rfl) E3 a0 c0 g0 o0 x.b x.b.length rfl (by rfl) ha0 (FE.out _ S3) (by simp; omega) (by omega) ?_; intro u X4 hown hgrow; have E4 : OwnE X4 V.heap.size u x.b := hown; clear hown; obtain ⟨L4, S4⟩ := grA L3 S3 hgrow E3; have Z4 := blk_keep Z3 hgrow (tag_ne (by decide) E3 Z3); have M4 := ownM_kept M3 hgrow (rows_ne (by decide) E3 M3); have K4 := blk_keep K3 hgrow (tag_ne (by decide) E3 K3); obtain ⟨pE, _, cE, rfl, -⟩ := id E4.ents; refine hK.out _ _ S4 (fun _ => ?_); clear hK K hgrow; refine wpAnyH_ready (rs := [7]) (by kernel_rfl) (by simp) (AllReadyH.cons rfl (fun K hK => ?_) AllReadyH.nil); refine stepM_app (by rfl) _ _ (by rfl) V.heap.size _ [] (by rfl) M4 a2 c2 g2 o2 x.u x.u.length rfl (by rfl) ha2 (FU.out _ S4) (by simp; omega) (by omega) ?_; intro u X5 hown hgrow; have M5 : Mk.OwnE X5 V.heap.size u x.u := hown; clear hown; obtain ⟨L5, S5⟩ := grA L4 S4 hgrow M4; have Z5 := blk_keep Z4 hgrow (tag_ne (by decide) M4 Z4); have E5 := ownE_kept E4 hgrow (rows_ne (by decide) M4 E4); have K5 := blk_keep K4 hgrow (tag_ne (by decide) M4 K4); obtain ⟨pM, _, cM, rfl, -⟩ := id M5.ents; refine hK.out _ _ S5 (fun _ => ?_); clear hK K hgrow; refine wpAnyH_take (i := 8) (v := ?_) rfl (by kernel_rfl) (by kernel_rfl) (by kernel_rfl) (fun _ _ _ h => h) (Or.inl ⟨by kernel_rfl, ?_⟩) S5 ?_
    rotate_left 1
    ·
     intro w' hw'; go_simp; first | done | with_reducible rfl
    obtain ⟨r0, r0', r1a, r1b, r2a, r2b⟩ := set3_flat K5; have hSf := (set3_is K5 (.slice pE x.b.length cE) (.slice none 0 0) (.slice pM x.u.length cM)).1.below S5 (by omega); refine wpAnyH_ready (rs := [10]) (by kernel_rfl) (by simp) (AllReadyH.cons rfl (fun K hK => ?_) AllReadyH.nil); go_simp; refine hK.out _ _ hSf (fun _ => ?_); clear hK K r0 r0' r1a r1b r2a r2b; refine wpAnyH_done (by kernel_rfl) ?_ _; exact T2 _ _ _ _ _ _ _ pE pM cE cM _ _ S5 E5 M5 K5 hk Z5 (by omega)
   exact AllReadyH.nil
  refine AllReadyH.cons rfl (fun K hK => ?_) ?_
  ·
   skip
   go_simp; obtain ⟨X2, hY, hb, L2, S2⟩ := alA (.cells #[.slice none 0 0, .slice none 0 0, .slice none 0 0] 33) L1 S1; have Z2 := blk_below Z1 hb; have E2 := E1.below hb; have K2 : X2.heap[X1.heap.size]? = some (.cells #[.slice none 0 0, .slice none 0 0, .slice none 0 0] 33 (0, 0)) := by rw [← hY]; exact heap_alloc_new X1 _
   have hk : w.heap.size + 1 < X1.heap.size := by omega
   rw [hY]; refine hK.out _ _ S2 (fun _ => ?_); clear hK K hY hb; refine wpAnyH_ready (rs := [3, 4]) (by kernel_rfl) (by simp) ?_; refine AllReadyH.cons rfl (fun K hK => ?_) ?_
   ·
    skip
    refine stepE_app (by rfl) _ _ (by rfl) V.heap.size _ [] (by rfl) E2 a0 c0 g0 o0 x.b x.b.length rfl (by rfl) ha0 (FE.out _ S2) (by simp; omega) (by omega) ?_; intro u X3 hown hgrow; have E3 : OwnE X3 V.heap.size u x.b := hown; clear hown; obtain ⟨L3, S3⟩ := grA L2 S2 hgrow E2; have Z3 := blk_keep Z2 hgrow (tag_ne (by decide) E2 Z2); have K3 := blk_keep K2 hgrow (tag_ne (by decide) E2 K2); obtain ⟨pE, _, cE, rfl, -⟩ := id E3.ents; refine hK.out _ _ S3 (fun _ => ?_); clear hK K hgrow; refine wpAnyH_ready (rs := [4]) (by kernel_rfl) (by simp) (AllReadyH.cons rfl (fun K hK => ?_) AllReadyH.nil); go_simp; obtain ⟨X4, hY, hb, L4, S4⟩ := alA (.cells #[] 99) L3 S3; have Z4 := blk_below Z3 hb; have E4 := E3.below hb; have K4 := blk_below K3 hb; have M4 : Mk.OwnE X4 V.heap.size (.slice (some ⟨X3.heap.size, 0, none⟩) 0 0) [] := by rw [← hY]; exact Mk.OwnE.made X3 (by omega)
    rw [hY]; refine hK.out _ _ S4 (fun _ => ?_); clear hK K hY hb; refine wpAnyH_ready (rs := [7]) (by kernel_rfl) (by simp) (AllReadyH.cons rfl (fun K hK => ?_) AllReadyH.nil); refine stepM_app (by rfl) _ _ (by rfl) V.heap.size _ [] (by rfl) M4 a2 c2 g2 o2 x.u x.u.length rfl (by rfl) ha2 (FU.out _ S4) (by simp; omega) (by omega) ?_; intro u X5 hown hgrow; have M5 : Mk.OwnE X5 V.heap.size u x.u := hown; clear hown; obtain ⟨L5, S5⟩ := grA L4 S4 hgrow M4; have Z5 := blk_keep Z4 hgrow (tag_ne (by decide) M4 Z4); have E5 := ownE_kept E4 hgrow (rows_ne (by decide) M4 E4); have K5 := blk_keep K4 hgrow (tag_ne (by decide) M4 K4); obtain ⟨pM, _, cM, rfl, -⟩ := id M5.ents; refine hK.out _ _ S5 (fun _ => ?_); clear hK K hgrow; refine wpAnyH_take (i := 8) (v := ?_) rfl (by kernel_rfl) (by kernel_rfl) (by kernel_rfl) (fun _ _ _ h => h) (Or.inl ⟨by kernel_rfl, ?_⟩) S5 ?_
    rotate_left 1
    ·
     intro w' hw'; go_simp; first | done | with_reducible rfl
    obtain ⟨r0, r0', r1a, r1b, r2a, r2b⟩ := set3_flat K5; have hSf := (set3_is K5 (.slice pE x.b.length cE) (.slice none 0 0) (.slice pM x.u.length cM)).1.below S5 (by omega); refine wpAnyH_ready (rs := [10]) (by kernel_rfl) (by simp) (AllReadyH.cons rfl (fun K hK => ?_) AllReadyH.nil); go_simp; refine hK.out _ _ hSf (fun _ => ?_); clear hK K r0 r0' r1a r1b r2a r2b; refine wpAnyH_done (by kernel_rfl) ?_ _; exact T2 _ _ _ _ _ _ _ pE pM cE cM _ _ S5 E5 M5 K5 hk Z5 (by omega)
   refine AllReadyH.cons rfl (fun K hK => ?_) ?_
   ·
    skip
    go_simp; obtain ⟨X3, hY, hb, L3, S3⟩ := alA (.cells #[] 99) L2 S2; have Z3 := blk_below Z2 hb; have E3 := E2.below hb; have K3 := blk_below K2 hb; have M3 : Mk.OwnE X3 V.heap.size (.slice (some ⟨X2.heap.size, 0, none⟩) 0 0) [] := by rw [← hY]; exact Mk.OwnE.made X2 (by omega)
    rw [hY]; refine hK.out _ _ S3 (fun _ => ?_); clear hK K hY hb; refine wpAnyH_ready (rs := [3]) (by kernel_rfl) (by simp) (AllReadyH.cons rfl (fun K hK => ?_) AllReadyH.nil); refine stepE_app (by rfl) _ _ (by rfl) V.heap.size _ [] (by rfl) E3 a0 c0 g0 o0 x.b x.b.length rfl (by rfl) ha0 (FE.out _ S3) (by simp; omega) (by omega) ?_; intro u X4 hown hgrow; have E4 : OwnE X4 V.heap.size u x.b := hown; clear hown; obtain ⟨L4, S4⟩ := grA L3 S3 hgrow E3; have Z4 := blk_keep Z3 hgrow (tag_ne (by decide) E3 Z3); have M4 := ownM_kept M3 hgrow (rows_ne (by decide) E3 M3); have K4 := blk_keep K3 hgrow (tag_ne (by decide) E3 K3); obtain ⟨pE, _, cE, rfl, -⟩ := id E4.ents; refine hK.out _ _ S4 (fun _ => ?_); clear hK K hgrow; refine wpAnyH_ready (rs := [7]) (by kernel_rfl) (by simp) (AllReadyH.cons rfl (fun K hK => ?_) AllReadyH.nil); refine stepM_app (by rfl) _ _ (by rfl) V.heap.size _ [] (by rfl) M4 a2 c2 g2 o2 x.u x.u.length rfl (by rfl) ha2 (FU.out _ S4) (by simp; omega) (by omega) ?_; intro u X5 hown hgrow; have M5 : Mk.OwnE X5 V.heap.size u x.u := hown; clear hown; obtain ⟨L5, S5⟩ := grA L4 S4 hgrow M4; have Z5 := blk_keep Z4 hgrow (tag_ne (by decide) M4 Z4); have E5 := ownE_kept E4 hgrow (rows_ne (by decide) M4 E4); have K5 := blk_keep K4 hgrow (tag_ne (by decide) M4 K4); obtain ⟨pM, _, cM, rfl, -⟩ := id M5.ents; refine hK.out _ _ S5 (fun _ => ?_); clear hK K hgrow; refine wpAnyH_take (i := 8) (v := ?_) rfl (by kernel_rfl) (by kernel_rfl) (by kernel_rfl) (fun _ _ _ h => h) (Or.inl ⟨by kernel_rfl, ?_⟩) S5 ?_
    rotate_left 1
    ·
     intro w' hw'; go_simp; first | done | with_reducible rfl
    obtain ⟨r0, r0', r1a, r1b, r2a, r2b⟩ := set3_flat K5; have hSf := (set3_is K5 (.slice pE x.b.length cE) (.slice none 0 0) (.slice pM x.u.length cM)).1.below S5 (by omega); refine wpAnyH_ready (rs := [10]) (by kernel_rfl) (by simp) (AllReadyH.cons rfl (fun K hK => ?_) AllReadyH.nil); go_simp; refine hK.out _ _ hSf (fun _ => ?_); clear hK K r0 r0' r1a r1b r2a r2b; refine wpAnyH_done (by kernel_rfl) ?_ _; exact T2 _ _ _ _ _ _ _ pE pM cE cM _ _ S5 E5 M5 K5 hk Z5 (by omega)
   exact AllReadyH.nil
  exact AllReadyH.nil
 refine AllReadyH.cons rfl (fun K hK => ?_) ?_
 ·
  skip
  go_simp; obtain ⟨X1, hY, hb, L1, S1⟩ := alA (.cells #[] 99) L0 S0; have Z1 := blk_below Z0 hb; have M1 : Mk.OwnE X1 V.heap.size (.slice (some ⟨X0.heap.size, 0, none⟩) 0 0) [] := by rw [← hY]; exact Mk.OwnE.made X0 (by omega)
  rw [hY]; refine hK.out _ _ S1 (fun _ => ?_); clear hK K hY hb; refine wpAnyH_ready (rs := [0, 9]) (by kernel_rfl) (by simp) ?_; refine AllReadyH.cons rfl (fun K hK => ?_) ?_
  ·
   skip
   go_simp; obtain ⟨X2, hY, hb, L2, S2⟩ := alA (.cells #[] 43) L1 S1; have Z2 := blk_below Z1 hb; have M2 := M1.below hb; have E2 : OwnE X2 V.heap.size (.slice (some ⟨X1.heap.size, 0, none⟩) 0 0) [] := by rw [← hY]; exact OwnE.made X1 (by omega)
   rw [hY]; refine hK.out _ _ S2 (fun _ => ?_); clear hK K hY hb; refine wpAnyH_ready (rs := [3, 9]) (by kernel_rfl) (by simp) ?_; refine AllReadyH.cons rfl (fun K hK => ?_) ?_
   ·
    skip
    refine stepE_app (by rfl) _ _ (by rfl) V.heap.size _ [] (by rfl) E2 a0 c0 g0 o0 x.b x.b.length rfl (by rfl) ha0 (FE.out _ S2) (by simp; omega) (by omega) ?_; intro u X3 hown hgrow; have E3 : OwnE X3 V.heap.size u x.b := hown; clear hown; obtain ⟨L3, S3⟩ := grA L2 S2 hgrow E2; have Z3 := blk_keep Z2 hgrow (tag_ne (by decide) E2 Z2); have M3 := ownM_kept M2 hgrow (rows_ne (by decide) E2 M2); obtain ⟨pE, _, cE, rfl, -⟩ := id E3.ents; refine hK.out _ _ S3 (fun _ => ?_); clear hK K hgrow; refine wpAnyH_ready (rs := [7, 9]) (by kernel_rfl) (by simp) ?_; refine AllReadyH.cons rfl (fun K hK => ?_) ?_
    ·
     skip
     refine stepM_app (by rfl) _ _ (by rfl) V.heap.size _ [] (by rfl) M3 a2 c2 g2 o2 x.u x.u.length rfl (by rfl) ha2 (FU.out _ S3) (by simp; omega) (by omega) ?_; intro u X4 hown hgrow; have M4 : Mk.OwnE X4 V.heap.size u x.u := hown; clear hown; obtain ⟨L4, S4⟩ := grA L3 S3 hgrow M3; have Z4 := blk_keep Z3 hgrow (tag_ne (by decide) M3 Z3); have E4 := ownE_kept E3 hgrow (rows_ne (by decide) M3 E3); obtain ⟨pM, _, cM, rfl, -⟩ := id M4.ents; refine hK.out _ _ S4 (fun _ => ?_); clear hK K hgrow; refine wpAnyH_take (i := 8) (v := ?_) rfl (by kernel_rfl) (by kernel_rfl) (by kernel_rfl) (fun _ _ _ h => h) (Or.inl ⟨by kernel_rfl, ?_⟩) S4 ?_
     rotate_left 1
     ·
      intro w' hw'; go_simp; first | done | with_reducible rfl
     refine wpAnyH_ready (rs := [9]) (by kernel_rfl) (by simp) (AllReadyH.cons rfl (fun K hK => ?_) AllReadyH.nil); go_simp; obtain ⟨X5, hY, hb, L5, S5⟩ := alA (.cells #[.slice none 0 0, .slice none 0 0, .slice none 0 0] 33) L4 S4; have Z5 := blk_below Z4 hb; have E5 := E4.below hb; have M5 := M4.below hb; have K5 : X5.heap[X4.heap.size]? = some (.cells #[.slice none 0 0, .slice none 0 0, .slice none 0 0] 33 (0, 0)) := by rw [← hY]; exact heap_alloc_new X4 _
     have hk : w.heap.size + 1 < X4.heap.size := by omega
     rw [hY]; refine hK.out _ _ S5 (fun _ => ?_); clear hK K hY hb; obtain ⟨r0, r0', r1a, r1b, r2a, r2b⟩ := set3_flat K5; have hSf := (set3_is K5 (.slice pE x.b.length cE) (.slice none 0 0) (.slice pM x.u.length cM)).1.below S5 (by omega); refine wpAnyH_ready (rs := [10]) (by kernel_rfl) (by simp) (AllReadyH.cons rfl (fun K hK => ?_) AllReadyH.nil); go_simp; refine hK.out _ _ hSf (fun _ => ?_); clear hK K r0 r0' r1a r1b r2a r2b; refine wpAnyH_done (by kernel_rfl) ?_ _; exact T2 _ _ _ _ _ _ _ pE pM cE cM _ _ S5 E5 M5 K5 hk Z5 (by omega)
    refine AllReadyH.cons rfl (fun K hK => ?_) ?_
    ·
     skip
     go_simp; obtain ⟨X4, hY, hb, L4, S4⟩ := alA (.cells #[.slice none 0 0, .slice none 0 0, .slice none 0 0] 33) L3 S3; have Z4 := blk_below Z3 hb; have E4 := E3.below hb; have M4 := M3.below hb; have K4 : X4.heap[X3.heap.size]? = some (.cells #[.slice none 0 0, .slice none 0 0, .slice none 0 0] 33 (0, 0)) := by rw [← hY]; exact heap_alloc_new X3 _
     have hk : w.heap.size + 1 < X3.heap.size := by omega
     rw [hY]; refine hK.out _ _ S4 (fun _ => ?_); clear hK K hY hb; refine wpAnyH_ready (rs := [7]) (by kernel_rfl) (by simp) (AllReadyH.cons rfl (fun K hK => ?_) AllReadyH.nil); refine stepM_app (by rfl) _ _ (by rfl) V.heap.size _ [] (by rfl) M4 a2 c2 g2 o2 x.u x.u.length rfl (by rfl) ha2 (FU.out _ S4) (by simp; omega) (by omega) ?_; intro u X5 hown hgrow; have M5 : Mk.OwnE X5 V.heap.size u x.u := hown; clear hown; obtain ⟨L5, S5⟩ := grA L4 S4 hgrow M4; have Z5 := blk_keep Z4 hgrow (tag_ne (by decide) M4 Z4); have E5 := ownE_kept E4 hgrow (rows_ne (by decide) M4 E4); have K5 := blk_keep K4 hgrow (tag_ne (by decide) M4 K4); obtain ⟨pM, _, cM, rfl, -⟩ := id M5.ents; refine hK.out _ _ S5 (fun _ => ?_); clear hK K hgrow; refine wpAnyH_take (i := 8) (v := ?_) rfl (by kernel_rfl) (by kernel_rfl) (by kernel_rfl) (fun _ _ _ h => h) (Or.inl ⟨by kernel_rfl, ?_⟩) S5 ?_
     rotate_left 1
     ·
      intro w' hw'; go_simp; first | done | with_reducible rfl
     obtain ⟨r0, r0', r1a, r1b, r2a, r2b⟩ := set3_flat K5; have hSf := (set3_is K5 (.slice pE x.b.length cE) (.slice none 0 0) (.slice pM x.u.length cM)).1.below S5 (by omega); refine wpAnyH_ready (rs := [10]) (by kernel_rfl) (by simp) (AllReadyH.cons rfl (fun K hK => ?_) AllReadyH.nil); go_simp; refine hK.out _ _ hSf (fun _ => ?_); clear hK K r0 r0' r1a r1b r2a r2b; refine wpAnyH_done (by kernel_rfl) ?_ _; exact T2 _ _ _ _ _ _ _ pE pM cE cM _ _ S5 E5 M5 K5 hk Z5 (by omega)
    exact AllReadyH.nil
   refine AllReadyH.cons rfl (fun K hK => ?_) ?_
   ·
    skip
    go_simp; obtain ⟨X3, hY, hb, L3, S3⟩ := alA (.cells #[.slice none 0 0, .slice none 0 0, .slice none 0 0] 33) L2 S2; have Z3 := blk_below Z2 hb; have E3 := E2.below hb; have M3 := M2.below hb; have K3 : X3.heap[X2.heap.size]? = some (.cells #[.slice none 0 0, .slice none 0 0, .slice none 0 0] 33 (0, 0)) := by rw [← hY]; exact heap_alloc_new X2 _
    have hk : w.heap.size + 1 < X2.heap.size := by omega
    rw [hY]; refine hK.out _ _ S3 (fun _ => ?_); clear hK K hY hb; refine wpAnyH_ready (rs := [3]) (by kernel_rfl) (by simp) (AllReadyH.cons rfl (fun K hK => ?_) AllReadyH.nil); refine stepE_app (by rfl) _ _ (by rfl) V.heap.size _ [] (by rfl) E3 a0 c0 g0 o0 x.b x.b.length rfl (by rfl) ha0 (FE.out _ S3) (by simp; omega) (by omega) ?_; intro u X4 hown hgrow; have E4 : OwnE X4 V.heap.size u x.b := hown; clear hown; obtain ⟨L4, S4⟩ := grA L3 S3 hgrow E3; have Z4 := blk_keep Z3 hgrow (tag_ne (by decide) E3 Z3); have M4 := ownM_kept M3 hgrow (rows_ne (by decide) E3 M3); have K4 := blk_keep K3 hgrow (tag_ne (by decide) E3 K3); obtain ⟨pE, _, cE, rfl, -⟩ := id E4.ents; refine hK.out _ _ S4 (fun _ => ?_); clear hK K hgrow; refine wpAnyH_ready (rs := [7]) (by kernel_rfl) (by simp) (AllReadyH.cons rfl (fun K hK => ?_) AllReadyH.nil); refine stepM_app (by rfl) _ _ (by rfl) V.heap.size _ [] (by rfl) M4 a2 c2 g2 o2 x.u x.u.length rfl (by rfl) ha2 (FU.out _ S4) (by simp; omega) (by omega) ?_; intro u X5 hown hgrow; have M5 : Mk.OwnE X5 V.heap.size u x.u := hown; clear hown; obtain ⟨L5, S5⟩ := grA L4 S4 hgrow M4; have Z5 := blk_keep Z4 hgrow (tag_ne (by decide) M4 Z4); have E5 := ownE_kept E4 hgrow (rows_ne (by decide) M4 E4); have K5 := blk_keep K4 hgrow (tag_ne (by decide) M4 K4); obtain ⟨pM, _, cM, rfl, -⟩ := id M5.ents; refine hK.out _ _ S5 (fun _ => ?_); clear hK K hgrow; refine wpAnyH_take (i := 8) (v := ?_) rfl (by kernel_rfl) (by kernel_rfl) (by kernel_rfl) (fun _ _ _ h => h) (Or.inl ⟨by kernel_rfl, ?_⟩) S5 ?_
    rotate_left 1
    ·
     intro w' hw'; go_simp; first | done | with_reducible rfl
    obtain ⟨r0, r0', r1a, r1b, r2a, r2b⟩ := set3_flat K5; have hSf := (set3_is K5 (.slice pE x.b.length cE) (.slice none 0 0) (.slice pM x.u.length cM)).1.below S5 (by omega); refine wpAnyH_ready (rs := [10]) (by kernel_rfl) (by simp) (AllReadyH.cons rfl (fun K hK => ?_) AllReadyH.nil); go_simp; refine hK.out _ _ hSf (fun _ => ?_); clear hK K r0 r0' r1a r1b r2a r2b; refine wpAnyH_done (by kernel_rfl) ?_ _; exact T2 _ _ _ _ _ _ _ pE pM cE cM _ _ S5 E5 M5 K5 hk Z5 (by omega)
   exact AllReadyH.nil
  refine AllReadyH.cons rfl (fun K hK => ?_) ?_
  ·
   skip
   go_simp; obtain ⟨X2, hY, hb, L2, S2⟩ := alA (.cells #[.slice none 0 0, .slice none 0 0, .slice none 0 0] 33) L1 S1; have Z2 := blk_below Z1 hb; have M2 := M1.below hb; have K2 : X2.heap[X1.heap.size]? = some (.cells #[.slice none 0 0, .slice none 0 0, .slice none 0 0] 33 (0, 0)) := by rw [← hY]; exact heap_alloc_new X1 _
   have hk : w.heap.size + 1 < X1.heap.size := by omega
   rw [hY]; refine hK.out _ _ S2 (fun _ => ?_); clear hK K hY hb; refine wpAnyH_ready (rs := [0]) (by kernel_rfl) (by simp) (AllReadyH.cons rfl (fun K hK => ?_) AllReadyH.nil); go_simp; obtain ⟨X3, hY, hb, L3, S3⟩ := alA (.cells #[] 43) L2 S2; have Z3 := blk_below Z2 hb; have M3 := M2.below hb; have K3 := blk_below K2 hb; have E3 : OwnE X3 V.heap.size (.slice (some ⟨X2.heap.size, 0, none⟩) 0 0) [] := by rw [← hY]; exact OwnE.made X2 (by omega)
   rw [hY]; refine hK.out _ _ S3 (fun _ => ?_); clear hK K hY hb; refine wpAnyH_ready (rs := [3]) (by kernel_rfl) (by simp) (AllReadyH.cons rfl (fun K hK => ?_) AllReadyH.nil); refine stepE_app (by rfl) _ _ (by rfl) V.heap.size _ [] (by rfl) E3 a0 c0 g0 o0 x.b x.b.length rfl (by rfl) ha0 (FE.out _ S3) (by simp; omega) (by omega) ?_; intro u X4 hown hgrow; have E4 : OwnE X4 V.heap.size u x.b := hown; clear hown; obtain ⟨L4, S4⟩ := grA L3 S3 hgrow E3; have Z4 := blk_keep Z3 hgrow (tag_ne (by decide) E3 Z3); have M4 := ownM_kept M3 hgrow (rows_ne (by decide) E3 M3); have K4 := blk_keep K3 hgrow (tag_ne (by decide) E3 K3); obtain ⟨pE, _, cE, rfl, -⟩ := id E4.ents; refine hK.out _ _ S4 (fun _ => ?_); clear hK K hgrow; refine wpAnyH_ready (rs := [7]) (by kernel_rfl) (by simp) (AllReadyH.cons rfl (fun K hK => ?_) AllReadyH.nil); refine stepM_app (by rfl) _ _ (by rfl) V.heap.size _ [] (by rfl) M4 a2 c2 g2 o2 x.u x.u.length rfl (by rfl) ha2 (FU.out _ S4) (by simp; omega) (by omega) ?_; intro u X5 hown hgrow; have M5 : Mk.OwnE X5 V.heap.size u x.u := hown; clear hown; obtain ⟨L5, S5⟩ := grA L4 S4 hgrow M4; have Z5 := blk_keep Z4 hgrow (tag_ne (by decide) M4 Z4); have E5 := ownE_kept E4 hgrow (rows_ne (by decide) M4 E4); have K5 := blk_keep K4 hgrow (tag_ne (by decide) M4 K4); obtain ⟨pM, _, cM, rfl, -⟩ := id M5.ents; refine hK.out _ _ S5 (fun _ => ?_); clear hK K hgrow; refine wpAnyH_take (i := 8) (v := ?_) rfl (by kernel_rfl) (by kernel_rfl) (by kernel_rfl) (fun _ _ _ h => h) (Or.inl ⟨by kernel_rfl, ?_⟩) S5 ?_
   rotate_left 1
   ·
    intro w' hw'; go_simp; first | done | with_reducible rfl
   obtain ⟨r0, r0', r1a, r1b, r2a, r2b⟩ := set3_flat K5; have hSf := (set3_is K5 (.slice pE x.b.length cE) (.slice none 0 0) (.slice pM x.u.length cM)).1.below S5 (by omega); refine wpAnyH_ready (rs := [10]) (by kernel_rfl) (by simp) (AllReadyH.cons rfl (fun K hK => ?_) AllReadyH.nil); go_simp; refine hK.out _ _ hSf (fun _ => ?_); clear hK K r0 r0' r1a r1b r2a r2b; refine wpAnyH_done (by kernel_rfl) ?_ _; exact T2 _ _ _ _ _ _ _ pE pM cE cM _ _ S5 E5 M5 K5 hk Z5 (by omega)
  exact AllReadyH.nil
 refine AllReadyH.cons rfl (fun K hK => ?_) ?_
 ·
  skip
  go_simp; obtain ⟨X1, hY, hb, L1, S1⟩ := alA (.cells #[.slice none 0 0, .slice none 0 0, .slice none 0 0] 33) L0 S0; have Z1 := blk_below Z0 hb; have K1 : X1.heap[X0.heap.size]? = some (.cells #[.slice none 0 0, .slice none 0 0, .slice none 0 0] 33 (0, 0)) := by rw [← hY]; exact heap_alloc_new X0 _
  have hk : w.heap.size + 1 < X0.heap.size := by omega
  rw [hY]; refine hK.out _ _ S1 (fun _ => ?_); clear hK K hY hb; refine wpAnyH_ready (rs := [0, 4]) (by kernel_rfl) (by simp) ?_; refine AllReadyH.cons rfl (fun K hK => ?_) ?_
  ·
   skip
   go_simp; obtain ⟨X2, hY, hb, L2, S2⟩ := alA (.cells #[] 43) L1 S1; have Z2 := blk_below Z1 hb; have K2 := blk_below K1 hb; have E2 : OwnE X2 V.heap.size (.slice (some ⟨X1.heap.size, 0, none⟩) 0 0) [] := by rw [← hY]; exact OwnE.made X1 (by omega)
   rw [hY]; refine hK.out _ _ S2 (fun _ => ?_); clear hK K hY hb; refine wpAnyH_ready (rs := [3, 4]) (by kernel_rfl) (by simp) ?_; refine AllReadyH.cons rfl (fun K hK => ?_) ?_
   ·
    skip
    refine stepE_app (by rfl) _ _ (by rfl) V.heap.size _ [] (by rfl) E2 a0 c0 g0 o0 x.b x.b.length rfl (by rfl) ha0 (FE.out _ S2) (by simp; omega) (by omega) ?_; intro u X3 hown hgrow; have E3 : OwnE X3 V.heap.size u x.b := hown; clear hown; obtain ⟨L3, S3⟩ := grA L2 S2 hgrow E2; have Z3 := blk_keep Z2 hgrow (tag_ne (by decide) E2 Z2); have K3 := blk_keep K2 hgrow (tag_ne (by decide) E2 K2); obtain ⟨pE, _, cE, rfl, -⟩ := id E3.ents; refine hK.out _ _ S3 (fun _ => ?_); clear hK K hgrow; refine wpAnyH_ready (rs := [4]) (by kernel_rfl) (by simp) (AllReadyH.cons rfl (fun K hK => ?_) AllReadyH.nil); go_simp; obtain ⟨X4, hY, hb, L4, S4⟩ := alA (.cells #[] 99) L3 S3; have Z4 := blk_below Z3 hb; have E4 := E3.below hb; have K4 := blk_below K3 hb; have M4 : Mk.OwnE X4 V.heap.size (.slice (some ⟨X3.heap.size, 0, none⟩) 0 0) [] := by rw [← hY]; exact Mk.OwnE.made X3 (by omega)
    rw [hY]; refine hK.out _ _ S4 (fun _ => ?_); clear hK K hY hb; refine wpAnyH_ready (rs := [7]) (by kernel_rfl) (by simp) (AllReadyH.cons rfl (fun K hK => ?_) AllReadyH.nil); refine stepM_app (by rfl) _ _ (by rfl) V.heap.size _ [] (by rfl) M4 a2 c2 g2 o2 x.u x.u.length rfl (by rfl) ha2 (FU.out _ S4) (by simp; omega) (by omega) ?_; intro u X5 hown hgrow; have M5 : Mk.OwnE X5 V.heap.size u x.u := hown; clear hown; obtain ⟨L5, S5⟩ := grA L4 S4 hgrow M4; have Z5 := blk_keep Z4 hgrow (tag_ne (by decide) M4 Z4); have E5 := ownE_kept E4 hgrow (rows_ne (by decide) M4 E4); have K5 := blk_keep K4 hgrow (tag_ne (by decide) M4 K4); obtain ⟨pM, _, cM, rfl, -⟩ := id M5.ents; refine hK.out _ _ S5 (fun _ => ?_); clear hK K hgrow; refine wpAnyH_take (i := 8) (v := ?_) rfl (by kernel_rfl) (by kernel_rfl) (by kernel_rfl) (fun _ _ _ h => h) (Or.inl ⟨by kernel_rfl, ?_⟩) S5 ?_
    rotate_left 1
    ·
     intro w' hw'; go_simp; first | done | with_reducible rfl
    obtain ⟨r0, r0', r1a, r1b, r2a, r2b⟩ := set3_flat K5; have hSf := (set3_is K5 (.slice pE x.b.length cE) (.slice none 0 0) (.slice pM x.u.length cM)).1.below S5 (by omega); refine wpAnyH_ready (rs := [10]) (by kernel_rfl) (by simp) (AllReadyH.cons rfl (fun K hK => ?_) AllReadyH.nil); go_simp; refine hK.out _ _ hSf (fun _ => ?_); clear hK K r0 r0' r1a r1b r2a r2b; refine wpAnyH_done (by kernel_rfl) ?_ _; exact T2 _ _ _ _ _ _ _ pE pM cE cM _ _ S5 E5 M5 K5 hk Z5 (by omega)
   refine AllReadyH.cons rfl (fun K hK => ?_) ?_
   ·
    skip
    go_simp; obtain ⟨X3, hY, hb, L3, S3⟩ := alA (.cells #[] 99) L2 S2; have Z3 := blk_below Z2 hb; have E3 := E2.below hb; have K3 := blk_below K2 hb; have M3 : Mk.OwnE X3 V.heap.size (.slice (some ⟨X2.heap.size, 0, none⟩) 0 0) [] := by rw [← hY]; exact Mk.OwnE.made X2 (by omega)
    rw [hY]; refine hK.out _ _ S3 (fun _ => ?_); clear hK K hY hb; refine wpAnyH_ready (rs := [3]) (by kernel_rfl) (by simp) (AllReadyH.cons rfl (fun K hK => ?_) AllReadyH.nil); refine stepE_app (by rfl) _ _ (by rfl) V.heap.size _ [] (by rfl) E3 a0 c0 g0 o0 x.b x.b.length rfl (by rfl) ha0 (FE.out _ S3) (by simp; omega) (by omega) ?_; intro u X4 hown hgrow; have E4 : OwnE X4 V.heap.size u x.b := hown; clear hown; obtain ⟨L4, S4⟩ := grA L3 S3 hgrow E3; have Z4 := blk_keep Z3 hgrow (tag_ne (by decide) E3 Z3); have M4 := ownM_kept M3 hgrow (rows_ne (by decide) E3 M3); have K4 := blk_keep K3 hgrow (tag_ne (by decide) E3 K3); obtain ⟨pE, _, cE, rfl, -⟩ := id E4.ents; refine hK.out _ _ S4 (fun _ => ?_); clear hK K hgrow; refine wpAnyH_ready (rs := [7]) (by kernel_rfl) (by simp) (AllReadyH.cons rfl (fun K hK => ?_) AllReadyH.nil); refine stepM_app (by rfl) _ _ (by rfl) V.heap.size _ [] (by rfl) M4 a2 c2 g2 o2 x.u x.u.length rfl (by rfl) ha2 (FU.out _ S4) (by simp; omega) (by omega) ?_; intro u X5 hown hgrow; have M5 : Mk.OwnE X5 V.heap.size u x.u := hown; clear hown; obtain ⟨L5, S5⟩ := grA L4 S4 hgrow M4; have Z5 := blk_keep Z4 hgrow (tag_ne (by decide) M4 Z4); have E5 := ownE_kept E4 hgrow (rows_ne (by decide) M4 E4); have K5 := blk_keep K4 hgrow (tag_ne (by decide) M4 K4); obtain ⟨pM, _, cM, rfl, -⟩ := id M5.ents; refine hK.out _ _ S5 (fun _ => ?_); clear hK K hgrow; refine wpAnyH_take (i := 8) (v := ?_) rfl (by kernel_rfl) (by kernel_rfl) (by kernel_rfl) (fun _ _ _ h => h) (Or.inl ⟨by kernel_rfl, ?_⟩) S5 ?_
    rotate_left 1
    ·
     intro w' hw'; go_simp; first | done | with_reducible rfl
    obtain ⟨r0, r0', r1a, r1b, r2a, r2b⟩ := set3_flat K5; have hSf := (set3_is K5 (.slice pE x.b.length cE) (.slice none 0 0) (.slice pM x.u.length cM)).1.below S5 (by omega); refine wpAnyH_ready (rs := [10]) (by kernel_rfl) (by simp) (AllReadyH.cons rfl (fun K hK => ?_) AllReadyH.nil); go_simp; refine hK.out _ _ hSf (fun _ => ?_); clear hK K r0 r0' r1a r1b r2a r2b; refine wpAnyH_done (by kernel_rfl) ?_ _; exact T2 _ _ _ _ _ _ _ pE pM cE cM _ _ S5 E5 M5 K5 hk Z5 (by omega)
   exact AllReadyH.nil
  refine AllReadyH.cons rfl (fun K hK => ?_) ?_
  ·
   skip
   go_simp; obtain ⟨X2, hY, hb, L2, S2⟩ := alA (.cells #[] 99) L1 S1; have Z2 := blk_below Z1 hb; have K2 := blk_below K1 hb; have M2 : Mk.OwnE X2 V.heap.size (.slice (some ⟨X1.heap.size, 0, none⟩) 0 0) [] := by rw [← hY]; exact Mk.OwnE.made X1 (by omega)
   rw [hY]; refine hK.out _ _ S2 (fun _ => ?_); clear hK K hY hb; refine wpAnyH_ready (rs := [0]) (by kernel_rfl) (by simp) (AllReadyH.cons rfl (fun K hK => ?_) AllReadyH.nil); go_simp; obtain ⟨X3, hY, hb, L3, S3⟩ := alA (.cells #[] 43) L2 S2; have Z3 := blk_below Z2 hb; have M3 := M2.below hb; have K3 := blk_below K2 hb; have E3 : OwnE X3 V.heap.size (.slice (some ⟨X2.heap.size, 0, none⟩) 0 0) [] := by rw [← hY]; exact OwnE.made X2 (by omega)
   rw [hY]; refine hK.out _ _ S3 (fun _ => ?_); clear hK K hY hb; refine wpAnyH_ready (rs := [3]) (by kernel_rfl) (by simp) (AllReadyH.cons rfl (fun K hK => ?_) AllReadyH.nil); refine stepE_app (by rfl) _ _ (by rfl) V.heap.size _ [] (by rfl) E3 a0 c0 g0 o0 x.b x.b.length rfl (by rfl) ha0 (FE.out _ S3) (by simp; omega) (by omega) ?_; intro u X4 hown hgrow; have E4 : OwnE X4 V.heap.size u x.b := hown; clear hown; obtain ⟨L4, S4⟩ := grA L3 S3 hgrow E3; have Z4 := blk_keep Z3 hgrow (tag_ne (by decide) E3 Z3); have M4 := ownM_kept M3 hgrow (rows_ne (by decide) E3 M3); have K4 := blk_keep K3 hgrow (tag_ne (by decide) E3 K3); obtain ⟨pE, _, cE, rfl, -⟩ := id E4.ents; refine hK.out _ _ S4 (fun _ => ?_); clear hK K hgrow; refine wpAnyH_ready (rs := [7]) (by kernel_rfl) (by simp) (AllReadyH.cons rfl (fun K hK => ?_) AllReadyH.nil); refine stepM_app (by rfl) _ _ (by rfl) V.heap.size _ [] (by rfl) M4 a2 c2 g2 o2 x.u x.u.length rfl (by rfl) ha2 (FU.out _ S4) (by simp; omega) (by omega) ?_; intro u X5 hown hgrow; have M5 : Mk.OwnE X5 V.heap.size u x.u := hown; clear hown; obtain ⟨L5, S5⟩ := grA L4 S4 hgrow M4; have Z5 := blk_keep Z4 hgrow (tag_ne (by decide) M4 Z4); have E5 := ownE_kept E4 hgrow (rows_ne (by decide) M4 E4); have K5 := blk_keep K4 hgrow (tag_ne (by decide) M4 K4); obtain ⟨pM, _, cM, rfl, -⟩ := id M5.ents; refine hK.out _ _ S5 (fun _ => ?_); clear hK K hgrow; refine wpAnyH_take (i := 8) (v := ?_) rfl (by kernel_rfl) (by kernel_rfl) (by kernel_rfl) (fun _ _ _ h => h) (Or.inl ⟨by kernel_rfl, ?_⟩) S5 ?_
   rotate_left 1
   ·
    intro w' hw'; go_simp; first | done | with_reducible rfl
   obtain ⟨r0, r0', r1a, r1b, r2a, r2b⟩ := set3_flat K5; have hSf := (set3_is K5 (.slice pE x.b.length cE) (.slice none 0 0) (.slice pM x.u.length cM)).1.below S5 (by omega); refine wpAnyH_ready (rs := [10]) (by kernel_rfl) (by simp) (AllReadyH.cons rfl (fun K hK => ?_) AllReadyH.nil); go_simp; refine hK.out _ _ hSf (fun _ => ?_); clear hK K r0 r0' r1a r1b r2a r2b; refine wpAnyH_done (by kernel_rfl) ?_ _; exact T2 _ _ _ _ _ _ _ pE pM cE cM _ _ S5 E5 M5 K5 hk Z5 (by omega)
  exact AllReadyH.nil
 exact AllReadyH.nil
theorem smE0 : SmE [] := by intro e he; cases he
theorem smM0 : SmM [] := by intro e he; cases he
theorem re_nil (w : World) : RE w (.slice none 0 0) [] := ⟨none, 0, 0, 0, rfl, Nat.zero_le _, Nat.le_refl _, smE0, fun h => absurd h (by decide), fun i hi => absurd hi (by simp)⟩
theorem rm_nil0 (w : World) : RM w (.slice none 0 0) [] := ⟨none, 0, 0, 0, rfl, Nat.zero_le _, Nat.le_refl _, smM0, fun h => absurd h (by decide), fun i hi => absurd hi (by simp)⟩
theorem rl_nil0 (w : World) : RL w (.slice none 0 0) [] := ⟨none, 0, 0, 0, rfl, Nat.zero_le _, Nat.le_refl _, fun h => absurd h (by decide), fun i hi => absurd hi (by simp)⟩
theorem rm_made (w : World) (g : Nat) : RM w (.slice (some ⟨g, 0, none⟩) 0 0) [] := ⟨_, g, 0, 0, rfl, Nat.zero_le _, Nat.le_refl _, smM0, fun _ => rfl, fun i hi => absurd hi (by simp)⟩
theorem lie_nil (w : World) : Lie w (.agg #[.slice none 0 0, .slice none 0 0, .slice none 0 0]) ⟨[], [], []⟩ := ⟨_, _, _, rfl, re_nil w, rl_nil0 w, rm_nil0 w⟩
theorem set_last {w : World} {k : Nat} {p q r : Value} {T : TypeId} (h : w.heap[k]? = some (.cells #[p, q, r] T (0, 0))) (y : Value) : (w.setCell ⟨k, 2, none⟩ y).heap[k]? = some (.cells #[p, q, y] T (0, 0)) ∧ OnlyB3 k w (w.setCell ⟨k, 2, none⟩ y) := by
 rw [setCell_eq_setRow w k 2 _ T (0, 0) y h]; exact ⟨setRow_heap w k _ (#[p, q, r].setIfInBounds 2 y) T (0, 0) h, OnlyB3.setRow k w _⟩
theorem CpO.below {w w' : World} {base : Nat} {v : Value} {x : O} (h : CpO w base v x) (hb : Below w.heap.size w w') : CpO w' base v x := by
 obtain ⟨v0, v1, v2, rfl, h0, h1, h2⟩ := h; exact ⟨v0, v1, v2, rfl, OwnE.below h0 hb, h1.below hb, Mk.OwnE.below h2 hb⟩
theorem CpO.kept {w w' : World} {base k : Nat} {v : Value} {x : O} {cs : Array Value} {f : Nat × Nat} (h : CpO w base v x) (hk : w.heap[k]? = some (.cells cs 33 f)) (hg : w.grownBy w' (some k)) : CpO w' base v x := by
 obtain ⟨v0, v1, v2, rfl, h0, h1, h2⟩ := h; exact ⟨v0, v1, v2, rfl, ownE_kept h0 hg (tag_ne (by decide) h0 hk), h1.kept hk hg, ownM_kept h2 hg (tag_ne (by decide) h2 hk)⟩
theorem CpO.ex {w : World} {base : Nat} {v : Value} {x : O} (h : CpO w base v x) : ∃ p0 c0 p1 c1 p2 c2, v = .agg #[.slice p0 x.b.length c0, .slice p1 x.l.length c1, .slice p2 x.u.length c2] := by
 obtain ⟨v0, v1, v2, rfl, h0, h1, h2⟩ := h; obtain ⟨a, g, c, rfl, -⟩ := OwnE.ents h0; obtain ⟨a1, g1, c1, f, rfl, -⟩ := h1.ol; obtain ⟨a2, g2, c2, rfl, -⟩ := h2.ents; exact ⟨_, _, _, _, _, _, rfl⟩
theorem low_lay : ∀ (ls : List (List Mk.E)) (t : List E), lowB ls t = true → ∀ l ∈ ls, l.length ≤ 32
 | [], _, _ => fun l hl => by cases hl
 | k :: r, t, h => fun l hl => by
  have hb : (Ly.onB k t && lowB r (Ly.onE k t)) = true := h; rw [Bool.and_eq_true] at hb; rcases List.mem_cons.1 hl with rfl | hl
  ·
   have := (Ly.on_is hb.1).1; unfold Mk.layB at this; rw [Bool.and_eq_true] at this; exact of_decide_eq_true this.2
  ·
   exact low_lay r _ hb.2 l hl
theorem lwB_low {x : O} (h : lwB x = true) : lowB x.l x.b = true := by
 unfold lwB at h; rw [Bool.and_eq_true] at h; exact h.2
theorem OO.exT {lo hi : Nat} {w : World} {v : Value} {x : O} (h : OO lo hi w v x) : ∃ p0 c0 p1 c1 p2 c2, v = .agg #[.slice p0 x.b.length c0, .slice p1 x.l.length c1, .slice p2 x.u.length c2] := by
 obtain ⟨v0, v1, v2, m1, m2, rfl, l1, l2, l3, ⟨a0, g0, c0, rfl, -⟩, ⟨a1, g1, c1, f, rfl, -⟩, ⟨a2, g2, c2, rfl, -⟩⟩ := h; exact ⟨_, _, _, _, _, _, rfl⟩
theorem few_of {x : O} (h : okB x = true) : Few x := by
 obtain ⟨h1, h2, h3, h4, h5, h6, h7⟩ := ok_parts h; have hb := (treeE_tr h3).2; refine ⟨by omega, by omega, fun l hl => ?_, ?_⟩
 ·
  have := low_lay _ _ (lwB_low h1) l hl; omega
 ·
  have hv := h2; unfold vwB at hv; rw [Bool.and_eq_true] at hv; have := (Ly.on_is hv.2).1; unfold Mk.layB at this; rw [Bool.and_eq_true] at this; have := of_decide_eq_true this.2; omega
theorem Lie.exL {w : World} {v : Value} {x : O} (h : Lie w v x) : ∃ p0 c0 p1 c1 p2 c2, v = .agg #[.slice p0 x.b.length c0, .slice p1 x.l.length c1, .slice p2 x.u.length c2] := by
 obtain ⟨v0, v1, v2, rfl, ⟨a, g, o, c, rfl, -⟩, ⟨a1, g1, o1, c1, rfl, -⟩, ⟨a2, g2, o2, c2, rfl, -⟩⟩ := h; exact ⟨_, _, _, _, _, _, rfl⟩
def LW (n : Nat) (w : World) (v : Value) (x : O) : Prop := ∃ a0 g0 o0 c0 a1 g1 o1 c1 a2 g2 o2 c2, v = .agg #[.slice a0 x.b.length c0, .slice a1 x.l.length c1, .slice a2 x.u.length c2] ∧ (0 < x.b.length → a0 = some ⟨g0, o0, none⟩ ∧ g0 < n) ∧ (0 < x.l.length → a1 = some ⟨g1, o1, none⟩ ∧ g1 < n) ∧ (0 < x.u.length → a2 = some ⟨g2, o2, none⟩ ∧ g2 < n) ∧ Ents w g0 o0 x.b ∧
 (∀ i (h : i < x.l.length), ∃ a gg oo cap, w.cell? ⟨g1, o1 + i, none⟩ = some (.slice a x.l[i].length cap) ∧ (0 < x.l[i].length → a = some ⟨gg, oo, none⟩ ∧ gg < n) ∧ Mk.Ents w gg oo x.l[i] ∧ x.l[i].length ≤ cap) ∧ Mk.Ents w g2 o2 x.u
theorem Lie.lw {w : World} {v : Value} {x : O} (h : Lie w v x) : LW w.heap.size w v x := by
 obtain ⟨v0, v1, v2, rfl, ⟨a, g, o, c, rfl, -, -, -, h1, h2⟩, ⟨a1, g1, o1, c1, rfl, -, -, k1, k2⟩, ⟨a2, g2, o2, c2, rfl, -, -, -, m1, m2⟩⟩ := h; refine ⟨a, g, o, c, a1, g1, o1, c1, a2, g2, o2, c2, rfl, fun p => ⟨h1 p, World.block_lt_of_cell? w ⟨g, _, none⟩ (h2 0 p).1⟩, fun p => ⟨k1 p, ?_⟩, fun p => ⟨m1 p, World.block_lt_of_cell? w ⟨g2, _, none⟩ (m2 0 p).1⟩, h2, fun i hi => ?_, m2⟩
 ·
  obtain ⟨u, cc, _⟩ := k2 0 p; exact World.block_lt_of_cell? w ⟨g1, o1 + 0, none⟩ cc
 ·
  obtain ⟨u, cc, ⟨a3, g3, o3, c3, rfl, -, q2, -, q4, q5⟩⟩ := k2 i hi; exact ⟨a3, g3, o3, c3, cc, fun p => ⟨q4 p, World.block_lt_of_cell? w ⟨g3, _, none⟩ (q5 0 p).1⟩, q5, q2⟩
theorem LW.arg {n : Nat} {w : World} {v : Value} {x : O} (h : LW n w v x) : Arg w v x := by
 obtain ⟨a, g, o, c, a1, g1, o1, c1, a2, g2, o2, c2, rfl, h1, h2, h3, h4, h5, h6⟩ := h; refine ⟨a, g, o, c, a1, g1, o1, c1, a2, g2, o2, c2, rfl, fun p => (h1 p).1, fun p => (h2 p).1, fun p => (h3 p).1, h4, fun i hi => ?_, h6⟩; obtain ⟨a3, g3, o3, c3, q1, q2, q3, q4⟩ := h5 i hi; exact ⟨a3, g3, o3, c3, q1, fun p => (q2 p).1, q3, q4⟩
theorem LW.below {n : Nat} {w w' : World} {v : Value} {x : O} (h : LW n w v x) (hb : Below w.heap.size w w') : LW n w' v x := by
 obtain ⟨a, g, o, c, a1, g1, o1, c1, a2, g2, o2, c2, rfl, h1, h2, h3, h4, h5, h6⟩ := h; refine ⟨a, g, o, c, a1, g1, o1, c1, a2, g2, o2, c2, rfl, h1, h2, h3, h4.below hb, fun i hi => ?_, h6.below hb⟩; obtain ⟨a3, g3, o3, c3, q1, q2, q3, q4⟩ := h5 i hi; exact ⟨a3, g3, o3, c3, (hb.cell (p := ⟨g1, o1 + i, none⟩) (World.block_lt_of_cell? w ⟨g1, o1 + i, none⟩ q1)).trans q1, q2, q3.below hb, q4⟩
theorem LW.win {n lo hi : Nat} {w w' : World} {v : Value} {x : O} (h : LW n w v x) (k : Win lo hi w w') (hn : n ≤ lo) : LW n w' v x := by
 obtain ⟨a, g, o, c, a1, g1, o1, c1, a2, g2, o2, c2, rfl, h1, h2, h3, h4, h5, h6⟩ := h; refine ⟨a, g, o, c, a1, g1, o1, c1, a2, g2, o2, c2, rfl, h1, h2, h3, k.ents h4 (fun p => by have := (h1 p).2; omega), fun i hi => ?_, k.entsM h6 (fun p => by have := (h3 p).2; omega)⟩; obtain ⟨a3, g3, o3, c3, q1, q2, q3, q4⟩ := h5 i hi; exact ⟨a3, g3, o3, c3, k.cell q1 (by have := (h2 (by omega)).2; omega), q2, k.entsM q3 (fun p => by have := (q2 p).2; omega), q4⟩
theorem eqOver_selfN (w : World) (v v' : Value) (x : O) (hS : Sz 16777216 x) (hA : Arg w v x) (hA' : Arg w v' x) :
  Calls Tryz.prog 13 #[v, v'] w fun e w' => e = .returned (.bool true) ∧ Below w.heap.size w w' := by
 refine (eqOver_any w v v' x x hS hS hA hA').mono ?_; rintro e w1 ⟨rfl, hB⟩; exact ⟨by rw [same_selfO], hB⟩
theorem tot_few : ∀ (ls : List (List Mk.E)), (∀ l ∈ ls, l.length ≤ 32) → totM ls ≤ 32 * ls.length
 | [], _ => Nat.le_refl _
 | l :: r, h => by
  have h1 := tot_few r (fun k hk => h k (List.mem_cons_of_mem _ hk)); have h2 := h l (List.mem_cons_self ..); have h3 : totM (l :: r) = l.length + totM r := rfl; rw [h3, List.length_cons]; omega
theorem few_sz {y : O} (h1 : y.b.length ≤ 16) (h2 : SmE y.b) (h3 : y.l.length ≤ 5) (h4 : ∀ l ∈ y.l, l.length ≤ 32 ∧ SmM l) (h5 : y.u.length ≤ 32) (h6 : SmM y.u) : Sz 16777216 y ∧ cntO y ≤ 1000 ∧ totO y ≤ 1048576 ∧ y.l.length ≤ 1048576 := by
 have ht := tot_few y.l (fun l hl => (h4 l hl).1); refine ⟨⟨by omega, fun e he => h2 e he, by omega, fun l hl => ⟨by have := (h4 l hl).1; omega, fun e he => (h4 l hl).2 e he⟩, by omega, fun e he => h6 e he⟩, ?_, ?_, by omega⟩
 ·
  unfold cntO; omega
 ·
  unfold totO; omega
theorem nil_sz : Sz 16777216 (⟨[], [], []⟩ : O) ∧ cntO ⟨[], [], []⟩ ≤ 1000 ∧ totO ⟨[], [], []⟩ ≤ 1048576 ∧ (⟨[], [], []⟩ : O).l.length ≤ 1048576 :=
 few_sz (Nat.zero_le _) smE0 (Nat.zero_le _) (fun l hl => absurd hl (by simp)) (Nat.zero_le _) smM0
theorem ok_len {x : O} (h : okB x = true) : x.b.length ≤ 16 ∧ x.l.length ≤ 4 ∧ (∀ l ∈ x.l, l.length ≤ 32) ∧ x.u.length ≤ 32 ∧ (lwE x).length ≤ 16 := by
 obtain ⟨h1, h2, h3, h4, h5, h6, h7⟩ := ok_parts h; refine ⟨(treeE_tr h3).2, h4, low_lay _ _ (lwB_low h1), ?_, (treeE_tr h5).2⟩; have hv := h2; unfold vwB at hv; rw [Bool.and_eq_true] at hv; have := (Ly.on_is hv.2).1; unfold Mk.layB at this; rw [Bool.and_eq_true] at this; exact of_decide_eq_true this.2
open Go.Maps
theorem run_append_make {P : Program} {w : World} (t u ty e : TypeId) (i : TypeInfo) (z : Value) (ht : P.underlying t = some (.slice e)) (hu : P.underlying u = some (.int .i64)) (hi : P.info? e = some i) (hz : i.zero = some z)
    (n : Nat) (h0 : 0 < n) (h1 : n ≤ 1000) (h48 : i.bytes ≤ 1000) (hsz : 0 < i.size) :
    (Builtin.append_ #[t, u] ty #[.slice none 0 0, .int .i64 (n : Int)]).run P w =
      .ok (.slice (some ⟨w.heap.size, 0, none⟩) n (grownCap w n 0 e)) (w.drew.alloc (.cells (Builtin.zeroCells z.cells n ++ Builtin.zeroCells z.cells (grownCap w n 0 e - n)) e)) := by
  have hn : n ≠ 0 := by omega
  have hw : IntKind.i64.wrap (n : Int) = n := by rw [IntKind.wrap_i64]; omega
  have hns : n * i.size ≠ 0 := Nat.mul_ne_zero hn (by omega); have hb : n * i.bytes ≤ 1000000 := Nat.mul_le_mul h1 h48
  have hb' : ¬ (281474976710656 < (n : Int) * (i.bytes : Int)) := by have : (n : Int) * (i.bytes : Int) = ((n * i.bytes : Nat) : Int) := by simp
                                                                     omega
  have h48' : ¬ (281474976710656 < Builtin.nextslicecap n 0 * i.bytes) := by rw [nextslicecap_zero h0]; omega
  have h63' : ¬ (9223372036854775807 < (n : Int)) := by omega
  have hneg : ¬ ((n : Int) < 0) := by omega
  simp [Builtin.append_, run_underlying ht, run_underlying hu, sizeOf, typeInfo, zeroValue, hi, hz, Builtin.firstCells, hn, h63', h48', Question.forced, newRow, grownCap, asInt, asIntOf, hw, hneg, hb', hns]
theorem wpList_append_run {P : Program} {w : World} {ops : Array Oper} {rest : List Oper} {o : Oper} {a : Act} {Q : Exit → Act → World → Prop} (hgd : o.guard = none) (s x : Operand) (t u : TypeId)
    (ho : o.op = .call { callee := .builtin .append, args := #[s, x], argTypes := #[t, u] }) (v1 v2 v' : Value) (w' : World) (h1 : a.eval s = v1) (h2 : a.eval x = v2) (hr : (Builtin.append_ #[t, u] o.type #[v1, v2]).run P w = .ok v' w')
    (h : wpList P ops Q rest (a.put o.dst v') w') : wpList P ops Q (o :: rest) a w := by
  refine wpList_plain hgd fun K hK => ?_; unfold Oper.wp execOp; simp only [ho, resolve, invoke, builtin, Sem.run_bind, Sem.run_pure, Result.andThen_ok, List.map_toArray, List.map_cons, List.map_nil, h1, h2, hr]; exact hK _ _ h
set_option maxHeartbeats 1000000 in
set_option maxRecDepth 100000 in
theorem growLL_any (w : World) (n : Nat) (h0 : 0 < n) (h1 : n ≤ 1000) :
    Calls Tryz.prog 164 #[.slice none 0 0, .int .i64 n] w fun r w' => ∃ c, r = .returned (.slice (some ⟨w.heap.size, 0, none⟩) 0 c) ∧ w'.ownsRow w.heap.size 31 1 (.slice (some ⟨w.heap.size, 0, none⟩) 0 c) 0 [] ∧ Below w.heap.size w w' := by
  obtain ⟨i0, hi, hz0, hz1, hz2⟩ := info_parts Tryz.infoL; have hu : ∃ k, Tryz.prog.underlying 3 = some (.int k) ∧ k = .i64 := ⟨_, Tryz.underlying3, rfl⟩
  obtain ⟨k, hu, rfl⟩ := hu; have hap := run_append_make (P := Tryz.prog) (w := w) 30 3 30 31 i0 _ Tryz.underlying30 hu hi hz0 n h0 h1 (by omega) (by omega); have hge := grownCap_ge w n 0 31; have hle := grownCap_le_maxLen w n 0 31 (by unfold maxLen; omega); obtain ⟨cap, hcap⟩ : ∃ cap, grownCap w n 0 31 = cap := ⟨_, rfl⟩
  rw [hcap] at hap hge hle; obtain ⟨M, hM⟩ : ∃ M, Builtin.zeroCells (Value.slice none 0 0).cells n ++ Builtin.zeroCells (Value.slice none 0 0).cells (cap - n) = M := ⟨_, rfl⟩
  have hMs : M.size = cap * 1 := by
    rw [← hM, Array.size_append, size_zeroCells, size_zeroCells]; have : (Value.slice none 0 0).cells.size = 1 := rfl; rw [this]; omega
  rw [hM] at hap; have hn0 : ¬ ((n : Int) < 0) := by omega
  have hn1 : (0 : Int) < n := by omega
  have hO := World.ownsRow_made w.drew (base := w.heap.size) (e := 31) (size := 1) M cap (Nat.le_refl _) hle hMs; have hB : Below w.heap.size w (w.drew.alloc (.cells M 31)) := (Below.drew (Below.refl _ w)).alloc (Nat.le_refl _) _; have HO := hidE hO; have HB := hidE hB; clear hcap hM hMs hO hB hi hz0 hz1 hz2; go_enter Tryz.func164, Tryz.ntmps164
  go_wp2_with (first | (at_builtin; refine wpList_append_run rfl _ _ 30 3 rfl _ _ _ _ rfl rfl hap ?_) | fail)
  go_ret
  exact ⟨_, rfl, HO.out, HB.out⟩
theorem run_append_none {P : Program} (w : World) (t ty e : TypeId) (i0 : TypeInfo) (ht : P.underlying t = some (.slice e)) (hi : P.info? e = some i0) (base : Option Addr) (n cap : Nat) (hle : n ≤ cap) (ax : Option Addr) (c : Nat) :
    (Builtin.append_ #[t, t] ty #[.slice base n cap, .slice ax 0 c]).run P w = .ok (.slice base n cap) w := by
  cases ax <;> cases base <;> simp [Builtin.append_, run_underlying ht, sizeOf, typeInfo, hi, Builtin.lenOf, Builtin.firstCells, loadCells, loadCellsFrom, storeCells, hle]
theorem row_slV {w : World} {base n size : Nat} {e : TypeId} {v : Value} {xs : List Value} (h : w.ownsRow base e size v n xs) : ∃ a c, v = .slice a n c := by
  obtain ⟨h0, ⟨rfl, e0⟩ | ⟨g, cap, cur, rfl, _⟩⟩ := h
  · exact ⟨none, 0, by rw [e0]⟩
  · exact ⟨_, _, rfl⟩
def catP (us : List Value) (y : Value) (k : Nat) : List Value := if k = 0 then [] else if k = 1 then us else us ++ [y]
def catN (us : List Value) (k : Nat) : Nat := if k = 0 then 0 else if k = 1 then us.length else us.length + 1
set_option maxHeartbeats 2000000 in
set_option maxRecDepth 100000 in
theorem concatLL_any (w : World) (g g1 o1 g2 c1 : Nat) (a1 : Option Addr) (us : List Value) (y : Value) (hl : us.length ≤ 900) (hone : ∀ u ∈ us, u.oneCell' = true) (hy : y.oneCell' = true)
    (h0 : w.cell? ⟨g, 0, none⟩ = some (.slice a1 us.length c1)) (ha : 0 < us.length → a1 = some ⟨g1, o1, none⟩) (hc : ∀ i (h : i < us.length), w.cell? ⟨g1, o1 + i, none⟩ = some us[i])
    (h1 : w.cell? ⟨g, 1, none⟩ = some (.slice (some ⟨g2, 0, none⟩) 1 1)) (h2 : w.cell? ⟨g2, 0, none⟩ = some y) :
    Calls Tryz.prog 122 #[.slice (some ⟨g, 0, none⟩) 2 2] w fun r w' => ∃ v, r = .returned v ∧ w'.ownsRow w.heap.size 31 1 v (us.length + 1) (us ++ [y]) ∧ Below w.heap.size w w' := by
  obtain ⟨i0, hi, hz0, hz1, hz2⟩ := info_parts Tryz.infoL; have hno := fun (W : World) base n cap hle ax c => run_append_none (P := Tryz.prog) W 30 30 31 i0 Tryz.underlying30 hi base n cap hle ax c; have HC := hidE hc; have C0 := hidE (fun (W : World) (hb : Below w.heap.size w W) => (hb.cell (p := ⟨g, 0, none⟩) (World.block_lt_of_cell? w ⟨g, 0, none⟩ h0)).trans h0); have C1 := hidE (fun (W : World) (hb : Below w.heap.size w W) => (hb.cell (p := ⟨g, 1, none⟩) (World.block_lt_of_cell? w ⟨g, 1, none⟩ h1)).trans h1); have C2 := hidE (fun (W : World) (hb : Below w.heap.size w W) => (hb.cell (p := ⟨g2, 0, none⟩) (World.block_lt_of_cell? w ⟨g2, 0, none⟩ h2)).trans h2); have HA := hidE (And.intro ha hone); clear hc h0 h1 h2 ha hone; go_enter Tryz.func122, Tryz.ntmps122
  go_wp2
  go_loopw [3, 11] (fun nv iv wl => ∃ k : Nat, k ≤ 2 ∧ iv = .int .i64 k ∧ nv = .int .i64 (catN us k) ∧ Hid (Below w.heap.size w wl)) (fun _ iv _ => 2 - (RowKit.intOf iv).toNat)
  case atStart => exact ⟨0, Nat.zero_le _, rfl, rfl, Below.refl _ _⟩
  case round =>
    obtain ⟨k, hk, rfl, rfl, HB⟩ := hrel; obtain rfl | rfl | rfl : k = 0 ∨ k = 1 ∨ k = 2 := by omega
    · have c0 := C0.out _ HB.out
      have hq : catN us 0 = 0 := rfl; have hq1 : (catN us 1 : Int) = us.length := rfl; have hge : ¬ ((us.length : Nat) : Int) < 0 := by omega
      rw [hq]; go_wp2
      go_roundw
      case rel => exact ⟨1, by omega, by go_num, by rw [hq1], HB⟩
      case measure => simp [RowKit.intOf]
    · have c1 := C1.out _ HB.out
      have hq : catN us 1 = us.length := rfl; have hq1 : (catN us 2 : Int) = (us.length : Int) + 1 := by show (((us.length + 1 : Nat)) : Int) = _; omega
      have hge : ¬ ((us.length : Nat) : Int) + 1 < 0 := by omega
      rw [hq]; go_wp2
      go_roundw
      case rel => exact ⟨2, by omega, by go_num, by rw [hq1], HB⟩
      case measure => simp [RowKit.intOf]
    · have hq : catN us 2 = us.length + 1 := rfl
      rw [hq]; have HG := hidE (growLL_any wr (us.length + 1) (by omega) (by omega)); have hz := HB.out.size; go_wp2_with fail
      refine HG.out.mono ?_; rintro e w2 ⟨cg, rfl, hO, hB2⟩; have HB2 := hidE (B3 HB.out hB2); have HO2 := hidE (rowlow hO hz); clear hB2 hO HB HG; go_wp2
      go_loopw [6, 27] (fun rv iv wl => ∃ k : Nat, k ≤ 2 ∧ iv = .int .i64 k ∧ Hid (wl.ownsRow w.heap.size 31 1 rv (catN us k) (catP us y k)) ∧ Hid (Below w.heap.size w wl)) (fun _ iv _ => 2 - (RowKit.intOf iv).toNat)
      case atStart => exact ⟨0, Nat.zero_le _, rfl, HO2.out, HB2.out⟩
      case round =>
        clear HO2 HB2 hz; obtain ⟨k, hk, rfl, HO, HB⟩ := hrel; have hz := HB.out.size; obtain ⟨av, cv, rfl⟩ := row_slV HO.out; obtain rfl | rfl | rfl : k = 0 ∨ k = 1 ∨ k = 2 := by omega
        · have c0 := C0.out _ HB.out
          have hq : catN us 0 = 0 := rfl; rw [hq] at HO ⊢; by_cases hn : us.length = 0
          · have HN := hidE hn
            have hr : (Builtin.append_ #[30, 30] 30 #[.slice av 0 cv, .slice a1 us.length c1]).run Tryz.prog wr = .ok (.slice av 0 cv) wr := by
              rw [HN.out]; exact hno wr av 0 cv (Nat.zero_le _) a1 c1
            have HO1 : Hid (wr.ownsRow w.heap.size 31 1 (.slice av 0 cv) (catN us 1) (catP us y 1)) := by
              have e1 : catN us 1 = 0 := hn; have e2 : catP us y 1 = [] := List.eq_nil_of_length_eq_zero hn; show World.ownsRow _ _ _ _ _ _ _
              rw [e1, e2]; exact HO.out
            clear hn; go_wp2_with (first | (at_builtin; refine wpList_append_run rfl _ _ 30 30 rfl _ _ _ _ rfl rfl hr ?_) | fail)
            go_roundw
            case rel => exact ⟨1, by omega, by go_num, HO1, HB⟩
            case measure => simp [RowKit.intOf]
          · obtain rfl := HA.out.1 (by omega)
            have hcell : ∀ j u, us[j]? = some u → wr.cell? ((⟨g1, o1, none⟩ : Addr).add j) = some u := fun j u hj => by
              obtain ⟨hj1, rfl⟩ := List.getElem?_eq_some_iff.1 hj; have h := (HB.out.cell (p := ⟨g1, o1 + j, none⟩) (World.block_lt_of_cell? w ⟨g1, o1 + j, none⟩ (HC.out j hj1))).trans (HC.out j hj1); by_cases hj0 : j = 0
              · subst hj0; simpa [Addr.add] using h
              · simpa [Addr.add, hj0] using h
            go_wp2_with (first
              | (at_builtin; refine wpList_append_own _ rfl _ _ 30 rfl w.heap.size 31 i0 _ 1 24 Tryz.underlying30 hi hz0 hz1 hz2 rfl (by decide) _ _ _ rfl HO.out ⟨g1, o1, none⟩ us.length c1 us rfl (by omega) hcell HA.out.2 ?c3 ?c4 ?c5 ?_)
              | fail)
            case c3 => unfold maxLen; omega
            case c4 => omega
            try (case c5 => omega)
            intro v' w5 hown' hgrow _; have HB5 := hidE (HB.out.grown hgrow (by omega) (fun q hq => (World.ownsRow.lt HO.out q hq).1))
            have HO5 : Hid (w5.ownsRow w.heap.size 31 1 v' (catN us 1) (catP us y 1)) := by
              first | exact hown' | (have h := hown'; rw [Nat.zero_add] at h; exact h)
            clear hown' hgrow HO HB; go_wp2
            go_roundw
            case rel => exact ⟨1, by omega, by go_num, HO5, HB5⟩
            case measure => simp [RowKit.intOf]
        · have c1 := C1.out _ HB.out
          have c2 := C2.out _ HB.out; have hq : catN us 1 = us.length := rfl; rw [hq] at HO ⊢
          go_wp2_with (first
            | (at_builtin; refine wpList_append_own _ rfl _ _ 30 rfl w.heap.size 31 i0 _ 1 24 Tryz.underlying30 hi hz0 hz1 hz2 rfl (by decide) _ _ _ rfl HO.out ⟨g2, 0, none⟩ 1 1 [y] rfl rfl ?c1 ?c2 ?c3 ?c4 ?c5 ?_)
            | fail)
          case c1 => intro j u hj; match j, hj with
            | 0, hj => simp at hj; subst hj; simpa [Addr.add] using c2
          case c2 => intro u hu; simp at hu; subst hu; exact hy
          case c3 => unfold maxLen; omega
          case c4 => omega
          try (case c5 => omega)
          intro v' w5 hown' hgrow _; have HB5 := hidE (HB.out.grown hgrow (by omega) (fun q hq => (World.ownsRow.lt HO.out q hq).1)); have HO5 : Hid (w5.ownsRow w.heap.size 31 1 v' (catN us 2) (catP us y 2)) := hown'; clear hown' hgrow HO HB; go_wp2
          go_roundw
          case rel => exact ⟨2, by omega, by go_num, HO5, HB5⟩
          case measure => simp [RowKit.intOf]
        · have HO2 : Hid (wr.ownsRow w.heap.size 31 1 (.slice av (us.length + 1) cv) (us.length + 1) (us ++ [y])) := HO.out
          go_wp2
          go_ret
          exact ⟨_, rfl, HO2.out, HB.out⟩
end Go.Proofs.YteppodogghjfhaaGreatDoor.Ov
