import Derived.Test.YteppodogghjfhaaGreatDoorHPk10
import Derived.Test.YteppodogghjfhaaGreatDoorHClone
import Derived.Deep.RegionHeld3
namespace Go.Proofs.YteppodogghjfhaaGreatDoor
open Go.RowKit Go.Lib
theorem box3f {w w' : World} {a b c : Value} {T : TypeId} (h : Below (w.alloc (.cells #[a, b, c] T)).heap.size (w.alloc (.cells #[a, b, c] T)) w') :
  w'.cell? ⟨w.heap.size, 0, none⟩ = some a ∧ w'.cell? ⟨w.heap.size, 1, none⟩ = some b ∧ w'.cell? ⟨w.heap.size, 2, none⟩ = some c := by
 have hl : w.heap.size < (w.alloc (.cells #[a, b, c] T)).heap.size := by simp
 exact ⟨(h.cell (p := ⟨w.heap.size, 0, none⟩) hl).trans (by simp), (h.cell (p := ⟨w.heap.size, 1, none⟩) hl).trans (by simp), (h.cell (p := ⟨w.heap.size, 2, none⟩) hl).trans (by simp)⟩
theorem clone_tx (s : ByteArray) (hs : s.size ≤ 16777217) (w : World) :
  Calls Tryz.prog 80 #[.string s] w fun e w' => e = .returned (.string s) ∧ Below w.heap.size w w' := by
 go_enter Tryz.func80, Tryz.ntmps80
 go_wp2_with (first | (go_at_call 115; refine (sClone_any _ _ (by omega)).mono ?_; rintro e w' ⟨rfl, hB⟩) | fail)
 go_ret
 exact ⟨rfl, hB⟩
set_option maxHeartbeats 3200000 in
set_option maxRecDepth 100000 in
theorem freshEnt_any (p x : ByteArray) (d : Bool) (w : World) (hp : p.size ≤ 16777217) (hx : x.size ≤ 16777217) :
  Calls Tryz.prog 46 #[.agg #[.string p, .bool d, .string x]] w fun r w' => r = .returned (.agg #[.string p, .bool d, .string x]) ∧ Below w.heap.size w w' := by
 have C1 := hidE (fun W => clone_tx p hp W); have C2 := hidE (fun W => clone_tx x hx W); clear hp hx; go_enter Tryz.func46, Tryz.ntmps46
 go_wp2
 have hB1 : Below w.heap.size w ((w.alloc (.cells #[.string p, .bool d, .string x] 43)).alloc (.cells #[.string ⟨#[]⟩, .bool false, .string ⟨#[]⟩] 43)) := ((Below.refl _ w).alloc (Nat.le_refl _) _).alloc (by simp) _
 have hB2 : Below (w.heap.size + 1) (w.alloc (.cells #[.string p, .bool d, .string x] 43)) ((w.alloc (.cells #[.string p, .bool d, .string x] 43)).alloc (.cells #[.string ⟨#[]⟩, .bool false, .string ⟨#[]⟩] 43)) := by
  have := (Below.refl _ (w.alloc (.cells #[.string p, .bool d, .string x] 43))).alloc (Nat.le_refl _) (.cells #[.string ⟨#[]⟩, .bool false, .string ⟨#[]⟩] 43)
  simpa using this
 have hR1 : ((w.alloc (.cells #[.string p, .bool d, .string x] 43)).alloc (.cells #[.string ⟨#[]⟩, .bool false, .string ⟨#[]⟩] 43)).heap[w.heap.size + 1]? = some (.cells #[.string ⟨#[]⟩, .bool false, .string ⟨#[]⟩] 43 (0, 0)) := by
  have := heap_alloc_new (w.alloc (.cells #[.string p, .bool d, .string x] 43)) (.cells #[.string ⟨#[]⟩, .bool false, .string ⟨#[]⟩] 43)
  simpa using this
 have hs1 : ((w.alloc (.cells #[.string p, .bool d, .string x] 43)).alloc (.cells #[.string ⟨#[]⟩, .bool false, .string ⟨#[]⟩] 43)).heap.size = w.heap.size + 2 := by simp
 obtain ⟨W1, hW1⟩ : ∃ W1, (w.alloc (.cells #[.string p, .bool d, .string x] 43)).alloc (.cells #[.string ⟨#[]⟩, .bool false, .string ⟨#[]⟩] 43) = W1 := ⟨_, rfl⟩
 rw [hW1] at hB1 hB2 hR1 hs1 ⊢; clear hW1; have HF := hidE (fun (W' : World) (h : Below W1.heap.size W1 W') => show W'.heap[w.heap.size + 1]? = some (.cells #[.string ⟨#[]⟩, .bool false, .string ⟨#[]⟩] 43 (0, 0)) from by rw [h.block _ (by omega)]; exact hR1); refine wp_region_held_drew (S := fun W' => Below (w.heap.size + 1) (w.alloc (.cells #[.string p, .bool d, .string x] 43)) W') (by kernel_rfl) (hB2.trans (((Below.refl W1.heap.size W1).drew).mono (by omega))) (fun hS0 => ?_); have HS' := hidE (fun (W' : World) (h : Below (w.heap.size + 1) (w.alloc (.cells #[.string p, .bool d, .string x] 43)) W') => box3f (w := w) (w' := W') (a := .string p) (b := .bool d) (c := .string x) (T := 43) (by simpa using h)); have hT0 : Below W1.heap.size W1 W1.drew := (Below.refl _ W1).drew; refine wpAnyH_take (i := 0) (v := ?_) rfl (by kernel_rfl) (by kernel_rfl) (by kernel_rfl) (fun _ _ _ h => h) (Or.inl ⟨by rfl, ?_⟩) hS0 ?_
 rotate_left 1
 ·
  intro w' hw'; obtain ⟨q0, q1, q2⟩ := HS'.out w' hw'; go_simp; first | done | with_reducible rfl
 refine wpAnyH_take (i := 1) (v := ?_) rfl (by kernel_rfl) (by kernel_rfl) (by kernel_rfl) (fun _ _ _ h => h) (Or.inl ⟨by rfl, ?_⟩) hS0 ?_
 rotate_left 1
 ·
  intro w' hw'; obtain ⟨q0, q1, q2⟩ := HS'.out w' hw'; go_simp; first | done | with_reducible rfl
 refine wpAnyH_take (i := 3) (v := ?_) rfl (by kernel_rfl) (by kernel_rfl) (by kernel_rfl) (fun _ _ _ h => h) (Or.inl ⟨by rfl, ?_⟩) hS0 ?_
 rotate_left 1
 ·
  intro w' hw'; obtain ⟨q0, q1, q2⟩ := HS'.out w' hw'; go_simp; first | done | with_reducible rfl
 refine wpAnyH_take (i := 4) (v := ?_) rfl (by kernel_rfl) (by kernel_rfl) (by kernel_rfl) (fun _ _ _ h => h) (Or.inl ⟨by rfl, ?_⟩) hS0 ?_
 rotate_left 1
 ·
  intro w' hw'; obtain ⟨q0, q1, q2⟩ := HS'.out w' hw'; go_simp; first | done | with_reducible rfl
 refine wpAnyH_take (i := 5) (v := ?_) rfl (by kernel_rfl) (by kernel_rfl) (by kernel_rfl) (fun _ _ _ h => h) (Or.inl ⟨by rfl, ?_⟩) hS0 ?_
 rotate_left 1
 ·
  intro w' hw'; obtain ⟨q0, q1, q2⟩ := HS'.out w' hw'; go_simp; first | done | with_reducible rfl
 refine wpAnyH_take (i := 6) (v := ?_) rfl (by kernel_rfl) (by kernel_rfl) (by kernel_rfl) (fun _ _ _ h => h) (Or.inl ⟨by rfl, ?_⟩) hS0 ?_
 rotate_left 1
 ·
  intro w' hw'; obtain ⟨q0, q1, q2⟩ := HS'.out w' hw'; go_simp; first | done | with_reducible rfl
 refine wpAnyH_ready (rs := [2]) (by kernel_rfl) (by simp) (AllReadyH.cons rfl (fun K hK => ?_) AllReadyH.nil); go_simp; go_wp2_with (first | (go_at_call 80; refine (C1.out _).mono ?_; rintro e w1 ⟨rfl, hB1'⟩) | fail)
 have hT1 : Below W1.heap.size W1 w1 := hT0.trans (hB1'.mono hT0.size); have hS1 : Below (w.heap.size + 1) (w.alloc (.cells #[.string p, .bool d, .string x] 43)) w1 := hB2.trans (hT1.mono (by omega)); refine hK.out _ _ hS1 (fun _ => ?_); clear hK K; refine wpAnyH_ready (rs := [7]) (by kernel_rfl) (by simp) (AllReadyH.cons rfl (fun K hK => ?_) AllReadyH.nil); go_simp; go_wp2_with (first | (go_at_call 80; refine (C2.out _).mono ?_; rintro e w2 ⟨rfl, hB2'⟩) | fail)
 have hT2 : Below W1.heap.size W1 w2 := hT1.trans (hB2'.mono hT1.size); have hS2 : Below (w.heap.size + 1) (w.alloc (.cells #[.string p, .bool d, .string x] 43)) w2 := hB2.trans (hT2.mono (by omega)); refine hK.out _ _ hS2 (fun _ => ?_); clear hK K; refine wpAnyH_take (i := 8) (v := ?_) rfl (by kernel_rfl) (by kernel_rfl) (by kernel_rfl) (fun _ _ _ h => h) (Or.inl ⟨by rfl, ?_⟩) hS2 ?_
 rotate_left 1
 ·
  intro w' hw'; go_simp; first | done | with_reducible rfl
 have hz := HF.out _ hT2; obtain ⟨⟨r0, r0'⟩, r1, r2⟩ := set3_rules hz; have r1a := fun u => (r1 u).1; have r1b := fun u => (r1 u).2; have r2a := fun u x => (r2 u x).1; have r2b := fun u x => (r2 u x).2; clear r1 r2; have s3 := set3_is hz (.string p) (.bool d) (.string x); have hSf := s3.1.below hS2 (Nat.le_refl _); have hBf := s3.1.below (hB1.trans (hT2.mono hB1.size)) (by omega); have z0 := cell_of_row _ (w.heap.size + 1) 0 _ _ _ s3.2; have z1 := cell_of_row _ (w.heap.size + 1) 1 _ _ _ s3.2; have z2 := cell_of_row _ (w.heap.size + 1) 2 _ _ _ s3.2; refine wpAnyH_ready (rs := [9]) (by kernel_rfl) (by simp) (AllReadyH.cons rfl (fun K hK => ?_) AllReadyH.nil); go_simp; refine hK.out _ _ hSf (fun _ => ?_); clear hK K; refine wpAnyH_done (by kernel_rfl) ?_ _; go_wp2
 exact bodyPost_ret (v := .agg #[.string p, .bool d, .string x]) (by simp [results, Tryz.results46, go_sem, z0, z1, z2]) rfl ⟨rfl, hBf⟩
set_option maxHeartbeats 3200000 in
set_option maxRecDepth 100000 in
theorem freshMark_any (p x : ByteArray) (d : Int) (w : World) (hp : p.size ≤ 16777217) (hx : x.size ≤ 16777217) :
  Calls Tryz.prog 170 #[.agg #[.string p, .int .i64 d, .string x]] w fun r w' => r = .returned (.agg #[.string p, .int .i64 d, .string x]) ∧ Below w.heap.size w w' := by
 have C1 := hidE (fun W => clone_tx p hp W); have C2 := hidE (fun W => clone_tx x hx W); clear hp hx; go_enter Tryz.func170, Tryz.ntmps170
 go_wp2
 have hB1 : Below w.heap.size w ((w.alloc (.cells #[.string p, .int .i64 d, .string x] 99)).alloc (.cells #[.string ⟨#[]⟩, .int .i64 0, .string ⟨#[]⟩] 99)) := ((Below.refl _ w).alloc (Nat.le_refl _) _).alloc (by simp) _
 have hB2 : Below (w.heap.size + 1) (w.alloc (.cells #[.string p, .int .i64 d, .string x] 99)) ((w.alloc (.cells #[.string p, .int .i64 d, .string x] 99)).alloc (.cells #[.string ⟨#[]⟩, .int .i64 0, .string ⟨#[]⟩] 99)) := by
  have := (Below.refl _ (w.alloc (.cells #[.string p, .int .i64 d, .string x] 99))).alloc (Nat.le_refl _) (.cells #[.string ⟨#[]⟩, .int .i64 0, .string ⟨#[]⟩] 99)
  simpa using this
 have hR1 : ((w.alloc (.cells #[.string p, .int .i64 d, .string x] 99)).alloc (.cells #[.string ⟨#[]⟩, .int .i64 0, .string ⟨#[]⟩] 99)).heap[w.heap.size + 1]? = some (.cells #[.string ⟨#[]⟩, .int .i64 0, .string ⟨#[]⟩] 99 (0, 0)) := by
  have := heap_alloc_new (w.alloc (.cells #[.string p, .int .i64 d, .string x] 99)) (.cells #[.string ⟨#[]⟩, .int .i64 0, .string ⟨#[]⟩] 99)
  simpa using this
 have hs1 : ((w.alloc (.cells #[.string p, .int .i64 d, .string x] 99)).alloc (.cells #[.string ⟨#[]⟩, .int .i64 0, .string ⟨#[]⟩] 99)).heap.size = w.heap.size + 2 := by simp
 obtain ⟨W1, hW1⟩ : ∃ W1, (w.alloc (.cells #[.string p, .int .i64 d, .string x] 99)).alloc (.cells #[.string ⟨#[]⟩, .int .i64 0, .string ⟨#[]⟩] 99) = W1 := ⟨_, rfl⟩
 rw [hW1] at hB1 hB2 hR1 hs1 ⊢; clear hW1; have HF := hidE (fun (W' : World) (h : Below W1.heap.size W1 W') => show W'.heap[w.heap.size + 1]? = some (.cells #[.string ⟨#[]⟩, .int .i64 0, .string ⟨#[]⟩] 99 (0, 0)) from by rw [h.block _ (by omega)]; exact hR1); refine wp_region_held_drew (S := fun W' => Below (w.heap.size + 1) (w.alloc (.cells #[.string p, .int .i64 d, .string x] 99)) W') (by kernel_rfl) (hB2.trans (((Below.refl W1.heap.size W1).drew).mono (by omega))) (fun hS0 => ?_); have HS' := hidE (fun (W' : World) (h : Below (w.heap.size + 1) (w.alloc (.cells #[.string p, .int .i64 d, .string x] 99)) W') => box3f (w := w) (w' := W') (a := .string p) (b := .int .i64 d) (c := .string x) (T := 99) (by simpa using h)); have hT0 : Below W1.heap.size W1 W1.drew := (Below.refl _ W1).drew; refine wpAnyH_take (i := 0) (v := ?_) rfl (by kernel_rfl) (by kernel_rfl) (by kernel_rfl) (fun _ _ _ h => h) (Or.inl ⟨by rfl, ?_⟩) hS0 ?_
 rotate_left 1
 ·
  intro w' hw'; obtain ⟨q0, q1, q2⟩ := HS'.out w' hw'; go_simp; first | done | with_reducible rfl
 refine wpAnyH_take (i := 1) (v := ?_) rfl (by kernel_rfl) (by kernel_rfl) (by kernel_rfl) (fun _ _ _ h => h) (Or.inl ⟨by rfl, ?_⟩) hS0 ?_
 rotate_left 1
 ·
  intro w' hw'; obtain ⟨q0, q1, q2⟩ := HS'.out w' hw'; go_simp; first | done | with_reducible rfl
 refine wpAnyH_take (i := 3) (v := ?_) rfl (by kernel_rfl) (by kernel_rfl) (by kernel_rfl) (fun _ _ _ h => h) (Or.inl ⟨by rfl, ?_⟩) hS0 ?_
 rotate_left 1
 ·
  intro w' hw'; obtain ⟨q0, q1, q2⟩ := HS'.out w' hw'; go_simp; first | done | with_reducible rfl
 refine wpAnyH_take (i := 4) (v := ?_) rfl (by kernel_rfl) (by kernel_rfl) (by kernel_rfl) (fun _ _ _ h => h) (Or.inl ⟨by rfl, ?_⟩) hS0 ?_
 rotate_left 1
 ·
  intro w' hw'; obtain ⟨q0, q1, q2⟩ := HS'.out w' hw'; go_simp; first | done | with_reducible rfl
 refine wpAnyH_take (i := 5) (v := ?_) rfl (by kernel_rfl) (by kernel_rfl) (by kernel_rfl) (fun _ _ _ h => h) (Or.inl ⟨by rfl, ?_⟩) hS0 ?_
 rotate_left 1
 ·
  intro w' hw'; obtain ⟨q0, q1, q2⟩ := HS'.out w' hw'; go_simp; first | done | with_reducible rfl
 refine wpAnyH_take (i := 6) (v := ?_) rfl (by kernel_rfl) (by kernel_rfl) (by kernel_rfl) (fun _ _ _ h => h) (Or.inl ⟨by rfl, ?_⟩) hS0 ?_
 rotate_left 1
 ·
  intro w' hw'; obtain ⟨q0, q1, q2⟩ := HS'.out w' hw'; go_simp; first | done | with_reducible rfl
 refine wpAnyH_ready (rs := [2]) (by kernel_rfl) (by simp) (AllReadyH.cons rfl (fun K hK => ?_) AllReadyH.nil); go_simp; go_wp2_with (first | (go_at_call 80; refine (C1.out _).mono ?_; rintro e w1 ⟨rfl, hB1'⟩) | fail)
 have hT1 : Below W1.heap.size W1 w1 := hT0.trans (hB1'.mono hT0.size); have hS1 : Below (w.heap.size + 1) (w.alloc (.cells #[.string p, .int .i64 d, .string x] 99)) w1 := hB2.trans (hT1.mono (by omega)); refine hK.out _ _ hS1 (fun _ => ?_); clear hK K; refine wpAnyH_ready (rs := [7]) (by kernel_rfl) (by simp) (AllReadyH.cons rfl (fun K hK => ?_) AllReadyH.nil); go_simp; go_wp2_with (first | (go_at_call 80; refine (C2.out _).mono ?_; rintro e w2 ⟨rfl, hB2'⟩) | fail)
 have hT2 : Below W1.heap.size W1 w2 := hT1.trans (hB2'.mono hT1.size); have hS2 : Below (w.heap.size + 1) (w.alloc (.cells #[.string p, .int .i64 d, .string x] 99)) w2 := hB2.trans (hT2.mono (by omega)); refine hK.out _ _ hS2 (fun _ => ?_); clear hK K; refine wpAnyH_take (i := 8) (v := ?_) rfl (by kernel_rfl) (by kernel_rfl) (by kernel_rfl) (fun _ _ _ h => h) (Or.inl ⟨by rfl, ?_⟩) hS2 ?_
 rotate_left 1
 ·
  intro w' hw'; go_simp; first | done | with_reducible rfl
 have hz := HF.out _ hT2; obtain ⟨⟨r0, r0'⟩, r1, r2⟩ := set3_rules hz; have r1a := fun u => (r1 u).1; have r1b := fun u => (r1 u).2; have r2a := fun u x => (r2 u x).1; have r2b := fun u x => (r2 u x).2; clear r1 r2; have s3 := set3_is hz (.string p) (.int .i64 d) (.string x); have hSf := s3.1.below hS2 (Nat.le_refl _); have hBf := s3.1.below (hB1.trans (hT2.mono hB1.size)) (by omega); have z0 := cell_of_row _ (w.heap.size + 1) 0 _ _ _ s3.2; have z1 := cell_of_row _ (w.heap.size + 1) 1 _ _ _ s3.2; have z2 := cell_of_row _ (w.heap.size + 1) 2 _ _ _ s3.2; refine wpAnyH_ready (rs := [9]) (by kernel_rfl) (by simp) (AllReadyH.cons rfl (fun K hK => ?_) AllReadyH.nil); go_simp; refine hK.out _ _ hSf (fun _ => ?_); clear hK K; refine wpAnyH_done (by kernel_rfl) ?_ _; go_wp2
 exact bodyPost_ret (v := .agg #[.string p, .int .i64 d, .string x]) (by simp [results, Tryz.results170, go_sem, z0, z1, z2]) rfl ⟨rfl, hBf⟩
end Go.Proofs.YteppodogghjfhaaGreatDoor
namespace Go.Proofs.YteppodogghjfhaaGreatDoor.Mk
open Go.RowKit Go.Lib
set_option maxHeartbeats 1600000 in
set_option maxRecDepth 100000 in
theorem freshList_any (w : World) (a : Option Addr) (g o cap : Nat) (es : List E) (hn : es.length ≤ 1000) (hz : ∀ e ∈ es, e.p.size ≤ 16777216 ∧ e.x.size ≤ 16777216) (ha : 0 < es.length → a = some ⟨g, o, none⟩) (hE : Ents w g o es) :
  Calls Tryz.prog 169 #[.slice a es.length cap, .func (.func 170) #[] #[]] w fun r w' => ∃ v, r = .returned v ∧ OwnE w' w.heap.size v es ∧ Below w.heap.size w w' := by
 obtain ⟨i0, hi, hx0⟩ := Option.map_eq_some_iff.1 Tryz.infoE'; simp only [Prod.mk.injEq] at hx0; obtain ⟨hz0, hz1, hz2⟩ := hx0; have HE := hidE hE; have HZ := hidE hz; clear hE hz; go_enter Tryz.func169, Tryz.ntmps169
 go_wp2
 go_loopw [5, 10] (fun tv iv wl => ∃ j : Nat, j ≤ es.length ∧ iv = .int .i64 j ∧ OwnE wl w.heap.size tv (es.take j) ∧ Hid (Below w.heap.size w wl)) (fun _ iv _ => es.length - (RowKit.intOf iv).toNat)
 case atStart => exact ⟨0, Nat.zero_le _, rfl, World.ownsRow_nil _ _ _ _, Below.refl _ _⟩
 case round =>
  obtain ⟨j, hj, rfl, hown, HB⟩ := hrel; by_cases hlt : j < es.length
  ·
   obtain rfl := ha (by omega); obtain ⟨c0, c1, c2⟩ := (HE.out.below HB.out) j hlt; have hz := HZ.out es[j] (List.getElem_mem hlt); have HT := hidE (show es.take (j + 1) = es.take j ++ [es[j]] from List.take_succ_eq_append_getElem hlt); obtain ⟨p, hp⟩ : ∃ p, es[j].p = p := ⟨_, rfl⟩
   obtain ⟨d, hd⟩ : ∃ d, es[j].d = d := ⟨_, rfl⟩
   obtain ⟨x, hx⟩ : ∃ x, es[j].x = x := ⟨_, rfl⟩
   have HX : es[j] = ⟨p, d, x⟩ := by rw [← hp, ← hd, ← hx]
   rw [hp] at c0 hz; rw [hd] at c1; rw [hx] at c2 hz; rw [HX] at HT; clear hp hd hx HX; have hlen : (es.take j).length ≤ 1000 := by rw [List.length_take]; omega
   obtain ⟨ts, hts⟩ : ∃ ts, es.take j = ts := ⟨_, rfl⟩
   rw [hts] at hown hlen HT; clear hts; have HBa := hidE (HB.out.alloc HB.out.size (.cells #[.string p, .int .i64 d, .string x] 99)); have hown1 := hown.alloc (.cells #[.string p, .int .i64 d, .string x] 99); have HC := hidE (fun W => freshMark_any p x d W (by omega) (by omega)); clear hown HB
   go_wp2_with (first
    | (go_at_call 170; refine (HC.out _).mono ?_; rintro e w1 ⟨rfl, hB1⟩; have HB1 := hidE (HBa.out.trans (hB1.mono HBa.out.size)); have hown2 : OwnE w1 w.heap.size _ ts := OwnE.below hown1 hB1; have hs1 := HB1.out.size; have hc1 := cells_new w1 ⟨p, d, x⟩)
    | (at_builtin; refine wpList_append_own _ rfl (.tmp 14) (.tmp 18) 31 rfl w.heap.size 99 i0 _ 3 40 Tryz.underlying31 hi hz0 hz1 hz2 rfl (by decide) _ ts.length (rowE ts) rfl (hown2.alloc _) ⟨w1.heap.size, 0, none⟩ 1 1 (cellsE ⟨p, d, x⟩) rfl rfl hc1 rowE_one' (by unfold maxLen; omega) (by omega) (by simp; omega) ?_; intro v4 w4 hown4 hgrow4 _)
    | fail)
   have HB4 := hidE ((HB1.out.alloc hs1 _).grown hgrow4 (by simp; omega) (fun k hk => (hown2.lt k hk).1)); have hown5 := OwnE.push hown4; clear hown4 hgrow4 HB1 hown2; go_roundw
   case rel => exact ⟨j + 1, by omega, by go_num, by rw [HT.out]; exact hown5, HB4⟩
   case measure => simp [RowKit.intOf]; omega
  ·
   go_wp2
   go_ret
   rw [List.take_of_length_le (by omega)] at hown; exact ⟨_, rfl, hown, HB.out⟩
end Go.Proofs.YteppodogghjfhaaGreatDoor.Mk
