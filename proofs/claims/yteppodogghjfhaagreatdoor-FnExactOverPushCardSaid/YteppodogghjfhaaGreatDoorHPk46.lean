import Derived.Test.YteppodogghjfhaaGreatDoorHOvOf
import Derived.Test.YteppodogghjfhaaGreatDoorHPk45
import Derived.Test.YteppodogghjfhaaGreatDoorHPk41
namespace Go.Proofs.YteppodogghjfhaaGreatDoor.Ly
open Go.RowKit Go.Lib
end Go.Proofs.YteppodogghjfhaaGreatDoor.Ly
namespace Go.Proofs.YteppodogghjfhaaGreatDoor.Ov
open Go.RowKit Go.Lib Go.Sort
def jB : List (List Mk.E) → List Mk.E → Bool
 | [], _ => true
 | l :: r, a => Mk.jnB l a && jB r (Mk.jnE l a)
def jE : List (List Mk.E) → List Mk.E → List Mk.E
 | [], a => a
 | l :: r, a => jE r (Mk.jnE l a)
theorem drop_at {x : O} {k : Nat} (h : k + 1 < x.l.length) : (x.l.drop 1)[k]'(by rw [List.length_drop]; omega) = x.l[k + 1] := by
 rw [List.getElem_drop]; congr 1; omega
def flL (ls : List (List Mk.E)) : List (List Mk.E) := if (decide (2 ≤ ls.length) && jB (ls.drop 1) (ls.headD [])) = true then [jE (ls.drop 1) (ls.headD [])] else ls
def FlU (w w' : World) (v u : Value) (ls : List (List Mk.E)) : Prop := (u = v ∧ flL ls = ls) ∨ ∃ n m l, w.heap.size ≤ n ∧ u = .slice (some ⟨n, 0, none⟩) 1 1 ∧ w'.cell? ⟨n, 0, none⟩ = some m ∧ RM w' m l ∧ flL ls = [l]
theorem C5.other {W : World} {b c j : Nat} {u0 u1 u2 u3 u4 : Value} (h : C5 W c u0 u1 u2 u3 u4) (hc : c ≠ b) (y : Value) : C5 (W.setCell ⟨b, j, none⟩ y) c u0 u1 u2 u3 u4 :=
 ⟨(cOther _ _ _ _ _ _ hc).trans h.c0, (cOther _ _ _ _ _ _ hc).trans h.c1, (cOther _ _ _ _ _ _ hc).trans h.c2, (cOther _ _ _ _ _ _ hc).trans h.c3, (cOther _ _ _ _ _ _ hc).trans h.c4, by rw [World.frozen?_setCell]; exact h.f0, by rw [World.frozen?_setCell]; exact h.f1, by rw [World.frozen?_setCell]; exact h.f2, by rw [World.frozen?_setCell]; exact h.f3, by rw [World.frozen?_setCell]; exact h.f4⟩
theorem FlU.ex {w w' : World} {u : Value} {a : Option Addr} {c : Nat} {ls : List (List Mk.E)} (h : FlU w w' (.slice a ls.length c) u ls) : ∃ a' c', u = .slice a' (flL ls).length c' := by
 rcases h with ⟨rfl, e⟩ | ⟨n, m, l, -, rfl, -, -, e⟩
 ·
  rw [e]; exact ⟨_, _, rfl⟩
 ·
  rw [e]; exact ⟨_, _, rfl⟩
open Go.Maps
def PuU (w w' : World) (g1 o1 n : Nat) (v2 u : Value) : Prop := ∃ m c, ∃ us : List Value, w.heap.size ≤ m ∧ u = .slice (some ⟨m, 0, none⟩) (n + 1) c ∧ n + 1 ≤ c ∧ us.length = n ∧
 (∀ i (h : i < us.length), w.cell? ⟨g1, o1 + i, none⟩ = some us[i]) ∧ (∀ i (h : i < us.length), w'.cell? ⟨m, i, none⟩ = some us[i]) ∧ w'.cell? ⟨m, n, none⟩ = some v2
set_option maxHeartbeats 1000000 in
set_option maxRecDepth 100000 in
theorem all_any (w : World) (ls : List (List Mk.E)) (p0 p1 p2 p3 p4 : Option Addr) (n0 n2 n3 n4 d0 d1 d2 d3 d4 : Nat) (hls : ls.length ≤ 900) (g1 o1 : Nat) (ha1 : 0 < ls.length → p1 = some ⟨g1, o1, none⟩) (hL : ∀ i (h : i < ls.length), ∃ u, w.cell? ⟨g1, o1 + i, none⟩ = some u ∧ RM w u ls[i]) :
  Calls Tryz.prog 87 #[.agg #[.slice p0 n0 d0, .slice p1 ls.length d1, .slice p2 n2 d2, .slice p3 n3 d3, .slice p4 n4 d4]] w fun r w' => ∃ u, r = .returned u ∧ PuU w w' g1 o1 ls.length (.slice p2 n2 d2) u ∧ Below w.heap.size w w' := by
 obtain ⟨us, hul, hus⟩ : ∃ us : List Value, us.length = ls.length ∧ ∀ i (h : i < us.length), w.cell? ⟨g1, o1 + i, none⟩ = some us[i] ∧ us[i].oneCell' = true := by
  refine ⟨(List.range ls.length).map (fun i => (w.cell? ⟨g1, o1 + i, none⟩).getD undef), by simp, fun i hi => ?_⟩; have hi2 : i < ls.length := by simpa using hi
  obtain ⟨u, c, ⟨_, _, _, _, rfl, _⟩⟩ := hL i hi2; simp only [List.getElem_map, List.getElem_range, c, Option.getD_some]; exact ⟨trivial, rfl⟩
 obtain ⟨V1, hV1⟩ : ∃ V1, w.alloc (.cells #[.slice p0 n0 d0, .slice p1 ls.length d1, .slice p2 n2 d2, .slice p3 n3 d3, .slice p4 n4 d4] 67) = V1 := ⟨_, rfl⟩
 have hs1 : V1.heap.size = w.heap.size + 1 := by rw [← hV1]; simp
 obtain ⟨V2, hV2⟩ : ∃ V2, V1.alloc (.cells #[.slice p2 n2 d2] 31) = V2 := ⟨_, rfl⟩
 have hs2 : V2.heap.size = w.heap.size + 2 := by rw [← hV2]; simp [hs1]
 obtain ⟨W0, hW0⟩ : ∃ W0, V2.alloc (.cells #[.slice p1 ls.length d1, .slice (some ⟨w.heap.size + 1, 0, none⟩) 1 1] 30) = W0 := ⟨_, rfl⟩
 have hb : Below w.heap.size w W0 := by rw [← hW0, ← hV2, ← hV1]; exact (((Below.refl _ w).alloc (Nat.le_refl _) _).alloc (by simp) _).alloc (by simp; omega) _
 have hz0 : w.heap.size ≤ W0.heap.size := hb.size; have q0 : W0.cell? ⟨w.heap.size + 2, 0, none⟩ = some (.slice p1 ls.length d1) := by rw [← hW0, ← hs2]; simp
 have q1 : W0.cell? ⟨w.heap.size + 2, 1, none⟩ = some (.slice (some ⟨w.heap.size + 1, 0, none⟩) 1 1) := by rw [← hW0, ← hs2]; simp
 have q2 : W0.cell? ⟨w.heap.size + 1, 0, none⟩ = some (.slice p2 n2 d2) := by
  rw [← hW0]; refine cellOn _ ?_; rw [← hV2, ← hs1]; simp
 have HC := hidE (concatLL_any W0 (w.heap.size + 2) g1 o1 (w.heap.size + 1) d1 p1 us (.slice p2 n2 d2) (by omega) (fun u hu => by
   obtain ⟨i, hi, rfl⟩ := List.getElem_of_mem hu; exact (hus i hi).2) rfl (by rw [hul]; exact q0) (fun h => ha1 (by omega))
   (fun i hi => (hb.cell (p := ⟨g1, o1 + i, none⟩) (World.block_lt_of_cell? w ⟨g1, o1 + i, none⟩ (hus i hi).1)).trans (hus i hi).1) q1 q2)
 clear q0 q1 q2; have z1 : V1.cell? ⟨w.heap.size, 1, none⟩ = some (.slice p1 ls.length d1) := by rw [← hV1]; simp
 have z2 : V1.cell? ⟨w.heap.size, 2, none⟩ = some (.slice p2 n2 d2) := by rw [← hV1]; simp
 have HB := hidE hb; have HU := hidE hus; clear hus hL ha1 hb; go_enter Tryz.func87, Tryz.ntmps87
 go_wp2_with fail
 clear hW0 hV1 hV2 z1 z2; refine HC.out.mono ?_; rintro e w1 ⟨v, rfl, hO, hB1⟩; have hc := fun (g : Nat) (hg : v.ownBlock = some g) => World.ownsRow.cells hO hg
 have hP : PuU w w1 g1 o1 ls.length (.slice p2 n2 d2) v := by
  obtain ⟨q0, ⟨e1, e0⟩ | ⟨m, cap, cur, rfl, hbm, hg, hnc, -⟩⟩ := hO
  ·
   simp at q0 e0
  ·
   refine ⟨m, cap, us, by omega, by rw [hul], by omega, hul, fun i hi => (HU.out i hi).1, fun i hi => ?_, ?_⟩
   ·
    have := hc m rfl i us[i] (by rw [List.getElem?_append_left hi, List.getElem?_eq_getElem hi]); rw [add0, Nat.zero_add] at this; exact this
   ·
    have := hc m rfl ls.length (.slice p2 n2 d2) (by rw [List.getElem?_append_right (by omega)]; simp [hul]); rw [add0, Nat.zero_add] at this; exact this
 have HP := hidE hP; have HB1 := hidE (B3 HB.out hB1); have hslice : ∃ a n c, v = .slice a n c := by obtain ⟨m, c, us, _, e, _⟩ := hP; exact ⟨_, _, _, e⟩
 obtain ⟨va, vn, vc, rfl⟩ := hslice; clear hO hB1 hc hP; go_wp2
 go_ret
 exact ⟨_, rfl, HP.out, HB1.out⟩
def puO (x : O) : O := if okB x = true then (if x.l.length = 4 then x else ⟨x.b, x.l ++ [x.u], []⟩) else ⟨[], [], []⟩
def puB (x : O) : Bool := okB x && !decide (x.l.length = 4)
def puV (x : O) : Value := if okB x = true then (if x.l.length = 4 then endV 8 else .nilIface) else endV 1
theorem puV_is (x : O) : (puB x = true ∧ puV x = .nilIface) ∨ (puB x = false ∧ ∃ k, puV x = endV k) := by
 unfold puB puV; cases hk : okB x with
 | false => exact .inr ⟨rfl, 1, rfl⟩
 | true =>
  by_cases h4 : x.l.length = 4
  ·
   exact .inr ⟨by rw [decide_eq_true h4]; rfl, 8, by rw [if_pos rfl, if_pos h4]⟩
  ·
   exact .inl ⟨by rw [decide_eq_false h4]; rfl, by rw [if_pos rfl, if_neg h4]⟩
theorem Win.cellN {W W' : World} {b g i : Nat} {v : Value} (k : Win b (b + 1) W W') (h : W.cell? ⟨g, i, none⟩ = some v) (hg : g ≠ b) : W'.cell? ⟨g, i, none⟩ = some v := k.cell h (by omega)
theorem PuU.rl {U w2 X : World} {g1 o1 b : Nat} {v2 u : Value} {ls : List (List Mk.E)} {up : List Mk.E} (h : PuU U w2 g1 o1 ls.length v2 u) (hb : b < U.heap.size) (k : Win b (b + 1) w2 X) (hl : ls.length ≤ 900)
  (hL : ∀ i (hi : i < ls.length), ∃ m, U.cell? ⟨g1, o1 + i, none⟩ = some m ∧ RM X m ls[i]) (hu : RM X v2 up) : RL X u (ls ++ [up]) := by
 obtain ⟨m, c, us, hm, rfl, hc, hul, h1, h2, h3⟩ := h; refine ⟨_, m, 0, c, by rw [List.length_append]; rfl, by rw [List.length_append]; simp; omega, by rw [List.length_append]; exact hc, fun _ => rfl, fun i hi => ?_⟩; rw [List.length_append, List.length_singleton] at hi; rw [Nat.zero_add]; by_cases hlt : i < ls.length
 ·
  obtain ⟨y, c1, c2⟩ := hL i hlt; refine ⟨y, ?_, by rw [List.getElem_append_left hlt]; exact c2⟩; have e1 := h1 i (by omega); rw [c1] at e1; obtain rfl := Option.some.inj e1; exact k.cellN (h2 i (by omega)) (by omega)
 ·
  obtain rfl : i = ls.length := by omega
  refine ⟨v2, k.cellN h3 (by omega), ?_⟩; rw [List.getElem_append_right (Nat.le_refl _)]
  simpa using hu
set_option maxHeartbeats 1000000 in
set_option maxRecDepth 100000 in
theorem push_no (w : World) (n1 : Nat) (p0 p1 p2 p3 p4 : Option Addr) (n0 n2 n3 n4 d0 d1 d2 d3 d4 : Nat) (h4 : n1 = 4) :
  Calls Tryz.prog 63 #[.agg #[.slice p0 n0 d0, .slice p1 n1 d1, .slice p2 n2 d2, .slice p3 n3 d3, .slice p4 n4 d4]] w fun r w' => r = .returned (.tuple #[.agg #[(.slice p0 n0 d0), .slice p1 n1 d1, (.slice p2 n2 d2), (.slice p3 n3 d3), (.slice p4 n4 d4)], endV 8]) ∧ Below w.heap.size w w' := by
 subst h4; obtain ⟨V, hV⟩ : ∃ V, w.alloc (.cells #[.slice p0 n0 d0, .slice p1 4 d1, .slice p2 n2 d2, .slice p3 n3 d3, .slice p4 n4 d4] 67) = V := ⟨_, rfl⟩
 obtain ⟨W0, hW0⟩ : ∃ W0, V.alloc (.cells #[.slice none 0 0, .slice none 0 0, .slice none 0 0, .slice none 0 0, .slice none 0 0] 67) = W0 := ⟨_, rfl⟩
 have hVs : V.heap.size = w.heap.size + 1 := by rw [← hV]; simp
 have hVb : Below w.heap.size w V := by rw [← hV]; exact (Below.refl _ w).alloc (Nat.le_refl _) _
 have hb1 : Below V.heap.size V W0 := by rw [← hW0]; exact (Below.refl _ V).alloc (Nat.le_refl _) _
 have HB := hidE (B3 hVb hb1); obtain ⟨k0, k1, k2, k3, k4, f0, f1, f2, f3, f4⟩ := (show C5 V w.heap.size (.slice p0 n0 d0) (.slice p1 4 d1) (.slice p2 n2 d2) (.slice p3 n3 d3) (.slice p4 n4 d4) from by rw [← hV]; exact C5.new _ _ _ _ _ _ _).below hb1; obtain ⟨z0, z1, z2, z3, z4, y0, y1, y2, y3, y4⟩ := (show C5 W0 (w.heap.size + 1) (.slice none 0 0) (.slice none 0 0) (.slice none 0 0) (.slice none 0 0) (.slice none 0 0) from by rw [← hW0, ← hVs]; exact C5.new _ _ _ _ _ _ _)
 clear hVb hb1; go_enter Tryz.func63, Tryz.ntmps63
 go_wp2
 refine atSet5 (C := bodyPost Tryz.prog Tryz.f63 _ _ _) z0 z1 z2 z3 z4 ?_; intro Wf s0 s1 s2 s3 s4 hW; have hbf := hW.belowE HB.out HB.out.size (by omega); exact bodyPost_ret (v := .tuple #[.agg #[.slice p0 n0 d0, .slice p1 4 d1, .slice p2 n2 d2, .slice p3 n3 d3, .slice p4 n4 d4], endV 8]) (by unfold endV; simp [results, Tryz.f63, go_sem, s0, s1, s2, s3, s4]) rfl ⟨rfl, hbf⟩
set_option maxHeartbeats 2000000 in
set_option maxRecDepth 100000 in
theorem push_yes (w : World) (ls : List (List Mk.E)) (p0 p1 p2 p3 p4 : Option Addr) (n0 n2 n3 n4 d0 d1 d2 d3 d4 : Nat) (hls : ls.length ≤ 900) (h4 : ls.length ≠ 4) (g1 o1 : Nat) (ha1 : 0 < ls.length → p1 = some ⟨g1, o1, none⟩) (hL : ∀ i (h : i < ls.length), ∃ u, w.cell? ⟨g1, o1 + i, none⟩ = some u ∧ RM w u ls[i]) :
  Calls Tryz.prog 63 #[.agg #[.slice p0 n0 d0, .slice p1 ls.length d1, .slice p2 n2 d2, .slice p3 n3 d3, .slice p4 n4 d4]] w fun r w' => ∃ u, r = .returned (.tuple #[.agg #[(.slice p0 n0 d0), u, .slice none 0 0, .slice p4 n4 d4, .slice p4 n4 d4], .nilIface]) ∧ PuU w w' g1 o1 ls.length (.slice p2 n2 d2) u ∧ Below w.heap.size w w' := by
 obtain ⟨V, hV⟩ : ∃ V, w.alloc (.cells #[.slice p0 n0 d0, .slice p1 ls.length d1, .slice p2 n2 d2, .slice p3 n3 d3, .slice p4 n4 d4] 67) = V := ⟨_, rfl⟩
 obtain ⟨W0, hW0⟩ : ∃ W0, V.alloc (.cells #[.slice none 0 0, .slice none 0 0, .slice none 0 0, .slice none 0 0, .slice none 0 0] 67) = W0 := ⟨_, rfl⟩
 have hVs : V.heap.size = w.heap.size + 1 := by rw [← hV]; simp
 have hVb : Below w.heap.size w V := by rw [← hV]; exact (Below.refl _ w).alloc (Nat.le_refl _) _
 have hb1 : Below V.heap.size V W0 := by rw [← hW0]; exact (Below.refl _ V).alloc (Nat.le_refl _) _
 have hz0 : W0.heap.size = w.heap.size + 2 := by rw [← hW0]; simp [hVs]
 have hB := B3 hVb hb1; have HX := hidE (fun (W : World) (hb : Below W0.heap.size W0 W) => (show C5 V w.heap.size (.slice p0 n0 d0) (.slice p1 ls.length d1) (.slice p2 n2 d2) (.slice p3 n3 d3) (.slice p4 n4 d4) from by rw [← hV]; exact C5.new _ _ _ _ _ _ _).below (B3 hb1 hb)); have HZ := hidE (fun (W : World) (hb : Below W0.heap.size W0 W) => (show C5 W0 (w.heap.size + 1) (.slice none 0 0) (.slice none 0 0) (.slice none 0 0) (.slice none 0 0) (.slice none 0 0) from by rw [← hW0, ← hVs]; exact C5.new _ _ _ _ _ _ _).below hb)
 have HA := hidE (all_any W0 ls p0 p1 p2 p3 p4 n0 n2 n3 n4 d0 d1 d2 d3 d4 hls g1 o1 ha1 (fun i h => by
  obtain ⟨u, c, r⟩ := hL i h
  exact ⟨u, (hB.cell (p := ⟨g1, o1 + i, none⟩) (World.block_lt_of_cell? w ⟨g1, o1 + i, none⟩ c)).trans c, r.below hB⟩))
 have HL := hidE hL; have HB := hidE hB; have hn4 : ¬ ((ls.length : Nat) : Int) = 4 := by omega
 have hn4b : (((ls.length : Nat) : Int) == 4) = false := by simpa using hn4
 clear hL hVb hb1 hB; obtain ⟨k0, k1, k2, k3, k4, f0, f1, f2, f3, f4⟩ := HX.out W0 (Below.refl _ _); go_enter Tryz.func63, Tryz.ntmps63
 go_wp2_with fail
 clear hV hW0 k0 k1 k2 k3 k4 f0 f1 f2 f3 f4; refine HA.out.mono ?_; rintro e w1 ⟨u, rfl, hP, hB1⟩
 have hPU : PuU w w1 g1 o1 ls.length (.slice p2 n2 d2) u := by
  obtain ⟨m, c, us, q1, q2, q3, q4, q5, q6, q7⟩ := hP; refine ⟨m, c, us, by omega, q2, q3, q4, fun i hi => ?_, q6, q7⟩; obtain ⟨y, c1, _⟩ := HL.out i (by omega); have e1 := (HB.out.cell (p := ⟨g1, o1 + i, none⟩) (World.block_lt_of_cell? w ⟨g1, o1 + i, none⟩ c1)).trans c1; exact c1.trans (e1.symm.trans (q5 i hi))
 have hslice : ∃ a n c, u = .slice a n c := by obtain ⟨m, c, us, _, e, _⟩ := hP; exact ⟨_, _, _, e⟩
 obtain ⟨ua, un, uc, rfl⟩ := hslice; obtain ⟨k0, k1, k2, k3, k4, f0, f1, f2, f3, f4⟩ := HX.out w1 hB1; obtain ⟨z0, z1, z2, z3, z4, y0, y1, y2, y3, y4⟩ := HZ.out w1 hB1; have HP := hidE hPU; have HB1 := hidE (B3 HB.out hB1); have hz1 := hB1.size
 have hPm : Hid (∃ m c, Value.slice ua un uc = .slice (some ⟨m, 0, none⟩) (ls.length + 1) c ∧ w.heap.size + 2 ≤ m) := by
  obtain ⟨m, c, us, q1, q2, -⟩ := hP; exact ⟨m, c, q2, by omega⟩
 clear hP hPU hB1; go_wp2
 obtain ⟨X0, hX0⟩ : ∃ X0, (((w1.setCell ⟨w.heap.size, 1, none⟩ (.slice ua un uc)).setCell ⟨w.heap.size, 2, none⟩ (.slice none 0 0)).setCell ⟨w.heap.size, 3, none⟩ (.slice p4 n4 d4)) = X0 := ⟨_, rfl⟩
 rw [hX0]
 have hc5 : C5 X0 (w.heap.size + 1) (.slice none 0 0) (.slice none 0 0) (.slice none 0 0) (.slice none 0 0) (.slice none 0 0) := by
  rw [← hX0]; have h : C5 w1 (w.heap.size + 1) (.slice none 0 0) (.slice none 0 0) (.slice none 0 0) (.slice none 0 0) (.slice none 0 0) := ⟨z0, z1, z2, z3, z4, y0, y1, y2, y3, y4⟩
  exact ((h.other (by omega) _).other (by omega) _).other (by omega) _
 have hbX : Below w.heap.size w X0 := by
  rw [← hX0]; exact ((HB1.out.setCell (p := ⟨w.heap.size, 1, none⟩) (Nat.le_refl _) _).setCell (p := ⟨w.heap.size, 2, none⟩) (Nat.le_refl _) _).setCell (p := ⟨w.heap.size, 3, none⟩) (Nat.le_refl _) _
 have hcx : ∀ m i, m ≠ w.heap.size → X0.cell? ⟨m, i, none⟩ = w1.cell? ⟨m, i, none⟩ := fun m i hm => by
  rw [← hX0, cOther _ _ _ _ _ _ hm, cOther _ _ _ _ _ _ hm, cOther _ _ _ _ _ _ hm]
 clear z0 z1 z2 z3 z4 y0 y1 y2 y3 y4 k0 k1 k2 k3 k4 f0 f1 f2 f3 f4; obtain ⟨z0, z1, z2, z3, z4, -, -, -, -, -⟩ := hc5; refine atSet5 (C := bodyPost Tryz.prog Tryz.f63 _ _ _) z0 z1 z2 z3 z4 ?_; intro Wf s0 s1 s2 s3 s4 hW; have hbf := hW.belowE hbX hbX.size (by omega)
 have hPf : PuU w Wf g1 o1 ls.length (.slice p2 n2 d2) (.slice ua un uc) := by
  obtain ⟨m, c, us, q1, q2, q3, q4, q5, q6, q7⟩ := HP.out; obtain ⟨m', c', e', hm'⟩ := hPm.out; rw [q2] at e'
  injection e' with e1 _ _
  injection e1 with e1
  injection e1 with e1 _ _
  exact ⟨m, c, us, q1, q2, q3, q4, q5, fun i hi => hW.cellN ((hcx m i (by omega)).trans (q6 i hi)) (by omega), hW.cellN ((hcx m _ (by omega)).trans q7) (by omega)⟩
 exact bodyPost_ret (v := .tuple #[.agg #[.slice p0 n0 d0, .slice ua un uc, .slice none 0 0, .slice p4 n4 d4, .slice p4 n4 d4], .nilIface]) (by simp [results, Tryz.f63, go_sem, s0, s1, s2, s3, s4]) rfl ⟨_, rfl, hPf, hbf⟩
theorem RM.nil_ (w : World) : RM w (.slice none 0 0) [] := ⟨none, 0, 0, 0, rfl, Nat.zero_le _, Nat.zero_le _, (fun e he => (by cases he)), (fun h => absurd h (Nat.lt_irrefl 0)), (fun i hi => absurd hi (Nat.not_lt_zero i))⟩
set_option maxHeartbeats 4000000 in
set_option maxRecDepth 100000 in
theorem overTurn_push (w : World) (v : Value) (x : O) (ae : Int → Addr) (hErr : Errs2 w ae) (h : Lie w v x) :
  Calls Tryz.prog 57 #[v, .func (.func 63) #[] #[]] w fun r w' => ∃ u, r = .returned (.tuple #[u, puV x]) ∧ OO w.heap.size w'.heap.size w' u (puO x) ∧ Below w.heap.size w w' := by
 have hL := h; obtain ⟨v0, v1, v2, rfl, h0, h1, h2⟩ := h; obtain ⟨a0, g0, o0, c0, rfl, -⟩ := id h0; obtain ⟨a1, g1, o1, c1, rfl, -⟩ := id h1; obtain ⟨a2, g2, o2, c2, rfl, -⟩ := id h2; obtain ⟨V, hV⟩ : ∃ V, w.alloc (.cells #[.slice a0 x.b.length c0, .slice a1 x.l.length c1, .slice a2 x.u.length c2] 33) = V := ⟨_, rfl⟩
 have hX : C3 V w.heap.size (.slice a0 x.b.length c0) (.slice a1 x.l.length c1) (.slice a2 x.u.length c2) := by rw [← hV]; exact C3.new _ _ _ _ _
 have hVs : V.heap.size = w.heap.size + 1 := by rw [← hV]; simp
 have hVb : Below w.heap.size w V := by rw [← hV]; exact (Below.refl _ w).alloc (Nat.le_refl _) _
 obtain ⟨W0, hW0⟩ : ∃ W0, V.alloc (.cells #[.slice none 0 0, .slice none 0 0, .slice none 0 0] 33) = W0 := ⟨_, rfl⟩
 have hb1 : Below V.heap.size V W0 := by rw [← hW0]; exact (Below.refl _ V).alloc (Nat.le_refl _) _
 have hz0 : W0.heap.size = w.heap.size + 2 := by rw [← hW0]; simp [hVs]
 have hR : W0.heap[w.heap.size + 1]? = some (.cells #[.slice none 0 0, .slice none 0 0, .slice none 0 0] 33 (0, 0)) := by rw [← hW0, ← hVs]; exact heap_alloc_new V _
 have HX := hidE (hX.below hb1); have HB := hidE (B3 hVb hb1); have HR := hidE hR; have HO := hidE (overOf_any W0 _ x ae (hErr.below (B3 hVb hb1)) (hL.below (B3 hVb hb1)))
 have HSM := hidE (fun l (hl : l ∈ x.l) => (show SmM l from by
  obtain ⟨_, _, _, _, _, _, _, _, q⟩ := h1; obtain ⟨i, hi, rfl⟩ := List.getElem_of_mem hl; obtain ⟨u, _, ⟨_, _, _, _, _, _, _, q3, _⟩⟩ := q i hi
  exact q3))
 clear h0 h1 h2 hL hErr hX hVb hb1 hR; obtain ⟨k0, k1, k2, -, -, -⟩ := HX.out; go_enter Tryz.func57, Tryz.ntmps57
 go_wp2_with fail
 refine HO.out.mono ?_; rintro e w1 ⟨u, rfl, hT, hB⟩; have HB1 := hidE (B3 HB.out hB); have HR1 := hidE (blk_below HR.out hB); have hz1 := hB.size; obtain ⟨t0, t1, t2, t3, t4, rfl, r0, r1, r2, r3, r4⟩ := hT; obtain ⟨p0, y0, z0, d0, rfl, -⟩ := id r0; obtain ⟨p1, y1, z1, d1, rfl, -⟩ := id r1; obtain ⟨p2, y2, z2, d2, rfl, -⟩ := id r2; obtain ⟨p3, y3, z3, d3, rfl, -⟩ := id r3; obtain ⟨p4, y4, z4, d4, rfl, -⟩ := id r4; have HT := hidE (fun (W : World) (hb : Below w1.heap.size w1 W) => (And.intro (r0.below hb) ⟨r1.below hb, r2.below hb, r3.below hb, r4.below hb⟩ : RP W _ (ofO x).b ∧ RL W _ (ofO x).l ∧ RM W _ (ofO x).u ∧ RP W _ (loO x) ∧ RP W _ (seO x))); obtain ⟨U, hU⟩ : ∃ U, w1.alloc (.cells #[.slice p0 (ofO x).b.length d0, .slice p1 (ofO x).l.length d1, .slice p2 (ofO x).u.length d2, .slice p3 (loO x).length d3, .slice p4 (seO x).length d4] 67) = U := ⟨_, rfl⟩
 have hBU : Below w1.heap.size w1 U := by rw [← hU]; exact (Below.refl _ w1).alloc (Nat.le_refl _) _
 have HC := hidE (show C5 U w1.heap.size (.slice p0 (ofO x).b.length d0) (.slice p1 (ofO x).l.length d1) (.slice p2 (ofO x).u.length d2) (.slice p3 (loO x).length d3) (.slice p4 (seO x).length d4) from by rw [← hU]; exact C5.new _ _ _ _ _ _ _); have HBU := hidE hBU; have hlo := lo_len x; have hse := se_len x; clear r0 r1 r2 r3 r4 hB HB HO HX k0 k1 k2 hW0 hV HR; have tail : ∀ (X : World) (u' : Value) (y : O), Below w1.heap.size w1 X → OO X.heap.size X.heap.size X u' y → True := fun _ _ _ _ _ => trivial; clear tail; cases hok : okB x with
 | true =>
  have hx : ofO x = x := by unfold ofO; rw [hok]; rfl
  rw [show erO x = .nilIface by unfold erO; rw [hok]; rfl]; have HF := hidE (few_of hok)
  have hl4 : x.l.length ≤ 4 := by
   have h := (ok_parts hok).1; unfold lwB at h; rw [Bool.and_eq_true, Bool.and_eq_true] at h; exact of_decide_eq_true h.1.2
  have HF4 : Hid ((ofO x).l.length ≤ 5) := by show (ofO x).l.length ≤ 5; rw [hx]; omega
  by_cases h4 : x.l.length = 4
  ·
   have HN4 : Hid ((ofO x).l.length = 4) := by rw [hx]; exact h4
   have HQ : Hid (Few (ofO x)) := by rw [hx]; exact HF.out
   have HY : Hid (puO x = ofO x) := by show _ = _; unfold puO; rw [hok, if_pos rfl, if_pos h4, hx]
   have HER : Hid (puV x = endV 8) := by show _ = _; unfold puV; rw [hok, if_pos rfl, if_pos h4]
   clear hok hx HF h4 hl4; obtain ⟨k0, k1, k2, k3, k4, f0, f1, f2, f3, f4⟩ := HC.out; go_wp2_with fail
   refine (push_no U (ofO x).l.length p0 p1 p2 p3 p4 _ _ _ _ d0 d1 d2 d3 d4 HN4.out).mono ?_; rintro e w2 ⟨rfl, hB2⟩; have hct := blk_below (show U.heap[w1.heap.size]? = some (.cells #[.slice p0 (ofO x).b.length d0, .slice p1 (ofO x).l.length d1, .slice p2 (ofO x).u.length d2, .slice p3 (loO x).length d3, .slice p4 (seO x).length d4] 67 (0, 0)) from by rw [← hU]; exact heap_alloc_new w1 _) hB2; have hc := HC.out.below hB2; have hz2 := hB2.size; have hzU : w1.heap.size < U.heap.size := by rw [← hU]; simp
   have HB2 := hidE (B3 HBU.out hB2); clear k0 k1 k2 k3 k4 f0 f1 f2 f3 f4 hB2 hU HC; obtain ⟨k0, k1, k2, k3, k4, f0, f1, f2, f3, f4⟩ := hc; obtain ⟨X, hX⟩ : ∃ X, (((((w2.setCell ⟨w1.heap.size, 0, none⟩ (.slice p0 (ofO x).b.length d0)).setCell ⟨w1.heap.size, 1, none⟩ (.slice p1 (ofO x).l.length d1)).setCell ⟨w1.heap.size, 2, none⟩ (.slice p2 (ofO x).u.length d2)).setCell ⟨w1.heap.size, 3, none⟩ (.slice p3 (loO x).length d3)).setCell ⟨w1.heap.size, 4, none⟩ (.slice p4 (seO x).length d4)) = X := ⟨_, rfl⟩
   have hw : Win w1.heap.size (w1.heap.size + 1) w2 X ∧ (X.cell? ⟨w1.heap.size, 0, none⟩ = some (.slice p0 (ofO x).b.length d0) ∧ X.cell? ⟨w1.heap.size, 1, none⟩ = some (.slice p1 (ofO x).l.length d1) ∧ X.cell? ⟨w1.heap.size, 2, none⟩ = some (.slice p2 (ofO x).u.length d2) ∧ X.cell? ⟨w1.heap.size, 3, none⟩ = some (.slice p3 (loO x).length d3) ∧ X.cell? ⟨w1.heap.size, 4, none⟩ = some (.slice p4 (seO x).length d4)) := by
    rw [← hX]; exact atSet5 (C := fun Wf => Win w1.heap.size (w1.heap.size + 1) w2 Wf ∧ (Wf.cell? ⟨w1.heap.size, 0, none⟩ = some (.slice p0 (ofO x).b.length d0) ∧ Wf.cell? ⟨w1.heap.size, 1, none⟩ = some (.slice p1 (ofO x).l.length d1) ∧ Wf.cell? ⟨w1.heap.size, 2, none⟩ = some (.slice p2 (ofO x).u.length d2) ∧ Wf.cell? ⟨w1.heap.size, 3, none⟩ = some (.slice p3 (loO x).length d3) ∧ Wf.cell? ⟨w1.heap.size, 4, none⟩ = some (.slice p4 (seO x).length d4))) k0 k1 k2 k3 k4 (fun Wf s0 s1 s2 s3 s4 hw => ⟨hw, s0, s1, s2, s3, s4⟩)
   have hBX : Below w1.heap.size w1 X := hw.1.belowE HB2.out HB2.out.size (Nat.le_refl _); have hsX := hw.1.size; obtain ⟨s0, s1, s2, s3, s4⟩ := hw.2; have HR2 := hidE (blk_below HR1.out hBX); obtain ⟨r0, r1, r2, r3, r4⟩ := HT.out X hBX; have HTe := hidE (tell_any X _ (ofO x) (loO x) (seO x) ⟨_, _, _, _, _, rfl, r0, r1, r2, r3, r4⟩ HQ.out); have HB3 := hidE (B3 HB1.out hBX); have hs1 := HB1.out.size; clear r0 r1 r2 r3 r4 hw hBX HBU HR1 HT; go_wp2_with fail
   refine HTe.out.mono ?_; rintro e w3 ⟨u3, rfl, hO, hB3⟩; have HB4 := hidE (B3 HB3.out hB3); have hzr := blk_below HR2.out hB3; have hs3 := hB3.size; obtain ⟨e0, j0, e1, j1, e2, j2, rfl⟩ := hO.exT; have HO3 := hidE hO; clear hO hB3 k0 k1 k2 k3 k4 f0 f1 f2 f3 f4 s0 s1 s2 s3 s4 hX; obtain ⟨⟨q0, q0'⟩, q1, q2⟩ := set3_rules hzr; have q1a := fun u => (q1 u).1; have q1b := fun u => (q1 u).2; have q2a := fun u x => (q2 u x).1; have q2b := fun u x => (q2 u x).2; clear q1 q2; go_wp2
   have s3 := set3_is hzr (.slice e0 (ofO x).b.length j0) (.slice e1 (ofO x).l.length j1) (.slice e2 (ofO x).u.length j2); have z0 := cell_of_row _ (w.heap.size + 1) 0 _ _ _ s3.2; have z1 := cell_of_row _ (w.heap.size + 1) 1 _ _ _ s3.2; have z2 := cell_of_row _ (w.heap.size + 1) 2 _ _ _ s3.2; exact bodyPost_ret (v := .tuple #[.agg #[.slice e0 (ofO x).b.length j0, .slice e1 (ofO x).l.length j1, .slice e2 (ofO x).u.length j2], endV 8]) (by unfold endV; simp [results, Tryz.f57, go_sem, z0, z1, z2]) rfl ⟨_, by rw [HER.out], by rw [HY.out]; exact (((HO3.out.win (setW _ _ _ _) (.inl (by omega))).win (setW _ _ _ _) (.inl (by omega))).win (setW _ _ _ _) (.inl (by omega))).mono (by omega) (by simp only [World.size_setCell]; omega), s3.1.below HB4.out (by omega)⟩
  ·
   have HN4 : Hid ((ofO x).l.length ≠ 4) := by rw [hx]; exact h4
   have HQ : Hid (Few (O.mk (ofO x).b ((ofO x).l ++ [(ofO x).u]) [])) := by
    rw [hx]
    exact ⟨HF.out.b, by have := HF.out.l; show (x.l ++ [x.u]).length ≤ 1000; rw [List.length_append]; simp; omega, fun l hl => by
     rcases List.mem_append.1 hl with h | h
     ·
      exact HF.out.m l h
     ·
      obtain rfl := List.mem_singleton.1 h; exact HF.out.u, Nat.zero_le _⟩
   have HY : Hid (puO x = (O.mk (ofO x).b ((ofO x).l ++ [(ofO x).u]) [])) := by show _ = _; unfold puO; rw [hok, if_pos rfl, if_neg h4, hx]
   have HER : Hid (puV x = .nilIface) := by show _ = _; unfold puV; rw [hok, if_pos rfl, if_neg h4]
   obtain ⟨pa, g1', o1', ca, eva, -, -, ha1', -⟩ := (HT.out w1 (Below.refl _ _)).2.1; have hpa : p1 = pa := by injection eva
   subst hpa
   have hL1' : ∀ W, Below w1.heap.size w1 W → ∀ i (h : i < (ofO x).l.length), ∃ u, w1.cell? ⟨g1', o1' + i, none⟩ = some u ∧ W.cell? ⟨g1', o1' + i, none⟩ = some u ∧ RM W u (ofO x).l[i] := fun W hb i hi => by
    obtain ⟨pb, gb, ob, cb, evb, -, -, hab, hLb⟩ := (HT.out w1 (Below.refl _ _)).2.1; have e1 := ha1' (by omega); have e2 : p1 = some ⟨gb, ob, none⟩ := by have := hab (by omega); injection evb with e; rw [e]; exact this
    rw [e1] at e2
    injection e2 with e2
    injection e2 with e3 e4 _
    subst e3; subst e4; obtain ⟨u, c, r⟩ := hLb i hi; exact ⟨u, c, (hb.cell (p := ⟨g1', o1' + i, none⟩) (World.block_lt_of_cell? w1 ⟨g1', o1' + i, none⟩ c)).trans c, r.below hb⟩
   clear hok hx HF h4 hl4 eva; obtain ⟨k0, k1, k2, k3, k4, f0, f1, f2, f3, f4⟩ := HC.out; go_wp2_with fail
   refine (push_yes U (ofO x).l p0 p1 p2 p3 p4 _ _ _ _ d0 d1 d2 d3 d4 (by have := HF4.out; omega) HN4.out g1' o1' ha1' (fun i h => by obtain ⟨u, _, c, r⟩ := hL1' U HBU.out i h; exact ⟨u, c, r⟩)).mono ?_; rintro e w2 ⟨u9, rfl, hPU, hB2⟩; have hslice : ∃ a c, u9 = .slice a ((ofO x).l.length + 1) c := by obtain ⟨m, c, us, _, e, _⟩ := hPU; exact ⟨_, _, e⟩
   obtain ⟨a9, c9, rfl⟩ := hslice; have hct := blk_below (show U.heap[w1.heap.size]? = some (.cells #[.slice p0 (ofO x).b.length d0, .slice p1 (ofO x).l.length d1, .slice p2 (ofO x).u.length d2, .slice p3 (loO x).length d3, .slice p4 (seO x).length d4] 67 (0, 0)) from by rw [← hU]; exact heap_alloc_new w1 _) hB2; have hc := HC.out.below hB2; have hz2 := hB2.size; have hzU : w1.heap.size < U.heap.size := by rw [← hU]; simp
   have HB2 := hidE (B3 HBU.out hB2); clear k0 k1 k2 k3 k4 f0 f1 f2 f3 f4 hB2 hU HC; obtain ⟨k0, k1, k2, k3, k4, f0, f1, f2, f3, f4⟩ := hc; obtain ⟨X, hX⟩ : ∃ X, (((((w2.setCell ⟨w1.heap.size, 0, none⟩ (.slice p0 (ofO x).b.length d0)).setCell ⟨w1.heap.size, 1, none⟩ (.slice a9 ((ofO x).l.length + 1) c9)).setCell ⟨w1.heap.size, 2, none⟩ (.slice none 0 0)).setCell ⟨w1.heap.size, 3, none⟩ (.slice p4 (seO x).length d4)).setCell ⟨w1.heap.size, 4, none⟩ (.slice p4 (seO x).length d4)) = X := ⟨_, rfl⟩
   have hw : Win w1.heap.size (w1.heap.size + 1) w2 X ∧ (X.cell? ⟨w1.heap.size, 0, none⟩ = some (.slice p0 (ofO x).b.length d0) ∧ X.cell? ⟨w1.heap.size, 1, none⟩ = some (.slice a9 ((ofO x).l.length + 1) c9) ∧ X.cell? ⟨w1.heap.size, 2, none⟩ = some (.slice none 0 0) ∧ X.cell? ⟨w1.heap.size, 3, none⟩ = some (.slice p4 (seO x).length d4) ∧ X.cell? ⟨w1.heap.size, 4, none⟩ = some (.slice p4 (seO x).length d4)) := by
    rw [← hX]; exact atSet5 (C := fun Wf => Win w1.heap.size (w1.heap.size + 1) w2 Wf ∧ (Wf.cell? ⟨w1.heap.size, 0, none⟩ = some (.slice p0 (ofO x).b.length d0) ∧ Wf.cell? ⟨w1.heap.size, 1, none⟩ = some (.slice a9 ((ofO x).l.length + 1) c9) ∧ Wf.cell? ⟨w1.heap.size, 2, none⟩ = some (.slice none 0 0) ∧ Wf.cell? ⟨w1.heap.size, 3, none⟩ = some (.slice p4 (seO x).length d4) ∧ Wf.cell? ⟨w1.heap.size, 4, none⟩ = some (.slice p4 (seO x).length d4))) k0 k1 k2 k3 k4 (fun Wf s0 s1 s2 s3 s4 hw => ⟨hw, s0, s1, s2, s3, s4⟩)
   have hBX : Below w1.heap.size w1 X := hw.1.belowE HB2.out HB2.out.size (Nat.le_refl _); have hsX := hw.1.size; obtain ⟨s0, s1, s2, s3, s4⟩ := hw.2; have HR2 := hidE (blk_below HR1.out hBX); obtain ⟨r0, r1, r2, r3, r4⟩ := HT.out X hBX; have hrl : RL X (.slice a9 ((ofO x).l.length + 1) c9) ((ofO x).l ++ [(ofO x).u]) := PuU.rl hPU (by omega) hw.1 (by have := HF4.out; omega) (fun i hi => by obtain ⟨m, c1, c2, _⟩ := hL1' U HBU.out i hi; obtain ⟨m2, c3, c4, q2⟩ := hL1' X hBX i hi; obtain rfl : m = m2 := Option.some.inj (c1.symm.trans c3); exact ⟨m, c2, q2⟩) r2; have HTe := hidE (tell_any X _ (O.mk (ofO x).b ((ofO x).l ++ [(ofO x).u]) []) (seO x) (seO x) ⟨_, _, _, _, _, rfl, r0, hrl, RM.nil_ X, r4, r4⟩ HQ.out); have HB3 := hidE (B3 HB1.out hBX); have hs1 := HB1.out.size; clear r0 r1 r2 r3 r4 hw hBX HBU HR1 HT; go_wp2_with fail
   refine HTe.out.mono ?_; rintro e w3 ⟨u3, rfl, hO, hB3⟩; have HB4 := hidE (B3 HB3.out hB3); have hzr := blk_below HR2.out hB3; have hs3 := hB3.size; obtain ⟨e0, j0, e1, j1, e2, j2, rfl⟩ := hO.exT; simp only [List.length_append, List.length_cons, List.length_nil, Nat.zero_add] at hO; have HO3 := hidE hO; clear hO hB3 k0 k1 k2 k3 k4 f0 f1 f2 f3 f4 s0 s1 s2 s3 s4 hX; obtain ⟨⟨q0, q0'⟩, q1, q2⟩ := set3_rules hzr; have q1a := fun u => (q1 u).1; have q1b := fun u => (q1 u).2; have q2a := fun u x => (q2 u x).1; have q2b := fun u x => (q2 u x).2; clear q1 q2; go_wp2
   have s3 := set3_is hzr (.slice e0 (ofO x).b.length j0) (.slice e1 ((ofO x).l.length + 1) j1) (.slice e2 0 j2); have z0 := cell_of_row _ (w.heap.size + 1) 0 _ _ _ s3.2; have z1 := cell_of_row _ (w.heap.size + 1) 1 _ _ _ s3.2; have z2 := cell_of_row _ (w.heap.size + 1) 2 _ _ _ s3.2; exact bodyPost_ret (v := .tuple #[.agg #[.slice e0 (ofO x).b.length j0, .slice e1 ((ofO x).l.length + 1) j1, .slice e2 0 j2], .nilIface]) (by simp [results, Tryz.f57, go_sem, z0, z1, z2]) rfl ⟨_, by rw [HER.out], by rw [HY.out]; exact (((HO3.out.win (setW _ _ _ _) (.inl (by omega))).win (setW _ _ _ _) (.inl (by omega))).win (setW _ _ _ _) (.inl (by omega))).mono (by omega) (by simp only [World.size_setCell]; omega), s3.1.below HB4.out (by omega)⟩
 | false =>
  have hx : ofO x = ⟨[], [], []⟩ := by unfold ofO; rw [hok]; rfl
  rw [show erO x = endV 1 by unfold erO; rw [hok]; rfl]; unfold endV; have HQ : Hid (Few (ofO x)) := by rw [hx]; exact ⟨Nat.zero_le _, Nat.zero_le _, fun l hl => absurd hl (by simp), Nat.zero_le _⟩
  have HY : Hid (puO x = ofO x) := by show _ = _; unfold puO; rw [hok, hx]; rfl
  have HER : Hid (puV x = endV 1) := by show _ = _; unfold puV; rw [hok]; rfl
  clear hok hx; obtain ⟨k0, k1, k2, k3, k4, f0, f1, f2, f3, f4⟩ := HC.out; obtain ⟨r0, r1, r2, r3, r4⟩ := HT.out U HBU.out; have HTe := hidE (tell_any U _ (ofO x) (loO x) (seO x) ⟨_, _, _, _, _, rfl, r0, r1, r2, r3, r4⟩ HQ.out); have HB3 := hidE (B3 HB1.out HBU.out); have HR2 := hidE (blk_below HR1.out HBU.out); have hs1 := HB1.out.size; have hsU := HBU.out.size; clear r0 r1 r2 r3 r4 HR1 HT; go_wp2_with fail
  refine HTe.out.mono ?_; rintro e w3 ⟨u3, rfl, hO, hB3⟩; have HB4 := hidE (B3 HB3.out hB3); have hzr := blk_below HR2.out hB3; have hs3 := hB3.size; obtain ⟨e0, j0, e1, j1, e2, j2, rfl⟩ := hO.exT; have HO3 := hidE hO; clear hO hB3 k0 k1 k2 k3 k4 f0 f1 f2 f3 f4 hU; obtain ⟨⟨q0, q0'⟩, q1, q2⟩ := set3_rules hzr; have q1a := fun u => (q1 u).1; have q1b := fun u => (q1 u).2; have q2a := fun u x => (q2 u x).1; have q2b := fun u x => (q2 u x).2; clear q1 q2; go_wp2
  have s3 := set3_is hzr (.slice e0 (ofO x).b.length j0) (.slice e1 (ofO x).l.length j1) (.slice e2 (ofO x).u.length j2); have z0 := cell_of_row _ (w.heap.size + 1) 0 _ _ _ s3.2; have z1 := cell_of_row _ (w.heap.size + 1) 1 _ _ _ s3.2; have z2 := cell_of_row _ (w.heap.size + 1) 2 _ _ _ s3.2; exact bodyPost_ret (v := .tuple #[.agg #[.slice e0 (ofO x).b.length j0, .slice e1 (ofO x).l.length j1, .slice e2 (ofO x).u.length j2], endV 1]) (by unfold endV; simp [results, Tryz.f57, go_sem, z0, z1, z2]) rfl ⟨_, by rw [HER.out], by rw [HY.out]; exact (((HO3.out.win (setW _ _ _ _) (.inl (by omega))).win (setW _ _ _ _) (.inl (by omega))).win (setW _ _ _ _) (.inl (by omega))).mono (by omega) (by simp only [World.size_setCell]; omega), s3.1.below HB4.out (by omega)⟩
set_option maxHeartbeats 2000000 in
set_option maxRecDepth 100000 in
theorem iOverPush_any (w : World) (v : Value) (x : O) (ae : Int → Addr) (hErr : Errs2 w ae) (h : Lie w v x) :
  Calls Tryz.prog 31 #[v] w fun r w' => ∃ u, r = .returned (.tuple #[u, .bool (puB x)]) ∧ OO w.heap.size w'.heap.size w' u (puO x) ∧ Below w.heap.size w w' := by
 have hL := h; obtain ⟨v0, v1, v2, rfl, h0, h1, h2⟩ := h; obtain ⟨a0, g0, o0, c0, rfl, -⟩ := id h0; obtain ⟨a1, g1, o1, c1, rfl, -⟩ := id h1; obtain ⟨a2, g2, o2, c2, rfl, -⟩ := id h2; obtain ⟨V, hV⟩ : ∃ V, w.alloc (.cells #[.slice a0 x.b.length c0, .slice a1 x.l.length c1, .slice a2 x.u.length c2] 33) = V := ⟨_, rfl⟩
 have hX : C3 V w.heap.size (.slice a0 x.b.length c0) (.slice a1 x.l.length c1) (.slice a2 x.u.length c2) := by rw [← hV]; exact C3.new _ _ _ _ _
 have hVs : V.heap.size = w.heap.size + 1 := by rw [← hV]; simp
 have hVb : Below w.heap.size w V := by rw [← hV]; exact (Below.refl _ w).alloc (Nat.le_refl _) _
 obtain ⟨W0, hW0⟩ : ∃ W0, V.alloc (.cells #[.slice none 0 0, .slice none 0 0, .slice none 0 0] 33) = W0 := ⟨_, rfl⟩
 have hb1 : Below V.heap.size V W0 := by rw [← hW0]; exact (Below.refl _ V).alloc (Nat.le_refl _) _
 have hz0 : W0.heap.size = w.heap.size + 2 := by rw [← hW0]; simp [hVs]
 have hR : W0.heap[w.heap.size + 1]? = some (.cells #[.slice none 0 0, .slice none 0 0, .slice none 0 0] 33 (0, 0)) := by rw [← hW0, ← hVs]; exact heap_alloc_new V _
 have HX := hidE (hX.below hb1); have HB := hidE (B3 hVb hb1); have HR := hidE hR; have HO := hidE (overTurn_push W0 _ x ae (hErr.below (B3 hVb hb1)) (hL.below (B3 hVb hb1))); clear h0 h1 h2 hL hErr hX hVb hb1 hR; obtain ⟨k0, k1, k2, -, -, -⟩ := HX.out; rcases puV_is x with ⟨hfb, hfv⟩ | ⟨hfb, k9, hfv⟩
 ·
  have HFB := hidE hfb; rw [hfv] at HO; clear hfb hfv; go_enter Tryz.func31, Tryz.ntmps31
  go_wp2_with fail
  refine HO.out.mono ?_; rintro e w1 ⟨u, rfl, hO, hB⟩; have hz1 := hB.size; obtain ⟨e0, j0, e1, j1, e2, j2, rfl⟩ := hO.exT; obtain ⟨U, hU⟩ : ∃ U, w1.alloc (.cells #[.slice e0 (puO x).b.length j0, .slice e1 (puO x).l.length j1, .slice e2 (puO x).u.length j2] 33) = U := ⟨_, rfl⟩
  have hUb : Below w1.heap.size w1 U := by rw [← hU]; exact (Below.refl _ w1).alloc (Nat.le_refl _) _
  obtain ⟨c0', c1', c2', -, -, -⟩ := (show C3 U w1.heap.size (.slice e0 (puO x).b.length j0) (.slice e1 (puO x).l.length j1) (.slice e2 (puO x).u.length j2) from by rw [← hU]; exact C3.new _ _ _ _ _)
  have hzr := blk_below HR.out (B3 hB hUb); have hBU := B3 HB.out (B3 hB hUb); have hOU := hO.below hUb; have hzU := hUb.size; have HOU := hidE hOU; have HBU := hidE hBU; clear hB hUb hBU hOU hO k0 k1 k2 hW0 hV; obtain ⟨⟨y0, y1, y2⟩, f0, f1, f2⟩ := box_cell hzr; go_wp2
  go_region_with (fail)
  all_goals go_wp2
  have s3 := set3_is hzr (.slice e0 (puO x).b.length j0) (.slice e1 (puO x).l.length j1) (.slice e2 (puO x).u.length j2); have z0 := cell_of_row _ (w.heap.size + 1) 0 _ _ _ s3.2; have z1 := cell_of_row _ (w.heap.size + 1) 1 _ _ _ s3.2; have z2 := cell_of_row _ (w.heap.size + 1) 2 _ _ _ s3.2; exact bodyPost_ret (v := .tuple #[.agg #[.slice e0 (puO x).b.length j0, .slice e1 (puO x).l.length j1, .slice e2 (puO x).u.length j2], .bool true]) (by simp [results, Tryz.f31, go_sem, z0, z1, z2]) rfl ⟨_, by rw [HFB.out], ((((HOU.out.win (setW _ _ _ _) (.inl (by omega))).win (setW _ _ _ _) (.inl (by omega))).win (setW _ _ _ _) (.inl (by omega))).below (Below.refl _ _).drew).mono (by omega) (by simp; omega), (s3.1.below HBU.out (by omega)).drew⟩
 ·
  have HFB := hidE hfb; rw [hfv] at HO; unfold endV at HO; clear hfb hfv; go_enter Tryz.func31, Tryz.ntmps31
  go_wp2_with fail
  refine HO.out.mono ?_; rintro e w1 ⟨u, rfl, hO, hB⟩; have hz1 := hB.size; obtain ⟨e0, j0, e1, j1, e2, j2, rfl⟩ := hO.exT; obtain ⟨U, hU⟩ : ∃ U, w1.alloc (.cells #[.slice e0 (puO x).b.length j0, .slice e1 (puO x).l.length j1, .slice e2 (puO x).u.length j2] 33) = U := ⟨_, rfl⟩
  have hUb : Below w1.heap.size w1 U := by rw [← hU]; exact (Below.refl _ w1).alloc (Nat.le_refl _) _
  obtain ⟨c0', c1', c2', -, -, -⟩ := (show C3 U w1.heap.size (.slice e0 (puO x).b.length j0) (.slice e1 (puO x).l.length j1) (.slice e2 (puO x).u.length j2) from by rw [← hU]; exact C3.new _ _ _ _ _)
  have hzr := blk_below HR.out (B3 hB hUb); have hBU := B3 HB.out (B3 hB hUb); have hOU := hO.below hUb; have hzU := hUb.size; have HOU := hidE hOU; have HBU := hidE hBU; clear hB hUb hBU hOU hO k0 k1 k2 hW0 hV; obtain ⟨⟨y0, y1, y2⟩, f0, f1, f2⟩ := box_cell hzr; go_wp2
  go_region_with (fail)
  all_goals go_wp2
  have s3 := set3_is hzr (.slice e0 (puO x).b.length j0) (.slice e1 (puO x).l.length j1) (.slice e2 (puO x).u.length j2); have z0 := cell_of_row _ (w.heap.size + 1) 0 _ _ _ s3.2; have z1 := cell_of_row _ (w.heap.size + 1) 1 _ _ _ s3.2; have z2 := cell_of_row _ (w.heap.size + 1) 2 _ _ _ s3.2; exact bodyPost_ret (v := .tuple #[.agg #[.slice e0 (puO x).b.length j0, .slice e1 (puO x).l.length j1, .slice e2 (puO x).u.length j2], .bool false]) (by simp [results, Tryz.f31, go_sem, z0, z1, z2]) rfl ⟨_, by rw [HFB.out], ((((HOU.out.win (setW _ _ _ _) (.inl (by omega))).win (setW _ _ _ _) (.inl (by omega))).win (setW _ _ _ _) (.inl (by omega))).below (Below.refl _ _).drew).mono (by omega) (by simp; omega), (s3.1.below HBU.out (by omega)).drew⟩
theorem row_ty {w w' : World} {base n size : Nat} {e : TypeId} {v : Value} {xs : List Value} (h : w.ownsRow base e size v n xs) (hk : ∀ (g : Nat) (cs : Array Value), w.heap[g]? = some (Obj.cells cs e (0, 0)) → w'.heap[g]? = w.heap[g]?) : w'.ownsRow base e size v n xs := by
 obtain ⟨h0, h | ⟨g, cap, cur, rfl, hb, hg, h2⟩⟩ := h
 ·
  exact ⟨h0, .inl h⟩
 ·
  exact ⟨h0, .inr ⟨g, cap, cur, rfl, hb, (hk g _ hg).trans hg, h2⟩⟩
structure PK (W : World) (base : Nat) (v0 v1 vU : Value) (us : List Value) (x : O) : Prop where
 b : OwnE W base v0 x.b
 row : W.ownsRow base 31 1 v1 (x.l.length + 1) (us ++ [vU])
 len : us.length = x.l.length
 l : ∀ i (h : i < us.length) (h2 : i < x.l.length), Mk.OwnE W base us[i] x.l[i]
 u : Mk.OwnE W base vU x.u
theorem PK.ty {W W' : World} {base : Nat} {v0 v1 vU : Value} {us : List Value} {x : O} (h : PK W base v0 v1 vU us x) (hk : ∀ (g : Nat) (cs : Array Value) (T : TypeId), W.heap[g]? = some (Obj.cells cs T (0, 0)) → T ≠ 33 → W'.heap[g]? = W.heap[g]?) : PK W' base v0 v1 vU us x :=
 ⟨row_ty h.b fun g cs e => hk g cs _ e (by decide), row_ty h.row fun g cs e => hk g cs _ e (by decide), h.len, fun i h1 h2 => row_ty (h.l i h1 h2) fun g cs e => hk g cs _ e (by decide), row_ty h.u fun g cs e => hk g cs _ e (by decide)⟩
theorem ty_below {W W' : World} (h : Below W.heap.size W W') : ∀ (g : Nat) (cs : Array Value) (T : TypeId), W.heap[g]? = some (Obj.cells cs T (0, 0)) → T ≠ 33 → W'.heap[g]? = W.heap[g]? := fun g _ _ e _ => h.block g (Array.getElem?_eq_some_iff.1 e).1
theorem ty_only {W W' : World} {k : Nat} {cs0 : Array Value} (hk : W.heap[k]? = some (.cells cs0 33 (0, 0))) (h : OnlyB3 k W W') : ∀ (g : Nat) (cs : Array Value) (T : TypeId), W.heap[g]? = some (Obj.cells cs T (0, 0)) → T ≠ 33 → W'.heap[g]? = W.heap[g]? := fun g cs T e hT => by
 refine (only_grown h).block g (Array.getElem?_eq_some_iff.1 e).1 (fun q => ?_)
 injection q with q
 subst q; rw [hk] at e
 injection e with e
 injection e with _ e2 _
 exact hT e2.symm
theorem ty_grown {W W' : World} {base n size : Nat} {e : TypeId} {v : Value} {xs : List Value} (h : W.ownsRow base e size v n xs) (hg : W.grownBy W' v.ownBlock) : ∀ (g : Nat) (cs : Array Value) (T : TypeId), W.heap[g]? = some (Obj.cells cs T (0, 0)) → T ≠ e → W'.heap[g]? = W.heap[g]? := fun g cs T hc hT => by
 refine hg.block g (Array.getElem?_eq_some_iff.1 hc).1 (fun q => ?_); obtain ⟨_, ⟨rfl, _⟩ | ⟨m, cap, cur, rfl, _, q1, _⟩⟩ := h
 ·
  simp [Value.ownBlock] at q
 ·
  obtain rfl : g = m := by simpa [Value.ownBlock] using q
  rw [hc] at q1
  injection q1 with q1
  injection q1 with _ e2 _
  exact hT e2
theorem ty_other {W W' : World} {k m : Nat} {cs0 cs : Array Value} {T : TypeId} (_ : W.heap[k]? = some (.cells cs0 33 (0, 0))) (h : OnlyB3 k W W') (hne : m ≠ k) (hm : W.heap[m]? = some (.cells cs T (0, 0))) : W'.heap[m]? = some (.cells cs T (0, 0)) :=
 ((only_grown h).block m (Array.getElem?_eq_some_iff.1 hm).1 (fun q => by injection q with q; exact hne q)).trans hm
theorem PK.lie {W : World} {base : Nat} {v0 v1 vU y : Value} {us : List Value} {x : O} (h : PK W base v0 v1 vU us x) (hb : x.b.length ≤ 1048576 ∧ SmE x.b) (hl : x.l.length ≤ 1000) (hz : ∀ l ∈ x.l, l.length ≤ 1048576 ∧ SmM l) (hu : x.u.length ≤ 1048576 ∧ SmM x.u) (hy : RM W y []) :
  Lie W (.agg #[v0, v1, y]) ⟨x.b, x.l ++ [x.u], []⟩ := by
 have hm : ∀ (v : Value) (l : List Mk.E), Mk.OwnE W base v l → l.length ≤ 1048576 ∧ SmM l → RM W v l := fun v l ho hs => by
  obtain ⟨a, g, cap, e, ha, hE, hc⟩ := ho.ents; exact ⟨a, g, 0, cap, e, hs.1, hc, hs.2, ha, hE⟩
 refine ⟨_, _, _, rfl, ?_, ?_, hy⟩
 ·
  obtain ⟨a, g, cap, e, ha, hE, hc⟩ := h.b.ents; exact ⟨a, g, 0, cap, e, hb.1, hc, hb.2, ha, hE⟩
 ·
  have hc := fun (g : Nat) (hg : v1.ownBlock = some g) => World.ownsRow.cells h.row hg; have hlen := h.len; obtain ⟨q0, ⟨e1, e0⟩ | ⟨m, cap, cur, rfl, hbm, hg, hnc, -⟩⟩ := h.row
  ·
   rw [List.length_append, List.length_singleton] at q0; omega
  ·
   refine ⟨_, m, 0, cap, by rw [List.length_append]; rfl, by rw [List.length_append, List.length_singleton]; omega, by rw [List.length_append]; exact hnc, fun _ => rfl, fun i hi => ?_⟩; rw [List.length_append, List.length_singleton] at hi; rw [Nat.zero_add]; by_cases hlt : i < x.l.length
   ·
    refine ⟨us[i], ?_, by rw [List.getElem_append_left hlt]; exact hm _ _ (h.l i (by omega) hlt) (hz _ (List.getElem_mem hlt))⟩; have := hc m rfl i us[i] (by rw [List.getElem?_append_left (by omega), List.getElem?_eq_getElem (by omega)]); rw [add0, Nat.zero_add] at this; exact this
   ·
    obtain rfl : i = x.l.length := by omega
    refine ⟨vU, ?_, ?_⟩
    ·
     have := hc m rfl x.l.length vU (by rw [List.getElem?_append_right (by omega)]; simp [hlen]); rw [add0, Nat.zero_add] at this; exact this
    ·
     rw [List.getElem_append_right (Nat.le_refl _)]; have := hm _ _ h.u hu
     simpa using this
set_option maxHeartbeats 4000000 in
set_option maxRecDepth 100000 in
theorem sOverPush_any (w : World) (v : Value) (x : O) (h : Lie w v x) :
  Calls Tryz.prog 30 #[v] w fun r w' => ∃ u, r = .returned (.tuple #[u, .bool (puB x)]) ∧ Lie w' u (puO x) ∧ Below w.heap.size w w' := by
 have hL := h; have hs := h.sm; obtain ⟨v0, v1, v2, rfl, h0, h1, h2⟩ := h; obtain ⟨a0, g0, o0, c0, rfl, hb0, -⟩ := id h0; obtain ⟨a1, g1, o1, c1, rfl, hb1, -⟩ := id h1; obtain ⟨a2, g2, o2, c2, rfl, hb2, -⟩ := id h2
 have HSz := hidE (fun l (hl : l ∈ x.l) => (show l.length ≤ 1048576 ∧ SmM l from by
  obtain ⟨_, _, _, _, _, _, _, _, q⟩ := h1; obtain ⟨i, hi, rfl⟩ := List.getElem_of_mem hl; obtain ⟨u, _, ⟨_, _, _, _, _, q1, _, q3, _⟩⟩ := q i hi
  exact ⟨q1, q3⟩))
 obtain ⟨V, hV⟩ : ∃ V, w.alloc (.cells #[.slice a0 x.b.length c0, .slice a1 x.l.length c1, .slice a2 x.u.length c2] 33) = V := ⟨_, rfl⟩
 have hX : C3 V w.heap.size (.slice a0 x.b.length c0) (.slice a1 x.l.length c1) (.slice a2 x.u.length c2) := by rw [← hV]; exact C3.new _ _ _ _ _
 have hVs : V.heap.size = w.heap.size + 1 := by rw [← hV]; simp
 have hVb : Below w.heap.size w V := by rw [← hV]; exact (Below.refl _ w).alloc (Nat.le_refl _) _
 obtain ⟨W0, hW0⟩ : ∃ W0, V.alloc (.cells #[.slice none 0 0, .slice none 0 0, .slice none 0 0] 33) = W0 := ⟨_, rfl⟩
 have hb1' : Below V.heap.size V W0 := by rw [← hW0]; exact (Below.refl _ V).alloc (Nat.le_refl _) _
 have hz0 : W0.heap.size = w.heap.size + 2 := by rw [← hW0]; simp [hVs]
 have hR : W0.heap[w.heap.size + 1]? = some (.cells #[.slice none 0 0, .slice none 0 0, .slice none 0 0] 33 (0, 0)) := by rw [← hW0, ← hVs]; exact heap_alloc_new V _
 have HX := hidE (fun (W : World) (hb : Below W0.heap.size W0 W) => (hX.below hb1').below hb); have HB := hidE (B3 hVb hb1'); have HR := hidE hR; have HS := hidE hs; have HO := hidE (sOverOk_any W0 _ x (hL.below (B3 hVb hb1'))); have HCp := hidE (fun (W : World) (hb : Below W0.heap.size W0 W) => sl4Copy_any W _ x ((hL.below (B3 hVb hb1')).below hb)); have HLo := hidE (fun (W : World) (hb : Below W0.heap.size W0 W) => sl4Lower_any W _ x ((hL.below (B3 hVb hb1')).below hb)); clear h0 h1 h2 hL hX hVb hb1' hR hs; obtain ⟨k0, k1, k2, -, -, -⟩ := HX.out W0 (Below.refl _ _); go_enter Tryz.func30, Tryz.ntmps30
 go_wp2_with fail
 refine HO.out.mono ?_; rintro e w1 ⟨rfl, hB⟩; have HB1 := hidE hB; have HR1 := hidE (blk_below HR.out hB); clear hB k0 k1 k2 hW0 hV HO HR; cases hok : okB x with
 | false =>
  have HK := hidE hok; have hzr := HR1.out; have hBb := B3 HB.out HB1.out; clear hok; obtain ⟨⟨q0, q0'⟩, q1, q2⟩ := set3_rules hzr; have q1a := fun u => (q1 u).1; have q1b := fun u => (q1 u).2; have q2a := fun u x => (q2 u x).1; have q2b := fun u x => (q2 u x).2; clear q1 q2; go_wp2
  have s3 := set3_is hzr (.slice none 0 0) (.slice none 0 0) (.slice none 0 0); have z0 := cell_of_row _ (w.heap.size + 1) 0 _ _ _ s3.2; have z1 := cell_of_row _ (w.heap.size + 1) 1 _ _ _ s3.2; have z2 := cell_of_row _ (w.heap.size + 1) 2 _ _ _ s3.2; exact bodyPost_ret (v := .tuple #[.agg #[.slice none 0 0, .slice none 0 0, .slice none 0 0], .bool false]) (by simp [results, Tryz.f30, go_sem, z0, z1, z2]) rfl ⟨_, by unfold puB; rw [HK.out]; rfl, by unfold puO; rw [HK.out]; exact lie_nil _, s3.1.below hBb (by omega)⟩
 | true =>
  have HK := hidE hok; clear hok; obtain ⟨k0, k1, k2, -, -, -⟩ := HX.out w1 HB1.out; go_wp2_with fail
  refine (HCp.out _ HB1.out).mono ?_; rintro e w2 ⟨u, rfl, -, hC, hB⟩; have HB2 := hidE (B3 HB1.out hB); have HR2 := hidE (blk_below HR1.out hB); have hz2 := hB.size; have hz1 := HB1.out.size; obtain ⟨p0, d0, p1, d1, p2, d2, rfl⟩ := hC.ex; obtain ⟨U, hU⟩ : ∃ U, w2.alloc (.cells #[.slice p0 x.b.length d0, .slice p1 x.l.length d1, .slice p2 x.u.length d2] 33) = U := ⟨_, rfl⟩
  have hUb : Below w2.heap.size w2 U := by rw [← hU]; exact (Below.refl _ w2).alloc (Nat.le_refl _) _
  have hUs : U.heap.size = w2.heap.size + 1 := by rw [← hU]; simp
  have hUk : U.heap[w2.heap.size]? = some (.cells #[.slice p0 x.b.length d0, .slice p1 x.l.length d1, .slice p2 x.u.length d2] 33 (0, 0)) := by rw [← hU]; exact heap_alloc_new w2 _
  have HUk := hidE hUk; have HUb := hidE hUb; have HC := hidE hC; clear hB k0 k1 k2 HCp HR1 hC; have HUk := hidE hUk; by_cases h2 : 4 ≤ x.l.length
  ·
   have hx4 : x.l.length = 4 := by
    have h := (ok_parts HK.out).1; unfold lwB at h; rw [Bool.and_eq_true, Bool.and_eq_true] at h; have := of_decide_eq_true h.1.2; omega
   have HFO : Hid (puO x = x) := by show _ = _; unfold puO; rw [HK.out, if_pos rfl, if_pos hx4]
   have HFB : Hid (puB x = false) := by show _ = _; unfold puB; rw [HK.out, decide_eq_true hx4]; rfl
   have hi4 : ¬ ((x.l.length : Nat) : Int) < 4 := by omega
   have hi4' : (4 : Int) ≤ ((x.l.length : Nat) : Int) := by omega
   clear hx4; have hzr := blk_below HR2.out hUb; have hBX := B3 HB.out (B3 HB2.out hUb); have HCx := HC.out.below hUb; obtain ⟨m0, m1, m2, -, -, -⟩ := HX.out U (B3 HB2.out hUb); clear hUb hUs; obtain ⟨⟨b0, b1, b2⟩, -⟩ := box_cell hUk; obtain ⟨⟨q0, q0'⟩, q1, q2⟩ := set3_rules hzr; have q1a := fun u => (q1 u).1; have q1b := fun u => (q1 u).2; have q2a := fun u x => (q2 u x).1; have q2b := fun u x => (q2 u x).2; clear q1 q2; go_wp2
   have s3 := set3_is hzr (.slice p0 x.b.length d0) (.slice p1 x.l.length d1) (.slice p2 x.u.length d2); have z0 := cell_of_row _ (w.heap.size + 1) 0 _ _ _ s3.2; have z1 := cell_of_row _ (w.heap.size + 1) 1 _ _ _ s3.2; have z2 := cell_of_row _ (w.heap.size + 1) 2 _ _ _ s3.2; have hgk := only_grown s3.1; exact bodyPost_ret (v := .tuple #[.agg #[.slice p0 x.b.length d0, .slice p1 x.l.length d1, .slice p2 x.u.length d2], .bool false]) (by simp [results, Tryz.f30, go_sem, z0, z1, z2]) rfl ⟨_, by rw [HFB.out], (by rw [HFO.out]; obtain ⟨_, _, _, e, r0, r1, r2⟩ := HCx.kept hzr hgk; cases e; exact ⟨_, _, _, rfl, own_re r0 hb0 HS.out.1, r1.rl hb1 (fun l hl => HSz.out l hl), own_rm r2 hb2 HS.out.2.2⟩), s3.1.below hBX (by omega)⟩
  ·
   have hx4 : x.l.length ≠ 4 := by omega
   have HFO : Hid (puO x = ⟨x.b, x.l ++ [x.u], []⟩) := by show _ = _; unfold puO; rw [HK.out, if_pos rfl, if_neg hx4]
   have HFB : Hid (puB x = true) := by show _ = _; unfold puB; rw [HK.out, decide_eq_false hx4]; rfl
   have hi4 : ((x.l.length : Nat) : Int) < 4 := by omega
   have hi4' : ¬ (4 : Int) ≤ ((x.l.length : Nat) : Int) := by omega
   obtain ⟨_, _, _, e, r0, r1, r2⟩ := HC.out.below hUb; cases e; obtain ⟨us, ul, ho, hle, -⟩ := r1; obtain ⟨i0, hi, hzz0, hzz1, hzz2⟩ := info_parts Tryz.infoL; have hzr := blk_below HR2.out hUb; have HBX := hidE (B3 HB.out (B3 HB2.out hUb)); have HOw := hidE (And.intro r0 (And.intro ho (And.intro hle r2))); obtain ⟨⟨k0, k1, k2⟩, f0, f1, f2⟩ := box_cell hUk; obtain ⟨m0, m1, m2, -, -, -⟩ := HX.out U (B3 HB2.out hUb); have hU1 : w.heap.size ≤ U.heap.size := HBX.out.size; clear r0 ho hle r2 hx4 h2; have hrow : (U.alloc (.cells #[.slice p2 x.u.length d2] 31)).ownsRow w1.heap.size 31 1 (.slice p1 x.l.length d1) x.l.length us := rowkeep HOw.out.2.1 ((Below.refl _ U).alloc (Nat.le_refl _) _); have hzr' := blk_below hzr ((Below.refl _ U).alloc (Nat.le_refl _) (.cells #[.slice p2 x.u.length d2] 31)); have hUk' := blk_below hUk ((Below.refl _ U).alloc (Nat.le_refl _) (.cells #[.slice p2 x.u.length d2] 31)); have hw1U : w1.heap.size ≤ U.heap.size := by omega
   have HUS := hidE hUs; clear hUs
   go_wp2_with (first
    | (at_builtin; refine wpList_append_own _ rfl _ _ 30 rfl w1.heap.size 31 i0 _ 1 24 Tryz.underlying30 hi hzz0 hzz1 hzz2 rfl (by decide) _ _ _ rfl hrow ⟨U.heap.size, 0, none⟩ 1 1 [.slice p2 x.u.length d2] rfl rfl ?c1 ?c2 ?c3 ?c4 ?c5 ?_)
    | fail)
   try (case c1 => exact cell_one_new _ _ _)
   try (case c2 => intro y hy; simp at hy; subst hy; rfl)
   try (case c3 => unfold maxLen; omega)
   try (case c4 => omega)
   try (case c5 => first | omega | (simp; omega))
   have hUs := HUS.out; intro v' w5 hown' hgrow _; have hty := ty_grown hrow hgrow
   have hal := fun (g : Nat) (cs : Array Value) (T : TypeId) (e : U.heap[g]? = some (Obj.cells cs T (0, 0))) (hT : T ≠ 31) => by
    have e2 := ((Below.refl _ U).alloc (Nat.le_refl _) (.cells #[.slice p2 x.u.length d2] 31)).block g (Array.getElem?_eq_some_iff.1 e).1; exact (hty g cs T (e2.trans e) hT).trans e2
   obtain ⟨av, cv, rfl⟩ := row_slV hown'
   have hP5 : PK w5 w1.heap.size (.slice p0 x.b.length d0) (.slice av (x.l.length + 1) cv) (.slice p2 x.u.length d2) us x :=
    ⟨row_ty HOw.out.1 fun g cs e => hal g cs _ e (by decide), hown', ul, fun i h1 h2 => row_ty (HOw.out.2.2.1 i h1 h2) fun g cs e => hal g cs _ e (by decide), row_ty HOw.out.2.2.2 fun g cs e => hal g cs _ e (by decide)⟩
   have hk5 := (hty _ _ _ hUk' (by decide)).trans hUk'; have hz5 := (hty _ _ _ hzr' (by decide)).trans hzr'; have hb5 : Below w.heap.size w w5 := (HBX.out.alloc hU1 (.cells #[.slice p2 x.u.length d2] 31)).grown hgrow (by simp; omega) (fun q hq => by have := (World.ownsRow.lt hrow q hq).1; omega); obtain ⟨X1, hX1⟩ : ∃ X1, w5.setCell ⟨w2.heap.size, 1, none⟩ (.slice av (x.l.length + 1) cv) = X1 := ⟨_, rfl⟩
   obtain ⟨j1, o1'⟩ := set_mid hk5 (.slice av (x.l.length + 1) cv); have hb1x : Below w.heap.size w X1 := by rw [← hX1]; exact hb5.setCell (p := ⟨w2.heap.size, 1, none⟩) (by show w.heap.size ≤ w2.heap.size; omega) _
   rw [hX1] at j1 o1'; have hP1 := hP5.ty (ty_only hk5 o1'); have hz1' := (ty_other hk5 o1' (by omega) hz5)
   obtain ⟨X2, hX2⟩ : ∃ X2, X1.alloc (.cells #[] 99) = X2 := ⟨_, rfl⟩
   have hb12 : Below X1.heap.size X1 X2 := by rw [← hX2]; exact (Below.refl _ _).alloc (Nat.le_refl _) _
   have hP2 := hP1.ty (ty_below hb12); have j2 := blk_below j1 hb12; have hz2' := blk_below hz1' hb12; have hb2x := B3 hb1x hb12; obtain ⟨X3, hX3⟩ : ∃ X3, X2.setCell ⟨w2.heap.size, 2, none⟩ (.slice (some ⟨X1.heap.size, 0, none⟩) 0 0) = X3 := ⟨_, rfl⟩
   obtain ⟨j3, o3'⟩ := set_last j2 (.slice (some ⟨X1.heap.size, 0, none⟩) 0 0); have hb3x : Below w.heap.size w X3 := by rw [← hX3]; exact hb2x.setCell (p := ⟨w2.heap.size, 2, none⟩) (by show w.heap.size ≤ w2.heap.size; omega) _
   rw [hX3] at j3 o3'; have hP3 := hP2.ty (ty_only j2 o3'); have hz3' := (ty_other j2 o3' (by omega) hz2')
   obtain ⟨⟨c0', c1', c2'⟩, g0', g1', g2'⟩ := box_cell hk5; obtain ⟨⟨e0', e1', e2'⟩, h0', h1', h2'⟩ := box_cell j2; obtain ⟨⟨b0, b1, b2⟩, -⟩ := box_cell j3; obtain ⟨⟨q0, q0'⟩, q1, q2⟩ := set3_rules hz3'; have q1a := fun u => (q1 u).1; have q1b := fun u => (q1 u).2; have q2a := fun u x => (q2 u x).1; have q2b := fun u x => (q2 u x).2; have HP3 := hidE hP3; have HZ3 := hidE hz3'; have HB3x := hidE hb3x; clear q1 q2 hown' hgrow hty hal hP5 hP1 hP2 hP3 j1 j2 j3 o1' o3' hz5 hz1' hz2' hz3' hk5 hb5 hb1x hb2x hb12 hb3x hrow hzr' hUk' hzr hUk k0 k1 k2 f0 f1 f2; go_wp2
   have s3 := set3_is HZ3.out (.slice p0 x.b.length d0) (.slice av (x.l.length + 1) cv) (.slice (some ⟨X1.heap.size, 0, none⟩) 0 0); have z0 := cell_of_row _ (w.heap.size + 1) 0 _ _ _ s3.2; have z1 := cell_of_row _ (w.heap.size + 1) 1 _ _ _ s3.2; have z2 := cell_of_row _ (w.heap.size + 1) 2 _ _ _ s3.2; exact bodyPost_ret (v := .tuple #[.agg #[.slice p0 x.b.length d0, .slice av (x.l.length + 1) cv, .slice (some ⟨X1.heap.size, 0, none⟩) 0 0], .bool true]) (by simp [results, Tryz.f30, go_sem, z0, z1, z2]) rfl ⟨_, by rw [HFB.out], (by rw [HFO.out]; exact (HP3.out.ty (ty_only HZ3.out s3.1)).lie ⟨hb0, HS.out.1⟩ (by omega) HSz.out ⟨hb2, HS.out.2.2⟩ (rm_made _ _)), s3.1.below HB3x.out (by omega)⟩
theorem push_sz {x : O} (h : Sz 1048576 x) : Sz 16777216 (puO x) ∧ cntO (puO x) ≤ 1000 ∧ totO (puO x) ≤ 1048576 ∧ (puO x).l.length ≤ 1048576 := by
 cases hok : okB x with
 | false =>
  have e : puO x = ⟨[], [], []⟩ := by unfold puO; rw [hok]; rfl
  rw [e]; exact nil_sz
 | true =>
  have hs := sz_sm h; obtain ⟨h1, h2, h3, h4, h5⟩ := ok_len hok; by_cases hx4 : x.l.length = 4
  ·
   have e : puO x = x := by unfold puO; rw [hok, if_pos rfl, if_pos hx4]
   rw [e]; exact few_sz (y := x) h1 hs.1 (by omega) (fun l hl => ⟨h3 l hl, hs.2.1 l hl⟩) h4 hs.2.2
  ·
   have e : puO x = ⟨x.b, x.l ++ [x.u], []⟩ := by unfold puO; rw [hok, if_pos rfl, if_neg hx4]
   rw [e]; refine few_sz (y := ⟨x.b, x.l ++ [x.u], []⟩) h1 hs.1 (by show (x.l ++ [x.u]).length ≤ 5; rw [List.length_append, List.length_singleton]; omega) (fun l hl => ?_) (Nat.zero_le _) smM0; rcases List.mem_append.1 hl with hl | hl
   ·
    exact ⟨h3 l hl, hs.2.1 l hl⟩
   ·
    obtain rfl := List.mem_singleton.1 hl; exact ⟨h4, hs.2.2⟩
end Go.Proofs.YteppodogghjfhaaGreatDoor.Ov
