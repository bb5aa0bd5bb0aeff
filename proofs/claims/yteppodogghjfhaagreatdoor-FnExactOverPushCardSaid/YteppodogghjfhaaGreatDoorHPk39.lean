import Derived.Test.YteppodogghjfhaaGreatDoorHOvOf
import Derived.Test.YteppodogghjfhaaGreatDoorHPk30
import Derived.Test.YteppodogghjfhaaGreatDoorHPk38
namespace Go.Proofs.YteppodogghjfhaaGreatDoor.Ov
open Go.RowKit Go.Lib
def LR (w : World) (base : Nat) (v : Value) (ls : List (List Mk.E)) : Prop := ∃ us : List Value, us.length = ls.length ∧ w.ownsRow base 31 1 v ls.length us ∧ (∀ i (h : i < us.length) (h2 : i < ls.length), Mk.OwnE w base us[i] ls[i]) ∧ (∀ i j (hi : i < us.length) (hj : j < us.length) p q, i < j → us[i].ownBlock = some p → us[j].ownBlock = some q → p < q)
theorem own_row_ne {w : World} {b1 b2 n : Nat} {v u : Value} {us : List Value} {l : List Mk.E} (h : w.ownsRow b1 31 1 v n us) (k : Mk.OwnE w b2 u l) : u.ownBlock = none ∨ u.ownBlock ≠ v.ownBlock := by
 obtain ⟨_, ⟨rfl, _⟩ | ⟨g, cap, cur, rfl, _, hg, _⟩⟩ := k
 ·
  exact .inl rfl
 ·
  obtain ⟨_, ⟨rfl, _⟩ | ⟨g', cap', cur', rfl, _, hg', _⟩⟩ := h
  ·
   exact .inr (by simp [Value.ownBlock])
  ·
   refine .inr fun e => ?_; simp only [Value.ownBlock, Option.some.injEq] at e; subst e; rw [hg] at hg'; simp at hg'
theorem LR.nil (w : World) (base : Nat) : LR w base (.slice none 0 0) [] := ⟨[], rfl, World.ownsRow_nil _ _ _ _, fun i h => absurd h (by simp), fun i j hi => absurd hi (by simp)⟩
theorem LR.below {w w' : World} {base : Nat} {v : Value} {ls : List (List Mk.E)} (h : LR w base v ls) (hb : Below w.heap.size w w') : LR w' base v ls := by
 obtain ⟨us, h1, h2, h3, h4⟩ := h; refine ⟨us, h1, ?_, fun i hi hi2 => (h3 i hi hi2).below hb, h4⟩
 exact World.ownsRow.kept (row := none) h2 ⟨hb.os, hb.tape, hb.output, hb.size, fun b hb' _ => hb.block b hb'⟩ (by
  cases hob : v.ownBlock with
  | none => exact .inl rfl
  | some q => exact .inr (by simp))
theorem own_lt {w : World} {base : Nat} {u : Value} {l : List Mk.E} (h : Mk.OwnE w base u l) {p : Nat} (hp : u.ownBlock = some p) : base ≤ p ∧ p < w.heap.size := World.ownsRow.lt h p hp
theorem LR.grow {w w' : World} {base : Nat} {v : Value} {ls : List (List Mk.E)} (h : LR w base v ls) (hb : Below w.heap.size w w') : ∃ us : List Value, us.length = ls.length ∧ w'.ownsRow base 31 1 v ls.length us ∧ (∀ i (h : i < us.length) (h2 : i < ls.length), Mk.OwnE w' base us[i] ls[i]) ∧ (∀ i j (hi : i < us.length) (hj : j < us.length) p q, i < j → us[i].ownBlock = some p → us[j].ownBlock = some q → p < q) ∧ (∀ i (hi : i < us.length) p, us[i].ownBlock = some p → p < w.heap.size) := by
 obtain ⟨us, h1, h2, h3, h4⟩ := h; refine ⟨us, h1, ?_, fun i hi hi2 => (h3 i hi hi2).below hb, h4, fun i hi p hp => (own_lt (h3 i hi (by omega)) hp).2⟩
 exact World.ownsRow.kept (row := none) h2 ⟨hb.os, hb.tape, hb.output, hb.size, fun b hb' _ => hb.block b hb'⟩ (by
  cases hob : v.ownBlock with
  | none => exact .inl rfl
  | some q => exact .inr (by simp))
theorem one_slice (a : Option Addr) (n c : Nat) : ∀ u ∈ [Value.slice a n c], u.oneCell' = true := by
 intro u hu; rw [List.mem_singleton] at hu; subst hu; rfl
theorem news_slice (w : World) (u : Value) : ∀ j x, [u][j]? = some x → (w.alloc (.cells #[u] 31)).cell? ((⟨w.heap.size, 0, none⟩ : Addr).add j) = some x := by
 intro j x h; rcases j with _ | j
 ·
  simp only [List.getElem?_cons_zero, Option.some.injEq] at h; subst h; rw [Mk.add0]; simp
 ·
  simp at h
theorem LR.push {w w' : World} {base : Nat} {v v' u : Value} {ls : List (List Mk.E)} {l : List Mk.E} {n : Nat} {us : List Value} (h1 : us.length = ls.length) (h2 : w.ownsRow base 31 1 v ls.length us) (h3 : ∀ i (h : i < us.length) (h2 : i < ls.length), Mk.OwnE w base us[i] ls[i])
  (h4 : ∀ i j (hi : i < us.length) (hj : j < us.length) p q, i < j → us[i].ownBlock = some p → us[j].ownBlock = some q → p < q) (hu : Mk.OwnE w n u l) (hn : base ≤ n) (hlt : ∀ i (hi : i < us.length) p, us[i].ownBlock = some p → p < n) (hr : w'.ownsRow base 31 1 v' (ls.length + 1) (us ++ [u])) (hg : w.grownBy w' v.ownBlock) :
  LR w' base v' (ls ++ [l]) := by
 refine ⟨us ++ [u], by simp [h1], by rw [List.length_append]; exact hr, fun i hi hi2 => ?_, fun i j hi hj p q hij hp hq => ?_⟩
 ·
  by_cases e : i < us.length
  ·
   rw [List.getElem_append_left e, List.getElem_append_left (by omega)]; exact World.ownsRow.kept (h3 i e (by omega)) hg (own_row_ne h2 (h3 i e (by omega)))
  ·
   have : i = us.length := by simp at hi; omega
   subst this; rw [List.getElem_append_right (Nat.le_refl _), List.getElem_append_right (by omega)]; have e1 : (us ++ [u]).length = us.length + 1 := by simp
   simp only [Nat.sub_self, List.getElem_cons_zero, h1]; exact Mk.OwnE.lower (show Mk.OwnE w' n u l from World.ownsRow.kept hu hg (own_row_ne h2 hu)) hn
 ·
  by_cases e : j < us.length
  ·
   rw [List.getElem_append_left e] at hq; rw [List.getElem_append_left (by omega)] at hp; exact h4 i j (by omega) e p q hij hp hq
  ·
   have hju : j = us.length := by simp at hj; omega
   subst hju; rw [List.getElem_append_left (by omega)] at hp; rw [List.getElem_append_right (Nat.le_refl _)] at hq; simp only [Nat.sub_self, List.getElem_cons_zero] at hq; have := (own_lt hu hq).1; have := hlt i (by omega) p hp; omega
theorem LR.ol {w : World} {base : Nat} {v : Value} {ls : List (List Mk.E)} (h : LR w base v ls) : OL base w.heap.size w v ls := by
 obtain ⟨us, h1, h2, h3, h4⟩ := h; have hc := fun (g : Nat) (hg : v.ownBlock = some g) => World.ownsRow.cells h2 hg
 have hin : ∀ i (hi : i < ls.length), ∃ a g cap, us[i]'(by omega) = .slice a ls[i].length cap ∧ ls[i].length ≤ cap ∧ (0 < ls[i].length → a = some ⟨g, 0, none⟩ ∧ base ≤ g ∧ g < w.heap.size ∧ (us[i]'(by omega)).ownBlock = some g) ∧ Mk.Ents w g 0 ls[i] ∧ Room w g (ls[i].length * 3) := by
  intro i hi; have k := h3 i (by omega) hi; obtain ⟨a, g, cap, e, q1, q2, q3, q4⟩ := Mk.row_entsE k; obtain ⟨a', g', cap', e', r1, r2, r3⟩ := k.ents; rw [e] at e'; cases e'; refine ⟨a, g, cap, e, r3, fun p => ⟨q1 p, q4, World.block_lt_of_cell? w ⟨g, _, none⟩ (q2 0 p).1, ?_⟩, q2, q3⟩; rw [e, q1 p]; rfl
 have hu := h2; obtain ⟨_, ⟨rfl, e0⟩ | ⟨g, cap, cur, rfl, hb, hg, hcap, _⟩⟩ := h2
 ·
  refine ⟨none, 0, 0, fun _ => 0, by rw [e0], by omega, fun p => by omega, fun i hi => by omega, fun i j hi => by omega⟩
 ·
  have hlt : g < w.heap.size := by
   rcases Nat.lt_or_ge g w.heap.size with h | h
   ·
    exact h
   ·
    rw [Array.getElem?_eq_none h] at hg; cases hg
  refine ⟨_, g, cap, fun i => if h : i < us.length then (us[i].ownBlock).getD 0 else 0, rfl, hcap, fun _ => ⟨rfl, hb, hlt⟩, fun i hi => ?_, fun i j hi hj hij p q => ?_⟩
  ·
   obtain ⟨a, gi, ci, e, q1, q2, q3, q4⟩ := hin i hi; have hi' : i < us.length := by omega
   have hcell := hc g rfl i us[i] (List.getElem?_eq_getElem hi'); rw [Mk.add0, Nat.zero_add, e] at hcell; refine ⟨a, ci, hcell, q1, fun p => ?_, ?_, ?_⟩
   ·
    obtain ⟨r1, r2, r3, r4⟩ := q2 p; dsimp only; rw [dif_pos hi', r4]; refine ⟨r1, r2, r3, fun e2 => ?_⟩; have := own_row_ne hu (h3 i hi' hi); rw [r4] at this; rcases this with t | t
    ·
     cases t
    ·
     exact t (by rw [show gi = g from e2]; rfl)
   ·
    by_cases p : 0 < ls[i].length
    ·
     dsimp only; rw [dif_pos hi', (q2 p).2.2.2]; exact q3
    ·
     exact fun y hy => absurd hy (by omega)
   ·
    by_cases p : 0 < ls[i].length
    ·
     dsimp only; rw [dif_pos hi', (q2 p).2.2.2]; exact q4
    ·
     exact fun y hy => absurd hy (by omega)
  ·
   obtain ⟨a, gi, ci, e, q1, q2, q3, q4⟩ := hin i hi; obtain ⟨a', gj, cj, e', q1', q2', q3', q4'⟩ := hin j hj; have hi' : i < us.length := by omega
   have hj' : j < us.length := by omega
   dsimp only; rw [dif_pos hi', dif_pos hj', (q2 p).2.2.2, (q2' q).2.2.2]; exact h4 i j hi' hj' _ _ hij (q2 p).2.2.2 (q2' q).2.2.2
set_option maxHeartbeats 1000000 in
set_option maxRecDepth 100000 in
theorem freshLayer_any (w : World) (v : Value) (l : List Mk.E) (h : RM w v l) (hn : l.length ≤ 1000) :
  Calls Tryz.prog 131 #[v] w fun r w' => ∃ u, r = .returned u ∧ Mk.OwnE w' w.heap.size u l ∧ Below w.heap.size w w' := by
 obtain ⟨a, g, o, cap, rfl, h1, h2, h3, h4, h5⟩ := h; have HC := hidE (Mk.freshList_any w a g o cap l hn h3 h4 h5); clear h5; go_enter Tryz.func131, Tryz.ntmps131
 go_wp2_with fail
 refine HC.out.mono ?_; rintro e w1 ⟨u, rfl, hO, hB⟩; have HO := hidE hO; have HB := hidE hB; clear hO hB HC; go_wp2
 go_ret
 exact ⟨_, rfl, HO.out, HB.out⟩
set_option maxHeartbeats 2000000 in
set_option maxRecDepth 100000 in
theorem freshLL_any (w : World) (v : Value) (ls : List (List Mk.E)) (h : RL w v ls) (hn : ls.length ≤ 1000) (hn2 : ∀ l ∈ ls, l.length ≤ 1000) :
  Calls Tryz.prog 130 #[v, .func (.func 131) #[] #[]] w fun r w' => ∃ u, r = .returned u ∧ LR w' w.heap.size u ls ∧ Below w.heap.size w w' := by
 obtain ⟨a, g, o, cap, rfl, h1, h2, h4, h5⟩ := h; obtain ⟨i0, hi, hz0, hz1, hz2⟩ := info_parts Tryz.infoL
 have HE := hidE (fun (W : World) (hb : Below w.heap.size w W) (i : Nat) (hi : i < ls.length) => show ∃ u, W.cell? ⟨g, o + i, none⟩ = some u ∧ RM W u ls[i] from by
  obtain ⟨u, c, r⟩ := h5 i hi
  exact ⟨u, (hb.cell (p := ⟨g, o + i, none⟩) (World.block_lt_of_cell? w ⟨g, o + i, none⟩ c)).trans c, r.below hb⟩)
 have HN := hidE hn2; clear h5 hn2; go_enter Tryz.func130, Tryz.ntmps130
 go_wp2
 go_loopw [5, 10] (fun tv iv wl => ∃ j : Nat, j ≤ ls.length ∧ iv = .int .i64 j ∧ Hid (LR wl w.heap.size tv (ls.take j)) ∧ Hid (Below w.heap.size w wl)) (fun _ iv _ => ls.length - (RowKit.intOf iv).toNat)
 case atStart => exact ⟨0, Nat.zero_le _, rfl, LR.nil _ _, Below.refl _ _⟩
 case round =>
  obtain ⟨j, hj, rfl, HR, HB⟩ := hrel; by_cases hlt : j < ls.length
  ·
   obtain rfl := h4 (by omega); obtain ⟨u, c0, hu⟩ := HE.out _ HB.out j hlt; obtain ⟨au, gu, ou, cu, rfl, -⟩ := id hu; have HC := hidE (freshLayer_any wr _ ls[j] hu (HN.out _ (List.getElem_mem _))); have HT := hidE (show ls.take (j + 1) = ls.take j ++ [ls[j]] from List.take_succ_eq_append_getElem hlt); have hlen : (ls.take j).length ≤ 1000 := by rw [List.length_take]; omega
   obtain ⟨ts, hts⟩ : ∃ ts, ls.take j = ts := ⟨_, rfl⟩
   rw [hts] at HR hlen HT; clear hts hu; go_wp2_with fail
   refine HC.out.mono ?_; rintro e w2 ⟨u2, rfl, hO2, hB2⟩; have HB2 := hidE (HB.out.trans (hB2.mono HB.out.size)); have hsz := HB2.out.size; have hsr := HB.out.size; have hA2 : Below w2.heap.size w2 (w2.alloc (.cells #[u2] 31)) := (Below.refl _ w2).alloc (Nat.le_refl _) _; obtain ⟨us, q1, q2, q3, q4, q5⟩ := HR.out.grow (B3 hB2 hA2); have HO2 := hidE (hO2.below hA2); obtain ⟨a2, g2, cap2, rfl, -⟩ := hO2.ents; have Q1 := hidE q1; have Q2 := hidE q2; have Q3 := hidE q3; have Q4 := hidE q4; have Q5 := hidE q5; have HN2 := hidE (news_slice w2 (.slice a2 ls[j].length cap2)); have HS2 := hidE (one_slice a2 ls[j].length cap2); have HA2 := hidE (HB2.out.alloc hsz (.cells #[.slice a2 ls[j].length cap2] 31)); clear q1 q2 q3 q4 q5 hO2 hB2 hA2 HR HB HC c0
   go_wp2_with (first
    | (at_builtin; refine wpList_append_own _ rfl (.tmp 14) (.tmp 18) 30 rfl w.heap.size 31 i0 _ 1 24 Tryz.underlying30 hi hz0 hz1 hz2 rfl (by decide) _ ts.length us rfl Q2.out ⟨w2.heap.size, 0, none⟩ 1 1 [.slice a2 ls[j].length cap2] rfl rfl HN2.out HS2.out (by unfold maxLen; omega) (by omega) (by simp; omega) ?_; intro v4 w4 hown4 hgrow4 _)
    | fail)
   have HR4 : Hid (LR w4 w.heap.size v4 (ts ++ [ls[j]])) := LR.push Q1.out Q2.out Q3.out Q4.out HO2.out hsr Q5.out hown4 hgrow4; have HB4 := hidE (HA2.out.grown hgrow4 (by simp; omega) (fun k hk => (World.ownsRow.lt Q2.out k hk).1)); clear hown4 hgrow4; go_wp2
   go_roundw
   case rel => exact ⟨j + 1, by omega, by go_num, by rw [HT.out]; exact HR4, HB4⟩
   case measure => simp [RowKit.intOf]; omega
  ·
   go_wp2
   go_ret
   rw [List.take_of_length_le (by omega)] at HR; exact ⟨_, rfl, HR.out, HB.out⟩
theorem TreeV.ex {w : World} {v : Value} {x : O} {lo se : List E} (h : TreeV w v x lo se) : ∃ p0 c0 p1 c1 p2 c2 p3 c3 p4 c4, v = .agg #[.slice p0 x.b.length c0, .slice p1 x.l.length c1, .slice p2 x.u.length c2, .slice p3 lo.length c3, .slice p4 se.length c4] := by
 obtain ⟨v0, v1, v2, u3, u4, rfl, ⟨a0, g0, o0, c0, rfl, -⟩, ⟨a1, g1, o1, c1, rfl, -⟩, ⟨a2, g2, o2, c2, rfl, -⟩, ⟨a3, g3, o3, c3, rfl, -⟩, ⟨a4, g4, o4, c4, rfl, -⟩⟩ := h; exact ⟨_, _, _, _, _, _, _, _, _, _, rfl⟩
end Go.Proofs.YteppodogghjfhaaGreatDoor.Ov
