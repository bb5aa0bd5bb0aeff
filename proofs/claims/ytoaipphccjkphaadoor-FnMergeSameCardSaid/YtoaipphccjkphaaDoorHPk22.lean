import Derived.Stop.Asserts
import Derived.Test.YtoaipphccjkphaaDoorHPk18
import Derived.Test.YtoaipphccjkphaaDoorHErrIs
import Derived.Test.YtoaipphccjkphaaDoorHRdFresh
import Derived.Test.YtoaipphccjkphaaDoorHPk21
import Derived.Deep.RegionHeld3
import Derived.Maps.AppendAt
import Derived.Test.YtoaipphccjkphaaDoorHPk15
import Derived.Test.YtoaipphccjkphaaDoorHPk05
import Derived.Test.YtoaipphccjkphaaDoorHPk12
namespace Go.Proofs.YtoaipphccjkphaaDoor.Mg
open Go.RowKit Go.Lib
def errP (s : ByteArray) : Value := .iface 89 (.agg #[.string s])
open Go.Maps
def msQ (q : List ByteArray) (tv pv : Value) (w : World) : Nat := match tv, pv with
 | .bool true, .pointer (some p) => match w.cell? ⟨p.block, 0, none⟩ with
  | some (.string s) => (q.dropWhile (fun x => !decide (x = s))).length
  | _ => 0
 | _, _ => 0
theorem drop_while : ∀ (q : List ByteArray), q.Pairwise less → ∀ k s r, q.drop k = s :: r → q.dropWhile (fun x => !decide (x = s)) = q.drop k
 | [], _, k, s, r, h => by simp at h
 | x :: q, hq, 0, s, r, h => by
  simp only [List.drop_zero, List.cons.injEq] at h; rw [List.drop_zero, List.dropWhile_cons_of_neg (by simp [h.1])]
 | x :: q, hq, k + 1, s, r, h => by
  rw [List.drop_succ_cons] at h; have hs : s ∈ q := List.mem_of_mem_drop (by rw [h]; simp)
  have hne : x ≠ s := fun e => by
   have := (List.pairwise_cons.1 hq).1 s hs; rw [e] at this; exact less_irrefl _ this
  rw [List.dropWhile_cons_of_pos (by simp [hne]), List.drop_succ_cons]; exact drop_while q (List.pairwise_cons.1 hq).2 k s r h
theorem msQ_is {q : List ByteArray} (hq : q.Pairwise less) (k : Nat) (p : Addr) (w : World) (T : TypeId) (x y z : E × Bool) (hp : Bx w p.block T (cA (hdQ (q.drop k)).1 x y z)) : msQ q (.bool (hdQ (q.drop k)).2) (.pointer (some p)) w = (q.drop k).length := by
 cases h : q.drop k with
 | nil => rfl
 | cons s r =>
  rw [h] at hp; have hc := hp.cell 0
  show (match w.cell? ⟨p.block, 0, none⟩ with
   | some (.string s) => (q.dropWhile (fun x => !decide (x = s))).length
   | _ => 0) = _
  rw [hc]; show (q.dropWhile (fun x => !decide (x = s))).length = _
  rw [drop_while q hq k s r h, h]
theorem mk_no {t a b : List E} {s : ByteArray} (h : (mk t a b s).2.2 = false) : (mk t a b s).2.1 = false := by
 unfold mk at3 at h ⊢
 split at h
 ·
  cases h
 ·
  split at h
  ·
   cases h
  ·
   rename_i h1 h2; rw [if_neg h1, if_neg h2]
theorem OwnE.blk {w w' : World} {base : Nat} {v : Value} {es : List E} (h : OwnE w base v es) (hk : ∀ g, v.ownBlock = some g → w'.heap[g]? = w.heap[g]?) : OwnE w' base v es := row_blk h hk
theorem OwnE.ltB {w : World} {base : Nat} {v : Value} {es : List E} (h : OwnE w base v es) : ∀ g, v.ownBlock = some g → base ≤ g ∧ g < w.heap.size := World.ownsRow.lt h
structure MgW (W : World) (n b P : Nat) (mv cv : Value) (t a c : List E) (q : List ByteArray) (k : Nat) : Prop where
 at_ : Bx W P 51 (cA (hdQ (q.drop k)).1 (toldQ t (q.drop k)) (toldQ a (q.drop k)) (toldQ c (q.drop k)))
 low : b + 3 ≤ P
 trio : Trio W b n t a c (q.drop k).tail
 merged : OwnE W (b + 3) mv (mergeL t a c (q.take k))
 clashes : W.ownsRow (b + 3) 53 1 cv (clashL t a c (q.take k)).length ((clashL t a c (q.take k)).map errP)
theorem MgW.below {W W' : World} {n b P : Nat} {mv cv : Value} {t a c : List E} {q : List ByteArray} {k : Nat} (h : MgW W n b P mv cv t a c q k) (hb : Below W.heap.size W W') : MgW W' n b P mv cv t a c q k :=
 ⟨h.at_.below hb, h.low, h.trio.below hb, h.merged.below hb, rowkeep h.clashes hb⟩
theorem row_row {w : World} {b1 b2 n1 n2 s1 s2 : Nat} {e1 e2 : TypeId} {v1 v2 : Value} {xs ys : List Value} (h : w.ownsRow b1 e1 s1 v1 n1 xs) (k : w.ownsRow b2 e2 s2 v2 n2 ys) (hne : e1 ≠ e2) : ∀ g, v1.ownBlock = some g → v2.ownBlock ≠ some g := fun g hg hg2 => by
 obtain ⟨_, ⟨rfl, e0⟩ | ⟨g1, cap, cur, rfl, _, q1, _⟩⟩ := h
 ·
  simp [Value.ownBlock] at hg
 ·
  obtain ⟨_, ⟨rfl, e0⟩ | ⟨g2, cap2, cur2, rfl, _, q2, _⟩⟩ := k
  ·
   simp [Value.ownBlock] at hg2
  ·
   obtain rfl : g1 = g := by simpa [Value.ownBlock] using hg
   obtain rfl : g2 = g1 := by simpa [Value.ownBlock] using hg2
   rw [q1] at q2
   injection q2 with q2
   injection q2 with _ h2 _
   exact hne h2
theorem MgW.pushE {W W1 w5 : World} {n b P : Nat} {mv cv : Value} {t a c : List E} {q : List ByteArray} {k : Nat} (h : MgW W n b P mv cv t a c q k) (hW : Below W.heap.size W W1) (hg : W1.grownBy w5 mv.ownBlock) :
  Bx w5 P 51 (cA (hdQ (q.drop k)).1 (toldQ t (q.drop k)) (toldQ a (q.drop k)) (toldQ c (q.drop k))) ∧ Trio w5 b n t a c (q.drop k).tail ∧ w5.ownsRow (b + 3) 53 1 cv (clashL t a c (q.take k)).length ((clashL t a c (q.take k)).map errP) := by
 have h1 := h.below hW; refine ⟨h1.at_.grown hg (row_ne h1.merged h1.at_ (by decide)), h1.trio.grown hg (fun r hr => (OwnE.ltB h1.merged r hr).1) hg.size, row_blk h1.clashes fun g hgo => ?_⟩; exact hg.block g (World.ownsRow.lt h1.clashes g hgo).2 (fun e => row_row h1.clashes h1.merged (by decide) g hgo e.symm)
theorem MgW.pushC {W W1 w5 : World} {n b P : Nat} {mv cv : Value} {t a c : List E} {q : List ByteArray} {k : Nat} (h : MgW W n b P mv cv t a c q k) (hW : Below W.heap.size W W1) (hg : W1.grownBy w5 cv.ownBlock) :
  Bx w5 P 51 (cA (hdQ (q.drop k)).1 (toldQ t (q.drop k)) (toldQ a (q.drop k)) (toldQ c (q.drop k))) ∧ Trio w5 b n t a c (q.drop k).tail ∧ OwnE w5 (b + 3) mv (mergeL t a c (q.take k)) := by
 have h1 := h.below hW; refine ⟨h1.at_.grown hg (row_ne h1.clashes h1.at_ (by decide)), h1.trio.grown hg (fun r hr => (World.ownsRow.lt h1.clashes r hr).1) hg.size, OwnE.blk h1.merged fun g hgo => ?_⟩; exact hg.block g (OwnE.ltB h1.merged g hgo).2 (fun e => row_row h1.merged h1.clashes (by decide) g hgo e.symm)
def ErrJ (W : World) (ev : Value) (ss : List ByteArray) : Prop := (ss = [] → ev = .nilIface) ∧ (ss ≠ [] → ∃ p v base, ev = .iface 122 (.pointer (some ⟨p, 0, none⟩)) ∧ W.cell? ⟨p, 0, none⟩ = some v ∧ W.ownsRow base 53 1 v ss.length (ss.map errP))
set_option maxHeartbeats 4000000 in
set_option maxRecDepth 100000 in
theorem mergeOf_no (w : World) (v1 v2 v3 : Value) (t a c : List E) (ae : Int → Addr) (bad : Value) (hErr : Errs2 w ae) (hBad : w.cell? ⟨0, 0, none⟩ = some (.iface 132 bad)) (h1 : Row w v1 t) (h2 : Row w v2 a) (h3 : Row w v3 c) (ht : trees3 t a c = false) :
  Calls Tryd.prog 35 #[v1, v2, v3] w fun r w' => r = .returned (.tuple #[.slice none 0 0, .iface 132 bad]) ∧ Below w.heap.size w w' := by
 obtain ⟨a1, g1, o1, c1, rfl, -⟩ := id h1; obtain ⟨a2, g2, o2, c2, rfl, -⟩ := id h2; obtain ⟨a3, g3, o3, c3, rfl, -⟩ := id h3; obtain ⟨W0, hW0⟩ : ∃ W0, w.alloc (.cells #[.slice a1 t.length c1, .slice a2 a.length c2, .slice a3 c.length c3] 23) = W0 := ⟨_, rfl⟩
 have hb0 : Below w.heap.size w W0 := by rw [← hW0]; exact (Below.refl _ w).alloc (Nat.le_refl _) _
 have hR : Rows3 W0 w.heap.size [t, a, c] := fun i hi => by
  rcases i with _ | _ | _ | i
  ·
   exact ⟨_, by rw [← hW0]; simp, h1.below hb0⟩
  ·
   exact ⟨_, by rw [← hW0]; simp, h2.below hb0⟩
  ·
   exact ⟨_, by rw [← hW0]; simp, h3.below hb0⟩
  ·
   simp at hi; omega
 have HA := hidE (allTrees_any W0 w.heap.size 3 [t, a, c] ae (hErr.below hb0) (by simp) hR); rw [trees3_all, ht] at HA; have HB := hidE hb0; have HE := hidE (fun (W : World) (h : Below w.heap.size w W) => below_cell h hBad); clear h1 h2 h3 hErr hR hb0 hBad; go_enter Tryd.func35, Tryd.ntmps35
 go_wp2_with fail
 clear hW0; refine HA.out.mono ?_; rintro e w1 ⟨rfl, hB1⟩; have HB1 := hidE (B3G HB.out hB1); have e0 := HE.out _ HB1.out; clear hB1; go_wp2
 go_region_with (fail)
 all_goals go_wp2
 all_goals exact bodyPost_ret (v := .tuple #[.slice none 0 0, .iface 132 bad]) (by simp [results, Tryd.results35, go_sem]) rfl ⟨rfl, Below.drew HB1.out⟩
theorem errs_of {w : World} {base : Nat} {v : Value} {ss : List ByteArray} (h : w.ownsRow base 53 1 v ss.length (ss.map errP)) : ∃ a g c, v = .slice a ss.length c ∧ Errs w a g (ss.map errP) := by
 have hc := fun (g : Nat) (hg : v.ownBlock = some g) => World.ownsRow.cells h hg
 have hs : ∀ x ∈ ss.map errP, ∃ T u, x = .iface T u := fun x hx => by
  obtain ⟨s, -, rfl⟩ := List.mem_map.1 hx; exact ⟨_, _, rfl⟩
 obtain ⟨_, ⟨rfl, e0⟩ | ⟨g, cap, cur, rfl, _⟩⟩ := h
 ·
  refine ⟨none, 0, 0, by rw [e0], fun h => by rw [List.length_map] at h; omega, fun i h => by rw [List.length_map] at h; omega, hs⟩
 ·
  refine ⟨_, g, cap, rfl, fun _ => rfl, fun i h => ?_, hs⟩; have := hc g rfl i (ss.map errP)[i] (List.getElem?_eq_getElem h); rw [add0, Nat.zero_add] at this; exact this
theorem left_drop {t a b : List E} {q : List ByteArray} (h : Left t a b q) (k : Nat) : Left t a b (q.drop k) :=
 ⟨h.sort.sublist (List.drop_sublist k q), fun s hs => h.path s (List.mem_of_mem_drop hs), fun s hs => h.from3 s (List.mem_of_mem_drop hs)⟩
set_option maxHeartbeats 8000000 in
set_option maxRecDepth 100000 in
theorem mergeOf_yes (w : World) (v1 v2 v3 : Value) (t a c : List E) (ae : Int → Addr) (hErr : Errs2 w ae) (h1 : Row w v1 t) (h2 : Row w v2 a) (h3 : Row w v3 c) (ht : trees3 t a c = true) :
  Calls Tryd.prog 35 #[v1, v2, v3] w fun r w' => ∃ mv ev, r = .returned (.tuple #[mv, ev]) ∧ OwnE w' w.heap.size mv (mergeL t a c (pathsE t a c)) ∧ ErrJ w' ev (clashL t a c (pathsE t a c)) ∧ Below w.heap.size w w' := by
 obtain ⟨i0, hi, hzz0, hzz1, hzz2⟩ := info_parts Tryd.infoE'; obtain ⟨i1, hj, hjj0, hjj1, hjj2⟩ := info_parts Tryd.infoErr; obtain ⟨hL, R1, R2, R3, e1, e2, e3⟩ := left_all ht; obtain ⟨t1, t2, t3⟩ := trees_parts ht; have l1 := (treeE_tr t1).2; have l2 := (treeE_tr t2).2; have l3 := (treeE_tr t3).2; have hpl := paths_len t a c; have hqs := hL.sort; obtain ⟨q, hq⟩ : ∃ q, pathsE t a c = q := ⟨_, rfl⟩
 rw [hq] at hL e1 e2 e3 hpl hqs ⊢; clear t1 t2 t3 hq; obtain ⟨a1, g1, o1, c1, rfl, -⟩ := id h1; obtain ⟨a2, g2, o2, c2, rfl, -⟩ := id h2; obtain ⟨a3, g3, o3, c3, rfl, -⟩ := id h3; obtain ⟨W0, hW0⟩ : ∃ W0, w.alloc (.cells #[.slice a1 t.length c1, .slice a2 a.length c2, .slice a3 c.length c3] 23) = W0 := ⟨_, rfl⟩
 have hb0 : Below w.heap.size w W0 := by rw [← hW0]; exact (Below.refl _ w).alloc (Nat.le_refl _) _
 have hR : Rows3 W0 w.heap.size [t, a, c] := fun i hi => by
  rcases i with _ | _ | _ | i
  ·
   exact ⟨_, by rw [← hW0]; simp, h1.below hb0⟩
  ·
   exact ⟨_, by rw [← hW0]; simp, h2.below hb0⟩
  ·
   exact ⟨_, by rw [← hW0]; simp, h3.below hb0⟩
  ·
   simp at hi; omega
 have HA := hidE (allTrees_any W0 w.heap.size 3 [t, a, c] ae (hErr.below hb0) (by simp) hR); rw [trees3_all, ht] at HA; have HB := hidE hb0; have HP := hidE (fun (W : World) (h : Below w.heap.size w W) => pullThree_any W _ _ _ t a c q (h1.below h) (h2.below h) (h3.below h) e1 e2 e3); have HL := hidE hL; have HR3 := hidE (And.intro R1 (And.intro R2 R3)); have HQS := hidE hqs; clear h1 h2 h3 hErr hR hb0 hL R1 R2 R3 e1 e2 e3 hqs; go_enter Tryd.func35, Tryd.ntmps35
 go_wp2_with fail
 clear hW0; refine HA.out.mono ?_; rintro e w1 ⟨rfl, hB1⟩; have HB1 := hidE (B3G HB.out hB1); have hz1 := HB1.out.size; clear hB1 HA HB; go_wp2_with fail
 refine (HP.out _ HB1.out).mono ?_; rintro e w2 ⟨rfl, hT2, hB2⟩; have HT2 := hidE hT2; have HB2 := hidE (B3G HB1.out hB2); have hb2 := hB2.size; obtain ⟨b, hb⟩ : ∃ b, w1.heap.size = b := ⟨_, rfl⟩
 rw [hb] at HT2 hz1 hb2 ⊢; have HQ := hidE (pullQ_any w2 b b t a c q HT2.out HL.out HR3.out.1 HR3.out.2.1 HR3.out.2.2); have HQ0 : Hid (b + 3 ≤ w2.heap.size) := by obtain ⟨-, -, -, -, -, -, -, -, -, h, -⟩ := HT2.out; exact h
 clear hB2 hT2 HP HB1 HT2; go_wp2_with fail
 refine HQ.out.mono ?_; rintro e w3 ⟨rfl, hT3, hB3, -⟩; have HB3 := hidE (HB2.out.trans (hB3.mono hz1)); have hz3 := hB3.size; obtain ⟨⟨s0, b0⟩, hh0⟩ : ∃ m, hdQ q = m := ⟨_, rfl⟩
 obtain ⟨⟨⟨xp, xd, xx⟩, xb⟩, hx⟩ : ∃ m, toldQ t q = m := ⟨_, rfl⟩
 obtain ⟨⟨⟨yp, yd, yx⟩, yb⟩, hy⟩ : ∃ m, toldQ a q = m := ⟨_, rfl⟩
 obtain ⟨⟨⟨zp, zd, zx⟩, zb⟩, hz⟩ : ∃ m, toldQ c q = m := ⟨_, rfl⟩
 rw [hh0, hx, hy, hz]; unfold encA; dsimp only
 have HM0 : Hid (MgW (w3.alloc (.cells (cA s0 (⟨xp, xd, xx⟩, xb) (⟨yp, yd, yx⟩, yb) (⟨zp, zd, zx⟩, zb)) 51)) b b w3.heap.size (.slice none 0 0) (.slice none 0 0) t a c q 0) := by
  refine ⟨?_, by have := HQ0.out; omega, ?_, World.ownsRow_nil _ _ _ _, World.ownsRow_nil _ _ _ _⟩
  ·
   rw [List.drop_zero, hh0, hx, hy, hz]; exact Bx.new _ _ _
  ·
   rw [List.drop_zero]; exact hT3.below ((Below.refl _ _).alloc (Nat.le_refl _) _)
 have HBz : Hid (Below w.heap.size w (w3.alloc (.cells (cA s0 (⟨xp, xd, xx⟩, xb) (⟨yp, yd, yx⟩, yb) (⟨zp, zd, zx⟩, zb)) 51))) := HB3.out.alloc (by omega) _; have HH0 := hidE hh0; clear hh0 hx hy hz hT3 hB3 HB3 HQ HB2; go_wp2
 go_loopw [8, 9, 11, 12] (fun mv cv pv tv wl => ∃ k : Nat, k ≤ q.length ∧ (∃ P m' c', pv = .pointer (some ⟨P, 0, none⟩) ∧ tv = .bool (hdQ (q.drop k)).2 ∧ m' = mv ∧ c' = cv ∧ Hid (MgW wl b b P m' c' t a c q k)) ∧ Hid (Below w.heap.size w wl)) (fun _ _ pv tv wl => msQ q tv pv wl)
 case atStart => exact ⟨0, Nat.zero_le _, ⟨_, _, _, rfl, by rw [List.drop_zero, HH0.out], rfl, rfl, HM0.out⟩, HBz.out⟩
 case round =>
  clear HM0 HBz HH0 hz3 hb2 hb HQ0; obtain ⟨k, hk, ⟨P, mv, cv, rfl, rfl, h1, h2, HM⟩, HB⟩ := hrel; subst h1; subst h2; have HMs := hidE (msQ_is HQS.out k ⟨P, 0, none⟩ wr _ _ _ _ HM.out.at_); by_cases hlt : k < q.length
  ·
   have hdr : q.drop k = q[k] :: q.drop (k + 1) := List.drop_eq_getElem_cons hlt; have HK := hidE (merge_succ t a c q k hlt); have HCK := hidE (clash_succ t a c q k hlt); have hmk : mk t a c q[k] = at3 (toldQ t (q.drop k)) (toldQ a (q.drop k)) (toldQ c (q.drop k)) := by rw [hdr]; rfl
   have hno := mk_no (t := t) (a := a) (b := c) (s := q[k]); have hat := HM.out.at_; have hh : hdQ (q.drop k) = (q[k], true) := by rw [hdr]; rfl
   have hsz := HM.out.merged; obtain ⟨s, hs⟩ : ∃ s, q[k] = s := ⟨_, rfl⟩
   rw [hs] at hh HCK hmk hno HK; rw [hh] at hat; obtain ⟨⟨⟨xp, xd, xx⟩, xb⟩, hx⟩ : ∃ m, toldQ t (q.drop k) = m := ⟨_, rfl⟩
   obtain ⟨⟨⟨yp, yd, yx⟩, yb⟩, hy⟩ : ∃ m, toldQ a (q.drop k) = m := ⟨_, rfl⟩
   obtain ⟨⟨⟨zp, zd, zx⟩, zb⟩, hz⟩ : ∃ m, toldQ c (q.drop k) = m := ⟨_, rfl⟩
   rw [hx, hy, hz] at hat hmk; have HX := hidE (And.intro hx (And.intro hy hz)); have HH := hidE hh; rw [hh] at HMs; have HMd := hidE (made_any wr s (⟨xp, xd, xx⟩, xb) (⟨yp, yd, yx⟩, yb) (⟨zp, zd, zx⟩, zb)); rw [← hmk] at HMd; obtain ⟨⟨⟨mp, md, mx⟩, mh, mo⟩, hm⟩ : ∃ m, mk t a c s = m := ⟨_, rfl⟩
   rw [hm] at HMd HK HCK hno; unfold encA encT at HMd; dsimp only at HMd hno; have HDr := hidE hdr; rw [hh]; obtain ⟨l0, l1, l2, l3, l4, l5, l6, l7, l8, l9, l10, l11, l12⟩ := reads13 hat; dsimp only at l1 l2 l3 l4 l5 l6 l7 l8 l9 l10 l11 l12; clear hs hx hy hz hmk hm hat hsz hh hdr; cases mo with
   | true =>
    rcases Bool.eq_false_or_eq_true mh with hmh | hmh
    ·
     have HMH := hidE hmh; clear hmh; rw [show errA s true = Value.nilIface from rfl] at HMd; go_wp2_with fail
     refine HMd.out.mono ?_; rintro e w4 ⟨rfl, hB4⟩; obtain ⟨W5, hW5⟩ : ∃ W5, w4.alloc (.cells #[.string mp, .bool md, .string mx, .bool mh] 48) = W5 := ⟨_, rfl⟩
     have HB45 : Hid (Below wr.heap.size wr W5) := by rw [← hW5]; exact hB4.alloc hB4.size _
     have HX5 : Hid (Bx W5 w4.heap.size 48 #[.string mp, .bool md, .string mx, .bool mh]) := by rw [← hW5]; exact Bx.new _ _ _
     have HM5 := hidE (HM.out.below HB45.out); have HB5 := hidE (B3G HB.out HB45.out); have hb5 := HB5.out.size; clear l0 l1 l2 l3 l4 l5 l6 l7 l8 l9 l10 l11 l12 HMd HM HB hB4 HB45; have x0 : W5.cell? ⟨w4.heap.size, 0, none⟩ = some (.string mp) := HX5.out.cell 0; have x1 : W5.cell? ⟨w4.heap.size, 1, none⟩ = some (.bool md) := HX5.out.cell 1; have x2 : W5.cell? ⟨w4.heap.size, 2, none⟩ = some (.string mx) := HX5.out.cell 2; have x3 : W5.cell? ⟨w4.heap.size, 3, none⟩ = some (.bool true) := by rw [← HMH.out]; exact HX5.out.cell 3
     have hml := mergeL_len t a c (q.take k); have hml2 : (q.take k).length ≤ 262144 := by simp; omega
     obtain ⟨pre, hpre⟩ : ∃ pre, mergeL t a c (q.take k) = pre := ⟨_, rfl⟩
     have hrow := HM5.out.merged; rw [hpre] at hml hrow HK; have hb35 : b + 3 ≤ W5.heap.size := by obtain ⟨-, -, -, -, -, -, -, -, -, h, -⟩ := HM5.out.trio; exact h
     go_wp2_with (first
      | (at_builtin; refine wpList_append_own _ rfl _ _ 23 rfl (b + 3) 27 i0 _ 3 40 Tryd.underlying23 hi hzz0 hzz1 hzz2 rfl (by decide) _ _ _ rfl (hrow.below ((Below.refl _ W5).alloc (Nat.le_refl _) _)) ⟨W5.heap.size, 0, none⟩ 1 1 (cellsE ⟨mp, md, mx⟩) rfl rfl (cells_new W5 ⟨mp, md, mx⟩) rowE_one' ?c3 ?c4 ?c5 ?_)
      | fail)
     case c3 => unfold maxLen; omega
     case c4 => omega
     case c5 => first | omega | (simp; omega)
     intro v' w6 hown' hgrow _; obtain ⟨p1, p2, p3⟩ := HM5.out.pushE ((Below.refl _ W5).alloc (Nat.le_refl _) _) hgrow; have HBf := hidE ((HB5.out.alloc hb5 (.cells #[.string mp, .bool md, .string mx] 27)).grown hgrow (by simp; omega) (fun q hq => by have := (World.ownsRow.lt hrow q hq).1; omega)); have HMe : Hid (OwnE w6 (b + 3) v' (mergeL t a c (q.take (k + 1)))) := by rw [HK.out, if_pos HMH.out]; exact OwnE.push hown'
     have HCl : Hid (w6.ownsRow (b + 3) 53 1 cv (clashL t a c (q.take (k + 1))).length ((clashL t a c (q.take (k + 1))).map errP)) := by rw [HCK.out, if_pos trivial, List.append_nil]; exact p3
     have HTr : Hid (Trio w6 b b t a c (q.drop (k + 1))) := by have h := p2; rw [List.tail_drop] at h; exact h
     have HAt : Hid (Bx w6 P 51 (cA s (⟨xp, xd, xx⟩, xb) (⟨yp, yd, yx⟩, yb) (⟨zp, zd, zx⟩, zb))) := by
      have h := p1; rw [HH.out, HX.out.1, HX.out.2.1, HX.out.2.2] at h; exact h
     clear p1 p2 p3 hown' hgrow hrow hpre HB5 HM5 HX5 x0 x1 x2 x3; obtain ⟨l0, l1, l2, l3, l4, l5, l6, l7, l8, l9, l10, l11, l12⟩ := reads13 HAt.out; dsimp only at l1 l2 l3 l4 l5 l6 l7 l8 l9 l10 l11 l12; obtain ⟨W7, hW7⟩ : ∃ W7, w6.alloc (.cells #[.string s, .string xp, .bool xd, .string xx, .bool xb, .string yp, .bool yd, .string yx, .bool yb, .string zp, .bool zd, .string zx, .bool zb] 51) = W7 := ⟨_, rfl⟩
     have hb7 : Below w6.heap.size w6 W7 := by rw [← hW7]; exact (Below.refl _ _).alloc (Nat.le_refl _) _
     have hz7 : W7.heap.size = w6.heap.size + 1 := by rw [← hW7]; simp
     have HP7 : Hid (Bx W7 w6.heap.size 51 #[.string s, .string xp, .bool xd, .string xx, .bool xb, .string yp, .bool yd, .string yx, .bool yb, .string zp, .bool zd, .string zx, .bool zb]) := by rw [← hW7]; exact Bx.new _ _ _
     have HTr7 := hidE (HTr.out.below hb7); have HMe7 := hidE (HMe.out.below hb7); have HCl7 := hidE (rowkeep HCl.out hb7); have HB7 := hidE (B3G HBf.out hb7); have hPb : b + 3 ≤ w6.heap.size := by obtain ⟨-, -, -, -, -, -, -, -, -, h, -⟩ := HTr.out; exact h
     have HQ := hidE (pullQ_any W7 b b t a c (q.drop (k + 1)) HTr7.out (left_drop HL.out (k + 1)) HR3.out.1 HR3.out.2.1 HR3.out.2.2); clear hb7 HAt HTr HMe HCl HBf; go_wp2_with fail
     refine HQ.out.mono ?_; rintro e w8 ⟨rfl, hT8, hB8, hk8⟩; have hB8s := hB8.size; have hP8 := (hk8 w6.heap.size (by omega) hPb).trans HP7.out; have HMe8 := hidE (OwnE.blk HMe7.out (fun g hg => hk8 g (OwnE.ltB HMe7.out g hg).2 (OwnE.ltB HMe7.out g hg).1)); have HCl8 := hidE (row_blk HCl7.out (fun g hg => hk8 g (World.ownsRow.lt HCl7.out g hg).2 (World.ownsRow.lt HCl7.out g hg).1)); have HMl := hidE (fun g hg => (OwnE.ltB HMe7.out g hg).2); have HB8 := hidE (HB7.out.trans (hB8.mono hz1)); obtain ⟨⟨s', b'⟩, hh⟩ : ∃ m, hdQ (q.drop (k + 1)) = m := ⟨_, rfl⟩
     obtain ⟨⟨⟨up, ud, ux⟩, ub⟩, hx⟩ : ∃ m, toldQ t (q.drop (k + 1)) = m := ⟨_, rfl⟩
     obtain ⟨⟨⟨vp, vd, vx⟩, vb⟩, hy⟩ : ∃ m, toldQ a (q.drop (k + 1)) = m := ⟨_, rfl⟩
     obtain ⟨⟨⟨op, od, ox⟩, ob⟩, hz⟩ : ∃ m, toldQ c (q.drop (k + 1)) = m := ⟨_, rfl⟩
     rw [hh, hx, hy, hz]; unfold encA; dsimp only; have hP8' : Bx w8 w6.heap.size 51 #[.string s, .string xp, .bool xd, .string xx, .bool xb, .string yp, .bool yd, .string yx, .bool yb, .string zp, .bool zd, .string zx, .bool zb] := hP8; have o0 : w8.cell? ⟨w6.heap.size, 0, none⟩ = some (.string s) := hP8'.cell 0; have j0 := hP8'.frozen 0; have o1 : w8.cell? ⟨w6.heap.size, 1, none⟩ = some (.string xp) := hP8'.cell 1; have j1 := hP8'.frozen 1; have o2 : w8.cell? ⟨w6.heap.size, 2, none⟩ = some (.bool xd) := hP8'.cell 2; have j2 := hP8'.frozen 2; have o3 : w8.cell? ⟨w6.heap.size, 3, none⟩ = some (.string xx) := hP8'.cell 3; have j3 := hP8'.frozen 3; have o4 : w8.cell? ⟨w6.heap.size, 4, none⟩ = some (.bool xb) := hP8'.cell 4; have j4 := hP8'.frozen 4; have o5 : w8.cell? ⟨w6.heap.size, 5, none⟩ = some (.string yp) := hP8'.cell 5; have j5 := hP8'.frozen 5; have o6 : w8.cell? ⟨w6.heap.size, 6, none⟩ = some (.bool yd) := hP8'.cell 6; have j6 := hP8'.frozen 6; have o7 : w8.cell? ⟨w6.heap.size, 7, none⟩ = some (.string yx) := hP8'.cell 7; have j7 := hP8'.frozen 7; have o8 : w8.cell? ⟨w6.heap.size, 8, none⟩ = some (.bool yb) := hP8'.cell 8; have j8 := hP8'.frozen 8; have o9 : w8.cell? ⟨w6.heap.size, 9, none⟩ = some (.string zp) := hP8'.cell 9; have j9 := hP8'.frozen 9; have o10 : w8.cell? ⟨w6.heap.size, 10, none⟩ = some (.bool zd) := hP8'.cell 10; have j10 := hP8'.frozen 10; have o11 : w8.cell? ⟨w6.heap.size, 11, none⟩ = some (.string zx) := hP8'.cell 11; have j11 := hP8'.frozen 11; have o12 : w8.cell? ⟨w6.heap.size, 12, none⟩ = some (.bool zb) := hP8'.cell 12; have j12 := hP8'.frozen 12; obtain ⟨n1, n2, n3⟩ := is13 hP8' (.string s') (.string up) (.bool ud) (.string ux) (.bool ub) (.string vp) (.bool vd) (.string vx) (.bool vb) (.string op) (.bool od) (.string ox) (.bool ob); obtain ⟨W9, hW9⟩ : ∃ W9, (((((((((((((w8.setCell ⟨w6.heap.size, 0, none⟩ (.string s')).setCell ⟨w6.heap.size, 1, none⟩ (.string up)).setCell ⟨w6.heap.size, 2, none⟩ (.bool ud)).setCell ⟨w6.heap.size, 3, none⟩ (.string ux)).setCell ⟨w6.heap.size, 4, none⟩ (.bool ub)).setCell ⟨w6.heap.size, 5, none⟩ (.string vp)).setCell ⟨w6.heap.size, 6, none⟩ (.bool vd)).setCell ⟨w6.heap.size, 7, none⟩ (.string vx)).setCell ⟨w6.heap.size, 8, none⟩ (.bool vb)).setCell ⟨w6.heap.size, 9, none⟩ (.string op)).setCell ⟨w6.heap.size, 10, none⟩ (.bool od)).setCell ⟨w6.heap.size, 11, none⟩ (.string ox)).setCell ⟨w6.heap.size, 12, none⟩ (.bool ob)) = W9 := ⟨_, rfl⟩
     rw [hW9] at n1 n2 n3
     have HM9 : Hid (MgW W9 b b w6.heap.size v' cv t a c q (k + 1)) := by
      refine ⟨?_, hPb, hT8.keep (fun g hg => n2 g (by omega)) (by rw [← hW9]; simp), OwnE.blk HMe8.out (fun g hg => n2 g (row_ne HMe8.out hP8' (by decide) g hg)), row_blk HCl8.out (fun g hg => n2 g (row_ne HCl8.out hP8' (by decide) g hg))⟩; rw [hh, hx, hy, hz]; exact n1
     have HB9 := hidE (HB8.out.trans (n3 w.heap.size (by omega))); have HMs9 := hidE (msQ_is HQS.out (k + 1) ⟨w6.heap.size, 0, none⟩ W9 _ _ _ _ HM9.out.at_); rw [hh] at HMs9; have HH9 := hidE hh; have HLn : Hid ((q.drop (k + 1)).length < (q.drop k).length) := by show _ < _; simp; omega
     clear n1 n2 n3 hP8 hP8' hT8 hB8 hk8 hh hx hy hz l0 l1 l2 l3 l4 l5 l6 l7 l8 l9 l10 l11 l12 hW7; go_wp2
     go_roundw
     case rel => exact ⟨k + 1, by omega, ⟨_, _, _, rfl, by rw [HH9.out], rfl, rfl, HM9⟩, HB9⟩
     case measure => rw [HMs9.out, HMs.out]; exact HLn.out
    ·
     have HMH := hidE hmh; clear hmh; rw [show errA s true = Value.nilIface from rfl] at HMd; go_wp2_with fail
     refine HMd.out.mono ?_; rintro e w4 ⟨rfl, hB4⟩; obtain ⟨W5, hW5⟩ : ∃ W5, w4.alloc (.cells #[.string mp, .bool md, .string mx, .bool mh] 48) = W5 := ⟨_, rfl⟩
     have HB45 : Hid (Below wr.heap.size wr W5) := by rw [← hW5]; exact hB4.alloc hB4.size _
     have HX5 : Hid (Bx W5 w4.heap.size 48 #[.string mp, .bool md, .string mx, .bool mh]) := by rw [← hW5]; exact Bx.new _ _ _
     have HM5 := hidE (HM.out.below HB45.out); have HB5 := hidE (B3G HB.out HB45.out); have hb5 := HB5.out.size; clear l0 l1 l2 l3 l4 l5 l6 l7 l8 l9 l10 l11 l12 HMd HM HB hB4 HB45; have x3 : W5.cell? ⟨w4.heap.size, 3, none⟩ = some (.bool false) := by rw [← HMH.out]; exact HX5.out.cell 3
     have HAt : Hid (Bx W5 P 51 (cA s (⟨xp, xd, xx⟩, xb) (⟨yp, yd, yx⟩, yb) (⟨zp, zd, zx⟩, zb))) := by
      have h := HM5.out.at_; rw [HH.out, HX.out.1, HX.out.2.1, HX.out.2.2] at h; exact h
     have HTr : Hid (Trio W5 b b t a c (q.drop (k + 1))) := by have h := HM5.out.trio; rw [List.tail_drop] at h; exact h
     have HMe : Hid (OwnE W5 (b + 3) mv (mergeL t a c (q.take (k + 1)))) := by rw [HK.out, if_neg (by rw [HMH.out]; decide), List.append_nil]; exact HM5.out.merged
     have HCl : Hid (W5.ownsRow (b + 3) 53 1 cv (clashL t a c (q.take (k + 1))).length ((clashL t a c (q.take (k + 1))).map errP)) := by rw [HCK.out, if_pos trivial, List.append_nil]; exact HM5.out.clashes
     have HBf := hidE HB5.out; clear HB5 HM5 HX5; obtain ⟨l0, l1, l2, l3, l4, l5, l6, l7, l8, l9, l10, l11, l12⟩ := reads13 HAt.out; dsimp only at l1 l2 l3 l4 l5 l6 l7 l8 l9 l10 l11 l12; obtain ⟨W7, hW7⟩ : ∃ W7, W5.alloc (.cells #[.string s, .string xp, .bool xd, .string xx, .bool xb, .string yp, .bool yd, .string yx, .bool yb, .string zp, .bool zd, .string zx, .bool zb] 51) = W7 := ⟨_, rfl⟩
     have hb7 : Below W5.heap.size W5 W7 := by rw [← hW7]; exact (Below.refl _ _).alloc (Nat.le_refl _) _
     have hz7 : W7.heap.size = W5.heap.size + 1 := by rw [← hW7]; simp
     have HP7 : Hid (Bx W7 W5.heap.size 51 #[.string s, .string xp, .bool xd, .string xx, .bool xb, .string yp, .bool yd, .string yx, .bool yb, .string zp, .bool zd, .string zx, .bool zb]) := by rw [← hW7]; exact Bx.new _ _ _
     have HTr7 := hidE (HTr.out.below hb7); have HMe7 := hidE (HMe.out.below hb7); have HCl7 := hidE (rowkeep HCl.out hb7); have HB7 := hidE (B3G HBf.out hb7); have hPb : b + 3 ≤ W5.heap.size := by obtain ⟨-, -, -, -, -, -, -, -, -, h, -⟩ := HTr.out; exact h
     have HQ := hidE (pullQ_any W7 b b t a c (q.drop (k + 1)) HTr7.out (left_drop HL.out (k + 1)) HR3.out.1 HR3.out.2.1 HR3.out.2.2); clear hb7 HAt HTr HMe HCl HBf; go_wp2_with fail
     refine HQ.out.mono ?_; rintro e w8 ⟨rfl, hT8, hB8, hk8⟩; have hB8s := hB8.size; have hP8 := (hk8 W5.heap.size (by omega) hPb).trans HP7.out; have HMe8 := hidE (OwnE.blk HMe7.out (fun g hg => hk8 g (OwnE.ltB HMe7.out g hg).2 (OwnE.ltB HMe7.out g hg).1)); have HCl8 := hidE (row_blk HCl7.out (fun g hg => hk8 g (World.ownsRow.lt HCl7.out g hg).2 (World.ownsRow.lt HCl7.out g hg).1)); have HMl := hidE (fun g hg => (OwnE.ltB HMe7.out g hg).2); have HB8 := hidE (HB7.out.trans (hB8.mono hz1)); obtain ⟨⟨s', b'⟩, hh⟩ : ∃ m, hdQ (q.drop (k + 1)) = m := ⟨_, rfl⟩
     obtain ⟨⟨⟨up, ud, ux⟩, ub⟩, hx⟩ : ∃ m, toldQ t (q.drop (k + 1)) = m := ⟨_, rfl⟩
     obtain ⟨⟨⟨vp, vd, vx⟩, vb⟩, hy⟩ : ∃ m, toldQ a (q.drop (k + 1)) = m := ⟨_, rfl⟩
     obtain ⟨⟨⟨op, od, ox⟩, ob⟩, hz⟩ : ∃ m, toldQ c (q.drop (k + 1)) = m := ⟨_, rfl⟩
     rw [hh, hx, hy, hz]; unfold encA; dsimp only; have hP8' : Bx w8 W5.heap.size 51 #[.string s, .string xp, .bool xd, .string xx, .bool xb, .string yp, .bool yd, .string yx, .bool yb, .string zp, .bool zd, .string zx, .bool zb] := hP8; have o0 : w8.cell? ⟨W5.heap.size, 0, none⟩ = some (.string s) := hP8'.cell 0; have j0 := hP8'.frozen 0; have o1 : w8.cell? ⟨W5.heap.size, 1, none⟩ = some (.string xp) := hP8'.cell 1; have j1 := hP8'.frozen 1; have o2 : w8.cell? ⟨W5.heap.size, 2, none⟩ = some (.bool xd) := hP8'.cell 2; have j2 := hP8'.frozen 2; have o3 : w8.cell? ⟨W5.heap.size, 3, none⟩ = some (.string xx) := hP8'.cell 3; have j3 := hP8'.frozen 3; have o4 : w8.cell? ⟨W5.heap.size, 4, none⟩ = some (.bool xb) := hP8'.cell 4; have j4 := hP8'.frozen 4; have o5 : w8.cell? ⟨W5.heap.size, 5, none⟩ = some (.string yp) := hP8'.cell 5; have j5 := hP8'.frozen 5; have o6 : w8.cell? ⟨W5.heap.size, 6, none⟩ = some (.bool yd) := hP8'.cell 6; have j6 := hP8'.frozen 6; have o7 : w8.cell? ⟨W5.heap.size, 7, none⟩ = some (.string yx) := hP8'.cell 7; have j7 := hP8'.frozen 7; have o8 : w8.cell? ⟨W5.heap.size, 8, none⟩ = some (.bool yb) := hP8'.cell 8; have j8 := hP8'.frozen 8; have o9 : w8.cell? ⟨W5.heap.size, 9, none⟩ = some (.string zp) := hP8'.cell 9; have j9 := hP8'.frozen 9; have o10 : w8.cell? ⟨W5.heap.size, 10, none⟩ = some (.bool zd) := hP8'.cell 10; have j10 := hP8'.frozen 10; have o11 : w8.cell? ⟨W5.heap.size, 11, none⟩ = some (.string zx) := hP8'.cell 11; have j11 := hP8'.frozen 11; have o12 : w8.cell? ⟨W5.heap.size, 12, none⟩ = some (.bool zb) := hP8'.cell 12; have j12 := hP8'.frozen 12; obtain ⟨n1, n2, n3⟩ := is13 hP8' (.string s') (.string up) (.bool ud) (.string ux) (.bool ub) (.string vp) (.bool vd) (.string vx) (.bool vb) (.string op) (.bool od) (.string ox) (.bool ob); obtain ⟨W9, hW9⟩ : ∃ W9, (((((((((((((w8.setCell ⟨W5.heap.size, 0, none⟩ (.string s')).setCell ⟨W5.heap.size, 1, none⟩ (.string up)).setCell ⟨W5.heap.size, 2, none⟩ (.bool ud)).setCell ⟨W5.heap.size, 3, none⟩ (.string ux)).setCell ⟨W5.heap.size, 4, none⟩ (.bool ub)).setCell ⟨W5.heap.size, 5, none⟩ (.string vp)).setCell ⟨W5.heap.size, 6, none⟩ (.bool vd)).setCell ⟨W5.heap.size, 7, none⟩ (.string vx)).setCell ⟨W5.heap.size, 8, none⟩ (.bool vb)).setCell ⟨W5.heap.size, 9, none⟩ (.string op)).setCell ⟨W5.heap.size, 10, none⟩ (.bool od)).setCell ⟨W5.heap.size, 11, none⟩ (.string ox)).setCell ⟨W5.heap.size, 12, none⟩ (.bool ob)) = W9 := ⟨_, rfl⟩
     rw [hW9] at n1 n2 n3
     have HM9 : Hid (MgW W9 b b W5.heap.size mv cv t a c q (k + 1)) := by
      refine ⟨?_, hPb, hT8.keep (fun g hg => n2 g (by omega)) (by rw [← hW9]; simp), OwnE.blk HMe8.out (fun g hg => n2 g (row_ne HMe8.out hP8' (by decide) g hg)), row_blk HCl8.out (fun g hg => n2 g (row_ne HCl8.out hP8' (by decide) g hg))⟩; rw [hh, hx, hy, hz]; exact n1
     have HB9 := hidE (HB8.out.trans (n3 w.heap.size (by omega))); have HMs9 := hidE (msQ_is HQS.out (k + 1) ⟨W5.heap.size, 0, none⟩ W9 _ _ _ _ HM9.out.at_); rw [hh] at HMs9; have HH9 := hidE hh; have HLn : Hid ((q.drop (k + 1)).length < (q.drop k).length) := by show _ < _; simp; omega
     clear n1 n2 n3 hP8 hP8' hT8 hB8 hk8 hh hx hy hz l0 l1 l2 l3 l4 l5 l6 l7 l8 l9 l10 l11 l12 hW7; go_wp2
     go_roundw
     case rel => exact ⟨k + 1, by omega, ⟨_, _, _, rfl, by rw [HH9.out], rfl, rfl, HM9⟩, HB9⟩
     case measure => rw [HMs9.out, HMs.out]; exact HLn.out
   | false =>
    have HMH := hidE (hno rfl); clear hno; rw [show errA s false = Value.iface 89 (.agg #[.string s]) from rfl] at HMd; go_wp2_with fail
    refine HMd.out.mono ?_; rintro e w4 ⟨rfl, hB4⟩; obtain ⟨W5, hW5⟩ : ∃ W5, w4.alloc (.cells #[.string mp, .bool md, .string mx, .bool mh] 48) = W5 := ⟨_, rfl⟩
    have HB45 : Hid (Below wr.heap.size wr W5) := by rw [← hW5]; exact hB4.alloc hB4.size _
    have HX5 : Hid (Bx W5 w4.heap.size 48 #[.string mp, .bool md, .string mx, .bool mh]) := by rw [← hW5]; exact Bx.new _ _ _
    have HM5 := hidE (HM.out.below HB45.out); have HB5 := hidE (B3G HB.out HB45.out); have hb5 := HB5.out.size; clear l0 l1 l2 l3 l4 l5 l6 l7 l8 l9 l10 l11 l12 HMd HM HB hB4 HB45; have hml := clashL_len t a c (q.take k); have hml2 : (q.take k).length ≤ 262144 := by simp; omega
    have hrow : (W5.alloc (.cells #[.iface 89 (.agg #[.string s])] 53)).ownsRow (b + 3) 53 1 cv _ _ := rowkeep HM5.out.clashes ((Below.refl _ W5).alloc (Nat.le_refl _) _); have hX6 : Bx (W5.alloc (.cells #[.iface 89 (.agg #[.string s])] 53)) w4.heap.size 48 _ := HX5.out.below ((Below.refl _ W5).alloc (Nat.le_refl _) _); obtain ⟨pre, hpre⟩ : ∃ pre, clashL t a c (q.take k) = pre := ⟨_, rfl⟩
    rw [hpre] at hml hrow HCK; have hb35 : b + 3 ≤ W5.heap.size := by obtain ⟨-, -, -, -, -, -, -, -, -, h, -⟩ := HM5.out.trio; exact h
    go_wp2_with (first
     | (at_builtin; refine wpList_append_own _ rfl _ _ 100 rfl (b + 3) 53 i1 .nilIface 1 16 Tryd.underlying100 hj hjj0 hjj1 hjj2 rfl (by decide) _ _ _ rfl hrow ⟨W5.heap.size, 0, none⟩ 1 1 [.iface 89 (.agg #[.string s])] rfl rfl ?c1 ?c2 ?c3 ?c4 ?c5 ?_)
     | fail)
    case c1 => exact cell_one_new _ _ _
    case c2 => intro y hy; simp at hy; subst hy; rfl
    case c3 => unfold maxLen; omega
    case c4 => omega
    case c5 => first | omega | (simp; omega)
    intro v' w6 hown' hgrow _; obtain ⟨p1, p2, p3⟩ := HM5.out.pushC ((Below.refl _ W5).alloc (Nat.le_refl _) _) hgrow; have HX6 := hidE (hX6.grown hgrow (row_ne hrow hX6 (by decide))); have HBf := hidE ((HB5.out.alloc hb5 (.cells #[.iface 89 (.agg #[.string s])] 53)).grown hgrow (by simp; omega) (fun q hq => by have := (World.ownsRow.lt hrow q hq).1; omega)); have HMe : Hid (OwnE w6 (b + 3) mv (mergeL t a c (q.take (k + 1)))) := by rw [HK.out, if_neg (by rw [HMH.out]; decide), List.append_nil]; exact p3
    have HCl : Hid (w6.ownsRow (b + 3) 53 1 v' (clashL t a c (q.take (k + 1))).length ((clashL t a c (q.take (k + 1))).map errP)) := by
     rw [HCK.out, if_neg (by decide), List.map_append, List.length_append]; exact hown'
    have HTr : Hid (Trio w6 b b t a c (q.drop (k + 1))) := by have h := p2; rw [List.tail_drop] at h; exact h
    have HAt : Hid (Bx w6 P 51 (cA s (⟨xp, xd, xx⟩, xb) (⟨yp, yd, yx⟩, yb) (⟨zp, zd, zx⟩, zb))) := by
     have h := p1; rw [HH.out, HX.out.1, HX.out.2.1, HX.out.2.2] at h; exact h
    have x3 : w6.cell? ⟨w4.heap.size, 3, none⟩ = some (.bool false) := by rw [← HMH.out]; exact HX6.out.cell 3
    clear p1 p2 p3 hown' hgrow hrow hpre HB5 HM5 HX5 hX6 HX6; obtain ⟨l0, l1, l2, l3, l4, l5, l6, l7, l8, l9, l10, l11, l12⟩ := reads13 HAt.out; dsimp only at l1 l2 l3 l4 l5 l6 l7 l8 l9 l10 l11 l12; obtain ⟨W7, hW7⟩ : ∃ W7, w6.alloc (.cells #[.string s, .string xp, .bool xd, .string xx, .bool xb, .string yp, .bool yd, .string yx, .bool yb, .string zp, .bool zd, .string zx, .bool zb] 51) = W7 := ⟨_, rfl⟩
    have hb7 : Below w6.heap.size w6 W7 := by rw [← hW7]; exact (Below.refl _ _).alloc (Nat.le_refl _) _
    have hz7 : W7.heap.size = w6.heap.size + 1 := by rw [← hW7]; simp
    have HP7 : Hid (Bx W7 w6.heap.size 51 #[.string s, .string xp, .bool xd, .string xx, .bool xb, .string yp, .bool yd, .string yx, .bool yb, .string zp, .bool zd, .string zx, .bool zb]) := by rw [← hW7]; exact Bx.new _ _ _
    have HTr7 := hidE (HTr.out.below hb7); have HMe7 := hidE (HMe.out.below hb7); have HCl7 := hidE (rowkeep HCl.out hb7); have HB7 := hidE (B3G HBf.out hb7); have hPb : b + 3 ≤ w6.heap.size := by obtain ⟨-, -, -, -, -, -, -, -, -, h, -⟩ := HTr.out; exact h
    have HQ := hidE (pullQ_any W7 b b t a c (q.drop (k + 1)) HTr7.out (left_drop HL.out (k + 1)) HR3.out.1 HR3.out.2.1 HR3.out.2.2); clear hb7 HAt HTr HMe HCl HBf; go_wp2_with fail
    refine HQ.out.mono ?_; rintro e w8 ⟨rfl, hT8, hB8, hk8⟩; have hB8s := hB8.size; have hP8 := (hk8 w6.heap.size (by omega) hPb).trans HP7.out; have HMe8 := hidE (OwnE.blk HMe7.out (fun g hg => hk8 g (OwnE.ltB HMe7.out g hg).2 (OwnE.ltB HMe7.out g hg).1)); have HCl8 := hidE (row_blk HCl7.out (fun g hg => hk8 g (World.ownsRow.lt HCl7.out g hg).2 (World.ownsRow.lt HCl7.out g hg).1)); have HMl := hidE (fun g hg => (OwnE.ltB HMe7.out g hg).2); have HB8 := hidE (HB7.out.trans (hB8.mono hz1)); obtain ⟨⟨s', b'⟩, hh⟩ : ∃ m, hdQ (q.drop (k + 1)) = m := ⟨_, rfl⟩
    obtain ⟨⟨⟨up, ud, ux⟩, ub⟩, hx⟩ : ∃ m, toldQ t (q.drop (k + 1)) = m := ⟨_, rfl⟩
    obtain ⟨⟨⟨vp, vd, vx⟩, vb⟩, hy⟩ : ∃ m, toldQ a (q.drop (k + 1)) = m := ⟨_, rfl⟩
    obtain ⟨⟨⟨op, od, ox⟩, ob⟩, hz⟩ : ∃ m, toldQ c (q.drop (k + 1)) = m := ⟨_, rfl⟩
    rw [hh, hx, hy, hz]; unfold encA; dsimp only; have hP8' : Bx w8 w6.heap.size 51 #[.string s, .string xp, .bool xd, .string xx, .bool xb, .string yp, .bool yd, .string yx, .bool yb, .string zp, .bool zd, .string zx, .bool zb] := hP8; have o0 : w8.cell? ⟨w6.heap.size, 0, none⟩ = some (.string s) := hP8'.cell 0; have j0 := hP8'.frozen 0; have o1 : w8.cell? ⟨w6.heap.size, 1, none⟩ = some (.string xp) := hP8'.cell 1; have j1 := hP8'.frozen 1; have o2 : w8.cell? ⟨w6.heap.size, 2, none⟩ = some (.bool xd) := hP8'.cell 2; have j2 := hP8'.frozen 2; have o3 : w8.cell? ⟨w6.heap.size, 3, none⟩ = some (.string xx) := hP8'.cell 3; have j3 := hP8'.frozen 3; have o4 : w8.cell? ⟨w6.heap.size, 4, none⟩ = some (.bool xb) := hP8'.cell 4; have j4 := hP8'.frozen 4; have o5 : w8.cell? ⟨w6.heap.size, 5, none⟩ = some (.string yp) := hP8'.cell 5; have j5 := hP8'.frozen 5; have o6 : w8.cell? ⟨w6.heap.size, 6, none⟩ = some (.bool yd) := hP8'.cell 6; have j6 := hP8'.frozen 6; have o7 : w8.cell? ⟨w6.heap.size, 7, none⟩ = some (.string yx) := hP8'.cell 7; have j7 := hP8'.frozen 7; have o8 : w8.cell? ⟨w6.heap.size, 8, none⟩ = some (.bool yb) := hP8'.cell 8; have j8 := hP8'.frozen 8; have o9 : w8.cell? ⟨w6.heap.size, 9, none⟩ = some (.string zp) := hP8'.cell 9; have j9 := hP8'.frozen 9; have o10 : w8.cell? ⟨w6.heap.size, 10, none⟩ = some (.bool zd) := hP8'.cell 10; have j10 := hP8'.frozen 10; have o11 : w8.cell? ⟨w6.heap.size, 11, none⟩ = some (.string zx) := hP8'.cell 11; have j11 := hP8'.frozen 11; have o12 : w8.cell? ⟨w6.heap.size, 12, none⟩ = some (.bool zb) := hP8'.cell 12; have j12 := hP8'.frozen 12; obtain ⟨n1, n2, n3⟩ := is13 hP8' (.string s') (.string up) (.bool ud) (.string ux) (.bool ub) (.string vp) (.bool vd) (.string vx) (.bool vb) (.string op) (.bool od) (.string ox) (.bool ob); obtain ⟨W9, hW9⟩ : ∃ W9, (((((((((((((w8.setCell ⟨w6.heap.size, 0, none⟩ (.string s')).setCell ⟨w6.heap.size, 1, none⟩ (.string up)).setCell ⟨w6.heap.size, 2, none⟩ (.bool ud)).setCell ⟨w6.heap.size, 3, none⟩ (.string ux)).setCell ⟨w6.heap.size, 4, none⟩ (.bool ub)).setCell ⟨w6.heap.size, 5, none⟩ (.string vp)).setCell ⟨w6.heap.size, 6, none⟩ (.bool vd)).setCell ⟨w6.heap.size, 7, none⟩ (.string vx)).setCell ⟨w6.heap.size, 8, none⟩ (.bool vb)).setCell ⟨w6.heap.size, 9, none⟩ (.string op)).setCell ⟨w6.heap.size, 10, none⟩ (.bool od)).setCell ⟨w6.heap.size, 11, none⟩ (.string ox)).setCell ⟨w6.heap.size, 12, none⟩ (.bool ob)) = W9 := ⟨_, rfl⟩
    rw [hW9] at n1 n2 n3
    have HM9 : Hid (MgW W9 b b w6.heap.size mv v' t a c q (k + 1)) := by
     refine ⟨?_, hPb, hT8.keep (fun g hg => n2 g (by omega)) (by rw [← hW9]; simp), OwnE.blk HMe8.out (fun g hg => n2 g (row_ne HMe8.out hP8' (by decide) g hg)), row_blk HCl8.out (fun g hg => n2 g (row_ne HCl8.out hP8' (by decide) g hg))⟩; rw [hh, hx, hy, hz]; exact n1
    have HB9 := hidE (HB8.out.trans (n3 w.heap.size (by omega))); have HMs9 := hidE (msQ_is HQS.out (k + 1) ⟨w6.heap.size, 0, none⟩ W9 _ _ _ _ HM9.out.at_); rw [hh] at HMs9; have HH9 := hidE hh; have HLn : Hid ((q.drop (k + 1)).length < (q.drop k).length) := by show _ < _; simp; omega
    clear n1 n2 n3 hP8 hP8' hT8 hB8 hk8 hh hx hy hz l0 l1 l2 l3 l4 l5 l6 l7 l8 l9 l10 l11 l12 hW7; go_wp2
    go_roundw
    case rel => exact ⟨k + 1, by omega, ⟨_, _, _, rfl, by rw [HH9.out], rfl, rfl, HM9⟩, HB9⟩
    case measure => rw [HMs9.out, HMs.out]; exact HLn.out
  ·
   obtain rfl : k = q.length := by omega
   have h1 := HM.out.merged; have h2 := HM.out.clashes; have hh : hdQ (q.drop q.length) = (⟨#[]⟩, false) := by rw [List.drop_length]; rfl
   rw [List.take_length] at h1 h2; rw [hh]; obtain ⟨ss, hss⟩ : ∃ ss, clashL t a c q = ss := ⟨_, rfl⟩
   have hsl : ss.length ≤ 100000 := by have := clashL_len t a c q; rw [hss] at this; omega
   rw [hss] at h2; have HSS := hidE hss; obtain ⟨ax, gx, cx, rfl, hE⟩ := errs_of h2; have H1 := hidE h1
   have HJ : Hid (Calls Tryd.prog 60 #[.slice ax ss.length cx] wr fun r w' => Below wr.heap.size wr w' ∧ (ss = [] → r = .returned .nilIface) ∧
     (ss ≠ [] → ∃ p v, r = .returned (.iface 122 (.pointer (some ⟨p, 0, none⟩))) ∧ w'.cell? ⟨p, 0, none⟩ = some v ∧ w'.ownsRow wr.heap.size 53 1 v ss.length (ss.map errP))) := by
    have h := join_any wr ax gx cx (ss.map errP) (by simp; omega) hE; rw [List.length_map] at h; refine h.mono ?_; rintro e w' ⟨q1, q2, q3⟩; exact ⟨q1, fun h => q2 (by rw [h]; rfl), fun h => q3 (fun h2 => h (List.map_eq_nil_iff.1 h2))⟩
   clear HM h1 hh hss h2 hE; have hbz := HB.out.size; cases ss with
   | nil =>
    go_wp2_with fail
    refine HJ.out.mono ?_; rintro e w2 ⟨hB2, hr, -⟩; obtain rfl := hr (by simp); have HB2 := hidE (B3G HB.out hB2); have HE2 := hidE (H1.out.below hB2); clear hB2 hr; go_wp2
    go_ret2
    exact ⟨_, _, rfl, OwnE.lower HE2.out (by omega), by rw [HSS.out]; exact ⟨fun _ => rfl, fun h => absurd rfl h⟩, HB2.out⟩
   | cons x xs =>
    go_wp2_with fail
    refine HJ.out.mono ?_; rintro e w2 ⟨hB2, -, hr⟩; obtain ⟨p, v, rfl, hp, ho⟩ := hr (by simp); have HB2 := hidE (B3G HB.out hB2); have HE2 := hidE (H1.out.below hB2); have HP2 := hidE (And.intro hp ho); clear hB2 hr hp ho; go_wp2
    go_ret2
    exact ⟨_, _, rfl, OwnE.lower HE2.out (by omega), by rw [HSS.out]; exact ⟨fun h => (by cases h), fun _ => ⟨p, v, _, rfl, HP2.out.1, HP2.out.2⟩⟩, HB2.out⟩
end Go.Proofs.YtoaipphccjkphaaDoor.Mg
