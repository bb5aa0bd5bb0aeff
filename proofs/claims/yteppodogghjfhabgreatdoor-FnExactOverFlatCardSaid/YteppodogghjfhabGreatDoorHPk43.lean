import Derived.Test.YteppodogghjfhabGreatDoorHPk31
import Derived.Test.YteppodogghjfhabGreatDoorHPk16
namespace Go.Proofs.YteppodogghjfhabGreatDoor.Mk
open Go.RowKit Go.Shelf Go.Lib Go.Maps Go.Sort
attribute [local go_sem] Oper.semAt_some
structure KpM (B : Nat) (W W' : World) : Prop where
 size : W.heap.size ≤ W'.heap.size
 cells : ∀ (k : Nat) (o : Obj), W.heap[k]? = some o → o.isCells = true → W'.heap[k]? = some o
 maps : ∀ (k : Nat) (o : Obj), k < B → W.heap[k]? = some o → o.isWalk = true → W'.heap[k]? = some o
theorem KpM.t {B : Nat} {X Y Z : World} (h : KpM B X Y) (k : KpM B Y Z) : KpM B X Z :=
 ⟨Nat.le_trans h.size k.size, fun i o h1 h2 => k.cells i o (h.cells i o h1 h2) h2, fun i o h1 h2 h3 => k.maps i o h1 (h.maps i o h1 h2 h3) h3⟩
theorem KpM.of {B : Nat} {X Y : World} (h : Below X.heap.size X Y) : KpM B X Y :=
 ⟨h.size, fun k _ h1 _ => (h.block k (Array.getElem?_eq_some_iff.1 h1).1).trans h1, fun k _ _ h1 _ => (h.block k (Array.getElem?_eq_some_iff.1 h1).1).trans h1⟩
theorem KpM.turn {B : Nat} {X Y : World} (h : Turn B X Y) : KpM B X Y :=
 ⟨h.below.size, fun k o h1 h2 => h.cells k o h1 (fun es c e => by rw [e] at h2; cases h2), fun k _ h1 h2 _ => (h.below.block k h1).trans h2⟩
theorem KpM.b {B : Nat} (W : World) (l : Nat) (o o' : Obj) (h : W.heap[l]? = some o) (hc : o.isCells = false) (hw : o.isWalk = false) : KpM B W (W.putObj l o') := by
 have hs : ∀ b, b ≠ l → (W.putObj l o').heap[b]? = W.heap[b]? := fun b hb => World.putObj_heap_other hb; refine ⟨by simp, fun k x h1 h2 => ?_, fun k x _ h1 h2 => ?_⟩
 ·
  by_cases e : k = l
  ·
   subst e; rw [h] at h1; cases h1; rw [hc] at h2; cases h2
  ·
   rw [hs k e]; exact h1
 ·
  by_cases e : k = l
  ·
   subst e; rw [h] at h1; cases h1; rw [hw] at h2; cases h2
  ·
   rw [hs k e]; exact h1
theorem KpM.cell {B : Nat} {W W' : World} (h : KpM B W W') {b o : Nat} {v : Value} (hc : W.cell? ⟨b, o, none⟩ = some v) : W'.cell? ⟨b, o, none⟩ = some v := by
 rw [← hc]; refine World.cell?_of_block ?_; cases hx : W.heap[b]? with
 | none => simp [World.cell?, hx] at hc
 | some x =>
  cases x with
  | cells cs t f => exact h.cells b _ hx rfl
  | _ => simp [World.cell?, hx] at hc
theorem sq_one {α : Type} {Sq : List α → Prop} {pre dn ks sub : List α} {y : α} (h : ∀ ks', ks' <+: ks → Sq (pre ++ ks')) (hr : dn ++ y :: sub = ks) : Sq (pre ++ dn ++ [y]) := by
 have := h (dn ++ [y]) ⟨sub, by rw [← hr]; simp⟩
 rwa [← List.append_assoc] at this
theorem sq_sub {α : Type} {Sq : List α → Prop} {pre dn ks sub pst : List α} {y : α} (h : ∀ ks', ks' <+: ks → Sq (pre ++ ks')) (hr : dn ++ y :: (sub ++ pst) = ks) : ∀ ks', ks' <+: sub → Sq (pre ++ dn ++ [y] ++ ks') := by
 rintro ks' ⟨r, rfl⟩; have := h (dn ++ y :: ks') ⟨r ++ pst, by rw [← hr]; simp⟩; have e1 : pre ++ dn ++ [y] ++ ks' = pre ++ (dn ++ y :: ks') := by simp
 rw [e1]; exact this
theorem kpmRep {B : Nat} {W W' : World} {base N : Nat} {es : List E} {A : ByteArray → Nat} (hlow : ∀ p, AtM es p → A p < B) (h : KpM B W W') (R : Rep W base N es A) : Rep W' base N es A :=
 ⟨fun p hp => (R.kids p hp).kept (by obtain ⟨D, n, ⟨es, c, h1, _⟩, _⟩ := R.kids p hp; rw [h1]; exact h.maps _ _ (hlow p hp) h1 rfl), R.low, R.apart⟩
def TellAtJ (es : List E) (A : ByteArray → Nat) (base N vb l NN : Nat) {Lt : List (ByteArray × E)} (Sq : List (ItemM Lt) → Prop) (J Jx : List (ItemM Lt) → World → Prop) (p q : ByteArray) (d : Int) (m : Nat) : Prop :=
 ∀ (W : World) (pre ks : List (ItemM Lt)) (x : ByteArray), ks.map Subtype.val = toldM es p q → (∀ ks', ks' <+: ks → Sq (pre ++ ks')) → J pre W → pre.length + ks.length ≤ NN → Rep W base N es A →
  Calls Tryz.prog 134 #[nodeV d x m, .string q, .func (.yield l) #[] #[]] W fun e W' =>
   (e = .returned (.bool true) ∧ J (pre ++ ks) W' ∧ KpM vb W W') ∨ (e = .returned (.bool false) ∧ ∃ ks', ks' <+: ks ∧ Jx (pre ++ ks') W')
set_option maxHeartbeats 4000000 in
set_option maxRecDepth 100000 in
theorem tellJ_dir (es : List E) (A : ByteArray → Nat) (base N vb l NN : Nat) (hN : N ≤ 1000) (hes : es.length ≤ 1000) {Lt : List (ByteArray × E)} (Sq : List (ItemM Lt) → Prop) (J Jx : List (ItemM Lt) → World → Prop) (hJ : Grows J) (T : TrM es) (hlow : ∀ p, AtM es p → A p < vb)
  (hY : ∀ pre (x : ItemM Lt) W1, J pre W1 → Sq (pre ++ [x]) → pre.length < NN → ∀ m, YieldAt Fence.wide m Tryz.prog l (encsM x) W1 fun e W' => (e = .returned (.bool true) ∧ J (pre ++ [x]) W' ∧ KpM vb W1 W') ∨ (e = .returned (.bool false) ∧ Jx (pre ++ [x]) W'))
  (p q : ByteArray) (hq : q.size ≤ 1048576) (d : Int) (hdir : AtM es p) (hsub : ∀ x ∈ toldM es p q, x ∈ Lt)
  (IH : ∀ n (e : E), nameB n = true → lookE es (joinI p n) = some e → TellAtJ es A base N vb l NN Sq J Jx (joinI p n) (under1 q n) e.d (A (joinI p n))) :
  TellAtJ es A base N vb l NN Sq J Jx p q d (A p) := by
 intro W pre ks x hks hSq h0 hNN R; have hst := hdir.ok T
 have hkl : (kidsM es p).length ≤ 1000 := by
  have := kidsM_len es p; omega
 have hBx : Below W.heap.size W (W.alloc (.cells #[signV d x, .map (some (A p))] 109)) := (Below.refl _ W).alloc (Nat.le_refl _) _; obtain ⟨D, nD, hown, hnD, hD⟩ := (R.below hBx).kids p hdir; have hsz := hown.size_le; have HS := hid (fun (ss : List (List UInt8)) (hp : ss.Perm (strKeys D)) => sorted_is hown (fun s h => (hD s h).1) (kidsM_rise T) (kids_some (A := A) T hst) hp); have hsk := msortedKeys (A p) nD D selfR _ hown (by unfold maxLen; omega) (by omega); simp only [World.size_alloc] at hsk; have HSK := hid hsk; clear hsk hown hD hsz; obtain ⟨ts, us, hsg⟩ := sign_is d x; have HSG := hid hsg; unfold nodeV; rw [hsg] at hBx HSK ⊢; clear hsg; have hfK : Fence.wide.fn 154 := trivial; have hfS : Fence.wide.fn 153 := trivial; refine (callsIn_wide (n := 6)).1 ?_; refine callsIn_of_wp Tryz.func134 rfl trivial ?_ rfl; simp only [Tryz.ntmps134, List.size_toArray, List.length_cons, List.length_nil, Nat.reduceAdd, Nat.reduceSub, Array.replicate_succ, Array.replicate_zero, List.push_toArray, List.append_toArray, List.nil_append, List.cons_append]
 gi_wp2_with (first
  | (gi_at_call 154; refine (mkeysIn _ _).mono ?_; rintro e w' ⟨rfl, rfl⟩)
  | (gi_at_call 153; refine HSK.out.mono ?_; rintro e w1 ⟨v, ss, rfl, hS, hrow, hnil, hB1⟩; obtain ⟨e1, e2⟩ := HS.out ss hS; rw [e1, e2] at hrow; obtain ⟨a, cap, rfl⟩ := row_sl hrow))
 clear hnil hS e1 e2 HS HSK; have hsz1 : W.heap.size + 1 + 1 ≤ w1.heap.size := by have := hB1.size; simpa using this
 have hBW : Below W.heap.size W w1 := (hBx.alloc (by simp) _).trans (hB1.mono (by omega)); have hb2 : w1.cell? ⟨W.heap.size, 1, none⟩ = some (.map (some (A p))) := (hB1.cell (p := ⟨W.heap.size, 1, none⟩) (by show W.heap.size < _; omega)).trans (by simp); have R1 := R.below hBW; have hJ1 := hJ _ _ _ h0 hBW; have HR := hid hrow; have HRep := hid R1; have HY := hid hY; have HIH := hid IH; have HKS := hid hks; have HSQ := hid hSq; have HSub := hid hsub; clear hY IH hks hsub R R1 hB1 hrow h0 hSq
 gi_loopg [16] (kidsM es p).length (fun gf iv wx => ∃ (i : Nat) (dn : List (ItemM Lt)), iv = .int .i64 i ∧ i ≤ (kidsM es p).length ∧ (kidsM es p).length ≤ i + gf ∧
  Hid (dn <+: ks ∧ dn.map Subtype.val = ((kidsM es p).take i).flatMap (fun n => ((lookE es (joinI p n)).toList.map (fun e => (under1 q n, e))) ++ toldM es (joinI p n) (under1 q n))) ∧ J (pre ++ dn) wx ∧ Hid (KpM vb w1 wx))
 case atStart => exact ⟨0, [], rfl, Nat.zero_le _, by omega, ⟨List.nil_prefix, rfl⟩, by rw [List.append_nil]; exact hJ1, KpM.of (Below.refl _ _)⟩
 case round =>
  obtain ⟨i, dn, rfl, hi1, hi2, HD, hJs, HK⟩ := hrel; by_cases hlt : i < (kidsM es p).length
  ·
   obtain ⟨g', rfl⟩ : ∃ g', gk = g' + 1 := ⟨gk - 1, by omega⟩
   obtain ⟨ga, rfl, hga1, hga2, hcell⟩ := row_at HR.out (by omega); obtain ⟨e, P, post, he, htold, hP, hflat⟩ := toldM_kid T hst q hlt; obtain ⟨hnm, _⟩ := (kidsM_mem T hst _).1 (List.getElem_mem hlt); have hcn := HK.out.cell (hcell i hlt); have hcb := HK.out.cell hb2; obtain ⟨n, hn⟩ : ∃ n, (kidsM es p)[i] = n := ⟨_, rfl⟩
   rw [hn] at he htold hflat hnm hcn; have HN := hid hn; clear hn hcell
   have hns : n.size ≤ 3 := by
    unfold nameB at hnm; rw [Bool.and_eq_true] at hnm; exact (of_decide_eq_true hnm.1).2
   have hRr := kpmRep hlow HK.out HRep.out; obtain ⟨te, ue, hse⟩ := sign_is e.d e.x
   have hlk0 : ∀ X : World, X.heap[A p]? = wr.heap[A p]? → (Instr.lookup 107 (.map (some (A p))) (.string n) false).run Tryz.prog X = .ok (.agg #[.iface te ue, .map (some (A (joinI p n)))]) X := fun X hX => by
    rw [((hRr.kids p hdir).kept hX).look1 (by unfold maxLen; omega)]; unfold kidF; rw [hnm, if_pos rfl, he]; rw [show ((some e).map (fun e : E => nodeV e.d e.x (A (joinI p n)))).getD zeroN = nodeV e.d e.x (A (joinI p n)) from rfl]; unfold nodeV; rw [hse]
   have hlt1 := (hRr.kids p hdir).lt; have hlk1 := hlk0 wr.drew rfl; have hlk2 : ∀ o, (Instr.lookup 107 (.map (some (A p))) (.string n) false).run Tryz.prog (wr.drew.alloc o) = .ok (.agg #[.iface te ue, .map (some (A (joinI p n)))]) (wr.drew.alloc o) := fun o => hlk0 _ (Below.heap_alloc wr.drew o _ hlt1); have hlk3 : ∀ o, (Instr.lookup 107 (.map (some (A p))) (.string n) false).run Tryz.prog (wr.alloc o).drew = .ok (.agg #[.iface te ue, .map (some (A (joinI p n)))]) (wr.alloc o).drew := fun o => hlk0 _ (Below.heap_alloc wr o _ hlt1); have hcb' := fun o => cellOn o hcb; have HT := hid htold; have HP := hid hP; have HF := hid hflat; clear hlk0 htold hP hflat
   gi_wp2
   gi_region
   have hBy : Below wr.heap.size wr (wr.alloc (.cells #[.iface te ue, .map (some (A (joinI p n)))] 109)).drew := ((Below.refl _ wr).alloc (Nat.le_refl _) _).drew; have y0 : (wr.alloc (.cells #[.iface te ue, .map (some (A (joinI p n)))] 109)).drew.cell? ⟨wr.heap.size, 0, none⟩ = some (.iface te ue) := by simp
   have y1 : (wr.alloc (.cells #[.iface te ue, .map (some (A (joinI p n)))] 109)).drew.cell? ⟨wr.heap.size, 1, none⟩ = some (.map (some (A (joinI p n)))) := by simp
   obtain ⟨Wy, hWy⟩ : ∃ Wy, (wr.alloc (.cells #[.iface te ue, .map (some (A (joinI p n)))] 109)).drew = Wy := ⟨_, rfl⟩
   rw [hWy] at hBy y0 y1; rw [hWy]; have hKy : KpM vb w1 Wy := HK.out.t (KpM.of hBy); have hJy := hJ _ _ _ hJs hBy; obtain ⟨⟨rest, hrest⟩, hdv⟩ := HD.out
   have hm : rest.map Subtype.val = (under1 q n, e) :: (toldM es (joinI p n) (under1 q n) ++ post) := by
    have h1 := HKS.out; rw [← hrest, List.map_append, hdv, ← HP.out, HT.out, List.append_assoc] at h1; exact List.append_cancel_left h1
   obtain ⟨y, l', rfl, hyv, hl'⟩ := List.map_eq_cons_iff.1 hm; obtain ⟨sub, pst, rfl, hsv, _⟩ := List.map_eq_append_iff.1 hl'
   have hlen : (pre ++ dn).length + (1 + sub.length) ≤ NN := by
    have := congrArg List.length hrest; simp only [List.length_append, List.length_cons] at this ⊢; omega
   obtain ⟨fn, tmps, assign, body, hy, hR⟩ := HY.out (pre ++ dn) y Wy hJy (sq_one HSQ.out hrest) (by omega) 3; dsimp only [encsM] at hy; rw [hyv] at hy; dsimp only at hy; rw [hse] at hy; unfold under1 at hy; have HE := hid hyv; have HSE := hid hse; have HKy := hid hKy; have HBy := hid hBy; have HSv := hid hsv; have HL := hid hlen; have HRe := hid hrest; clear hse hWy hlk1 hlk2 hlk3 hcb hcb' hcn hyv hKy hBy hsv hlen hrest hm hl' hJs hdv
   gi_wp2
   refine (roundIn_wide hR).mono ?_; rintro e2 W3 (⟨rfl, hJ3, hk3⟩ | ⟨rfl, hJx3⟩)
   ·
    have z0 := hk3.cell y0; have z1 := hk3.cell y1; have HK3 := hid hk3; clear hk3; have hK13 := HKy.out.t HK3.out; have hih := HIH.out n e hnm he W3 (pre ++ dn ++ [y]) sub e.x HSv.out (sq_sub HSQ.out HRe.out) hJ3 (by have := HL.out; rw [List.length_append, List.length_singleton]; omega) (kpmRep hlow hK13 HRep.out); unfold under1 nodeV at hih; rw [HSE.out] at hih; have HIH3 := hid hih; clear hih
    gi_wp2_with (refine ⟨trivial, ?_⟩; gi_at_call 134; refine (callsIn_wide.2 HIH3.out).mono ?_)
    rintro e3 W4 (⟨rfl, hJ4, hk4⟩ | ⟨rfl, ks', hpf, hJx4⟩)
    ·
     have HK4 := hid (hK13.t hk4); clear hk4
     gi_wp2
     gi_roundg g'
     case measure => omega
     case rel =>
      refine ⟨i + 1, dn ++ y :: sub, by go_num, by omega, by omega, ⟨?_, ?_⟩, ?_, HK4⟩
      ·
       rw [← HRe.out]; exact ⟨pst, by simp⟩
      ·
       rw [List.map_append, List.map_cons, HE.out, HSv.out, HD.out.2, ← HP.out]; exact HF.out
      ·
       have e1 : pre ++ dn ++ [y] ++ sub = pre ++ (dn ++ y :: sub) := by simp
       rw [← e1]; exact hJ4
    ·
     gi_wp2
     go_ret
     obtain ⟨ps, rfl⟩ := hpf; refine .inr ⟨rfl, dn ++ y :: ks', ⟨ps ++ pst, by rw [← HRe.out]; simp⟩, ?_⟩; have e1 : pre ++ dn ++ [y] ++ ks' = pre ++ (dn ++ y :: ks') := by simp
     rw [← e1]; exact hJx4
   ·
    gi_wp2
    refine ⟨trivial, ?_⟩
    gi_wp2
    go_ret
    refine .inr ⟨rfl, dn ++ [y], ⟨sub ++ pst, by rw [← HRe.out]; simp⟩, ?_⟩; rw [← List.append_assoc]; exact hJx3
  ·
   gi_wp2
   go_ret
   refine .inl ⟨rfl, ?_, (KpM.of hBW).t HK.out⟩; have hie : i = (kidsM es p).length := by omega
   obtain ⟨⟨r, hr⟩, hd2⟩ := HD.out; rw [hie, List.take_length, ← toldM_split T hst q, ← HKS.out, ← hr, List.map_append] at hd2; have hr0 : r = [] := List.map_eq_nil_iff.1 (List.self_eq_append_right.1 hd2); rw [hr0, List.append_nil] at hr; rw [← hr]; exact hJs
theorem tellJ_at (es : List E) (A : ByteArray → Nat) (base N vb l NN : Nat) (hN : N ≤ 1000) (hes : es.length ≤ 1000) {Lt : List (ByteArray × E)} (Sq : List (ItemM Lt) → Prop) (J Jx : List (ItemM Lt) → World → Prop) (hJ : Grows J) (T : TrM es) (hlow : ∀ p, AtM es p → A p < vb)
  (hY : ∀ pre (x : ItemM Lt) W1, J pre W1 → Sq (pre ++ [x]) → pre.length < NN → ∀ m, YieldAt Fence.wide m Tryz.prog l (encsM x) W1 fun e W' => (e = .returned (.bool true) ∧ J (pre ++ [x]) W' ∧ KpM vb W1 W') ∨ (e = .returned (.bool false) ∧ Jx (pre ++ [x]) W')) :
  ∀ (f : Nat) (p q : ByteArray) (d : Int), (3 : Int) ≤ levS p + f → q.size + 4 * f ≤ 1048576 → AtM es p → (∀ x ∈ toldM es p q, x ∈ Lt) → TellAtJ es A base N vb l NN Sq J Jx p q d (A p)
 | f, p, q, d, hf, hq, hat, hsub => by
  refine tellJ_dir es A base N vb l NN hN hes Sq J Jx hJ T hlow hY p q (by omega) d hat hsub (fun n e hnm he => ?_); have hst := hat.ok T; have hlv := kidM_lev T hst hnm he; have hle := lev_le (joinI p n)
  match f, hf, hq with
  | 0, hf, _ => omega
  | f + 1, hf, hq =>
   have hns : n.size ≤ 3 := by
    unfold nameB at hnm; rw [Bool.and_eq_true] at hnm; exact (of_decide_eq_true hnm.1).2
   refine tellJ_at es A base N vb l NN hN hes Sq J Jx hJ T hlow hY f (joinI p n) (under1 q n) e.d (by omega) ?_ (.inr ⟨e, he⟩) ?_
   ·
    unfold under1; rw [ByteArray.size_append, ByteArray.size_append]; have h1 : (⟨#[47]⟩ : ByteArray).size = 1 := rfl; omega
   ·
    intro x hx; refine hsub x ?_; rw [toldM_split T hst q, List.mem_flatMap]; exact ⟨n, (kidsM_mem T hst n).2 ⟨hnm, e, he⟩, List.mem_append_right _ hx⟩
end Go.Proofs.YteppodogghjfhabGreatDoor.Mk
namespace Go.Proofs.YteppodogghjfhabGreatDoor.Mk
open Go.RowKit Go.Shelf Go.Lib Go.Maps
attribute [local go_sem] Oper.semAt_some
set_option maxHeartbeats 1000000 in
set_option maxRecDepth 100000 in
theorem allJ_map (n : Nat) (hn : 1 ≤ n) (es : List E) (A : ByteArray → Nat) (base N vb : Nat) (hN : N ≤ 1000) (hes : es.length ≤ 1000) (T : TrM es) (bn : Nat) (w : World) (hbn : bn < w.heap.size)
  (c0 : w.cell? ⟨bn, 0, none⟩ = some (.iface 169 (.agg #[]))) (c1 : w.cell? ⟨bn, 1, none⟩ = some (.map (some (A ⟨#[47]⟩)))) (hlow : ∀ p, AtM es p → A p < vb) (R : Rep w base N es A) :
  SeqMap Fence.wide n Tryz.prog 133 #[.pointer (some ⟨bn, 0, none⟩)] (encsM (Lt := toldM es ⟨#[47]⟩ ⟨#[]⟩)) (KpM vb) (fun xs => xs.map Subtype.val = toldM es ⟨#[47]⟩ ⟨#[]⟩) (fun pre => pre.map Subtype.val <+: toldM es ⟨#[47]⟩ ⟨#[]⟩) (toldM es ⟨#[47]⟩ ⟨#[]⟩).length w := fun l J Jx W hW hJ hJx hY h0 => by
 have d0 := (hW.cell (p := ⟨bn, 0, none⟩) hbn).trans c0; have d1 := (hW.cell (p := ⟨bn, 1, none⟩) hbn).trans c1; have hlev : 0 ≤ levS ⟨#[47]⟩ := by decide
 obtain ⟨ks, hks⟩ := items_of (toldM es ⟨#[47]⟩ ⟨#[]⟩)
 have hlen : ks.length = (toldM es ⟨#[47]⟩ ⟨#[]⟩).length := by
  have := congrArg List.length hks
  rwa [List.length_map] at this
 have HT := hid (tellJ_at es A base N vb l (toldM es ⟨#[47]⟩ ⟨#[]⟩).length hN hes (fun pre => pre.map Subtype.val <+: toldM es ⟨#[47]⟩ ⟨#[]⟩) J Jx hJ T hlow (fun pre y W1 h1 h2 h3 m' => yieldAt_wide (hY pre y W1 h1 h2 h3)) 3 ⟨#[47]⟩ ⟨#[]⟩ 2 (by omega) (by show 0 + 4 * 3 ≤ 1048576; omega) (.inl rfl) (fun _ h => h)
  W [] ks ⟨#[]⟩ hks (fun ks' hp => by have h := hp.map Subtype.val; rw [hks] at h; exact h) h0 (by simp; omega) (R.below hW))
 have HK := hid hks; clear hY hJ hJx h0 c0 c1 hW R hks; refine callsIn_of_wp Tryz.func133 rfl trivial ?_ rfl; simp only [Tryz.ntmps133, List.size_toArray, List.length_cons, List.length_nil, Nat.reduceAdd, Nat.reduceSub, Array.replicate_succ, Array.replicate_zero, List.push_toArray, List.append_toArray, List.nil_append, List.cons_append]
 gi_wp2_with (refine ⟨trivial, ?_⟩; gi_at_call 134; refine (callsIn_wide.2 HT.out).mono ?_)
 rintro e W' (⟨rfl, hJ', -⟩ | ⟨rfl, ks', hpf, hJx'⟩)
 ·
  gi_wp2
  refine bodyPost_end (results_none rfl _ _ _) rfl ?_; exact ⟨⟨_, rfl⟩, .inl ⟨ks, HK.out, hJ'⟩⟩
 ·
  gi_wp2
  refine bodyPost_end (results_none rfl _ _ _) rfl ?_; exact ⟨⟨_, rfl⟩, .inr ⟨ks', by have h := hpf.map Subtype.val; rw [HK.out] at h; exact h, hJx'⟩⟩
end Go.Proofs.YteppodogghjfhabGreatDoor.Mk
