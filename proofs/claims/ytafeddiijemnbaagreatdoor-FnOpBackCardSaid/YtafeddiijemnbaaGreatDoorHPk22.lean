import Derived.Test.YtafeddiijemnbaaGreatDoorHNamesI
import Derived.Test.YtafeddiijemnbaaGreatDoorHPk06
import Derived.Test.YtafeddiijemnbaaGreatDoorHPk07
namespace Go.Proofs.YtafeddiijemnbaaGreatDoor
open Go.RowKit Go.Shelf Go.Lib Go.Maps
attribute [local go_sem] Oper.semAt_some
abbrev ItemT (Lt : List (ByteArray × E)) : Type := { x : ByteArray × E // x ∈ Lt }
abbrev encsT (A : ByteArray → Nat) {Lt : List (ByteArray × E)} (x : ItemT Lt) : Array Value := #[.string x.1.1, .agg #[.bool x.1.2.d, .string x.1.2.x, .map (optV x.1.2.d (A x.1.2.p))]]
def pts (W : World) (vb g : Nat) : Prop := ∃ o n cap, W.cell? ⟨vb, 0, none⟩ = some (.slice (some ⟨g, o, none⟩) n cap)
def Good (vb : Nat) (W : World) : Prop := ∀ g, pts W vb g → g < W.heap.size
structure KpT (vb : Nat) (W W' : World) : Prop where
 walks : KeepsWalks W W'
 cells : ∀ (b : Nat) (o : Obj), W.heap[b]? = some o → o.isCells = true → b ≠ vb → ¬ pts W vb b → W'.heap[b]? = some o
 var : ∀ g, pts W' vb g → pts W vb g ∨ W.heap.size ≤ g
 good : Good vb W → Good vb W'
theorem KpT.t {vb : Nat} {A B C : World} (h : KpT vb A B) (k : KpT vb B C) : KpT vb A C where
 walks := h.walks.trans k.walks
 cells b o h1 h2 h3 h4 := k.cells b o (h.cells b o h1 h2 h3 h4) h2 h3 (fun q => by
  rcases h.var b q with q | q
  ·
   exact h4 q
  ·
   have := (Array.getElem?_eq_some_iff.1 h1).1; omega)
 var g q := by
  rcases k.var g q with q | q
  ·
   exact h.var g q
  ·
   exact .inr (Nat.le_trans h.walks.size q)
 good h1 := k.good (h.good h1)
theorem pts_same {vb : Nat} {W W' : World} (h : W'.heap[vb]? = W.heap[vb]?) (g : Nat) : pts W' vb g ↔ pts W vb g := by
 unfold pts; rw [World.cell?_of_block (a := ⟨vb, 0, none⟩) h]
theorem KpT.b {vb : Nat} {w : World} (hv : vb < w.heap.size) (W : World) (l : Nat) (o o' : Obj) (hl : w.heap.size ≤ l) (h : W.heap[l]? = some o) (hc : o.isCells = false) (hw : o.isWalk = false) : KpT vb W (W.putObj l o') := by
 have hs : ∀ b, b ≠ l → (W.putObj l o').heap[b]? = W.heap[b]? := fun b hb => World.putObj_heap_other hb; have hp : ∀ g, pts (W.putObj l o') vb g ↔ pts W vb g := pts_same (hs vb (by omega)); refine ⟨KeepsWalks.putObj _ h hw, fun b x h1 h2 _ _ => ?_, fun g q => .inl ((hp g).1 q), fun h1 g q => by have := h1 g ((hp g).1 q); simpa using this⟩; by_cases e : b = l
 ·
  subst e; rw [h] at h1; cases h1; rw [hc] at h2; cases h2
 ·
  rw [hs b e]; exact h1
theorem kpt_of {vb : Nat} {X Y : World} (h : Below X.heap.size X Y) (hv : vb < X.heap.size) : KpT vb X Y := by
 have hp := pts_same (vb := vb) (h.block vb hv); exact ⟨⟨h.size, fun k o h1 _ => (h.block k (Array.getElem?_eq_some_iff.1 h1).1).trans h1⟩, fun b o h1 _ _ _ => (h.block b (Array.getElem?_eq_some_iff.1 h1).1).trans h1, fun g q => .inl ((hp g).1 q), fun h1 g q => Nat.lt_of_lt_of_le (h1 g ((hp g).1 q)) h.size⟩
theorem KpT.rep {vb : Nat} {W W' : World} {base N : Nat} {es : List E} {A : ByteArray → Nat} (h : KpT vb W W') (R : Rep W base N es A) : Rep W' base N es A :=
 R.keep fun b _ ⟨o, c, hb⟩ => by rw [hb]; exact h.walks.same b _ hb rfl
theorem KpT.cell {vb : Nat} {W W' : World} (h : KpT vb W W') {b o : Nat} {v : Value} (hc : W.cell? ⟨b, o, none⟩ = some v) (hne : b ≠ vb) (hp : ¬ pts W vb b) : W'.cell? ⟨b, o, none⟩ = some v := by
 rw [← hc]; refine World.cell?_of_block ?_; cases hx : W.heap[b]? with
 | none => simp [World.cell?, hx] at hc
 | some x =>
  cases x with
  | cells cs t f => exact h.cells b _ hx rfl hne hp
  | _ => simp [World.cell?, hx] at hc
theorem told_file {es : List E} (T : TrE es) {p : ByteArray} {e : E} (h : lookE es p = some e) (hd : e.d = false) (q : ByteArray) : told es p q = [] := by
 unfold told bel; rw [List.map_eq_nil_iff, List.filter_eq_nil_iff]; intro f hf hu; obtain ⟨g, h1, h2⟩ := up_there T (look_path T h) _ f (Nat.le_refl _) hf hu; rw [h] at h1; cases h1; rw [hd] at h2; cases h2
theorem roundIn_wide {m m' : Nat} {P : Program} {l : Nat} {f : FuncId} {tmps : Array Value} {assign body : Code} {w : World} {R : Ending → World → Prop} (h : RoundIn Fence.wide m P l f tmps assign body w R) : RoundIn Fence.wide m' P l f tmps assign body w R :=
 ⟨h.1, fun c cs _ => h.2 c cs (room_wide _)⟩
def TellAt (es : List E) (A : ByteArray → Nat) (base N vb l NN B0 : Nat) {Lt : List (ByteArray × E)} (J Jx : List (ItemT Lt) → World → Prop) (p q : ByteArray) (d : Bool) (m : Option Nat) : Prop :=
 ∀ (W : World) (pre ks : List (ItemT Lt)) (x : ByteArray), ks.map Subtype.val = told es p q → J pre W → pre.length + ks.length ≤ NN → Rep W base N es A → vb < W.heap.size → Good vb W → B0 ≤ W.heap.size →
  Calls Tryz.prog 82 #[.agg #[.bool d, .string x, .map m], .string q, .func (.yield l) #[] #[]] W fun e W' =>
   (e = .returned (.bool true) ∧ J (pre ++ ks) W' ∧ KpT vb W W') ∨ (e = .returned (.bool false) ∧ ∃ ks', ks' <+: ks ∧ Jx (pre ++ ks') W')
theorem abides_below {β : Type} {B : Nat} {J : β → World → Prop} (hJ : AbidesFrom B J) {s : β} {W W' : World} (h : J s W) (hb : Below W.heap.size W W') : J s W' :=
 hJ s W W' none h ⟨hb.os, hb.tape, hb.output, hb.size, fun k hk _ => hb.block k hk⟩ (fun r e => by cases e)
theorem row_sl {w : World} {base : Nat} {e : TypeId} {size : Nat} {v : Value} {n : Nat} {xs : List Value} (h : w.ownsRow base e size v n xs) : ∃ a cap, v = .slice a n cap := by
 obtain ⟨_, ⟨rfl, rfl⟩ | ⟨g, cap, cur, rfl, _⟩⟩ := h
 ·
  exact ⟨_, _, rfl⟩
 ·
  exact ⟨_, _, rfl⟩
set_option maxHeartbeats 1000000 in
set_option maxRecDepth 100000 in
theorem tell_file (es : List E) (A : ByteArray → Nat) (base N vb l NN B0 : Nat) {Lt : List (ByteArray × E)} (J Jx : List (ItemT Lt) → World → Prop) (hJ : AbidesFrom B0 J) (p q : ByteArray) (d : Bool) (hn : told es p q = []) :
  TellAt es A base N vb l NN B0 J Jx p q d none := by
 intro W pre ks x hks h0 _ _ hv _ _; obtain rfl : ks = [] := by rw [hn] at hks; exact List.map_eq_nil_iff.1 hks
 have hB0 : Below W.heap.size W (W.alloc (.cells #[.bool d, .string x, .map none] 36)) := (Below.refl _ W).alloc (Nat.le_refl _) _; have HN := hid (fun X => names_nil X d x); go_enter Tryz.func82, Tryz.ntmps82
 go_wp2_with (go_at_call 87; refine (HN.out _).mono ?_; rintro e w1 ⟨v, rfl, hrow, hB1⟩; obtain ⟨a, cap, rfl⟩ := row_sl hrow)
 have hBW : Below W.heap.size W w1 := hB0.trans (hB1.mono (by simp)); clear hrow
 go_loopw [14] (fun iv wl => iv = .int .i64 0 ∧ wl = w1) (fun _ _ => 0)
 case atStart => exact ⟨rfl, rfl⟩
 case round =>
  obtain ⟨rfl, rfl⟩ := hrel; go_wp2
  go_ret
  exact .inl ⟨rfl, by rw [List.append_nil]; exact abides_below hJ h0 hBW, kpt_of hBW hv⟩
theorem told_kid {es : List E} (T : TrE es) {p : ByteArray} (hp : stemOk p = true) (q : ByteArray) {k : Nat} (hk : k < (kidsE es p).length) :
  ∃ (e : E) (pre post : List (ByteArray × E)), lookE es (joinI p (kidsE es p)[k]) = some e ∧ told es p q = pre ++ ((under1 q (kidsE es p)[k], e) :: told es (joinI p (kidsE es p)[k]) (under1 q (kidsE es p)[k])) ++ post ∧
   pre = ((kidsE es p).take k).flatMap (fun n => ((lookE es (joinI p n)).toList.map (fun e => (under1 q n, e))) ++ told es (joinI p n) (under1 q n)) ∧
   pre ++ ((under1 q (kidsE es p)[k], e) :: told es (joinI p (kidsE es p)[k]) (under1 q (kidsE es p)[k])) = ((kidsE es p).take (k + 1)).flatMap (fun n => ((lookE es (joinI p n)).toList.map (fun e => (under1 q n, e))) ++ told es (joinI p n) (under1 q n)) := by
 obtain ⟨_, e, he⟩ := (kids_mem T hp _).1 (List.getElem_mem hk); refine ⟨e, _, ((kidsE es p).drop (k + 1)).flatMap (fun n => ((lookE es (joinI p n)).toList.map (fun e => (under1 q n, e))) ++ told es (joinI p n) (under1 q n)), he, ?_, rfl, ?_⟩
 ·
  rw [told_split T hp q]
  conv => lhs; rw [← List.take_append_drop k (kidsE es p), List.drop_eq_getElem_cons hk]
  rw [List.flatMap_append, List.flatMap_cons, he]; simp
 ·
  rw [List.take_succ_eq_append_getElem hk, List.flatMap_append, List.flatMap_cons, he]; simp
theorem kid_lev {es : List E} (T : TrE es) {p n : ByteArray} (hp : stemOk p = true) (hn : nameB n = true) {e : E} (h : lookE es (joinI p n) = some e) : levS (joinI p n) = levS p + 1 := by
 have hj := join_ok hp hn (look_path T h); have := (up_facts (look_path T h)).2.2.2; rw [(join_up hj).1] at this; exact this
theorem row_at {w : World} {base : Nat} {a : Option Addr} {cap : Nat} {ks : List ByteArray} (h : w.ownsRow base 9 1 (.slice a ks.length cap) ks.length (ks.map Value.string)) (h0 : 0 < ks.length) :
  ∃ g, a = some ⟨g, 0, none⟩ ∧ base ≤ g ∧ g < w.heap.size ∧ ∀ i (hi : i < ks.length), w.cell? ⟨g, i, none⟩ = some (.string ks[i]) := by
 have hc := fun (g : Nat) (hg : (Value.slice a ks.length cap).ownBlock = some g) => World.ownsRow.cells h hg; obtain ⟨_, ⟨e1, e2⟩ | ⟨g, cap', cur, e1, hb, hh, _⟩⟩ := h
 ·
  omega
 ·
  obtain ⟨rfl, _⟩ : a = some ⟨g, 0, none⟩ ∧ cap = cap' := by simpa using e1
  refine ⟨g, rfl, hb, (Array.getElem?_eq_some_iff.1 hh).1, fun i hi => ?_⟩; have := hc g rfl i (.string ks[i]) (by rw [List.getElem?_map, List.getElem?_eq_getElem hi]; rfl); cases i with
  | zero => exact this
  | succ j => simpa [Addr.add] using this
set_option maxHeartbeats 4000000 in
set_option maxRecDepth 100000 in
theorem tell_dir (es : List E) (A : ByteArray → Nat) (base N vb l NN B0 : Nat) (hN : N ≤ 1000) (hes : es.length ≤ 1000) {Lt : List (ByteArray × E)} (J Jx : List (ItemT Lt) → World → Prop) (hJ : AbidesFrom B0 J) (T : TrE es)
  (hY : ∀ pre (x : ItemT Lt) W1, J pre W1 → pre.length < NN → ∀ m, YieldAt Fence.wide m Tryz.prog l (encsT A x) W1 fun e W' => (e = .returned (.bool true) ∧ J (pre ++ [x]) W' ∧ KpT vb W1 W') ∨ (e = .returned (.bool false) ∧ Jx (pre ++ [x]) W'))
  (p q : ByteArray) (hq : q.size ≤ 1048576) (d : Bool) (hdir : dirE es p = true) (hsub : ∀ x ∈ told es p q, x ∈ Lt)
  (IH : ∀ n (e : E), nameB n = true → lookE es (joinI p n) = some e → TellAt es A base N vb l NN B0 J Jx (joinI p n) (under1 q n) e.d (optV e.d (A (joinI p n)))) :
  TellAt es A base N vb l NN B0 J Jx p q d (some (A p)) := by
 intro W pre ks x hks h0 hNN R hv hG hB0; have hst := T.dirOk hdir
 have hkl : (kidsE es p).length ≤ 1000 := by
  have := kids_len es p es.length; rw [List.take_length] at this; omega
 have hBx : Below W.heap.size W (W.alloc (.cells #[.bool d, .string x, .map (some (A p))] 36)) := (Below.refl _ W).alloc (Nat.le_refl _) _; have HNm := hid (names_dir _ base N es A T (R.below hBx) hN p hdir d x); refine (callsIn_wide (n := 4)).1 ?_; refine callsIn_of_wp Tryz.func82 rfl trivial ?_ rfl; simp only [Tryz.ntmps82, List.size_toArray, List.length_cons, List.length_nil, Nat.reduceAdd, Nat.reduceSub, Array.replicate_succ, Array.replicate_zero, List.push_toArray, List.append_toArray, List.nil_append, List.cons_append]
 gi_wp2_with (refine ⟨trivial, ?_⟩; gi_at_call 87; refine (callsIn_wide.2 HNm.out).mono ?_; rintro e w1 ⟨v, rfl, hrow, hB1⟩; obtain ⟨a, cap, rfl⟩ := row_sl hrow)
 have hsz1 : W.heap.size + 1 ≤ w1.heap.size := by have := hB1.size; simpa using this
 have hBW : Below W.heap.size W w1 := hBx.trans (hB1.mono (by simp)); have hv1 : vb < w1.heap.size := by omega
 have hG1 : Good vb w1 := (kpt_of hBW hv).good hG
 have hnp : ∀ b, W.heap.size ≤ b → ¬ pts w1 vb b := fun b hb q => by
  have := hG b ((pts_same (hBW.block vb hv) b).1 q); omega
 have hb2 : w1.cell? ⟨W.heap.size, 2, none⟩ = some (.map (some (A p))) := (hB1.cell (p := ⟨W.heap.size, 2, none⟩) (by simp)).trans (by simp); have R1 := R.below hBW; have hJ1 := abides_below hJ h0 hBW; simp only [World.size_alloc] at hrow; have HR := hid hrow; have HRep := hid R1; have HY := hid hY; have HIH := hid IH; have HKS := hid hks; have HSub := hid hsub; clear hY IH hks hsub R R1 hB1 hrow h0
 gi_loopg [14] (kidsE es p).length (fun gf iv wx => ∃ (i : Nat) (dn : List (ItemT Lt)), iv = .int .i64 i ∧ i ≤ (kidsE es p).length ∧ (kidsE es p).length ≤ i + gf ∧
  Hid (dn <+: ks ∧ dn.map Subtype.val = ((kidsE es p).take i).flatMap (fun n => ((lookE es (joinI p n)).toList.map (fun e => (under1 q n, e))) ++ told es (joinI p n) (under1 q n))) ∧ J (pre ++ dn) wx ∧ Hid (KpT vb w1 wx))
 case atStart => exact ⟨0, [], rfl, Nat.zero_le _, by omega, ⟨List.nil_prefix, rfl⟩, by rw [List.append_nil]; exact hJ1, kpt_of (Below.refl _ _) hv1⟩
 case round =>
  obtain ⟨i, dn, rfl, hi1, hi2, HD, hJs, HK⟩ := hrel; by_cases hlt : i < (kidsE es p).length
  ·
   obtain ⟨g', rfl⟩ : ∃ g', gk = g' + 1 := ⟨gk - 1, by omega⟩
   obtain ⟨ga, rfl, hga1, hga2, hcell⟩ := row_at HR.out (by omega); obtain ⟨e, P, post, he, htold, hP, hflat⟩ := told_kid T hst q hlt; obtain ⟨hnm, _⟩ := (kids_mem T hst _).1 (List.getElem_mem hlt); have hcn := HK.out.cell (hcell i hlt) (by omega) (hnp _ (by omega)); have hcb := HK.out.cell hb2 (by omega) (hnp _ (Nat.le_refl _)); obtain ⟨n, hn⟩ : ∃ n, (kidsE es p)[i] = n := ⟨_, rfl⟩
   rw [hn] at he htold hflat hnm hcn; have HN := hid hn; clear hn hcell
   have hns : n.size ≤ 3 := by
    unfold nameB at hnm; rw [Bool.and_eq_true] at hnm; exact (of_decide_eq_true hnm.1).2
   have hRr := HK.out.rep HRep.out
   have hlk0 : ∀ X : World, X.heap[A p]? = wr.heap[A p]? → (Instr.lookup 34 (.map (some (A p))) (.string n) false).run Tryz.prog X = .ok (.agg #[.bool e.d, .string e.x, .map (optV e.d (A (joinI p n)))]) X := fun X hX => by
    rw [((hRr.kids p hdir).kept hX).look1 (by unfold maxLen; omega)]; unfold kidF; rw [hnm, if_pos rfl, he]; rfl
   have hlt1 := (hRr.kids p hdir).lt; have hlk1 := hlk0 wr.drew rfl; have hlk2 : ∀ o, (Instr.lookup 34 (.map (some (A p))) (.string n) false).run Tryz.prog (wr.drew.alloc o) = .ok (.agg #[.bool e.d, .string e.x, .map (optV e.d (A (joinI p n)))]) (wr.drew.alloc o) := fun o => hlk0 _ (Below.heap_alloc wr.drew o _ hlt1); have hlk3 : ∀ o, (Instr.lookup 34 (.map (some (A p))) (.string n) false).run Tryz.prog (wr.alloc o).drew = .ok (.agg #[.bool e.d, .string e.x, .map (optV e.d (A (joinI p n)))]) (wr.alloc o).drew := fun o => hlk0 _ (Below.heap_alloc wr o _ hlt1); have hcb' := fun o => cellOn o hcb; have HT := hid htold; have HP := hid hP; have HF := hid hflat; clear hlk0 htold hP hflat
   gi_wp2
   gi_region
   have hBy : Below wr.heap.size wr (wr.alloc (.cells #[.bool e.d, .string e.x, .map (optV e.d (A (joinI p n)))] 36)).drew := ((Below.refl _ wr).alloc (Nat.le_refl _) _).drew; have y0 : (wr.alloc (.cells #[.bool e.d, .string e.x, .map (optV e.d (A (joinI p n)))] 36)).drew.cell? ⟨wr.heap.size, 0, none⟩ = some (.bool e.d) := by simp
   have y1 : (wr.alloc (.cells #[.bool e.d, .string e.x, .map (optV e.d (A (joinI p n)))] 36)).drew.cell? ⟨wr.heap.size, 1, none⟩ = some (.string e.x) := by simp
   have y2 : (wr.alloc (.cells #[.bool e.d, .string e.x, .map (optV e.d (A (joinI p n)))] 36)).drew.cell? ⟨wr.heap.size, 2, none⟩ = some (.map (optV e.d (A (joinI p n)))) := by simp
   obtain ⟨Wy, hWy⟩ : ∃ Wy, (wr.alloc (.cells #[.bool e.d, .string e.x, .map (optV e.d (A (joinI p n)))] 36)).drew = Wy := ⟨_, rfl⟩
   rw [hWy] at hBy y0 y1 y2; rw [hWy]; have hvr : vb < wr.heap.size := Nat.lt_of_lt_of_le hv1 HK.out.walks.size; have hGr : Good vb wr := HK.out.good hG1
   have hnpy : ¬ pts Wy vb wr.heap.size := fun h => by
    have := hGr _ ((pts_same (hBy.block vb hvr) _).1 h); omega
   have hKy : KpT vb w1 Wy := HK.out.t (kpt_of hBy hvr); have hJy := abides_below hJ hJs hBy; obtain ⟨⟨rest, hrest⟩, hdv⟩ := HD.out
   have hm : rest.map Subtype.val = (under1 q n, e) :: (told es (joinI p n) (under1 q n) ++ post) := by
    have h1 := HKS.out; rw [← hrest, List.map_append, hdv, ← HP.out, HT.out, List.append_assoc] at h1; exact List.append_cancel_left h1
   obtain ⟨y, l', rfl, hyv, hl'⟩ := List.map_eq_cons_iff.1 hm; obtain ⟨sub, pst, rfl, hsv, _⟩ := List.map_eq_append_iff.1 hl'
   have hlen : (pre ++ dn).length + (1 + sub.length) ≤ NN := by
    have := congrArg List.length hrest; simp only [List.length_append, List.length_cons] at this ⊢; omega
   obtain ⟨fn, tmps, assign, body, hy, hR⟩ := HY.out (pre ++ dn) y Wy hJy (by omega) 3; have hep : e.p = joinI p n := (look_mem he).2; dsimp only [encsT] at hy; rw [hyv] at hy; dsimp only at hy; rw [hep] at hy; unfold under1 at hy; have HE := hid hyv; have HKy := hid hKy; have HBy := hid hBy; have HSv := hid hsv; have HL := hid hlen; have HRe := hid hrest; clear hWy hlk1 hlk2 hlk3 hcb hcb' hcn hyv hKy hBy hsv hlen hrest hm hl' hJs hdv
   gi_wp2
   refine (roundIn_wide hR).mono ?_; rintro e2 W3 (⟨rfl, hJ3, hk3⟩ | ⟨rfl, hJx3⟩)
   ·
    have z0 := hk3.cell y0 (by omega) hnpy; have z1 := hk3.cell y1 (by omega) hnpy; have z2 := hk3.cell y2 (by omega) hnpy; have HK3 := hid hk3; clear hk3; have hK13 := HKy.out.t HK3.out; have hih := HIH.out n e hnm he W3 (pre ++ dn ++ [y]) sub e.x HSv.out hJ3 (by have := HL.out; rw [List.length_append, List.length_singleton]; omega) (hK13.rep HRep.out) (Nat.lt_of_lt_of_le hv1 hK13.walks.size) (hK13.good hG1) (Nat.le_trans hB0 (Nat.le_trans (by omega) hK13.walks.size)); unfold under1 at hih; have HIH3 := hid hih; clear hih
    gi_wp2_with (refine ⟨trivial, ?_⟩; gi_at_call 82; refine (callsIn_wide.2 HIH3.out).mono ?_)
    rintro e3 W4 (⟨rfl, hJ4, hk4⟩ | ⟨rfl, ks', hpf, hJx4⟩)
    ·
     have HK4 := hid (hK13.t hk4); clear hk4
     gi_wp2
     gi_roundg g'
     case measure => omega
     case rel =>
      refine ⟨i + 1, dn ++ y :: sub, by go_num, by omega, by omega, ⟨?_, ?_⟩, ?_, HK4⟩
      ·
       rw [← HRe.out]; exact ⟨pst, by simp⟩
      ·
       rw [List.map_append, List.map_cons, HE.out, HSv.out, HD.out.2, ← HP.out]; exact HF.out
      ·
       have e1 : pre ++ dn ++ [y] ++ sub = pre ++ (dn ++ y :: sub) := by simp
       rw [← e1]; exact hJ4
    ·
     gi_wp2
     go_ret
     obtain ⟨ps, rfl⟩ := hpf; refine .inr ⟨rfl, dn ++ y :: ks', ⟨ps ++ pst, by rw [← HRe.out]; simp⟩, ?_⟩; have e1 : pre ++ dn ++ [y] ++ ks' = pre ++ (dn ++ y :: ks') := by simp
     rw [← e1]; exact hJx4
   ·
    gi_wp2
    refine ⟨trivial, ?_⟩
    gi_wp2
    go_ret
    refine .inr ⟨rfl, dn ++ [y], ⟨sub ++ pst, by rw [← HRe.out]; simp⟩, ?_⟩; rw [← List.append_assoc]; exact hJx3
  ·
   gi_wp2
   go_ret
   refine .inl ⟨rfl, ?_, (kpt_of hBW hv).t HK.out⟩; have hie : i = (kidsE es p).length := by omega
   obtain ⟨⟨r, hr⟩, hd2⟩ := HD.out; rw [hie, List.take_length, ← told_split T hst q, ← HKS.out, ← hr, List.map_append] at hd2; have hr0 : r = [] := List.map_eq_nil_iff.1 (List.self_eq_append_right.1 hd2); rw [hr0, List.append_nil] at hr; rw [← hr]; exact hJs
theorem tell_at (es : List E) (A : ByteArray → Nat) (base N vb l NN B0 : Nat) (hN : N ≤ 1000) (hes : es.length ≤ 1000) {Lt : List (ByteArray × E)} (J Jx : List (ItemT Lt) → World → Prop) (hJ : AbidesFrom B0 J) (T : TrE es)
  (hY : ∀ pre (x : ItemT Lt) W1, J pre W1 → pre.length < NN → ∀ m, YieldAt Fence.wide m Tryz.prog l (encsT A x) W1 fun e W' => (e = .returned (.bool true) ∧ J (pre ++ [x]) W' ∧ KpT vb W1 W') ∨ (e = .returned (.bool false) ∧ Jx (pre ++ [x]) W')) :
  ∀ (f : Nat) (p q : ByteArray) (d : Bool) (m : Option Nat), (3 : Int) ≤ levS p + f → q.size + 4 * f ≤ 1048576 → (dirE es p = true ∧ m = some (A p)) ∨ (m = none ∧ told es p q = []) → (∀ x ∈ told es p q, x ∈ Lt) → TellAt es A base N vb l NN B0 J Jx p q d m
 | f, p, q, d, m, hf, hq, hm, hsub => by
  rcases hm with ⟨hdir, rfl⟩ | ⟨rfl, hn⟩
  ·
   refine tell_dir es A base N vb l NN B0 hN hes J Jx hJ T hY p q (by omega) d hdir hsub (fun n e hnm he => ?_); have hst := T.dirOk hdir; have hlv := kid_lev T hst hnm he; have hle := lev_le (joinI p n)
   match f, hf, hq with
   | 0, hf, _ => omega
   | f + 1, hf, hq =>
    have hns : n.size ≤ 3 := by
     unfold nameB at hnm; rw [Bool.and_eq_true] at hnm; exact (of_decide_eq_true hnm.1).2
    refine tell_at es A base N vb l NN B0 hN hes J Jx hJ T hY f (joinI p n) (under1 q n) e.d (optV e.d (A (joinI p n))) (by omega) ?_ ?_ ?_
    ·
     unfold under1; rw [ByteArray.size_append, ByteArray.size_append]; have h1 : (⟨#[47]⟩ : ByteArray).size = 1 := rfl; omega
    ·
     cases hd : e.d with
     | true => exact .inl ⟨look_dir (.inr ⟨e, he, hd⟩), rfl⟩
     | false => exact .inr ⟨rfl, told_file T he hd _⟩
    ·
     intro x hx; refine hsub x ?_; rw [told_split T hst q, List.mem_flatMap]; exact ⟨n, (kids_mem T hst n).2 ⟨hnm, e, he⟩, List.mem_append_right _ hx⟩
  ·
   exact tell_file es A base N vb l NN B0 J Jx hJ p q d hn
end Go.Proofs.YtafeddiijemnbaaGreatDoor
namespace Go.Proofs.YtafeddiijemnbaaGreatDoor
open Go.RowKit Go.Shelf Go.Lib Go.Maps
attribute [local go_sem] Oper.semAt_some
theorem yieldAt_wide {m m' : Nat} {P : Program} {l : Nat} {args : Array Value} {w : World} {R : Ending → World → Prop} (h : YieldAt Fence.wide m P l args w R) : YieldAt Fence.wide m' P l args w R := by
 obtain ⟨fn, tmps, assign, body, hy, hR⟩ := h; exact ⟨fn, tmps, assign, body, hy, roundIn_wide hR⟩
theorem items_of {α : Type} (Lt : List α) : ∃ ks : List { x : α // x ∈ Lt }, ks.map Subtype.val = Lt :=
 ⟨Lt.attach, by simp⟩
set_option maxHeartbeats 1000000 in
set_option maxRecDepth 100000 in
theorem below_stops (n : Nat) (hn : 1 ≤ n) (es : List E) (A : ByteArray → Nat) (base N vb : Nat) (hN : N ≤ 1000) (hes : es.length ≤ 1000) (T : TrE es) (p q : ByteArray) (hq : q.size ≤ 1000) (d : Bool) (x : ByteArray) (m : Option Nat)
  (hm : (dirE es p = true ∧ m = some (A p)) ∨ (m = none ∧ told es p q = [])) (bn bp : Nat) (w : World) (hbn : bn < w.heap.size) (hbp : bp < w.heap.size)
  (c0 : w.cell? ⟨bn, 0, none⟩ = some (.bool d)) (c1 : w.cell? ⟨bn, 1, none⟩ = some (.string x)) (c2 : w.cell? ⟨bn, 2, none⟩ = some (.map m)) (c3 : w.cell? ⟨bp, 0, none⟩ = some (.string q)) (R : Rep w base N es A) (hv : vb < w.heap.size) (hG : Good vb w) (hlev : 0 ≤ levS p) :
  SeqStopsK Fence.wide n Tryz.prog 81 #[.pointer (some ⟨bn, 0, none⟩), .pointer (some ⟨bp, 0, none⟩)] (encsT A (Lt := told es p q)) (KpT vb) (fun xs => xs.map Subtype.val = told es p q) (fun pre => pre.map Subtype.val <+: told es p q) (told es p q).length w := fun l J Jx W hW hJ hJx hY h0 => by
 have d0 := (hW.cell (p := ⟨bn, 0, none⟩) hbn).trans c0; have d1 := (hW.cell (p := ⟨bn, 1, none⟩) hbn).trans c1; have d2 := (hW.cell (p := ⟨bn, 2, none⟩) hbn).trans c2; have d3 := (hW.cell (p := ⟨bp, 0, none⟩) hbp).trans c3; have hk := kpt_of hW hv; obtain ⟨ks, hks⟩ := items_of (told es p q)
 have hlen : ks.length = (told es p q).length := by
  have := congrArg List.length hks
  rwa [List.length_map] at this
 have HT := hid (tell_at es A base N vb l (told es p q).length W.heap.size hN hes J Jx hJ T (fun pre y W1 h1 h2 m' => yieldAt_wide (hY pre y W1 h1 h2)) 3 p q d m (by omega) (by omega) hm (fun _ h => h)
  W [] ks x hks h0 (by simp; omega) (R.below hW) (Nat.lt_of_lt_of_le hv hW.size) (hk.good hG) (Nat.le_refl _))
 have HK := hid hks; clear hY hJ hJx h0 c0 c1 c2 c3 hW R hks hk; refine callsIn_of_wp Tryz.func81 rfl trivial ?_ rfl; simp only [Tryz.ntmps81, List.size_toArray, List.length_cons, List.length_nil, Nat.reduceAdd, Nat.reduceSub, Array.replicate_succ, Array.replicate_zero, List.push_toArray, List.append_toArray, List.nil_append, List.cons_append]
 gi_wp2_with (refine ⟨trivial, ?_⟩; gi_at_call 82; refine (callsIn_wide.2 HT.out).mono ?_)
 rintro e W' (⟨rfl, hJ', -⟩ | ⟨rfl, ks', hpf, hJx'⟩)
 ·
  gi_wp2
  refine bodyPost_end (results_none rfl _ _ _) rfl ?_; exact ⟨⟨_, rfl⟩, .inl ⟨ks, HK.out, hJ'⟩⟩
 ·
  gi_wp2
  refine bodyPost_end (results_none rfl _ _ _) rfl ?_; exact ⟨⟨_, rfl⟩, .inr ⟨ks', by have h := hpf.map Subtype.val; rw [HK.out] at h; exact h, hJx'⟩⟩
theorem below_any (d : Bool) (x : ByteArray) (m : Option Nat) (q : ByteArray) (w : World) :
  Calls Tryz.prog 67 #[.agg #[.bool d, .string x, .map m], .string q] w fun e w' => e = .returned (.func (.func 81) #[] #[.pointer (some ⟨w.heap.size, 0, none⟩), .pointer (some ⟨w.heap.size + 1, 0, none⟩)]) ∧ Below w.heap.size w w' ∧ w'.heap.size = w.heap.size + 2 ∧
   w'.cell? ⟨w.heap.size, 0, none⟩ = some (.bool d) ∧ w'.cell? ⟨w.heap.size, 1, none⟩ = some (.string x) ∧ w'.cell? ⟨w.heap.size, 2, none⟩ = some (.map m) ∧ w'.cell? ⟨w.heap.size + 1, 0, none⟩ = some (.string q) := by
 go_enter Tryz.func67, Tryz.ntmps67
 go_wp2
 go_ret
 exact ⟨rfl, ((Below.refl _ w).alloc (Nat.le_refl _) _).alloc (by simp) _, by simp, by simp, by simp, by simp, by simp⟩
theorem all_any (A : ByteArray → Nat) (w : World) :
  Calls Tryz.prog 34 #[treeV A] w fun e w' => ∃ b, w.heap.size ≤ b ∧ b + 1 < w'.heap.size ∧ e = .returned (.func (.func 81) #[] #[.pointer (some ⟨b, 0, none⟩), .pointer (some ⟨b + 1, 0, none⟩)]) ∧ Below w.heap.size w w' ∧
   w'.cell? ⟨b, 0, none⟩ = some (.bool true) ∧ w'.cell? ⟨b, 1, none⟩ = some (.string ⟨#[]⟩) ∧ w'.cell? ⟨b, 2, none⟩ = some (.map (some (A ⟨#[47]⟩))) ∧ w'.cell? ⟨b + 1, 0, none⟩ = some (.string ⟨#[]⟩) := by
 have hB0 : Below w.heap.size w (w.alloc (.cells #[.bool true, .string ⟨#[]⟩, .map (some (A ⟨#[47]⟩))] 38)) := (Below.refl _ w).alloc (Nat.le_refl _) _; go_enter Tryz.func34, Tryz.ntmps34
 go_wp2_with (go_at_call 67; refine (below_any _ _ _ _ _).mono ?_; rintro e w1 ⟨rfl, hB1, hs1, k0, k1, k2, k3⟩)
 go_ret
 simp only [World.size_alloc] at k0 k1 k2 k3 hs1; exact ⟨w.heap.size + 1, by omega, by omega, by simp, hB0.trans (hB1.mono (by simp)), k0, k1, k2, k3⟩
end Go.Proofs.YtafeddiijemnbaaGreatDoor
