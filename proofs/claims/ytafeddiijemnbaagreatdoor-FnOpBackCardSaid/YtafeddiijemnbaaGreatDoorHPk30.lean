import Derived.Test.YtafeddiijemnbaaGreatDoorHPk07
import Derived.Test.YtafeddiijemnbaaGreatDoorHPk02
import Derived.Test.YtafeddiijemnbaaGreatDoorHPk17
import Derived.Test.YtafeddiijemnbaaGreatDoorHCodeI
import Derived.Deep.RegionHeld3
import Derived.Test.YtafeddiijemnbaaGreatDoorHPk05
namespace Go.Proofs.YtafeddiijemnbaaGreatDoor
open Go.RowKit Go.Shelf Go.Lib
def bkE (es : List E) (o : O) : O := if o.k = 5 then ⟨5, o.t, o.p, ⟨#[]⟩⟩ else if o.k = 1 then ⟨4, o.p, ⟨#[]⟩, ⟨#[]⟩⟩ else if o.k = 4 then ⟨1, o.p, ⟨#[]⟩, ⟨#[]⟩⟩ else
 if (getE es o.p).2 = true then ⟨2, o.p, ⟨#[]⟩, (getE es o.p).1.x⟩ else ⟨3, o.p, ⟨#[]⟩, ⟨#[]⟩⟩
def UndoV (W : World) (f : Value) (o : O) : Prop := ∃ i ps, ∃ bs : List Nat, f = .func (.func i) #[] ps ∧ (∀ args w, (callFunc i args).run Tryz.prog w = .ok (.enter i args) w) ∧
 (∀ b ∈ bs, ∃ cs T, W.heap[b]? = some (Obj.cells cs T (0, 0)) ∧ (T = 25 ∨ T = 36)) ∧
 ∀ W' : World, (∀ b ∈ bs, W'.heap[b]? = W.heap[b]?) → Calls Tryz.prog i ps W' fun r w' => r = .returned (opV o.k o.p o.t o.x) ∧ Below W'.heap.size W' w'
theorem UndoV.ty {W W' : World} {f : Value} {o : O} (h : UndoV W f o) (hk : ∀ (b : Nat) (cs : Array Value) (T : TypeId), W.heap[b]? = some (Obj.cells cs T (0, 0)) → (T = 25 ∨ T = 36) → W'.heap[b]? = W.heap[b]?) : UndoV W' f o := by
 obtain ⟨i, ps, bs, e, eg, h1, h2⟩ := h
 have hkb : ∀ b ∈ bs, W'.heap[b]? = W.heap[b]? := fun b hb => by
  obtain ⟨cs, T, q1, q2⟩ := h1 b hb; exact hk b cs T q1 q2
 refine ⟨i, ps, bs, e, eg, fun b hb => ?_, fun W2 h3 => h2 W2 fun b hb => (h3 b hb).trans (hkb b hb)⟩; obtain ⟨cs, T, q1, q2⟩ := h1 b hb; exact ⟨cs, T, (hkb b hb).trans q1, q2⟩
theorem UndoV.below {W W' : World} {f : Value} {o : O} (h : UndoV W f o) (hb : Below W.heap.size W W') : UndoV W' f o := h.ty fun b _ _ e _ => hb.block b (Array.getElem?_eq_some_iff.1 e).1
set_option maxHeartbeats 1000000 in
set_option maxRecDepth 100000 in
theorem und1_any (w : World) (b : Nat) (p : ByteArray) (h1 : w.cell? ⟨b, 1, none⟩ = some (.string p)) :
  Calls Tryz.prog 48 #[.pointer (some ⟨b, 0, none⟩)] w fun r w' => r = .returned (opV 4 p ⟨#[]⟩ ⟨#[]⟩) ∧ Below w.heap.size w w' := by
 have c1 := fun o => cellOn o h1; go_enter Tryz.func48, Tryz.ntmps48
 go_wp2
 exact bodyPost_ret (v := opV 4 p ⟨#[]⟩ ⟨#[]⟩) (by unfold opV; simp [results, Tryz.results48, go_sem]) rfl ⟨rfl, (Below.refl _ w).alloc (Nat.le_refl _) _⟩
set_option maxHeartbeats 1000000 in
set_option maxRecDepth 100000 in
theorem und2_any (w : World) (b : Nat) (p : ByteArray) (h1 : w.cell? ⟨b, 1, none⟩ = some (.string p)) :
  Calls Tryz.prog 49 #[.pointer (some ⟨b, 0, none⟩)] w fun r w' => r = .returned (opV 1 p ⟨#[]⟩ ⟨#[]⟩) ∧ Below w.heap.size w w' := by
 have c1 := fun o => cellOn o h1; go_enter Tryz.func49, Tryz.ntmps49
 go_wp2
 exact bodyPost_ret (v := opV 1 p ⟨#[]⟩ ⟨#[]⟩) (by unfold opV; simp [results, Tryz.results49, go_sem]) rfl ⟨rfl, (Below.refl _ w).alloc (Nat.le_refl _) _⟩
set_option maxHeartbeats 1000000 in
set_option maxRecDepth 100000 in
theorem und3_any (w : World) (b : Nat) (p t : ByteArray) (h1 : w.cell? ⟨b, 1, none⟩ = some (.string p)) (h2 : w.cell? ⟨b, 2, none⟩ = some (.string t)) :
  Calls Tryz.prog 50 #[.pointer (some ⟨b, 0, none⟩)] w fun r w' => r = .returned (opV 5 t p ⟨#[]⟩) ∧ Below w.heap.size w w' := by
 have c1 := fun o => cellOn o h1; have c2 := fun o => cellOn o h2; go_enter Tryz.func50, Tryz.ntmps50
 go_wp2
 exact bodyPost_ret (v := opV 5 t p ⟨#[]⟩) (by unfold opV; simp [results, Tryz.results50, go_sem]) rfl ⟨rfl, (Below.refl _ w).alloc (Nat.le_refl _) _⟩
set_option maxHeartbeats 1000000 in
set_option maxRecDepth 100000 in
theorem und4_any (w : World) (b c : Nat) (p y : ByteArray) (h1 : w.cell? ⟨b, 1, none⟩ = some (.string p)) (h2 : w.cell? ⟨c, 1, none⟩ = some (.string y)) :
  Calls Tryz.prog 52 #[.pointer (some ⟨b, 0, none⟩), .pointer (some ⟨c, 0, none⟩)] w fun r w' => r = .returned (opV 2 p ⟨#[]⟩ y) ∧ Below w.heap.size w w' := by
 have c1 := fun o => cellOn o h1; have c2 := fun o => cellOn o h2; go_enter Tryz.func52, Tryz.ntmps52
 go_wp2
 exact bodyPost_ret (v := opV 2 p ⟨#[]⟩ y) (by unfold opV; simp [results, Tryz.results52, go_sem]) rfl ⟨rfl, (Below.refl _ w).alloc (Nat.le_refl _) _⟩
set_option maxHeartbeats 1000000 in
set_option maxRecDepth 100000 in
theorem und5_any (w : World) (b : Nat) (p : ByteArray) (h1 : w.cell? ⟨b, 1, none⟩ = some (.string p)) :
  Calls Tryz.prog 53 #[.pointer (some ⟨b, 0, none⟩)] w fun r w' => r = .returned (opV 3 p ⟨#[]⟩ ⟨#[]⟩) ∧ Below w.heap.size w w' := by
 have c1 := fun o => cellOn o h1; go_enter Tryz.func53, Tryz.ntmps53
 go_wp2
 exact bodyPost_ret (v := opV 3 p ⟨#[]⟩ ⟨#[]⟩) (by unfold opV; simp [results, Tryz.results53, go_sem]) rfl ⟨rfl, (Below.refl _ w).alloc (Nat.le_refl _) _⟩
def bkB (es : List E) (o : O) : Bool := decide (doC es o = 0)
def bkO (es : List E) (o : O) : O := if doC es o = 0 then bkE es o else ⟨0, ⟨#[]⟩, ⟨#[]⟩, ⟨#[]⟩⟩
theorem bk_sz {es : List E} {o : O} {m : Nat} (hz : ∀ e ∈ es, e.p.size ≤ m ∧ e.x.size ≤ m) (hp : o.p.size ≤ m) (ht : o.t.size ≤ m) : (bkE es o).p.size ≤ m ∧ (bkE es o).t.size ≤ m ∧ (bkE es o).x.size ≤ m := by
 have h0 : (⟨#[]⟩ : ByteArray).size ≤ m := Nat.zero_le _
 have hg : (getE es o.p).1.x.size ≤ m := by
  unfold getE
  split
  ·
   exact h0
  ·
   split
   ·
    rename_i e he
    split
    ·
     exact (hz e (List.mem_of_getElem? he)).2
    ·
     exact h0
   ·
    exact h0
 unfold bkE
 split
 ·
  exact ⟨ht, hp, h0⟩
 ·
  split
  ·
   exact ⟨hp, h0, h0⟩
  ·
   split
   ·
    exact ⟨hp, h0, h0⟩
   ·
    split
    ·
     exact ⟨hp, h0, hg⟩
    ·
     exact ⟨hp, h0, h0⟩
theorem get_t {es : List E} (T : treeE es = true) (s : ByteArray) : getE es s = tgetE es s := by
 unfold tgetE; rw [T]; rfl
theorem bk_o {es : List E} {q : O} (d : Done es q) (h5 : q.k ≠ 5) : bkE es q = backO es q := by
 have hg := get_t d.tree q.p; unfold bkE backO; rw [hg, if_neg h5]; rcases d.kind with h | h | h | h | h
 ·
  simp [h]
 ·
  rw [h]; cases (tgetE es q.p).2 <;> simp
 ·
  have : (tgetE es q.p).2 = true := by
   rcases d.kinds with ⟨q1, _⟩ | ⟨q1, _⟩ | ⟨q1, _, _, ⟨f, hf, _⟩, _⟩ | ⟨q1, _⟩ | ⟨q1, _⟩
   ·
    rw [q1] at h; cases h
   ·
    rw [q1] at h; cases h
   ·
    rw [tget_some d.tree d.path hf]
   ·
    rw [q1] at h; cases h
   ·
    rw [q1] at h; cases h
  rw [h, this]; simp
 ·
  simp [h]
 ·
  exact absurd h h5
theorem bk_undo {es : List E} {q : O} (d : Done es q) : doC (doE es q) (bkE es q) = 0 ∧ doE (doE es q) (bkE es q) = es := by
 by_cases h5 : q.k = 5
 ·
  rcases d.kinds with ⟨q1, _⟩ | ⟨q1, _⟩ | ⟨q1, _⟩ | ⟨q1, _⟩ | ⟨_, _, m, hm⟩
  ·
   rw [q1] at h5; cases h5
  ·
   rw [q1] at h5; cases h5
  ·
   rw [q1] at h5; cases h5
  ·
   rw [q1] at h5; cases h5
  ·
   have hb : bkE es q = ⟨5, q.t, q.p, ⟨#[]⟩⟩ := by unfold bkE; rw [if_pos h5]
   have hl : (movE es q.p q.t).length ≤ 16 := by rw [m.len]; exact d.len
   rw [hb, hm]; exact ⟨(m.back.done hl).code, (m.back.doE hl).trans m.returns⟩
 ·
  rw [bk_o d h5]; exact d.back h5
theorem atE_form (es : List E) (A : ByteArray → Nat) (s : ByteArray) : ∃ d y m b, atE es A s = (.agg #[.bool d, .string y, .map m], b) ∧ (pathB s = true → (getE es s).2 = b ∧ (b = true → (getE es s).1.x = y)) := by
 by_cases hr : isRoot s = true
 ·
  exact ⟨_, _, _, _, by unfold atE treeV; rw [if_pos hr], fun hp => by rw [root_not_path hp] at hr; cases hr⟩
 ·
  have hr' : isRoot s = false := by simpa using hr
  cases hl : lookE es s with
  | some e =>
   refine ⟨e.d, e.x, optV e.d (A s), true, by unfold atE nodeV; rw [if_neg hr, hl], fun _ => ?_⟩; rw [getE_look hr', hl]; exact ⟨rfl, fun _ => rfl⟩
  | none =>
   refine ⟨_, _, _, false, by unfold atE; rw [if_neg hr, hl], fun _ => ?_⟩; rw [getE_look hr', hl]; exact ⟨rfl, fun h => by cases h⟩
theorem box4u (w : World) (a b c d : Value) (T : TypeId) : (w.alloc (.cells #[a, b, c, d] T)).heap[w.heap.size]? = some (.cells #[a, b, c, d] T (0, 0)) := heap_alloc_new w _
theorem cell4 {W : World} {g : Nat} {cs : Array Value} {T : TypeId} (h : W.heap[g]? = some (Obj.cells cs T (0, 0))) (i : Nat) : W.cell? ⟨g, i, none⟩ = cs[i]? := by
 unfold World.cell?; rw [h]; simp
set_option maxHeartbeats 2000000 in
set_option maxRecDepth 100000 in
theorem undoOf_any (w : World) (base N : Nat) (es : List E) (A : ByteArray → Nat) (T : TrE es) (R : Rep w base N es A) (k : Int) (p t x : ByteArray) (hp : p.size ≤ 4611686018427387904) :
  Calls Tryz.prog 25 #[treeV A, opV k p t x] w fun r w' => ∃ f, r = .returned f ∧ (∃ i ps, f = .func (.func i) #[] ps) ∧ (pathB p = true → UndoV w' f (bkE es ⟨k, p, t, x⟩)) ∧ Below w.heap.size w w' := by
 obtain ⟨V, hV⟩ : ∃ V, w.alloc (.cells #[.bool true, .string ⟨#[]⟩, .map (some (A ⟨#[47]⟩))] 38) = V := ⟨_, rfl⟩
 obtain ⟨W0, hW0⟩ : ∃ W0, V.alloc (.cells #[.int .i64 k, .string p, .string t, .string x] 25) = W0 := ⟨_, rfl⟩
 have hVs : V.heap.size = w.heap.size + 1 := by rw [← hV]; simp
 have hVb : Below w.heap.size w V := by rw [← hV]; exact (Below.refl _ w).alloc (Nat.le_refl _) _
 have hb1 : Below V.heap.size V W0 := by rw [← hW0]; exact (Below.refl _ V).alloc (Nat.le_refl _) _
 have hBw : Below w.heap.size w W0 := hVb.trans (hb1.mono hVb.size); have hz0 : W0.heap.size = w.heap.size + 2 := by rw [← hW0]; simp [hVs]
 have HO : Hid (W0.heap[w.heap.size + 1]? = some (.cells #[.int .i64 k, .string p, .string t, .string x] 25 (0, 0))) := by
  show _ = _; rw [← hW0, ← hVs]; exact box4u V _ _ _ _ _
 have q0 : W0.cell? ⟨w.heap.size + 1, 0, none⟩ = some (.int .i64 k) := cell4 HO.out 0; have q1 : W0.cell? ⟨w.heap.size + 1, 1, none⟩ = some (.string p) := cell4 HO.out 1; have t0 : W0.cell? ⟨w.heap.size, 0, none⟩ = some (.bool true) := by rw [← hW0]; exact cellOn _ (by rw [← hV]; simp)
 have t1 : W0.cell? ⟨w.heap.size, 1, none⟩ = some (.string ⟨#[]⟩) := by rw [← hW0]; exact cellOn _ (by rw [← hV]; simp)
 have t2 : W0.cell? ⟨w.heap.size, 2, none⟩ = some (.map (some (A ⟨#[47]⟩))) := by rw [← hW0]; exact cellOn _ (by rw [← hV]; simp)
 have HB := hidE hBw; have HAt := hidE (at_any W0 base N es A T (R.below hBw) p hp)
 have hU : ∀ (W' : World) (i : Nat) (o : O), Below W0.heap.size W0 W' → (∀ args w, (callFunc i args).run Tryz.prog w = .ok (.enter i args) w) →
   (∀ W2 : World, W2.heap[w.heap.size + 1]? = some (Obj.cells #[.int .i64 k, .string p, .string t, .string x] 25 (0, 0)) → Calls Tryz.prog i #[.pointer (some ⟨w.heap.size + 1, 0, none⟩)] W2 fun r w' => r = .returned (opV o.k o.p o.t o.x) ∧ Below W2.heap.size W2 w') →
   UndoV W' (.func (.func i) #[] #[.pointer (some ⟨w.heap.size + 1, 0, none⟩)]) o := fun W' i o hB eg hC => by
  have h1 : W'.heap[w.heap.size + 1]? = some (Obj.cells #[.int .i64 k, .string p, .string t, .string x] 25 (0, 0)) := (hB.block _ (by omega)).trans HO.out; exact ⟨i, _, [w.heap.size + 1], rfl, eg, fun b hb => by obtain rfl := List.mem_singleton.1 hb; exact ⟨_, _, h1, .inl rfl⟩, fun W2 h2 => hC W2 ((h2 _ (by simp)).trans h1)⟩
 have HU := hidE hU; clear hVb hb1 hBw hU; by_cases k1 : k = 1
 ·
  subst k1; go_enter Tryz.func25, Tryz.ntmps25
  go_wp2
  go_ret
  exact ⟨_, rfl, ⟨_, _, rfl⟩, fun _ => HU.out _ 48 ⟨4, p, ⟨#[]⟩, ⟨#[]⟩⟩ (Below.refl _ _) (fun _ _ => rfl) (fun W2 h2 => und1_any W2 _ p (cell4 h2 1)), HB.out⟩
 by_cases k4 : k = 4
 ·
  subst k4; go_enter Tryz.func25, Tryz.ntmps25
  go_wp2
  go_ret
  exact ⟨_, rfl, ⟨_, _, rfl⟩, fun _ => HU.out _ 49 ⟨1, p, ⟨#[]⟩, ⟨#[]⟩⟩ (Below.refl _ _) (fun _ _ => rfl) (fun W2 h2 => und2_any W2 _ p (cell4 h2 1)), HB.out⟩
 by_cases k5 : k = 5
 ·
  subst k5; go_enter Tryz.func25, Tryz.ntmps25
  go_wp2
  go_ret
  exact ⟨_, rfl, ⟨_, _, rfl⟩, fun _ => HU.out _ 50 ⟨5, t, p, ⟨#[]⟩⟩ (Below.refl _ _) (fun _ _ => rfl) (fun W2 h2 => und3_any W2 _ p t (cell4 h2 1) (cell4 h2 2)), HB.out⟩
 obtain ⟨d, y, m, b, hat, hg⟩ := atE_form es A p; have HG := hidE hg; rw [hat] at HAt; have k1b : (k == 1) = false := by simpa using k1
 have k4b : (k == 4) = false := by simpa using k4
 have k5b : (k == 5) = false := by simpa using k5
 have HKs := hidE (And.intro k1 (And.intro k4 k5)); clear hat hg; go_enter Tryz.func25, Tryz.ntmps25
 go_wp2_with fail
 refine HAt.out.mono ?_; rintro e w1 ⟨rfl, hB1⟩; have HB1 := hidE hB1; obtain ⟨U, hU1⟩ : ∃ U, w1.alloc (.cells #[.bool d, .string y, .map m] 36) = U := ⟨_, rfl⟩
 have hUb : Below w1.heap.size w1 U := by rw [← hU1]; exact (Below.refl _ w1).alloc (Nat.le_refl _) _
 have HN : Hid (U.heap[w1.heap.size]? = some (Obj.cells #[.bool d, .string y, .map m] 36 (0, 0))) := by show _ = _; rw [← hU1]; exact heap_alloc_new w1 _
 have HBU := hidE (hB1.trans (hUb.mono hB1.size)); have HBw := hidE (HB.out.trans (HBU.out.mono HB.out.size)); clear hB1 hUb q0 q1 t0 t1 t2 hV hW0 HAt; cases b with
 | true =>
  go_wp2
  go_ret
  refine ⟨_, rfl, ⟨_, _, rfl⟩, fun hpp => ?_, HBw.out⟩; obtain ⟨e1, e2⟩ := HG.out hpp
  have hbk : bkE es ⟨k, p, t, x⟩ = ⟨2, p, ⟨#[]⟩, y⟩ := by
   unfold bkE; rw [if_neg HKs.out.2.2, if_neg HKs.out.1, if_neg HKs.out.2.1, if_pos e1, e2 (by simp)]
  rw [hbk]; have hop : U.heap[w.heap.size + 1]? = some (Obj.cells #[.int .i64 k, .string p, .string t, .string x] 25 (0, 0)) := (HBU.out.block _ (by omega)).trans HO.out
  exact ⟨52, _, [w.heap.size + 1, w1.heap.size], rfl, fun _ _ => rfl, fun b hb => by
   rcases List.mem_cons.1 hb with rfl | hb
   ·
    exact ⟨_, _, hop, .inl rfl⟩
   ·
    obtain rfl := List.mem_singleton.1 hb; exact ⟨_, _, HN.out, .inr rfl⟩,
   fun W2 h2 => und4_any W2 _ _ p y (cell4 ((h2 _ (by simp)).trans hop) 1) (cell4 ((h2 _ (by simp)).trans HN.out) 1)⟩
 | false =>
  go_wp2
  go_ret
  refine ⟨_, rfl, ⟨_, _, rfl⟩, fun hpp => ?_, HBw.out⟩; obtain ⟨e1, -⟩ := HG.out hpp
  have hbk : bkE es ⟨k, p, t, x⟩ = ⟨3, p, ⟨#[]⟩, ⟨#[]⟩⟩ := by
   unfold bkE; rw [if_neg HKs.out.2.2, if_neg HKs.out.1, if_neg HKs.out.2.1, if_neg (by rw [e1]; decide)]
  rw [hbk]; exact HU.out _ 53 ⟨3, p, ⟨#[]⟩, ⟨#[]⟩⟩ HBU.out (fun _ _ => rfl) (fun W2 h2 => und5_any W2 _ p (cell4 h2 1))
end Go.Proofs.YtafeddiijemnbaaGreatDoor
