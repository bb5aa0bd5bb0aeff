import Derived.RangeFuncNested
namespace Go.Proofs.YteppodogghjfhaaGreatDoor
open Go.RowKit
def SeqOver {α : Type} (F : Fence) (n : Nat) (P : Program) (g : Nat) (lb : Array Value) (encs : α → Array Value) (Kp : Nat → World → World → Prop) (S Sp : List α → Prop) (N : Nat) (w : World) : Prop :=
 ∀ (l : Nat) (J Jx : List α → World → Prop) (W : World), Below w.heap.size w W → OwnFrom W.heap.size J → OwnFrom W.heap.size Jx →
  (∀ pre x W1, J pre W1 → pre.length < N → YieldAt F (n - 1) P l (encs x) W1 fun e W' =>
   (e = .returned (.bool true) ∧ J (pre ++ [x]) W' ∧ Kp W.heap.size W1 W') ∨ (e = .returned (.bool false) ∧ Jx (pre ++ [x]) W' ∧ KeepsFrom W.heap.size W1 W')) →
  J [] W →
  CallsIn F n P g (#[.func (.yield l) #[] #[]] ++ lb) W fun e W' => (∃ v, e = .returned v) ∧ ((∃ xs, S xs ∧ J xs W') ∨ (∃ pre, Sp pre ∧ Jx pre W'))
structure Books (D : Nat) (r : Loop) (W : World) : Prop where
 book : W.heap[D + 1]? = some (.loop r)
 late : W.heap[D]? = some (.deferred (some []))
theorem Books.own {β : Type} {D B : Nat} {r : Loop} (hB : D + 2 ≤ B) : OwnFrom B (fun (_ : β) W => Books D r W) := fun _ W W' row h hg hr => by
 have kept : ∀ k o, k ≤ D + 1 → W.heap[k]? = some o → W'.heap[k]? = some o := fun k o hk ho =>
  (hg.block k (Array.getElem?_eq_some_iff.1 ho).1 (fun e => by have := (hr k e.symm).1; omega)).trans ho
 exact ⟨kept _ _ (Nat.le_refl _) h.book, kept _ _ (by omega) h.late⟩
theorem Books.keep {D : Nat} {r : Loop} {W W' : World} (h : Books D r W) (k : KeepsFrom D W W') : Books D r W' :=
 ⟨k.same _ _ (by omega) h.book rfl, k.same _ _ (Nat.le_refl _) h.late rfl⟩
theorem Books.turn {D : Nat} {r r' : Loop} {W : World} (h : Books D r W) : Books D r' (W.putObj (D + 1) (.loop r')) :=
 ⟨World.putObj_heap_same (Array.getElem?_eq_some_iff.1 h.book).1, (World.putObj_heap_other (by omega)).trans h.late⟩
theorem ownFrom_up {β : Type} {B B' : Nat} {I : β → World → Prop} (h : OwnFrom B I) (hB : B ≤ B') : OwnFrom B' I :=
 fun s W W' row hs hg hr => h s W W' row hs hg fun r e => ⟨Nat.le_trans hB (hr r e).1, (hr r e).2⟩
theorem keeps_up {B B' : Nat} {X Y : World} (h : KeepsFrom B X Y) (hB : B ≤ B') : KeepsFrom B' X Y := ⟨h.size, fun k o hk => h.same k o (Nat.le_trans hB hk)⟩
theorem keeps_put {l B : Nat} (W : World) (o : Obj) (hl : l < B) : KeepsFrom B W (W.putObj l o) := KeepsFrom.of_grownBy (grownBy_putObj' W l o) (fun j e => by cases e; exact hl)
theorem ownFrom_ex {β γ : Type} {B : Nat} {I : γ → β → World → Prop} (h : ∀ c, OwnFrom B (I c)) : OwnFrom B (fun s W => ∃ c, I c s W) :=
 fun s W W' row ⟨c, hs⟩ hg hr => ⟨c, h c s W W' row hs hg hr⟩
theorem wpIn_over {α : Type} {F : Fence} {n : Nat} {P : Program} {g : Operand} {ps : Array Tmp} {assign body : Code} {Q : Exit → Act → World → Prop} {a : Act} {w : World}
  (hro : F.round = none) (h1 : 1 ≤ n) {gf : Nat} {lb : Array Value} (hg : a.eval g = .func (.func gf) #[] lb) (hFg : F.fn gf) (eg : ∀ args w, (callFunc gf args).run P w = .ok (.enter gf args) w)
  {encs : α → Array Value} {Kp : Nat → World → World → Prop} {S Sp : List α → Prop} {N : Nat} {w0 : World} (hseq : SeqOver F (n - 1) P gf lb encs Kp S Sp N w0)
  (hKt : ∀ {B : Nat} {X Y Z : World}, Kp B X Y → Kp B Y Z → Kp B X Z) (hKb : ∀ (W : World) (o o' : Obj), W.heap[w.heap.size + 1]? = some o → o.isCells = false → o.isWalk = false → Kp (w.heap.size + 2) W (W.putObj (w.heap.size + 1) o'))
  (hb0 : Below w0.heap.size w0 w) (hps : ∀ x, (encs x).size = ps.size)
  (I : List α → World → Prop) (Ix : Code → List α → World → Prop) (hI : OwnFrom w.heap.size I) (hIx : ∀ c, OwnFrom w.heap.size (Ix c)) (h0 : I [] w) (Ax : α → Act → World → Prop) (hAx : ∀ x a', OwnFrom w.heap.size (fun (_ : Unit) W => Ax x a' W))
  (hassign : ∀ (l : Nat) (pre : List α) (x : α) (W : World) (K : Act → World → Prop), I pre W → (∀ a' W', KeepsFrom w.heap.size W W' → Kp (w.heap.size + 2) W W' → I pre W' → Ax x a' W' → K a' W') →
   assign.wpIn (F.inRound l) (n - 1 - 1) P (Exit.then K (fun _ _ _ => False)) { tmps := (ps.zip (encs x)).foldl (fun t (p, v) => t.setIfInBounds p v) a.tmps, defers := [] } W)
  (hbody : ∀ (l : Nat) (pre : List α) (x : α) (a' : Act) (W : World), w.heap.size ≤ l → I pre W → Ax x a' W → pre.length < N → body.wpIn (F.inRound l) (n - 1 - 1) P (ownPostG w.heap.size (Kp (w.heap.size + 2)) I Ix (pre ++ [x]) W) a' W)
  (hdone : ∀ (D : Nat) (xs : List α) (W : World), w.heap.size ≤ D → S xs → I xs W → W.heap[D]? = some (.deferred (some [])) → Q .normal { a with defers := { target := .collected D, args := #[] } :: a.defers } W)
  (hstop : ∀ (D : Nat) (c : Code) (pre : List α) (W : World), w.heap.size ≤ D → Sp pre → Ix c pre W → W.heap[D]? = some (.deferred (some [])) → c.wpIn F n P Q { a with defers := { target := .collected D, args := #[] } :: a.defers } W) :
  (Code.rangeFunc g ps assign body).wpIn F n P Q a w := by
 refine wpIn_rangeFunc fun fn hfn => ?_; rw [hro]; obtain ⟨D, hD⟩ : ∃ D, D = w.heap.size := ⟨_, rfl⟩
 obtain ⟨rc, hrc⟩ : ∃ rc : LoopState → Option Code → Loop, rc = fun st pe => { state := st, pending := pe, fn, tmps := a.tmps, params := ps, assign, body, defers := D } := ⟨_, rfl⟩
 obtain ⟨W1, hW1⟩ : ∃ W1, W1 = (w.alloc (.deferred (some []))).alloc (.loop (rc .ready none)) := ⟨_, rfl⟩
 have hs1 : W1.heap.size = D + 2 := by rw [hW1, hD]; simp
 have hBk1 : Books D (rc .ready none) W1 := by
  constructor
  ·
   have := World.alloc_heap_new (w.alloc (.deferred (some []))) (.loop (rc .ready none)); rw [World.size_alloc, ← hW1, ← hD] at this; exact this
  ·
   rw [hW1, hD]; exact (Below.heap_alloc _ _ _ (by simp)).trans (World.alloc_heap_new w _)
 have hI1 : I [] W1 := by rw [hW1]; exact hI.alloc _ (hI.alloc _ h0)
 have hb1 : Below w0.heap.size w0 W1 := by
  rw [hW1]; exact hb0.trans ((((Below.refl _ w).alloc (Nat.le_refl _) _).alloc (by simp) _).mono hb0.size)
 have hen : (Instr.enterLoop fn a.tmps ps assign body none).run P w = .ok (D + 1, [{ target := .collected D, args := #[] }]) W1 := by
  rw [hW1, hrc, hD]; exact run_enterLoop_outer _ _ _ _ _
 refine ⟨D + 1, _, W1, { target := .fn (.func gf) lb, args := #[.func (.yield (D + 1)) #[] #[]] }, W1, gf, #[.func (.yield (D + 1)) #[] #[]] ++ lb, W1, hen, ?_, ?_, ?_, fun _ => h1, ?_⟩
 ·
  simp only [resolve, hg]; simp [go_sem]
 ·
  intro f' hf'; simp [Target.leads] at hf'; subst hf'; exact hFg
 ·
  simp [invoke, go_sem, eg]
 have lt : w.heap.size ≤ D + 1 := by omega
 have hKb' : ∀ (W : World) (o o' : Obj), W.heap[D + 1]? = some o → o.isCells = false → o.isWalk = false → Kp W1.heap.size W (W.putObj (D + 1) o') := by rw [hs1, hD]; exact hKb
 rw [← hD, ← hs1] at hassign hbody
 refine (hseq (D + 1) (fun pre W => I pre W ∧ Books D (rc .ready none) W) (fun pre W => ∃ c, Ix c pre W ∧ Books D (rc .done (some c)) W) W1 hb1
  (OwnFrom.and (ownFrom_up hI (by omega)) (Books.own (by omega))) (ownFrom_ex fun c => OwnFrom.and (ownFrom_up (hIx c) (by omega)) (Books.own (by omega))) ?_ ⟨hI1, hBk1⟩).mono ?_
 ·
  rintro pre x W ⟨hi, hbk⟩ hlen; have hy := run_yield (P := P) (args := encs x) hbk.book (by rw [hrc]; exact hps x); rw [hrc] at hy; refine ⟨fn, _, assign, body, hy, roundIn_of_wpIn hfn (hassign _ pre x W _ hi ?_)⟩; clear hy; intro a' Wa hkf hkp hia hax; have hbk2 := hbk.keep hkf; refine ⟨_, run_beginRound hbk2.book (by rw [hrc]), ?_⟩; have hbk3 := hbk2.turn (r' := { rc .ready none with state := .busy }); have hkp3 : Kp W1.heap.size W (Wa.putObj (D + 1) (.loop { rc .ready none with state := .busy })) := hKt hkp (hKb' _ _ _ hbk2.book rfl rfl); refine wpIn_mono (hbody _ pre x a' _ (by omega) (hI.putObj _ hia lt hbk2.book rfl) ((hAx x a').putObj (s := ()) _ hax lt hbk2.book rfl) hlen) ?_
  have kfin : ∀ (W3 : World) (o : Obj), KeepsFrom D (Wa.putObj (D + 1) (.loop { rc .ready none with state := .busy })) W3 → KeepsFrom W1.heap.size W (W3.putObj (D + 1) o) := fun W3 o hk3 =>
   (((keeps_up hkf (by omega)).trans (keeps_put Wa _ (by omega))).trans (keeps_up hk3 (by omega))).trans (keeps_put W3 o (by omega))
  have fin : ∀ (jump : Option Code) (W3 : World), KeepsFrom D (Wa.putObj (D + 1) (.loop { rc .ready none with state := .busy })) W3 →
    Books D { rc .ready none with state := .busy } W3 ∧
    (Instr.endRound (D + 1) jump).run P W3 = .ok (.bool jump.isNone) (W3.putObj (D + 1) (.loop (rc (if jump.isNone then .ready else .done) jump))) ∧
    Books D (rc (if jump.isNone then .ready else .done) jump) (W3.putObj (D + 1) (.loop (rc (if jump.isNone then .ready else .done) jump))) := fun jump W3 hk3 => by
   have hb3 := hbk3.keep hk3; refine ⟨hb3, ?_, hb3.turn⟩; have := run_endRound (P := P) jump hb3.book; rw [hrc] at this ⊢; exact this
  rintro e a3 W3 hp; cases e with
  | normal =>
   obtain ⟨hk3, hkp4, hi3⟩ := hp; obtain ⟨hb3, hr, hb4⟩ := fin none W3 hk3; exact ⟨_, _, hr, .inl ⟨rfl, ⟨hI.putObj _ hi3 lt hb3.book rfl, hb4⟩, hKt (hKt hkp3 hkp4) (hKb' _ _ _ hb3.book rfl rfl)⟩⟩
  | ret =>
   obtain ⟨hk3, hi3⟩ := hp; obtain ⟨hb3, hr, hb4⟩ := fin (some .ret) W3 hk3; exact ⟨_, _, hr, .inr ⟨rfl, ⟨_, (hIx _).putObj _ hi3 lt hb3.book rfl, hb4⟩, kfin W3 _ hk3⟩⟩
  | exit id =>
   obtain ⟨hk3, hi3⟩ := hp; obtain ⟨hb3, hr, hb4⟩ := fin (some (.exit id)) W3 hk3; exact ⟨_, _, hr, .inr ⟨rfl, ⟨_, (hIx _).putObj _ hi3 lt hb3.book rfl, hb4⟩, kfin W3 _ hk3⟩⟩
  | goto t =>
   obtain ⟨hk3, hi3⟩ := hp; obtain ⟨hb3, hr, hb4⟩ := fin (some (.goto t)) W3 hk3; exact ⟨_, _, hr, .inr ⟨rfl, ⟨_, (hIx _).putObj _ hi3 lt hb3.book rfl, hb4⟩, kfin W3 _ hk3⟩⟩
  | panic ch => exact hp.elim
  | outgrown => exact hp.elim
 ·
  rintro e W2 ⟨⟨v, rfl⟩, (⟨xs, hS, hi, hbk⟩ | ⟨pre, hSp, c, hi, hbk⟩)⟩
  ·
   have hend := run_endLoop (P := P) hbk.book (by rw [hrc]; simp); have hpe : (rc .ready none).pending = none := by rw [hrc]
   rw [hpe] at hend; exact ⟨none, _, hend, hdone D xs _ (by omega) hS (hI.putObj _ hi lt hbk.book rfl) (Books.turn hbk).late⟩
  ·
   have hend := run_endLoop (P := P) hbk.book (by rw [hrc]; simp); have hpe : (rc .done (some c)).pending = some c := by rw [hrc]
   rw [hpe] at hend; exact ⟨some c, _, hend, hstop D c pre _ (by omega) hSp ((hIx c).putObj _ hi lt hbk.book rfl) (Books.turn hbk).late⟩
def OwnL {β : Type} (B : Nat) (I : β → World → Prop) : Prop :=
 ∀ s W W' row, I s W → W.grownBy W' row → (∀ r, row = some r → B ≤ r ∧ ∃ o : Obj, W.heap[r]? = some o ∧ o.isCells = false ∧ o.isWalk = false) → I s W'
theorem OwnL.ex {β γ : Type} {B : Nat} {I : γ → β → World → Prop} (h : ∀ c, OwnL B (I c)) : OwnL B (fun s W => ∃ c, I c s W) :=
 fun s W W' row ⟨c, hs⟩ hg hr => ⟨c, h c s W W' row hs hg hr⟩
theorem OwnL.putObj {β : Type} {B : Nat} {I : β → World → Prop} (h : OwnL B I) {s : β} {W : World} {l : Nat} {o : Obj} (o' : Obj) (hs : I s W) (hB : B ≤ l) (hl : W.heap[l]? = some o) (ho : o.isCells = false) (hw : o.isWalk = false) : I s (W.putObj l o') :=
 h s W _ (some l) hs (grownBy_putObj' W l o') (fun r e => by cases e; exact ⟨hB, o, hl, ho, hw⟩)
structure KeepsL (B : Nat) (W W' : World) : Prop where
 size : W.heap.size ≤ W'.heap.size
 same : ∀ (k : Nat) (o : Obj), B ≤ k → W.heap[k]? = some o → o.isCells = false → o.isWalk = false → W'.heap[k]? = some o
theorem KeepsL.trans {B : Nat} {X Y Z : World} (h : KeepsL B X Y) (k : KeepsL B Y Z) : KeepsL B X Z := ⟨Nat.le_trans h.size k.size, fun i o hB hi ho hw => k.same i o hB (h.same i o hB hi ho hw) ho hw⟩
end Go.Proofs.YteppodogghjfhaaGreatDoor
