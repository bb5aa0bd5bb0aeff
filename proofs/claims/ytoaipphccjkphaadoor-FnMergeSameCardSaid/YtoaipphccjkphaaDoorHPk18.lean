import Derived.Laws.MakeOwn
import Derived.Laws.AppendOwn
import Derived.KernelRfl
import Derived.Test.YtoaipphccjkphaaDoorHPk15
import Derived.Test.YtoaipphccjkphaaDoorHPk17
namespace Go.Proofs.YtoaipphccjkphaaDoor.Mg
open Go.RowKit Go.Lib
theorem Tryd.infoErr : (Tryd.prog.info? 53).map (fun i => (i.zero, i.size, i.bytes)) = some (some .nilIface, 1, 16) := by kernel_rfl
structure Errs (w : World) (a : Option Addr) (g : Nat) (xs : List Value) : Prop where
 addr : 0 < xs.length → a = some ⟨g, 0, none⟩
 at_ : ∀ i (h : i < xs.length), w.cell? ⟨g, i, none⟩ = some xs[i]
 some_ : ∀ x ∈ xs, ∃ T u, x = .iface T u
theorem Errs.below {w w' : World} {a : Option Addr} {g : Nat} {xs : List Value} (h : Errs w a g xs) (hb : Below w.heap.size w w') : Errs w' a g xs :=
 ⟨h.addr, fun i hi => (hb.cell (p := ⟨g, i, none⟩) (World.block_lt_of_cell? w ⟨g, i, none⟩ (h.at_ i hi))).trans (h.at_ i hi), h.some_⟩
theorem row_ne {w : World} {base p n size : Nat} {e T : TypeId} {v : Value} {xs : List Value} {cs : Array Value} (h : w.ownsRow base e size v n xs) (hB : Bx w p T cs) (hT : T ≠ e) : ∀ q, v.ownBlock = some q → q ≠ p := fun q hq hqp => by
 obtain ⟨_, ⟨rfl, e0⟩ | ⟨g, cap, cur, rfl, _, hg, _⟩⟩ := h
 ·
  simp [Value.ownBlock] at hq
 ·
  obtain rfl : g = q := by simpa [Value.ownBlock] using hq
  subst hqp; rw [show w.heap[g]? = _ from hB] at hg
  injection hg with hg
  injection hg with h1 h2 h3
  exact hT h2
theorem row_slI {w : World} {base n size : Nat} {e : TypeId} {v : Value} {xs : List Value} (h : w.ownsRow base e size v n xs) : ∃ a c, v = .slice a n c := by
 obtain ⟨h0, ⟨rfl, e0⟩ | ⟨g, cap, cur, rfl, _⟩⟩ := h
 ·
  exact ⟨none, 0, by rw [e0]⟩
 ·
  exact ⟨_, _, rfl⟩
theorem row_blk {w w' : World} {base n size : Nat} {e : TypeId} {v : Value} {xs : List Value} (h : w.ownsRow base e size v n xs) (hk : ∀ g, v.ownBlock = some g → w'.heap[g]? = w.heap[g]?) : w'.ownsRow base e size v n xs := by
 obtain ⟨h0, h | ⟨g, cap, cur, rfl, hb, hg, h2⟩⟩ := h
 ·
  exact ⟨h0, .inl h⟩
 ·
  exact ⟨h0, .inr ⟨g, cap, cur, rfl, hb, (hk g rfl).trans hg, h2⟩⟩
theorem Bx.grown {w w' : World} {p : Nat} {T : TypeId} {cs : Array Value} {row : Option Nat} (hB : Bx w p T cs) (hg : w.grownBy w' row) (hne : ∀ q, row = some q → q ≠ p) : Bx w' p T cs :=
 (hg.block p hB.lt (fun e => hne p e.symm rfl)).trans hB
set_option maxHeartbeats 4000000 in
set_option maxRecDepth 100000 in
theorem join_any (w : World) (a : Option Addr) (g cap : Nat) (xs : List Value) (hl : xs.length ≤ 100000) (h : Errs w a g xs) :
  Calls Tryd.prog 60 #[.slice a xs.length cap] w fun r w' => Below w.heap.size w w' ∧ (xs = [] → r = .returned .nilIface) ∧
   (xs ≠ [] → ∃ p v, r = .returned (.iface 122 (.pointer (some ⟨p, 0, none⟩))) ∧ w'.cell? ⟨p, 0, none⟩ = some v ∧ w'.ownsRow w.heap.size 53 1 v xs.length xs) := by
 obtain ⟨i0, hi, hz0, hz1, hz2⟩ := info_parts Tryd.infoErr; have HE := hidE h; clear h; go_enter Tryd.func60, Tryd.ntmps60
 go_wp2
 go_loopw [3, 11] (fun nv iv wl => ∃ k : Nat, k ≤ xs.length ∧ iv = .int .i64 k ∧ nv = .int .i64 k ∧ Hid (Below w.heap.size w wl)) (fun _ iv _ => xs.length - (RowKit.intOf iv).toNat)
 case atStart => exact ⟨0, Nat.zero_le _, rfl, rfl, Below.refl _ _⟩
 case round =>
  obtain ⟨k, hk, rfl, rfl, HB⟩ := hrel; by_cases hlt : k < xs.length
  ·
   obtain rfl := HE.out.addr (by omega); have c0 := (HE.out.below HB.out).at_ k hlt; obtain ⟨T, u, hx⟩ := HE.out.some_ xs[k] (List.getElem_mem hlt); rw [hx] at c0; clear hx; go_wp2
   go_roundw
   case rel => exact ⟨k + 1, by omega, by go_num, by go_num, HB⟩
   case measure => simp [RowKit.intOf]; omega
  ·
   obtain rfl : k = xs.length := by omega
   cases hxs : xs with
   | nil =>
    subst hxs; go_wp2
    go_ret
    exact ⟨HB.out, rfl⟩
   | cons x0 xr =>
    rw [← hxs]; have hne : xs ≠ [] := by rw [hxs]; simp
    have hl0 : 0 < xs.length := by rw [hxs]; simp
    have hn0 : ¬ ((xs.length : Nat) : Int) = 0 := by omega
    have hnb : (((xs.length : Nat) : Int) == 0) = false := by simpa using hn0
    clear hxs; have HNe := hidE hne; clear hne; obtain ⟨M, hM⟩ : ∃ M, M = madeCells (Value.nilIface).cells (((xs.length : Nat) : Int).toNat * i0.size) := ⟨_, rfl⟩
    have hMs : M.size = xs.length * 1 := by rw [hM, size_madeCells, hz1]; simp
    have hmk : ∀ W : World, (Instr.makeSlice 100 (.int .i64 0) (.int .i64 (xs.length : Int))).run Tryd.prog W = .ok (.slice (some ⟨W.heap.size, 0, none⟩) 0 xs.length) (W.alloc (.cells M 53)) := fun W => by
     have h := run_make (P := Tryd.prog) W 100 53 i0 .nilIface Tryd.underlying100 hi hz0 .i64 .i64 0 (xs.length : Int) (by omega) (by omega) (by rw [hz2]; omega) (by omega); rw [← hM] at h
     simpa using h
    obtain ⟨W1, hW1⟩ : ∃ W1, (wr.alloc (.cells M 53)).alloc (.cells #[.slice (some ⟨wr.heap.size, 0, none⟩) 0 xs.length] 124) = W1 := ⟨_, rfl⟩
    have hb1 : Below wr.heap.size wr W1 := by rw [← hW1]; exact ((Below.refl _ wr).alloc (Nat.le_refl _) _).alloc (by simp) _
    have HB1 := hidE (B3G HB.out hb1)
    have HP1 : Hid (Bx W1 (wr.heap.size + 1) 124 #[.slice (some ⟨wr.heap.size, 0, none⟩) 0 xs.length]) := by
     show Bx _ _ _ _; rw [← hW1]; have := Bx.new (wr.alloc (.cells M 53)) 124 #[.slice (some ⟨wr.heap.size, 0, none⟩) 0 xs.length]
     simpa using this
    have HO1 : Hid (W1.ownsRow w.heap.size 53 1 (.slice (some ⟨wr.heap.size, 0, none⟩) 0 xs.length) 0 []) := by
     rw [← hW1]; exact rowkeep (World.ownsRow_made wr M xs.length HB.out.size (by unfold maxLen; omega) hMs) ((Below.refl _ _).alloc (Nat.le_refl _) _)
    have hwz := HB.out.size; clear hM hMs hb1; go_wp2
    obtain ⟨P, hP⟩ : ∃ P, wr.heap.size + 1 = P := ⟨_, rfl⟩
    rw [hP] at HP1 ⊢
    go_loopw [28] (fun iv wl => ∃ k : Nat, k ≤ xs.length ∧ iv = .int .i64 k ∧ (∃ v, Hid (Bx wl P 124 #[v]) ∧ Hid (wl.ownsRow w.heap.size 53 1 v k (xs.take k))) ∧ Hid (Below w.heap.size w wl)) (fun iv _ => xs.length - (RowKit.intOf iv).toNat)
    case atStart => exact ⟨0, Nat.zero_le _, rfl, ⟨_, HP1.out, HO1.out⟩, HB1.out⟩
    case round =>
     clear HB HP1 HO1 HB1; obtain ⟨k, hk, rfl, ⟨v, HP, HO⟩, HB⟩ := hrel; by_cases hlt : k < xs.length
     ·
      obtain rfl := HE.out.addr (by omega); have c0 := (HE.out.below HB.out).at_ k hlt; have HK : Hid (xs.take (k + 1) = xs.take k ++ [xs[k]]) := List.take_succ_eq_append_getElem hlt; obtain ⟨T, u, hx⟩ := HE.out.some_ xs[k] (List.getElem_mem hlt); rw [hx] at c0 HK; clear hx; have hsz := HB.out.size; obtain ⟨av, cv, rfl⟩ := row_slI HO.out; have p0 := HP.out.cell 0; rw [cell0_one] at p0; have p0' := fun o => cellOn o p0; have hP2 : Hid (Bx (wr.alloc (.cells #[.iface T u] 53)) P 124 _) := HP.out.below ((Below.refl _ _).alloc (Nat.le_refl _) _); have hrow : (wr.alloc (.cells #[.iface T u] 53)).ownsRow w.heap.size 53 1 (.slice av k cv) k (xs.take k) := rowkeep HO.out ((Below.refl _ wr).alloc (Nat.le_refl _) _); have hne := row_ne hrow hP2.out (by decide)
      go_wp2_with (first
       | (at_builtin; refine wpList_append_own _ rfl _ _ 100 rfl w.heap.size 53 i0 .nilIface 1 16 Tryd.underlying100 hi hz0 hz1 hz2 rfl (by decide) _ _ _ rfl hrow ⟨wr.heap.size, 0, none⟩ 1 1 [.iface T u] rfl rfl ?c1 ?c2 ?c3 ?c4 ?c5 ?_)
       | fail)
      case c1 => exact cell_one_new _ _ _
      case c2 => intro y hy; simp at hy; subst hy; rfl
      case c3 => unfold maxLen; omega
      case c4 => omega
      case c5 => first | omega | (simp; omega)
      intro v' w5 hown' hgrow _; have hP5 := Bx.grown hP2.out hgrow hne; have hne5 := row_ne hown' hP5 (by decide); obtain ⟨av', cv', rfl⟩ := row_slI hown'; have y0 := hP5.cell 0; rw [cell0_one] at y0; have y1 := hP5.frozen 0; have hPw : w.heap.size ≤ P := by omega
      have HB5 := hidE (((HB.out.alloc hsz (.cells #[.iface T u] 53)).grown hgrow (by simp; omega) (fun q hq => (World.ownsRow.lt HO.out q hq).1)).setCell (p := ⟨P, 0, none⟩) hPw (.slice av' (k + 1) cv')); have HP6 : Hid (Bx (w5.setCell ⟨P, 0, none⟩ (.slice av' (k + 1) cv')) P 124 #[.slice av' (k + 1) cv']) := hP5.set 0 _
      have HO6 : Hid ((w5.setCell ⟨P, 0, none⟩ (.slice av' (k + 1) cv')).ownsRow w.heap.size 53 1 (.slice av' (k + 1) cv') (k + 1) (xs.take (k + 1))) := by
       show World.ownsRow _ _ _ _ _ _ _
       rw [HK.out]; exact row_blk hown' (fun q hq => Below.heap_setCell w5 ⟨P, 0, none⟩ _ q (hne5 q hq))
      clear hown' hgrow hne hne5 hP5 hrow hP2 p0 p0' HP HO HB c0; go_wp2
      go_roundw
      case rel => exact ⟨k + 1, by omega, by go_num, ⟨_, HP6, HO6⟩, HB5⟩
      case measure => simp [RowKit.intOf]; omega
     ·
      obtain rfl : k = xs.length := by omega
      have p0 := HP.out.cell 0; rw [cell0_one] at p0; have HO2 := HO.out; rw [List.take_length] at HO2; go_wp2
      go_ret
      refine ⟨HB.out, fun h => absurd h HNe.out, fun _ => ?_⟩
      first | exact ⟨P, v, rfl, p0, HO2⟩ | exact ⟨v, P, rfl, p0, HO2⟩ | exact ⟨v, p0, HO2⟩ | (refine ⟨P, ?_⟩; trace_state; sorry)
def Trio (W : World) (b n : Nat) (t a c : List E) (q : List ByteArray) : Prop := ∃ u0 u1 u2, Bx W b 23 #[u0] ∧ Bx W (b + 1) 23 #[u1] ∧ Bx W (b + 2) 23 #[u2] ∧
 RowG n W u0 (rest q t) ∧ RowG n W u1 (rest q a) ∧ RowG n W u2 (rest q c) ∧ b + 3 ≤ W.heap.size ∧ n ≤ b
theorem Trio.keep {W W' : World} {b n : Nat} {t a c : List E} {q : List ByteArray} (h : Trio W b n t a c q) (hk : ∀ g, g < b + 3 → W'.heap[g]? = W.heap[g]?) (hz : W.heap.size ≤ W'.heap.size) : Trio W' b n t a c q := by
 obtain ⟨u0, u1, u2, k0, k1, k2, h0, h1, h2, h3, h4⟩ := h; exact ⟨u0, u1, u2, (hk _ (by omega)).trans k0, (hk _ (by omega)).trans k1, (hk _ (by omega)).trans k2, h0.keep (fun g hg => hk g (by omega)), h1.keep (fun g hg => hk g (by omega)), h2.keep (fun g hg => hk g (by omega)), by omega, h4⟩
theorem Trio.below {W W' : World} {b n : Nat} {t a c : List E} {q : List ByteArray} (h : Trio W b n t a c q) (hb : Below W.heap.size W W') : Trio W' b n t a c q := by
 have h2 := h; obtain ⟨-, -, -, -, -, -, -, -, -, h3, -⟩ := h2; exact h.keep (fun g hg => hb.block g (by omega)) hb.size
theorem Trio.grown {W W' : World} {b n : Nat} {t a c : List E} {q : List ByteArray} {row : Option Nat} (h : Trio W b n t a c q) (hg : W.grownBy W' row) (hr : ∀ r, row = some r → b + 3 ≤ r) (hz : W.heap.size ≤ W'.heap.size) : Trio W' b n t a c q := by
 have h2 := h; obtain ⟨-, -, -, -, -, -, -, -, -, h3, -⟩ := h2; exact h.keep (fun g hlt => hg.block g (by omega) (fun e => by have := hr g e.symm; omega)) hz
theorem pullQ_any (w : World) (b n : Nat) (t a c : List E) (q : List ByteArray) (h : Trio w b n t a c q) (hl : Left t a c q) (ht : Rise t) (ha : Rise a) (hc : Rise c) :
  Calls Tryd.prog 75 #[.pointer (some ⟨b, 0, none⟩), .pointer (some ⟨b + 1, 0, none⟩), .pointer (some ⟨b + 2, 0, none⟩)] w fun e w' =>
   e = .returned (.tuple #[encA (hdQ q).1 (toldQ t q) (toldQ a q) (toldQ c q), .bool (hdQ q).2]) ∧ Trio w' b n t a c q.tail ∧ Below b w w' ∧ (∀ k, k < w.heap.size → b + 3 ≤ k → w'.heap[k]? = w.heap[k]?) := by
 obtain ⟨u0, u1, u2, k0, k1, k2, h0, h1, h2, h3, h4⟩ := h; have hf := fst_all hl.sort ht ha hc hl.from3; have e0 := pull_all ht hl.sort hl.path; have e1 := pull_all ha hl.sort hl.path; have e2 := pull_all hc hl.sort hl.path; refine (pull1_any w b n u0 u1 u2 _ _ _ h3 h4 k0 k1 k2 h0 h1 h2 (hdQ q).1 (hdQ q).2 hf).mono ?_; rintro e w' ⟨x0, x1, x2, rfl, m0, m1, m2, g0, g1, g2, hB, hk⟩; rw [e0] at g0 ⊢; rw [e1] at g1 ⊢; rw [e2] at g2 ⊢; exact ⟨rfl, ⟨x0, x1, x2, m0, m1, m2, g0, g1, g2, Nat.le_trans h3 hB.size, h4⟩, hB, hk⟩
set_option maxHeartbeats 1000000 in
set_option maxRecDepth 100000 in
theorem pullThree_any (w : World) (v0 v1 v2 : Value) (t a c : List E) (q : List ByteArray) (h0 : Row w v0 t) (h1 : Row w v1 a) (h2 : Row w v2 c) (e0 : rest q t = t) (e1 : rest q a = a) (e2 : rest q c = c) :
  Calls Tryd.prog 59 #[v0, v1, v2] w fun e w' => e = .returned (.func (.func 75) #[] #[.pointer (some ⟨w.heap.size, 0, none⟩), .pointer (some ⟨w.heap.size + 1, 0, none⟩), .pointer (some ⟨w.heap.size + 2, 0, none⟩)]) ∧
   Trio w' w.heap.size w.heap.size t a c q ∧ Below w.heap.size w w' := by
 obtain ⟨a0, -, -, c0, rfl, -⟩ := id h0; obtain ⟨a1, -, -, c1, rfl, -⟩ := id h1; obtain ⟨a2, -, -, c2, rfl, -⟩ := id h2
 have hb : Below w.heap.size w (((w.alloc (.cells #[.slice a0 t.length c0] 23)).alloc (.cells #[.slice a1 a.length c1] 23)).alloc (.cells #[.slice a2 c.length c2] 23)) :=
  (((Below.refl _ w).alloc (Nat.le_refl _) _).alloc (by simp) _).alloc (by simp; omega) _
 have HT : Hid (Trio (((w.alloc (.cells #[.slice a0 t.length c0] 23)).alloc (.cells #[.slice a1 a.length c1] 23)).alloc (.cells #[.slice a2 c.length c2] 23)) w.heap.size w.heap.size t a c q) := by
  refine ⟨_, _, _, ?_, ?_, ?_, by rw [e0]; exact h0.rowG.below hb, by rw [e1]; exact h1.rowG.below hb, by rw [e2]; exact h2.rowG.below hb, by simp, Nat.le_refl _⟩
  ·
   exact ((Bx.new w _ _).below ((Below.refl _ _).alloc (Nat.le_refl _) _)).below ((Below.refl _ _).alloc (Nat.le_refl _) _)
  ·
   have := (Bx.new (w.alloc (.cells #[.slice a0 t.length c0] 23)) 23 #[.slice a1 a.length c1]).below ((Below.refl _ _).alloc (Nat.le_refl _) (.cells #[.slice a2 c.length c2] 23))
   simpa using this
  ·
   have := Bx.new ((w.alloc (.cells #[.slice a0 t.length c0] 23)).alloc (.cells #[.slice a1 a.length c1] 23)) 23 #[.slice a2 c.length c2]
   simpa using this
 have HB := hidE hb; clear hb h0 h1 h2; go_enter Tryd.func59, Tryd.ntmps59
 go_wp2
 go_ret
 exact ⟨rfl, HT.out, HB.out⟩
end Go.Proofs.YtoaipphccjkphaaDoor.Mg
