import Derived.Sort.LoopGhostIn
import Derived.Test.YtoaipphccjkphaaDoorHPk01
namespace Go.Proofs.YtoaipphccjkphaaDoor
open Go.RowKit Go.Shelf Go.Lib
attribute [local go_sem] Oper.semAt_some
theorem hid {p : Prop} (h : p) : Hid p := h
abbrev encs (x : Int × ByteArray) : Array Value := #[.int .i64 x.1, .string x.2]
abbrev ItemOf (s : ByteArray) : Type := { x : Int × ByteArray // x ∈ items s }
abbrev encsI {s : ByteArray} (x : ItemOf s) : Array Value := #[.int .i64 x.1.1, .string x.1.2]
theorem inItems {s : ByteArray} {pre r : List (Int × ByteArray)} {x : Int × ByteArray} (h : pre ++ x :: r = items s) : x ∈ items s := by
 rw [← h]; simp
theorem mapSnoc {s : ByteArray} (pre : List (ItemOf s)) (x : ItemOf s) : (pre ++ [x]).map Subtype.val = pre.map Subtype.val ++ [x.1] := by simp
def Kpt (Bn : Nat) (W W' : World) : Prop := KeepsWalks W W' ∧ ∀ v, W.cell? ⟨Bn, 0, none⟩ = some v → W'.cell? ⟨Bn, 0, none⟩ = some v
theorem Kpt.t {Bn : Nat} {A B C : World} (h : Kpt Bn A B) (k : Kpt Bn B C) : Kpt Bn A C := ⟨h.1.trans k.1, fun v hv => k.2 v (h.2 v hv)⟩
theorem Kpt.b {Bn : Nat} {w : World} (W : World) (l : Nat) (o o' : Obj) (_ : w.heap.size ≤ l) (h : W.heap[l]? = some o) (hc : o.isCells = false) (hw : o.isWalk = false) : Kpt Bn W (W.putObj l o') :=
 ⟨KeepsWalks.putObj _ h hw, fun _ hv => cell_kept hv (grownBy_putObj' _ l o') (fun r e => by cases e; exact ⟨_, h, hc⟩)⟩
theorem cellOn {W : World} {a : Addr} {v : Value} (o : Obj) (h : W.cell? a = some v) : (W.alloc o).cell? a = some v := cell_kept h (World.grownBy_alloc W o none) (fun r e => by cases e)
theorem frozenOn {W : World} {a : Addr} {v : Value} (o : Obj) (h : W.cell? a = some v) (hf : W.frozen? a = false) : (W.alloc o).frozen? a = false := (frozen_kept h (World.grownBy_alloc W o none) (fun r e => by cases e)).trans hf
theorem iterAt_put (W : World) (k : Nat) (s : ByteArray) (p : Nat) : W.iterAt k s p = W.putObj k (.stringIter s p) := rfl
set_option maxHeartbeats 1000000 in
set_option maxRecDepth 100000 in
theorem names_stopsI (F : Fence) (n : Nat) (h37 : F.fn 74) (hro : F.round = none) (hn : 1 ≤ n) (Bn : Nat) (s : ByteArray) (hs : s.size ≤ 4611686018427387904) (w : World) (hBn : Bn < w.heap.size)
  (hb : w.cell? ⟨Bn, 0, none⟩ = some (.string s)) :
  SeqStopsK F n Tryd.prog 74 #[.pointer (some ⟨Bn, 0, none⟩)] (encsI (s := s)) (Kpt Bn) (fun xs => xs.map Subtype.val = items s) (fun pre => pre.map Subtype.val <+: items s) (s.size + 1) w := fun l J Jx W hW hJ hJx hY h0 => by
 have hbW : W.cell? ⟨Bn, 0, none⟩ = some (.string s) := (hW.cell (p := ⟨Bn, 0, none⟩) hBn).trans hb; have hszW := hW.size; clear hb hW; refine callsIn_of_wp Tryd.func74 rfl h37 ?_ hro; simp only [Tryd.ntmps74, List.size_toArray, List.length_cons, List.length_nil, Nat.reduceAdd, Nat.reduceSub, Array.replicate_succ, Array.replicate_zero, List.push_toArray, List.append_toArray, List.nil_append, List.cons_append]; have HY := hid hY; have HJ := hid hJ; clear hY hJ hJx
 gi_wp2
 gi_loopg [3] s.size (fun gf st wx => ∃ (pos : Nat) (k : Int) (pre : List (ItemOf s)), st = .int .i64 k ∧ wx.heap[W.heap.size]? = some (.stringIter s pos) ∧ wx.cell? ⟨Bn, 0, none⟩ = some (.string s) ∧
  pos ≤ s.size ∧ -1 ≤ k ∧ k < pos ∧ s.size ≤ pos + gf ∧ pre.length ≤ pos ∧ J pre wx ∧ Hid (pre.map Subtype.val ++ itemsAt s pos k = items s))
 case atStart =>
  exact ⟨0, -1, [], rfl, World.iter_heap W s 0, cellOn _ hbW, Nat.zero_le _, by omega, by omega, by omega, Nat.le_refl _, HJ.out [] W _ none h0 (World.grownBy_alloc W _ none) (fun r e => by cases e), rfl⟩
 case round =>
  obtain ⟨pos, k, pre, rfl, hit, hbox, hle, hk1, hk2, hfu, hpl, hJs, HI⟩ := hrel; by_cases hps : pos < s.size
  ·
   obtain ⟨g', rfl⟩ : ∃ g', gk = g' + 1 := ⟨gk - 1, by omega⟩
   have hnx : ∀ ty, (Instr.next (.pointer (some ⟨W.heap.size, 0, none⟩)) true ty).run Tryd.prog wr = _ := fun ty => Lib.run_next_any_at wr W.heap.size s pos ty hit hps; have hend := rune_end s pos hps; have HS := hid (rune_stroke s pos k hps); have HO := hid (rune_other s pos k hps); obtain ⟨R, hR⟩ : ∃ R, (Utf8.decode s pos).1 = R := ⟨_, rfl⟩
   obtain ⟨K, hK⟩ : ∃ K, (Utf8.decode s pos).2 = K := ⟨_, rfl⟩
   rw [hR, hK] at hnx HS HO; rw [hK] at hend; have hit2 := Lib.iterAt_heap wr W.heap.size s pos (pos + K) hit; have hg := grownBy_putObj' wr W.heap.size (.stringIter s (pos + K)); rw [← iterAt_put] at hg; have hbox2 := cell_kept hbox hg (fun r e => by cases e; exact ⟨_, hit, rfl⟩); have hJ2 := HJ.out pre wr _ _ hJs hg (fun r e => by cases e; exact ⟨Nat.le_refl _, _, hit, rfl⟩); obtain ⟨W2, hWd⟩ : ∃ W2, wr.iterAt W.heap.size s (pos + K) = W2 := ⟨_, rfl⟩
   rw [hWd] at hnx hit2 hbox2 hJ2; clear hR hK hWd hit hbox hJs hg; by_cases h47 : R = 47
   ·
    obtain ⟨rfl, hst⟩ := HS.out h47; subst h47; by_cases hp0 : 0 < pos
    ·
     have hin : (k, s.extract (k + 1).toNat pos) ∈ items s := by
      have := HI.out; rw [hst, if_pos hp0] at this; exact inItems this
     obtain ⟨fn, tmps, assign, body, hy, hR⟩ := HY.out pre ⟨(k, s.extract (k + 1).toNat pos), hin⟩ W2 hJ2 (by omega); dsimp only [encsI] at hy; have HST := hid hst; clear hst
     gi_wp2
     refine hR.mono ?_; rintro e W3 (⟨rfl, hJ3, hk3⟩ | ⟨rfl, hJx3⟩)
     ·
      have hit3 := hk3.1.same _ _ hit2 rfl; have hbox3 := hk3.2 _ hbox2
      have HI3 : Hid ((pre ++ [(⟨(k, s.extract (k + 1).toNat pos), hin⟩ : ItemOf s)]).map Subtype.val ++ itemsAt s (pos + 1) pos = items s) := by
       show _ = _
       refine Eq.trans ?_ HI.out; rw [mapSnoc, HST.out, if_pos hp0, List.append_assoc]
      clear HI HST hk3 hit2 hbox2 hJ2 HO
      gi_wp2
      gi_roundg g'
      case measure => omega
      case rel => exact ⟨pos + 1, pos, _, rfl, hit3, hbox3, by omega, by omega, by omega, by omega, by rw [List.length_append, List.length_singleton]; omega, hJ3, HI3⟩
     ·
      gi_wp2
      refine bodyPost_ret (results_none rfl _ _ _) rfl ?_; exact ⟨⟨_, rfl⟩, .inr ⟨_, ⟨_, by refine Eq.trans ?_ HI.out; rw [mapSnoc, HST.out, if_pos hp0, List.append_assoc]⟩, hJx3⟩⟩
    ·
     obtain rfl : pos = 0 := by omega
     have HI3 : Hid (pre.map Subtype.val ++ itemsAt s (0 + 1) 0 = items s) := by
      show _ = _
      refine Eq.trans ?_ HI.out; rw [hst, if_neg hp0, List.nil_append]; rfl
     clear HI hst HO
     gi_wp2
     refine ⟨fun _ h => (by cases h), ?_⟩
     gi_wp2
     gi_roundg g'
     case measure => omega
     case rel => exact ⟨0 + 1, 0, pre, rfl, hit2, hbox2, by omega, by omega, by omega, by omega, by omega, hJ2, HI3⟩
   ·
    have HI3 : Hid (pre.map Subtype.val ++ itemsAt s (pos + K) k = items s) := by
     show _ = _
     refine Eq.trans ?_ HI.out; rw [HO.out h47]
    have h47' : ((R : Int) == 47) = false := by
     rw [beq_eq_false_iff_ne]; omega
    clear HI HO HS
    gi_wp2
    gi_roundg g'
    case measure => omega
    case rel => exact ⟨pos + K, k, pre, rfl, hit2, hbox2, by omega, by omega, by omega, by omega, by omega, hJ2, HI3⟩
  ·
   have hnx : ∀ ty, (Instr.next (.pointer (some ⟨W.heap.size, 0, none⟩)) true ty).run Tryd.prog wr = _ := fun ty => Lib.run_next_end_at wr W.heap.size s pos ty hit hps
   have hin : (k, s.extract (k + 1).toNat s.size) ∈ items s := by
    have := HI.out; rw [itemsAt_end s pos k hps] at this; exact inItems this
   have HI3 : Hid ((pre ++ [(⟨(k, s.extract (k + 1).toNat s.size), hin⟩ : ItemOf s)]).map Subtype.val = items s) := by
    show _ = _
    refine Eq.trans ?_ HI.out; rw [mapSnoc, itemsAt_end s pos k hps]
   clear HI; obtain ⟨fn, tmps, assign, body, hy, hR⟩ := HY.out pre ⟨(k, s.extract (k + 1).toNat s.size), hin⟩ wr hJs (by omega); dsimp only [encsI] at hy
   gi_wp2
   refine hR.mono ?_; rintro e W3 (⟨rfl, hJ3, hk3⟩ | ⟨rfl, hJx3⟩)
   ·
    gi_wp2
    go_end0
    exact ⟨⟨_, rfl⟩, .inl ⟨_, HI3.out, hJ3⟩⟩
   ·
    gi_wp2
    go_end0
    exact ⟨⟨_, rfl⟩, .inr ⟨_, ⟨[], by rw [List.append_nil]; exact HI3.out⟩, hJx3⟩⟩
theorem names_stops (F : Fence) (n : Nat) (h37 : F.fn 74) (hro : F.round = none) (hn : 1 ≤ n) (Bn : Nat) (s : ByteArray) (hs : s.size ≤ 4611686018427387904) (w : World) (hBn : Bn < w.heap.size)
  (hb : w.cell? ⟨Bn, 0, none⟩ = some (.string s)) :
  SeqStopsK F n Tryd.prog 74 #[.pointer (some ⟨Bn, 0, none⟩)] encs (Kpt Bn) (fun xs => xs = items s) (fun pre => pre <+: items s) (s.size + 1) w := fun l J Jx W hW hJ hJx hY h0 =>
 (names_stopsI F n h37 hro hn Bn s hs w hBn hb l (fun pre => J (pre.map Subtype.val)) (fun pre => Jx (pre.map Subtype.val)) W hW (fun _ => hJ _) (fun _ => hJx _)
  (fun pre x W h1 h2 => by
   have := hY (pre.map Subtype.val) x.1 W h1 (by rw [List.length_map]; exact h2); rw [← mapSnoc] at this
   exact this) h0).mono fun e w' ⟨h1, h2⟩ => ⟨h1, h2.imp (fun ⟨xs, h3, h4⟩ => ⟨_, h3, h4⟩) (fun ⟨xs, h3, h4⟩ => ⟨_, h3, h4⟩)⟩
end Go.Proofs.YtoaipphccjkphaaDoor
namespace Go.Proofs.YtoaipphccjkphaaDoor
open Go.RowKit Go.Shelf Go.Lib
attribute [local go_sem] Oper.semAt_some
theorem cellNew (W : World) (v : Value) (t : TypeId) : (W.alloc (.cells #[v] t)).cell? ⟨W.heap.size, 0, none⟩ = some v := by simp
theorem frozenNew (W : World) (v : Value) (t : TypeId) : (W.alloc (.cells #[v] t)).frozen? ⟨W.heap.size, 0, none⟩ = false := by simp
theorem keeps_of_below {W W' : World} (hb : Below W.heap.size W W') : KeepsOthers W W' :=
 ⟨hb.size, fun k _ hk _ => (hb.block k (Array.getElem?_eq_some_iff.1 hk).1).trans hk⟩
theorem cell_lt {W : World} {b o : Nat} {v : Value} (h : W.cell? ⟨b, o, none⟩ = some v) : b < W.heap.size := World.block_lt_of_cell? W ⟨b, o, none⟩ h
theorem below_cell {W W' : World} (hb : Below W.heap.size W W') {b o : Nat} {v : Value} (h : W.cell? ⟨b, o, none⟩ = some v) : W'.cell? ⟨b, o, none⟩ = some v :=
 (hb.cell (p := ⟨b, o, none⟩) (cell_lt h)).trans h
theorem below_frozen {W W' : World} (hb : Below W.heap.size W W') {b o : Nat} {v : Value} (h : W.cell? ⟨b, o, none⟩ = some v) (hf : W.frozen? ⟨b, o, none⟩ = false) : W'.frozen? ⟨b, o, none⟩ = false :=
 (hb.frozen (p := ⟨b, o, none⟩) (cell_lt h)).trans hf
theorem kpt_of_below {W W' : World} (hb : Below W.heap.size W W') (Bn : Nat) : Kpt Bn W W' := ⟨(keeps_of_below hb).walks, fun _ hv => below_cell hb hv⟩
theorem kpt_setCell (W : World) (a : Addr) (v : Value) (Bn : Nat) (h : a.block ≠ Bn) : Kpt Bn W (W.setCell a v) :=
 ⟨(KeepsOthers.setCell W a v).walks, fun _ hv => (World.cell?_of_block (Below.heap_setCell W a v Bn (fun e => h e.symm))).trans hv⟩
theorem cell_other (W : World) (a : Addr) (v : Value) (b o : Nat) (h : b ≠ a.block) : (W.setCell a v).cell? ⟨b, o, none⟩ = W.cell? ⟨b, o, none⟩ := World.cell?_of_block (Below.heap_setCell W a v b h)
theorem names_in (F : Fence) (n : Nat) (h34 : F.fn 57) (hro : F.round = none) (s : ByteArray) (w : World) :
  CallsIn F n Tryd.prog 57 #[.string s] w fun e w' => e = .returned (.func (.func 74) #[] #[.pointer (some ⟨w.heap.size, 0, none⟩)]) ∧ w' = w.alloc (.cells #[.string s] 95) := by
 refine callsIn_of_wp Tryd.func57 rfl h34 ?_ hro; simp only [Tryd.ntmps57, List.size_toArray, List.length_cons, List.length_nil, Nat.reduceAdd, Nat.reduceSub, Array.replicate_succ, Array.replicate_zero, List.push_toArray, List.append_toArray, List.nil_append, List.cons_append]
 gi_wp2
 go_ret
 exact ⟨rfl, rfl⟩
set_option maxHeartbeats 1000000 in
set_option maxRecDepth 100000 in
theorem ok_any (s : ByteArray) (hs : s.size ≤ 4611686018427387904) (w : World) :
  Calls Tryd.prog 56 #[.string s] w fun e w' => e = .returned (.bool (pathB s)) ∧ Below w.heap.size w w' := by
 refine (callsIn_wide (n := 3)).1 ?_; refine callsIn_of_wp_marks Tryd.func56 rfl trivial ?_ rfl; simp only [Tryd.ntmps56, List.size_toArray, List.length_cons, List.length_nil, Nat.reduceAdd, Nat.reduceSub, Array.replicate_succ, Array.replicate_zero, List.push_toArray, List.append_toArray, List.nil_append, List.cons_append]
 gi_wp2_with (refine ⟨trivial, ?_⟩; gi_at_call 57; refine (names_in Fence.wide _ trivial rfl _ _).mono ?_; rintro e w' ⟨rfl, rfl⟩)
 have c0 := cellNew w (.bool false) 4; have f0 := frozenNew w (.bool false) 4; have c1 := cellNew (w.alloc (.cells #[.bool false] 4)) (.int .i64 0) 3; have f1 := frozenNew (w.alloc (.cells #[.bool false] 4)) (.int .i64 0) 3; have c2 := cellNew ((w.alloc (.cells #[.bool false] 4)).alloc (.cells #[.int .i64 0] 3)) (.string s) 95; simp only [World.size_alloc] at c1 f1 c2; have hB0 : Below w.heap.size w (((w.alloc (.cells #[.bool false] 4)).alloc (.cells #[.int .i64 0] 3)).alloc (.cells #[.string s] 95)) := (((Below.refl _ w).alloc (Nat.le_refl _) _).alloc (by simp) _).alloc (by simp; omega) _
 refine wpIn_rangeFunc_ownF rfl (by omega) (gf := 74) (lb := #[.pointer (some ⟨w.heap.size + 1 + 1, 0, none⟩)]) rfl trivial (enters_of Tryd.func74 (by kernel_rfl) rfl)
  (names_stops Fence.wide _ trivial rfl (by omega) (w.heap.size + 1 + 1) s hs _ (by simp) c2) Kpt.t Kpt.b (Below.refl _ _) (fun _ => rfl)
  (fun pre W => (W.cell? ⟨w.heap.size, 0, none⟩ = some (.bool false) ∧ W.frozen? ⟨w.heap.size, 0, none⟩ = false ∧ W.cell? ⟨w.heap.size + 1, 0, none⟩ = some (.int .i64 pre.length) ∧ W.frozen? ⟨w.heap.size + 1, 0, none⟩ = false ∧
   Hid (pre.all okItem = true) ∧ pre.length ≤ 3) ∧ Below w.heap.size w W)
  (fun c pre W => (c = .ret ∧ Hid (okItems pre = false) ∧ W.cell? ⟨w.heap.size, 0, none⟩ = some (.bool false)) ∧ Below w.heap.size w W)
  (OwnFrom.and (Own.from (fun s A B row hs hg hr => ⟨cell_kept hs.1 hg hr, (frozen_kept hs.1 hg hr).trans hs.2.1, cell_kept hs.2.2.1 hg hr, (frozen_kept hs.2.2.1 hg hr).trans hs.2.2.2.1, hs.2.2.2.2⟩) _) (ownFrom_below (Nat.le_refl _) (by simp; omega)))
  (fun c => OwnFrom.and (Own.from (fun s A B row hs hg hr => ⟨hs.1, hs.2.1, cell_kept hs.2.2 hg hr⟩) _) (ownFrom_below (Nat.le_refl _) (by simp; omega)))
  ⟨⟨cellOn _ (cellOn _ c0), frozenOn _ (cellOn _ c0) (frozenOn _ c0 f0), cellOn _ c1, frozenOn _ c1 f1, rfl, by simp⟩, hB0⟩
  (fun x => { tmps := #[.string s, undef, .pointer (some ⟨w.heap.size, 0, none⟩), .pointer (some ⟨w.heap.size + 1, 0, none⟩), .int .i64 x.1, .string x.2, .string s, .func (.func 74) #[] #[.pointer (some ⟨w.heap.size + 1 + 1, 0, none⟩)], .int .i64 x.1, .string x.2, undef, undef, undef, undef, undef, undef, undef, undef, undef, undef, undef, undef, undef], defers := [] }) ?assign ?body ?done ?stop
 case assign =>
  intro l x W K hK
  gi_wp2
  exact hK
 case body =>
  rintro l pre ⟨k, nm⟩ W ⟨⟨hr, hfr, hl, hfl, HA, hlen⟩, hB⟩ _; have hr1 : (W.setCell ⟨w.heap.size + 1, 0, none⟩ (.int .i64 ((pre.length : Int) + 1))).cell? ⟨w.heap.size, 0, none⟩ = some (.bool false) := (cell_other W _ _ _ 0 (by simp)).trans hr; have hl1 : (W.setCell ⟨w.heap.size + 1, 0, none⟩ (.int .i64 ((pre.length : Int) + 1))).cell? ⟨w.heap.size + 1, 0, none⟩ = some (.int .i64 ((pre.length : Int) + 1)) := World.cell?_setCell_same' _ _ _ (by rw [hl]; rfl); have hB1 := hB.setCell (p := ⟨w.heap.size + 1, 0, none⟩) (by simp) (.int .i64 ((pre.length : Int) + 1)); have hk1 := kpt_setCell W ⟨w.heap.size + 1, 0, none⟩ (.int .i64 ((pre.length : Int) + 1)) (w.heap.size + 1 + 1) (by simp); by_cases hk : k < 0
  ·
   have hbad : Hid (okItems (pre ++ [(k, nm)]) = false) := okItems_bad (okItem_low hk)
   gi_wp2
   refine ⟨trivial, ?_⟩
   gi_wp2
   exact ⟨(KeepsOthers.setCell _ _ _).trans (KeepsOthers.setCell _ _ _), ⟨rfl, hbad, World.cell?_setCell_same' _ _ _ (by rw [hr1]; rfl)⟩, hB1.setCell (p := ⟨w.heap.size, 0, none⟩) (Nat.le_refl _) _⟩
  ·
   by_cases h3 : pre.length < 3
   ·
    cases hnm : nameB nm with
    | true =>
     have hgood : Hid ((pre ++ [(k, nm)]).all okItem = true) := all_snoc HA.out (okItem_yes hk hnm)
     gi_wp2_with (refine ⟨trivial, ?_⟩; gi_at_call 73; refine (CallsIn.inRound l (callsIn_wide.2 (nameOk_any _ _))).mono ?_; rintro e W2 ⟨rfl, hb2⟩)
     exact ⟨(KeepsOthers.setCell _ _ _).trans (keeps_of_below hb2), hk1.t (kpt_of_below hb2 _),
      ⟨below_cell hb2 hr1, below_frozen hb2 hr1 (by rw [World.frozen?_setCell]; exact hfr), (below_cell hb2 hl1).trans (by simp), below_frozen hb2 hl1 (by rw [World.frozen?_setCell]; exact hfl), hgood, by simp; omega⟩, hB1.trans (hb2.mono hB1.size)⟩
    | false =>
     have hbad : Hid (okItems (pre ++ [(k, nm)]) = false) := okItems_bad (okItem_not hnm)
     gi_wp2_with (refine ⟨trivial, ?_⟩; gi_at_call 73; refine (CallsIn.inRound l (callsIn_wide.2 (nameOk_any _ _))).mono ?_; rintro e W2 ⟨rfl, hb2⟩; have hr2 := below_cell hb2 hr1; have hf2 := below_frozen hb2 hr1 (by rw [World.frozen?_setCell]; exact hfr))
     exact ⟨((KeepsOthers.setCell _ _ _).trans (keeps_of_below hb2)).trans (KeepsOthers.setCell _ _ _), ⟨rfl, hbad, World.cell?_setCell_same' _ _ _ (by rw [hr2]; rfl)⟩, (hB1.trans (hb2.mono hB1.size)).setCell (p := ⟨w.heap.size, 0, none⟩) (Nat.le_refl _) _⟩
   ·
    have hbad : Hid (okItems (pre ++ [(k, nm)]) = false) := okItems_many h3
    gi_wp2
    refine ⟨trivial, ?_⟩
    gi_wp2
    exact ⟨(KeepsOthers.setCell _ _ _).trans (KeepsOthers.setCell _ _ _), ⟨rfl, hbad, World.cell?_setCell_same' _ _ _ (by rw [hr1]; rfl)⟩, hB1.setCell (p := ⟨w.heap.size, 0, none⟩) (Nat.le_refl _) _⟩
 case done =>
  rintro D ys W hD rfl ⟨⟨hr, hfr, _, _, HA, hlen⟩, hB⟩ hK
  gi_wp2
  have hK' := (KeepsOthers.setCell W ⟨w.heap.size, 0, none⟩ (.bool true)).same D _ hK rfl; refine ⟨by simp, .inl ⟨_, _, rfl, run_takeDeferred hK', ?_⟩⟩; have hc5 := cell_kept (World.cell?_setCell_same' W ⟨w.heap.size, 0, none⟩ (.bool true) (by rw [hr]; rfl)) (grownBy_putObj' _ D (.deferred none)) (fun r e => by cases e; exact ⟨_, hK', rfl⟩); refine ⟨.bool true, ?_, ret_bool (pathB_yes HA.out hlen), (hB.setCell (p := ⟨w.heap.size, 0, none⟩) (Nat.le_refl _) _).trans (belowK_b (w := w) (Nat.le_refl _) _ D _ _ (by simp at hD; omega) hK' rfl rfl)⟩; simp [results, Tryd.f56, go_sem, hc5]
 case stop =>
  rintro D c pre W hD hpre ⟨⟨rfl, HB, hr⟩, hB⟩ hK
  gi_wp2
  refine ⟨by simp, .inl ⟨_, _, rfl, run_takeDeferred hK, ?_⟩⟩; have hc5 := cell_kept hr (grownBy_putObj' _ D (.deferred none)) (fun r e => by cases e; exact ⟨_, hK, rfl⟩); refine ⟨.bool false, ?_, ret_bool (pathB_no hpre HB.out), hB.trans (belowK_b (w := w) (Nat.le_refl _) W D _ _ (by simp at hD; omega) hK rfl rfl)⟩; simp [results, Tryd.f56, go_sem, hc5]
end Go.Proofs.YtoaipphccjkphaaDoor
namespace Go.Proofs.YtoaipphccjkphaaDoor
open Go.RowKit Go.Shelf Go.Lib
theorem pOk_any (s : ByteArray) (hs : s.size ≤ 16777216) (w : World) :
  Calls Tryd.prog 67 #[.string s] w fun e w' => e = .returned (.bool (pathB s)) ∧ Below w.heap.size w w' := by
 go_enter Tryd.func67, Tryd.ntmps67
 go_wp2_with (go_at_call 56; refine (ok_any _ (by omega) _).mono ?_; rintro e w1 ⟨rfl, hB1⟩)
 go_ret
 exact ⟨rfl, hB1⟩
end Go.Proofs.YtoaipphccjkphaaDoor
