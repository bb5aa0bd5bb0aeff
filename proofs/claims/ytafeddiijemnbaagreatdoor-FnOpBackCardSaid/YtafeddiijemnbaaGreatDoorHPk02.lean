import Derived.Sort.LoopGhostIn
import Derived.Test.YtafeddiijemnbaaGreatDoorHPk01
namespace Go.Proofs.YtafeddiijemnbaaGreatDoor
open Go.RowKit Go.Shelf Go.Lib
attribute [local go_sem] Oper.semAt_some
theorem hid {p : Prop} (h : p) : Hid p := h
abbrev encs (x : Int × ByteArray) : Array Value := #[.int .i64 x.1, .string x.2]
abbrev ItemOf (s : ByteArray) : Type := { x : Int × ByteArray // x ∈ items s }
abbrev encsI {s : ByteArray} (x : ItemOf s) : Array Value := #[.int .i64 x.1.1, .string x.1.2]
theorem inItems {s : ByteArray} {pre r : List (Int × ByteArray)} {x : Int × ByteArray} (h : pre ++ x :: r = items s) : x ∈ items s := by
 rw [← h]; simp
theorem mapSnoc {s : ByteArray} (pre : List (ItemOf s)) (x : ItemOf s) : (pre ++ [x]).map Subtype.val = pre.map Subtype.val ++ [x.1] := by simp
def Kpt (Bn : Nat) (W W' : World) : Prop := KeepsWalks W W' ∧ ∀ v, W.cell? ⟨Bn, 0, none⟩ = some v → W'.cell? ⟨Bn, 0, none⟩ = some v
theorem Kpt.t {Bn : Nat} {A B C : World} (h : Kpt Bn A B) (k : Kpt Bn B C) : Kpt Bn A C := ⟨h.1.trans k.1, fun v hv => k.2 v (h.2 v hv)⟩
theorem Kpt.b {Bn : Nat} {w : World} (W : World) (l : Nat) (o o' : Obj) (_ : w.heap.size ≤ l) (h : W.heap[l]? = some o) (hc : o.isCells = false) (hw : o.isWalk = false) : Kpt Bn W (W.putObj l o') :=
 ⟨KeepsWalks.putObj _ h hw, fun _ hv => cell_kept hv (grownBy_putObj' _ l o') (fun r e => by cases e; exact ⟨_, h, hc⟩)⟩
theorem cellOn {W : World} {a : Addr} {v : Value} (o : Obj) (h : W.cell? a = some v) : (W.alloc o).cell? a = some v := cell_kept h (World.grownBy_alloc W o none) (fun r e => by cases e)
theorem frozenOn {W : World} {a : Addr} {v : Value} (o : Obj) (h : W.cell? a = some v) (hf : W.frozen? a = false) : (W.alloc o).frozen? a = false := (frozen_kept h (World.grownBy_alloc W o none) (fun r e => by cases e)).trans hf
theorem iterAt_put (W : World) (k : Nat) (s : ByteArray) (p : Nat) : W.iterAt k s p = W.putObj k (.stringIter s p) := rfl
set_option maxHeartbeats 1000000 in
set_option maxRecDepth 100000 in
theorem names_stopsI (F : Fence) (n : Nat) (h37 : F.fn 84) (hro : F.round = none) (hn : 1 ≤ n) (Bn : Nat) (s : ByteArray) (hs : s.size ≤ 4611686018427387904) (w : World) (hBn : Bn < w.heap.size)
  (hb : w.cell? ⟨Bn, 0, none⟩ = some (.string s)) :
  SeqStopsK F n Tryz.prog 84 #[.pointer (some ⟨Bn, 0, none⟩)] (encsI (s := s)) (Kpt Bn) (fun xs => xs.map Subtype.val = items s) (fun pre => pre.map Subtype.val <+: items s) (s.size + 1) w := fun l J Jx W hW hJ hJx hY h0 => by
 have hbW : W.cell? ⟨Bn, 0, none⟩ = some (.string s) := (hW.cell (p := ⟨Bn, 0, none⟩) hBn).trans hb; have hszW := hW.size; clear hb hW; refine callsIn_of_wp Tryz.func84 rfl h37 ?_ hro; simp only [Tryz.ntmps84, List.size_toArray, List.length_cons, List.length_nil, Nat.reduceAdd, Nat.reduceSub, Array.replicate_succ, Array.replicate_zero, List.push_toArray, List.append_toArray, List.nil_append, List.cons_append]; have HY := hid hY; have HJ := hid hJ; clear hY hJ hJx
 gi_wp2
 gi_loopg [3] s.size (fun gf st wx => ∃ (pos : Nat) (k : Int) (pre : List (ItemOf s)), st = .int .i64 k ∧ wx.heap[W.heap.size]? = some (.stringIter s pos) ∧ wx.cell? ⟨Bn, 0, none⟩ = some (.string s) ∧
  pos ≤ s.size ∧ -1 ≤ k ∧ k < pos ∧ s.size ≤ pos + gf ∧ pre.length ≤ pos ∧ J pre wx ∧ Hid (pre.map Subtype.val ++ itemsAt s pos k = items s))
 case atStart =>
  exact ⟨0, -1, [], rfl, World.iter_heap W s 0, cellOn _ hbW, Nat.zero_le _, by omega, by omega, by omega, Nat.le_refl _, HJ.out [] W _ none h0 (World.grownBy_alloc W _ none) (fun r e => by cases e), rfl⟩
 case round =>
  obtain ⟨pos, k, pre, rfl, hit, hbox, hle, hk1, hk2, hfu, hpl, hJs, HI⟩ := hrel; by_cases hps : pos < s.size
  ·
   obtain ⟨g', rfl⟩ : ∃ g', gk = g' + 1 := ⟨gk - 1, by omega⟩
   have hnx : ∀ ty, (Instr.next (.pointer (some ⟨W.heap.size, 0, none⟩)) true ty).run Tryz.prog wr = _ := fun ty => Lib.run_next_any_at wr W.heap.size s pos ty hit hps; have hend := rune_end s pos hps; have HS := hid (rune_stroke s pos k hps); have HO := hid (rune_other s pos k hps); obtain ⟨R, hR⟩ : ∃ R, (Utf8.decode s pos).1 = R := ⟨_, rfl⟩
   obtain ⟨K, hK⟩ : ∃ K, (Utf8.decode s pos).2 = K := ⟨_, rfl⟩
   rw [hR, hK] at hnx HS HO; rw [hK] at hend; have hit2 := Lib.iterAt_heap wr W.heap.size s pos (pos + K) hit; have hg := grownBy_putObj' wr W.heap.size (.stringIter s (pos + K)); rw [← iterAt_put] at hg; have hbox2 := cell_kept hbox hg (fun r e => by cases e; exact ⟨_, hit, rfl⟩); have hJ2 := HJ.out pre wr _ _ hJs hg (fun r e => by cases e; exact ⟨Nat.le_refl _, _, hit, rfl⟩); obtain ⟨W2, hWd⟩ : ∃ W2, wr.iterAt W.heap.size s (pos + K) = W2 := ⟨_, rfl⟩
   rw [hWd] at hnx hit2 hbox2 hJ2; clear hR hK hWd hit hbox hJs hg; by_cases h47 : R = 47
   ·
    obtain ⟨rfl, hst⟩ := HS.out h47; subst h47; by_cases hp0 : 0 < pos
    ·
     have hin : (k, s.extract (k + 1).toNat pos) ∈ items s := by
      have := HI.out; rw [hst, if_pos hp0] at this; exact inItems this
     obtain ⟨fn, tmps, assign, body, hy, hR⟩ := HY.out pre ⟨(k, s.extract (k + 1).toNat pos), hin⟩ W2 hJ2 (by omega); dsimp only [encsI] at hy; have HST := hid hst; clear hst
     gi_wp2
     refine hR.mono ?_; rintro e W3 (⟨rfl, hJ3, hk3⟩ | ⟨rfl, hJx3⟩)
     ·
      have hit3 := hk3.1.same _ _ hit2 rfl; have hbox3 := hk3.2 _ hbox2
      have HI3 : Hid ((pre ++ [(⟨(k, s.extract (k + 1).toNat pos), hin⟩ : ItemOf s)]).map Subtype.val ++ itemsAt s (pos + 1) pos = items s) := by
       show _ = _
       refine Eq.trans ?_ HI.out; rw [mapSnoc, HST.out, if_pos hp0, List.append_assoc]
      clear HI HST hk3 hit2 hbox2 hJ2 HO
      gi_wp2
      gi_roundg g'
      case measure => omega
      case rel => exact ⟨pos + 1, pos, _, rfl, hit3, hbox3, by omega, by omega, by omega, by omega, by rw [List.length_append, List.length_singleton]; omega, hJ3, HI3⟩
     ·
      gi_wp2
      refine bodyPost_ret (results_none rfl _ _ _) rfl ?_; exact ⟨⟨_, rfl⟩, .inr ⟨_, ⟨_, by refine Eq.trans ?_ HI.out; rw [mapSnoc, HST.out, if_pos hp0, List.append_assoc]⟩, hJx3⟩⟩
    ·
     obtain rfl : pos = 0 := by omega
     have HI3 : Hid (pre.map Subtype.val ++ itemsAt s (0 + 1) 0 = items s) := by
      show _ = _
      refine Eq.trans ?_ HI.out; rw [hst, if_neg hp0, List.nil_append]; rfl
     clear HI hst HO
     gi_wp2
     refine ⟨fun _ h => (by cases h), ?_⟩
     gi_wp2
     gi_roundg g'
     case measure => omega
     case rel => exact ⟨0 + 1, 0, pre, rfl, hit2, hbox2, by omega, by omega, by omega, by omega, by omega, hJ2, HI3⟩
   ·
    have HI3 : Hid (pre.map Subtype.val ++ itemsAt s (pos + K) k = items s) := by
     show _ = _
     refine Eq.trans ?_ HI.out; rw [HO.out h47]
    have h47' : ((R : Int) == 47) = false := by
     rw [beq_eq_false_iff_ne]; omega
    clear HI HO HS
    gi_wp2
    gi_roundg g'
    case measure => omega
    case rel => exact ⟨pos + K, k, pre, rfl, hit2, hbox2, by omega, by omega, by omega, by omega, by omega, hJ2, HI3⟩
  ·
   have hnx : ∀ ty, (Instr.next (.pointer (some ⟨W.heap.size, 0, none⟩)) true ty).run Tryz.prog wr = _ := fun ty => Lib.run_next_end_at wr W.heap.size s pos ty hit hps
   have hin : (k, s.extract (k + 1).toNat s.size) ∈ items s := by
    have := HI.out; rw [itemsAt_end s pos k hps] at this; exact inItems this
   have HI3 : Hid ((pre ++ [(⟨(k, s.extract (k + 1).toNat s.size), hin⟩ : ItemOf s)]).map Subtype.val = items s) := by
    show _ = _
    refine Eq.trans ?_ HI.out; rw [mapSnoc, itemsAt_end s pos k hps]
   clear HI; obtain ⟨fn, tmps, assign, body, hy, hR⟩ := HY.out pre ⟨(k, s.extract (k + 1).toNat s.size), hin⟩ wr hJs (by omega); dsimp only [encsI] at hy
   gi_wp2
   refine hR.mono ?_; rintro e W3 (⟨rfl, hJ3, hk3⟩ | ⟨rfl, hJx3⟩)
   ·
    gi_wp2
    go_end0
    exact ⟨⟨_, rfl⟩, .inl ⟨_, HI3.out, hJ3⟩⟩
   ·
    gi_wp2
    go_end0
    exact ⟨⟨_, rfl⟩, .inr ⟨_, ⟨[], by rw [List.append_nil]; exact HI3.out⟩, hJx3⟩⟩
theorem names_stops (F : Fence) (n : Nat) (h37 : F.fn 84) (hro : F.round = none) (hn : 1 ≤ n) (Bn : Nat) (s : ByteArray) (hs : s.size ≤ 4611686018427387904) (w : World) (hBn : Bn < w.heap.size)
  (hb : w.cell? ⟨Bn, 0, none⟩ = some (.string s)) :
  SeqStopsK F n Tryz.prog 84 #[.pointer (some ⟨Bn, 0, none⟩)] encs (Kpt Bn) (fun xs => xs = items s) (fun pre => pre <+: items s) (s.size + 1) w := fun l J Jx W hW hJ hJx hY h0 =>
 (names_stopsI F n h37 hro hn Bn s hs w hBn hb l (fun pre => J (pre.map Subtype.val)) (fun pre => Jx (pre.map Subtype.val)) W hW (fun _ => hJ _) (fun _ => hJx _)
  (fun pre x W h1 h2 => by
   have := hY (pre.map Subtype.val) x.1 W h1 (by rw [List.length_map]; exact h2); rw [← mapSnoc] at this
   exact this) h0).mono fun e w' ⟨h1, h2⟩ => ⟨h1, h2.imp (fun ⟨xs, h3, h4⟩ => ⟨_, h3, h4⟩) (fun ⟨xs, h3, h4⟩ => ⟨_, h3, h4⟩)⟩
end Go.Proofs.YtafeddiijemnbaaGreatDoor
namespace Go.Proofs.YtafeddiijemnbaaGreatDoor
open Go.RowKit Go.Shelf Go.Lib
attribute [local go_sem] Oper.semAt_some
theorem cellNew (W : World) (v : Value) (t : TypeId) : (W.alloc (.cells #[v] t)).cell? ⟨W.heap.size, 0, none⟩ = some v := by simp
theorem frozenNew (W : World) (v : Value) (t : TypeId) : (W.alloc (.cells #[v] t)).frozen? ⟨W.heap.size, 0, none⟩ = false := by simp
theorem keeps_of_below {W W' : World} (hb : Below W.heap.size W W') : KeepsOthers W W' :=
 ⟨hb.size, fun k _ hk _ => (hb.block k (Array.getElem?_eq_some_iff.1 hk).1).trans hk⟩
theorem cell_lt {W : World} {b o : Nat} {v : Value} (h : W.cell? ⟨b, o, none⟩ = some v) : b < W.heap.size := World.block_lt_of_cell? W ⟨b, o, none⟩ h
theorem below_cell {W W' : World} (hb : Below W.heap.size W W') {b o : Nat} {v : Value} (h : W.cell? ⟨b, o, none⟩ = some v) : W'.cell? ⟨b, o, none⟩ = some v :=
 (hb.cell (p := ⟨b, o, none⟩) (cell_lt h)).trans h
theorem below_frozen {W W' : World} (hb : Below W.heap.size W W') {b o : Nat} {v : Value} (h : W.cell? ⟨b, o, none⟩ = some v) (hf : W.frozen? ⟨b, o, none⟩ = false) : W'.frozen? ⟨b, o, none⟩ = false :=
 (hb.frozen (p := ⟨b, o, none⟩) (cell_lt h)).trans hf
theorem kpt_of_below {W W' : World} (hb : Below W.heap.size W W') (Bn : Nat) : Kpt Bn W W' := ⟨(keeps_of_below hb).walks, fun _ hv => below_cell hb hv⟩
theorem kpt_setCell (W : World) (a : Addr) (v : Value) (Bn : Nat) (h : a.block ≠ Bn) : Kpt Bn W (W.setCell a v) :=
 ⟨(KeepsOthers.setCell W a v).walks, fun _ hv => (World.cell?_of_block (Below.heap_setCell W a v Bn (fun e => h e.symm))).trans hv⟩
theorem cell_other (W : World) (a : Addr) (v : Value) (b o : Nat) (h : b ≠ a.block) : (W.setCell a v).cell? ⟨b, o, none⟩ = W.cell? ⟨b, o, none⟩ := World.cell?_of_block (Below.heap_setCell W a v b h)
theorem names_in (F : Fence) (n : Nat) (h34 : F.fn 73) (hro : F.round = none) (s : ByteArray) (w : World) :
  CallsIn F n Tryz.prog 73 #[.string s] w fun e w' => e = .returned (.func (.func 84) #[] #[.pointer (some ⟨w.heap.size, 0, none⟩)]) ∧ w' = w.alloc (.cells #[.string s] 109) := by
 refine callsIn_of_wp Tryz.func73 rfl h34 ?_ hro; simp only [Tryz.ntmps73, List.size_toArray, List.length_cons, List.length_nil, Nat.reduceAdd, Nat.reduceSub, Array.replicate_succ, Array.replicate_zero, List.push_toArray, List.append_toArray, List.nil_append, List.cons_append]
 gi_wp2
 go_ret
 exact ⟨rfl, rfl⟩
set_option maxHeartbeats 1000000 in
set_option maxRecDepth 100000 in
theorem ok_any (s : ByteArray) (hs : s.size ≤ 4611686018427387904) (w : World) :
  Calls Tryz.prog 70 #[.string s] w fun e w' => e = .returned (.bool (pathB s)) ∧ Below w.heap.size w w' := by
 refine (callsIn_wide (n := 3)).1 ?_; refine callsIn_of_wp_marks Tryz.func70 rfl trivial ?_ rfl; simp only [Tryz.ntmps70, List.size_toArray, List.length_cons, List.length_nil, Nat.reduceAdd, Nat.reduceSub, Array.replicate_succ, Array.replicate_zero, List.push_toArray, List.append_toArray, List.nil_append, List.cons_append]
 gi_wp2_with (refine ⟨trivial, ?_⟩; gi_at_call 73; refine (names_in Fence.wide _ trivial rfl _ _).mono ?_; rintro e w' ⟨rfl, rfl⟩)
 have c0 := cellNew w (.bool false) 4; have f0 := frozenNew w (.bool false) 4; have c1 := cellNew (w.alloc (.cells #[.bool false] 4)) (.int .i64 0) 3; have f1 := frozenNew (w.alloc (.cells #[.bool false] 4)) (.int .i64 0) 3; have c2 := cellNew ((w.alloc (.cells #[.bool false] 4)).alloc (.cells #[.int .i64 0] 3)) (.string s) 109; simp only [World.size_alloc] at c1 f1 c2; have hB0 : Below w.heap.size w (((w.alloc (.cells #[.bool false] 4)).alloc (.cells #[.int .i64 0] 3)).alloc (.cells #[.string s] 109)) := (((Below.refl _ w).alloc (Nat.le_refl _) _).alloc (by simp) _).alloc (by simp; omega) _
 refine wpIn_rangeFunc_ownF rfl (by omega) (gf := 84) (lb := #[.pointer (some ⟨w.heap.size + 1 + 1, 0, none⟩)]) rfl trivial (enters_of Tryz.func84 (by kernel_rfl) rfl)
  (names_stops Fence.wide _ trivial rfl (by omega) (w.heap.size + 1 + 1) s hs _ (by simp) c2) Kpt.t Kpt.b (Below.refl _ _) (fun _ => rfl)
  (fun pre W => (W.cell? ⟨w.heap.size, 0, none⟩ = some (.bool false) ∧ W.frozen? ⟨w.heap.size, 0, none⟩ = false ∧ W.cell? ⟨w.heap.size + 1, 0, none⟩ = some (.int .i64 pre.length) ∧ W.frozen? ⟨w.heap.size + 1, 0, none⟩ = false ∧
   Hid (pre.all okItem = true) ∧ pre.length ≤ 3) ∧ Below w.heap.size w W)
  (fun c pre W => (c = .ret ∧ Hid (okItems pre = false) ∧ W.cell? ⟨w.heap.size, 0, none⟩ = some (.bool false)) ∧ Below w.heap.size w W)
  (OwnFrom.and (Own.from (fun s A B row hs hg hr => ⟨cell_kept hs.1 hg hr, (frozen_kept hs.1 hg hr).trans hs.2.1, cell_kept hs.2.2.1 hg hr, (frozen_kept hs.2.2.1 hg hr).trans hs.2.2.2.1, hs.2.2.2.2⟩) _) (ownFrom_below (Nat.le_refl _) (by simp; omega)))
  (fun c => OwnFrom.and (Own.from (fun s A B row hs hg hr => ⟨hs.1, hs.2.1, cell_kept hs.2.2 hg hr⟩) _) (ownFrom_below (Nat.le_refl _) (by simp; omega)))
  ⟨⟨cellOn _ (cellOn _ c0), frozenOn _ (cellOn _ c0) (frozenOn _ c0 f0), cellOn _ c1, frozenOn _ c1 f1, rfl, by simp⟩, hB0⟩
  (fun x => { tmps := #[.string s, undef, .pointer (some ⟨w.heap.size, 0, none⟩), .pointer (some ⟨w.heap.size + 1, 0, none⟩), .int .i64 x.1, .string x.2, .string s, .func (.func 84) #[] #[.pointer (some ⟨w.heap.size + 1 + 1, 0, none⟩)], .int .i64 x.1, .string x.2, undef, undef, undef, undef, undef, undef, undef, undef, undef, undef, undef, undef, undef], defers := [] }) ?assign ?body ?done ?stop
 case assign =>
  intro l x W K hK
  gi_wp2
  exact hK
 case body =>
  rintro l pre ⟨k, nm⟩ W ⟨⟨hr, hfr, hl, hfl, HA, hlen⟩, hB⟩ _; have hr1 : (W.setCell ⟨w.heap.size + 1, 0, none⟩ (.int .i64 ((pre.length : Int) + 1))).cell? ⟨w.heap.size, 0, none⟩ = some (.bool false) := (cell_other W _ _ _ 0 (by simp)).trans hr; have hl1 : (W.setCell ⟨w.heap.size + 1, 0, none⟩ (.int .i64 ((pre.length : Int) + 1))).cell? ⟨w.heap.size + 1, 0, none⟩ = some (.int .i64 ((pre.length : Int) + 1)) := World.cell?_setCell_same' _ _ _ (by rw [hl]; rfl); have hB1 := hB.setCell (p := ⟨w.heap.size + 1, 0, none⟩) (by simp) (.int .i64 ((pre.length : Int) + 1)); have hk1 := kpt_setCell W ⟨w.heap.size + 1, 0, none⟩ (.int .i64 ((pre.length : Int) + 1)) (w.heap.size + 1 + 1) (by simp); by_cases hk : k < 0
  ·
   have hbad : Hid (okItems (pre ++ [(k, nm)]) = false) := okItems_bad (okItem_low hk)
   gi_wp2
   refine ⟨trivial, ?_⟩
   gi_wp2
   exact ⟨(KeepsOthers.setCell _ _ _).trans (KeepsOthers.setCell _ _ _), ⟨rfl, hbad, World.cell?_setCell_same' _ _ _ (by rw [hr1]; rfl)⟩, hB1.setCell (p := ⟨w.heap.size, 0, none⟩) (Nat.le_refl _) _⟩
  ·
   by_cases h3 : pre.length < 3
   ·
    cases hnm : nameB nm with
    | true =>
     have hgood : Hid ((pre ++ [(k, nm)]).all okItem = true) := all_snoc HA.out (okItem_yes hk hnm)
     gi_wp2_with (refine ⟨trivial, ?_⟩; gi_at_call 83; refine (CallsIn.inRound l (callsIn_wide.2 (nameOk_any _ _))).mono ?_; rintro e W2 ⟨rfl, hb2⟩)
     exact ⟨(KeepsOthers.setCell _ _ _).trans (keeps_of_below hb2), hk1.t (kpt_of_below hb2 _),
      ⟨below_cell hb2 hr1, below_frozen hb2 hr1 (by rw [World.frozen?_setCell]; exact hfr), (below_cell hb2 hl1).trans (by simp), below_frozen hb2 hl1 (by rw [World.frozen?_setCell]; exact hfl), hgood, by simp; omega⟩, hB1.trans (hb2.mono hB1.size)⟩
    | false =>
     have hbad : Hid (okItems (pre ++ [(k, nm)]) = false) := okItems_bad (okItem_not hnm)
     gi_wp2_with (refine ⟨trivial, ?_⟩; gi_at_call 83; refine (CallsIn.inRound l (callsIn_wide.2 (nameOk_any _ _))).mono ?_; rintro e W2 ⟨rfl, hb2⟩; have hr2 := below_cell hb2 hr1; have hf2 := below_frozen hb2 hr1 (by rw [World.frozen?_setCell]; exact hfr))
     exact ⟨((KeepsOthers.setCell _ _ _).trans (keeps_of_below hb2)).trans (KeepsOthers.setCell _ _ _), ⟨rfl, hbad, World.cell?_setCell_same' _ _ _ (by rw [hr2]; rfl)⟩, (hB1.trans (hb2.mono hB1.size)).setCell (p := ⟨w.heap.size, 0, none⟩) (Nat.le_refl _) _⟩
   ·
    have hbad : Hid (okItems (pre ++ [(k, nm)]) = false) := okItems_many h3
    gi_wp2
    refine ⟨trivial, ?_⟩
    gi_wp2
    exact ⟨(KeepsOthers.setCell _ _ _).trans (KeepsOthers.setCell _ _ _), ⟨rfl, hbad, World.cell?_setCell_same' _ _ _ (by rw [hr1]; rfl)⟩, hB1.setCell (p := ⟨w.heap.size, 0, none⟩) (Nat.le_refl _) _⟩
 case done =>
  rintro D ys W hD rfl ⟨⟨hr, hfr, _, _, HA, hlen⟩, hB⟩ hK
  gi_wp2
  have hK' := (KeepsOthers.setCell W ⟨w.heap.size, 0, none⟩ (.bool true)).same D _ hK rfl; refine ⟨by simp, .inl ⟨_, _, rfl, run_takeDeferred hK', ?_⟩⟩; have hc5 := cell_kept (World.cell?_setCell_same' W ⟨w.heap.size, 0, none⟩ (.bool true) (by rw [hr]; rfl)) (grownBy_putObj' _ D (.deferred none)) (fun r e => by cases e; exact ⟨_, hK', rfl⟩); refine ⟨.bool true, ?_, ret_bool (pathB_yes HA.out hlen), (hB.setCell (p := ⟨w.heap.size, 0, none⟩) (Nat.le_refl _) _).trans (belowK_b (w := w) (Nat.le_refl _) _ D _ _ (by simp at hD; omega) hK' rfl rfl)⟩; simp [results, Tryz.f70, go_sem, hc5]
 case stop =>
  rintro D c pre W hD hpre ⟨⟨rfl, HB, hr⟩, hB⟩ hK
  gi_wp2
  refine ⟨by simp, .inl ⟨_, _, rfl, run_takeDeferred hK, ?_⟩⟩; have hc5 := cell_kept hr (grownBy_putObj' _ D (.deferred none)) (fun r e => by cases e; exact ⟨_, hK, rfl⟩); refine ⟨.bool false, ?_, ret_bool (pathB_no hpre HB.out), hB.trans (belowK_b (w := w) (Nat.le_refl _) W D _ _ (by simp at hD; omega) hK rfl rfl)⟩; simp [results, Tryz.f70, go_sem, hc5]
end Go.Proofs.YtafeddiijemnbaaGreatDoor
namespace Go.Proofs.YtafeddiijemnbaaGreatDoor
open Go.RowKit Go.Shelf Go.Lib
theorem pOk_any (s : ByteArray) (hs : s.size ≤ 16777216) (w : World) :
  Calls Tryz.prog 42 #[.string s] w fun e w' => e = .returned (.bool (pathB s)) ∧ Below w.heap.size w w' := by
 go_enter Tryz.func42, Tryz.ntmps42
 go_wp2_with (go_at_call 70; refine (ok_any _ (by omega) _).mono ?_; rintro e w1 ⟨rfl, hB1⟩)
 go_ret
 exact ⟨rfl, hB1⟩
attribute [local go_sem] Oper.semAt_some
abbrev opV (k : Int) (p t x : ByteArray) : Value := .agg #[.int .i64 k, .string p, .string t, .string x]
def deedT (k : Int) : TypeId := if k = 1 then 98 else if k = 2 then 99 else if k = 3 then 100 else if k = 4 then 101 else if k = 5 then 102 else 103
set_option maxHeartbeats 1000000 in
theorem deedOf_any (k : Int) (p t x : ByteArray) (w : World) :
  Calls Tryz.prog 33 #[opV k p t x] w fun r w' => r = .returned (.iface (deedT k) (opV k p t x)) ∧ Below w.heap.size w w' := by
 have hB : Below w.heap.size w (w.alloc (.cells #[.int .i64 k, .string p, .string t, .string x] 25)) := (Below.refl _ w).alloc (Nat.le_refl _) _; unfold deedT; by_cases h1 : k = 1
 ·
  subst h1; go_enter Tryz.func33, Tryz.ntmps33
  go_wp2
  go_ret
  exact ⟨rfl, hB⟩
 ·
  rw [if_neg h1]; have h1' : (k == 1) = false := by simpa using h1
  by_cases h2 : k = 2
  ·
   subst h2; go_enter Tryz.func33, Tryz.ntmps33
   go_wp2
   go_ret
   exact ⟨rfl, hB⟩
  ·
   rw [if_neg h2]; have h2' : (k == 2) = false := by simpa using h2
   by_cases h3 : k = 3
   ·
    subst h3; go_enter Tryz.func33, Tryz.ntmps33
    go_wp2
    go_ret
    exact ⟨rfl, hB⟩
   ·
    rw [if_neg h3]; have h3' : (k == 3) = false := by simpa using h3
    by_cases h4 : k = 4
    ·
     subst h4; go_enter Tryz.func33, Tryz.ntmps33
     go_wp2
     go_ret
     exact ⟨rfl, hB⟩
    ·
     rw [if_neg h4]; have h4' : (k == 4) = false := by simpa using h4
     by_cases h5 : k = 5
     ·
      subst h5; go_enter Tryz.func33, Tryz.ntmps33
      go_wp2
      go_ret
      exact ⟨rfl, hB⟩
     ·
      rw [if_neg h5]; have h5' : (k == 5) = false := by simpa using h5
      go_enter Tryz.func33, Tryz.ntmps33
      go_wp2
      go_ret
      exact ⟨rfl, hB⟩
theorem box4i {w w' : World} {a b c d : Value} {T : TypeId} (h : Below (w.alloc (.cells #[a, b, c, d] T)).heap.size (w.alloc (.cells #[a, b, c, d] T)) w') :
  w'.cell? ⟨w.heap.size, 0, none⟩ = some a ∧ w'.cell? ⟨w.heap.size, 1, none⟩ = some b ∧ w'.cell? ⟨w.heap.size, 2, none⟩ = some c ∧ w'.cell? ⟨w.heap.size, 3, none⟩ = some d := by
 have lt : w.heap.size < (w.alloc (.cells #[a, b, c, d] T)).heap.size := by simp
 refine ⟨(h.cell (p := ⟨w.heap.size, 0, none⟩) lt).trans ?_, (h.cell (p := ⟨w.heap.size, 1, none⟩) lt).trans ?_, (h.cell (p := ⟨w.heap.size, 2, none⟩) lt).trans ?_, (h.cell (p := ⟨w.heap.size, 3, none⟩) lt).trans ?_⟩ <;> simp
def emB (s : ByteArray) : Bool := s.toList.isEmpty
theorem emB_beq (s : ByteArray) : (s.toList == []) = emB s := by unfold emB; cases s.toList <;> rfl
theorem emB_yes {s : ByteArray} (h : emB s = true) : s.toList = [] := by unfold emB at h; simpa using h
theorem emB_no {s : ByteArray} (h : emB s = false) : ¬ s.toList = [] := by unfold emB at h; simpa using h
theorem emB_is {s : ByteArray} {b : Bool} (h : emB s = b) : (s.toList == []) = b := (emB_beq s).trans h
set_option maxHeartbeats 1000000 in
theorem makeFits_any (k : Int) (p t x : ByteArray) (w : World) :
  Calls Tryz.prog 132 #[opV k p t x] w fun r w' => r = .returned (.bool (emB t && emB x)) ∧ Below w.heap.size w w' := by
 have hB : Below w.heap.size w (w.alloc (.cells #[.int .i64 k, .string p, .string t, .string x] 98)) := (Below.refl _ w).alloc (Nat.le_refl _) _; cases ht : emB t with
 | false =>
  have h1 := emB_no ht; have h2 := emB_is ht; go_enter Tryz.func132, Tryz.ntmps132
  go_wp2
  go_ret
  exact ⟨rfl, hB⟩
 | true =>
  have h1 := emB_yes ht; have h2 := emB_is ht; have h3 := emB_beq x; go_enter Tryz.func132, Tryz.ntmps132
  go_wp2
  go_ret
  exact ⟨rfl, hB⟩
set_option maxHeartbeats 1000000 in
theorem rmFits_any (k : Int) (p t x : ByteArray) (w : World) :
  Calls Tryz.prog 137 #[opV k p t x] w fun r w' => r = .returned (.bool (emB t && emB x)) ∧ Below w.heap.size w w' := by
 have hB : Below w.heap.size w (w.alloc (.cells #[.int .i64 k, .string p, .string t, .string x] 100)) := (Below.refl _ w).alloc (Nat.le_refl _) _; cases ht : emB t with
 | false =>
  have h1 := emB_no ht; have h2 := emB_is ht; go_enter Tryz.func137, Tryz.ntmps137
  go_wp2
  go_ret
  exact ⟨rfl, hB⟩
 | true =>
  have h1 := emB_yes ht; have h2 := emB_is ht; have h3 := emB_beq x; go_enter Tryz.func137, Tryz.ntmps137
  go_wp2
  go_ret
  exact ⟨rfl, hB⟩
set_option maxHeartbeats 1000000 in
theorem rmdirFits_any (k : Int) (p t x : ByteArray) (w : World) :
  Calls Tryz.prog 139 #[opV k p t x] w fun r w' => r = .returned (.bool (emB t && emB x)) ∧ Below w.heap.size w w' := by
 have hB : Below w.heap.size w (w.alloc (.cells #[.int .i64 k, .string p, .string t, .string x] 101)) := (Below.refl _ w).alloc (Nat.le_refl _) _; cases ht : emB t with
 | false =>
  have h1 := emB_no ht; have h2 := emB_is ht; go_enter Tryz.func139, Tryz.ntmps139
  go_wp2
  go_ret
  exact ⟨rfl, hB⟩
 | true =>
  have h1 := emB_yes ht; have h2 := emB_is ht; have h3 := emB_beq x; go_enter Tryz.func139, Tryz.ntmps139
  go_wp2
  go_ret
  exact ⟨rfl, hB⟩
set_option maxHeartbeats 1000000 in
theorem putFits_any (k : Int) (p t x : ByteArray) (w : World) :
  Calls Tryz.prog 135 #[opV k p t x] w fun r w' => r = .returned (.bool (emB t && dataB x)) ∧ Below w.heap.size w w' := by
 have hB : Below w.heap.size w (w.alloc (.cells #[.int .i64 k, .string p, .string t, .string x] 99)) := (Below.refl _ w).alloc (Nat.le_refl _) _; cases ht : emB t with
 | false =>
  have h1 := emB_no ht; have h2 := emB_is ht; go_enter Tryz.func135, Tryz.ntmps135
  go_wp2
  go_ret
  exact ⟨rfl, hB⟩
 | true =>
  have h1 := emB_yes ht; have h2 := emB_is ht; go_enter Tryz.func135, Tryz.ntmps135
  go_wp2_with (go_at_call 43; refine (dataOk_any _ _).mono ?_; rintro e w1 ⟨rfl, hB1⟩)
  go_ret
  exact ⟨rfl, hB.trans (hB1.mono (by simp))⟩
set_option maxHeartbeats 1000000 in
theorem moveFits_any (k : Int) (p t x : ByteArray) (hz : t.size ≤ 16777216) (w : World) :
  Calls Tryz.prog 141 #[opV k p t x] w fun r w' => r = .returned (.bool (pathB t && emB x)) ∧ Below w.heap.size w w' := by
 have hB : Below w.heap.size w (w.alloc (.cells #[.int .i64 k, .string p, .string t, .string x] 102)) := (Below.refl _ w).alloc (Nat.le_refl _) _; have h3 := emB_beq x; have HP : Hid (∀ W, Calls Tryz.prog 42 #[.string t] W fun r w' => r = .returned (.bool (pathB t)) ∧ Below W.heap.size W w') := fun W => pOk_any t hz W; cases ht : pathB t with
 | false =>
  rw [ht] at HP; go_enter Tryz.func141, Tryz.ntmps141
  go_wp2_with (go_at_call 42; refine (HP.out _).mono ?_; rintro e w1 ⟨rfl, hB1⟩; obtain ⟨c0, c1, c2, c3⟩ := box4i hB1)
  go_ret
  exact ⟨rfl, hB.trans (hB1.mono (by simp))⟩
 | true =>
  rw [ht] at HP; go_enter Tryz.func141, Tryz.ntmps141
  go_wp2_with (go_at_call 42; refine (HP.out _).mono ?_; rintro e w1 ⟨rfl, hB1⟩; obtain ⟨c0, c1, c2, c3⟩ := box4i hB1)
  go_ret
  exact ⟨rfl, hB.trans (hB1.mono (by simp))⟩
theorem otherFits_any (k : Int) (p t x : ByteArray) (w : World) :
  Calls Tryz.prog 148 #[opV k p t x] w fun r w' => r = .returned (.bool false) ∧ Below w.heap.size w w' := by
 go_enter Tryz.func148, Tryz.ntmps148
 go_wp2
 go_ret
 exact ⟨rfl, (Below.refl _ w).alloc (Nat.le_refl _) _⟩
def fitB (k : Int) (t x : ByteArray) : Bool := if k = 1 then emB t && emB x else if k = 2 then emB t && dataB x else if k = 3 then emB t && emB x else if k = 4 then emB t && emB x else if k = 5 then pathB t && emB x else false
set_option maxHeartbeats 2000000 in
theorem iOpOk_any (w : World) (k : Int) (p t x : ByteArray) (hp : p.size ≤ 16777216) (hz : t.size ≤ 16777216) :
  Calls Tryz.prog 32 #[opV k p t x] w fun r w' => r = .returned (.bool (pathB p && fitB k t x)) ∧ Below w.heap.size w w' := by
 have hB : Below w.heap.size w (w.alloc (.cells #[.int .i64 k, .string p, .string t, .string x] 25)) := (Below.refl _ w).alloc (Nat.le_refl _) _; have HP : Hid (∀ W, Calls Tryz.prog 42 #[.string p] W fun r w' => r = .returned (.bool (pathB p)) ∧ Below W.heap.size W w') := fun W => pOk_any p hp W; have HD : Hid (∀ W, Calls Tryz.prog 33 #[opV k p t x] W fun r w' => r = .returned (.iface (deedT k) (opV k p t x)) ∧ Below W.heap.size W w') := fun W => deedOf_any k p t x W; cases fp : pathB p with
 | false =>
  rw [fp] at HP; go_enter Tryz.func32, Tryz.ntmps32
  go_wp2_with (go_at_call 42; refine (HP.out _).mono ?_; rintro e w1 ⟨rfl, hB1⟩; obtain ⟨c0, c1, c2, c3⟩ := box4i hB1)
  go_ret
  exact ⟨rfl, hB.trans (hB1.mono (by simp))⟩
 | true =>
  rw [fp] at HP; unfold deedT at HD; unfold fitB; by_cases h1 : k = 1
  ·
   subst h1; have hm : ∀ W, (method 306 98 (opV 1 p t x) "loop.example/pargeting/impl.fits").run Tryz.prog W = .ok (132, opV 1 p t x) W := fun _ => by kernel_rfl
   go_enter Tryz.func32, Tryz.ntmps32
   go_wp2_with (first | (go_at_call 42; refine (HP.out _).mono ?_; rintro e w1 ⟨rfl, hB1⟩; obtain ⟨c0, c1, c2, c3⟩ := box4i hB1) | (go_at_call 33; refine (HD.out _).mono ?_; rintro e w2 ⟨rfl, hB2⟩) | (go_at_call 132; refine (makeFits_any _ _ _ _ _).mono ?_; rintro e w3 ⟨rfl, hB3⟩))
   go_ret
   exact ⟨rfl, ((hB.trans (hB1.mono (by simp))).trans (hB2.mono (Nat.le_trans (by simp) hB1.size))).trans (hB3.mono (Nat.le_trans (Nat.le_trans (by simp) hB1.size) hB2.size))⟩
  ·
   rw [if_neg h1] at HD ⊢; by_cases h2 : k = 2
   ·
    subst h2; have hm : ∀ W, (method 306 99 (opV 2 p t x) "loop.example/pargeting/impl.fits").run Tryz.prog W = .ok (135, opV 2 p t x) W := fun _ => by kernel_rfl
    go_enter Tryz.func32, Tryz.ntmps32
    go_wp2_with (first | (go_at_call 42; refine (HP.out _).mono ?_; rintro e w1 ⟨rfl, hB1⟩; obtain ⟨c0, c1, c2, c3⟩ := box4i hB1) | (go_at_call 33; refine (HD.out _).mono ?_; rintro e w2 ⟨rfl, hB2⟩) | (go_at_call 135; refine (putFits_any _ _ _ _ _).mono ?_; rintro e w3 ⟨rfl, hB3⟩))
    go_ret
    exact ⟨rfl, ((hB.trans (hB1.mono (by simp))).trans (hB2.mono (Nat.le_trans (by simp) hB1.size))).trans (hB3.mono (Nat.le_trans (Nat.le_trans (by simp) hB1.size) hB2.size))⟩
   ·
    rw [if_neg h2] at HD ⊢; by_cases h3 : k = 3
    ·
     subst h3; have hm : ∀ W, (method 306 100 (opV 3 p t x) "loop.example/pargeting/impl.fits").run Tryz.prog W = .ok (137, opV 3 p t x) W := fun _ => by kernel_rfl
     go_enter Tryz.func32, Tryz.ntmps32
     go_wp2_with (first | (go_at_call 42; refine (HP.out _).mono ?_; rintro e w1 ⟨rfl, hB1⟩; obtain ⟨c0, c1, c2, c3⟩ := box4i hB1) | (go_at_call 33; refine (HD.out _).mono ?_; rintro e w2 ⟨rfl, hB2⟩) | (go_at_call 137; refine (rmFits_any _ _ _ _ _).mono ?_; rintro e w3 ⟨rfl, hB3⟩))
     go_ret
     exact ⟨rfl, ((hB.trans (hB1.mono (by simp))).trans (hB2.mono (Nat.le_trans (by simp) hB1.size))).trans (hB3.mono (Nat.le_trans (Nat.le_trans (by simp) hB1.size) hB2.size))⟩
    ·
     rw [if_neg h3] at HD ⊢; by_cases h4 : k = 4
     ·
      subst h4; have hm : ∀ W, (method 306 101 (opV 4 p t x) "loop.example/pargeting/impl.fits").run Tryz.prog W = .ok (139, opV 4 p t x) W := fun _ => by kernel_rfl
      go_enter Tryz.func32, Tryz.ntmps32
      go_wp2_with (first | (go_at_call 42; refine (HP.out _).mono ?_; rintro e w1 ⟨rfl, hB1⟩; obtain ⟨c0, c1, c2, c3⟩ := box4i hB1) | (go_at_call 33; refine (HD.out _).mono ?_; rintro e w2 ⟨rfl, hB2⟩) | (go_at_call 139; refine (rmdirFits_any _ _ _ _ _).mono ?_; rintro e w3 ⟨rfl, hB3⟩))
      go_ret
      exact ⟨rfl, ((hB.trans (hB1.mono (by simp))).trans (hB2.mono (Nat.le_trans (by simp) hB1.size))).trans (hB3.mono (Nat.le_trans (Nat.le_trans (by simp) hB1.size) hB2.size))⟩
     ·
      rw [if_neg h4] at HD ⊢; by_cases h5 : k = 5
      ·
       subst h5; have hm : ∀ W, (method 306 102 (opV 5 p t x) "loop.example/pargeting/impl.fits").run Tryz.prog W = .ok (141, opV 5 p t x) W := fun _ => by kernel_rfl
       go_enter Tryz.func32, Tryz.ntmps32
       go_wp2_with (first | (go_at_call 42; refine (HP.out _).mono ?_; rintro e w1 ⟨rfl, hB1⟩; obtain ⟨c0, c1, c2, c3⟩ := box4i hB1) | (go_at_call 33; refine (HD.out _).mono ?_; rintro e w2 ⟨rfl, hB2⟩) | (go_at_call 141; refine (moveFits_any _ _ _ _ hz _).mono ?_; rintro e w3 ⟨rfl, hB3⟩))
       go_ret
       exact ⟨rfl, ((hB.trans (hB1.mono (by simp))).trans (hB2.mono (Nat.le_trans (by simp) hB1.size))).trans (hB3.mono (Nat.le_trans (Nat.le_trans (by simp) hB1.size) hB2.size))⟩
      ·
       rw [if_neg h5] at HD ⊢; have hm : ∀ W, (method 306 103 (opV k p t x) "loop.example/pargeting/impl.fits").run Tryz.prog W = .ok (148, opV k p t x) W := fun _ => by kernel_rfl
       go_enter Tryz.func32, Tryz.ntmps32
       go_wp2_with (first | (go_at_call 42; refine (HP.out _).mono ?_; rintro e w1 ⟨rfl, hB1⟩; obtain ⟨c0, c1, c2, c3⟩ := box4i hB1) | (go_at_call 33; refine (HD.out _).mono ?_; rintro e w2 ⟨rfl, hB2⟩) | (go_at_call 148; refine (otherFits_any _ _ _ _ _).mono ?_; rintro e w3 ⟨rfl, hB3⟩))
       go_ret
       exact ⟨rfl, ((hB.trans (hB1.mono (by simp))).trans (hB2.mono (Nat.le_trans (by simp) hB1.size))).trans (hB3.mono (Nat.le_trans (Nat.le_trans (by simp) hB1.size) hB2.size))⟩
end Go.Proofs.YtafeddiijemnbaaGreatDoor
namespace Go.Proofs.YtafeddiijemnbaaGreatDoor
open Go.RowKit Go.Lib
theorem fit_op (k : Int) (p t x : ByteArray) : (pathB p && fitB k t x) = opB ⟨k, p, t, x⟩ := by
 have hem : ∀ s : ByteArray, emB s = true → dataB s = true := fun s h => by
  have : s = ⟨#[]⟩ := toList_inj ((emB_yes h).trans (by rw [Lib.toList_data])); rw [this]; rfl
 have hex : ∀ s, emptyB s = emB s := fun _ => rfl; unfold opB fitB; simp only [hex]; by_cases h1 : k = 1
 ·
  subst h1; cases hx : emB x with
  | false => simp
  | true => simp [hem x hx]
 ·
  by_cases h2 : k = 2
  ·
   subst h2; simp
  ·
   by_cases h3 : k = 3
   ·
    subst h3; cases hx : emB x with
    | false => simp
    | true => simp [hem x hx]
   ·
    by_cases h4 : k = 4
    ·
     subst h4; cases hx : emB x with
     | false => simp
     | true => simp [hem x hx]
    ·
     by_cases h5 : k = 5
     ·
      subst h5; simp
     ·
      have : ¬ (1 ≤ k ∧ k ≤ 5) := by omega
      simp only [h1, h2, h3, h4, h5, if_false, Bool.and_false]; rw [decide_eq_false this]; rfl
end Go.Proofs.YtafeddiijemnbaaGreatDoor
