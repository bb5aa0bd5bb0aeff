/-
  The walk of the iterator that yields the names of a text.
-/
import Derived.Sort.LoopGhostIn
import Derived.Test.YtbeaegolgaopbaaDoorHImpl
namespace Go.Proofs.YtbeaegolgaopbaaDoor
open Go.RowKit Go.Shelf Go.Lib

attribute [local go_sem] Oper.semAt_some

theorem hid {p : Prop} (h : p) : Hid p := h

/-- What a round hands to the body: the place of the stroke, and the name. -/
abbrev encs (x : Int × ByteArray) : Array Value := #[.int .i64 x.1, .string x.2]

/-- One of what a text yields. -/
abbrev ItemOf (s : ByteArray) : Type := { x : Int × ByteArray // x ∈ items s }
abbrev encsI {s : ByteArray} (x : ItemOf s) : Array Value := #[.int .i64 x.1.1, .string x.1.2]
theorem inItems {s : ByteArray} {pre r : List (Int × ByteArray)} {x : Int × ByteArray} (h : pre ++ x :: r = items s) : x ∈ items s := by
  rw [← h]; simp
theorem mapSnoc {s : ByteArray} (pre : List (ItemOf s)) (x : ItemOf s) : (pre ++ [x]).map Subtype.val = pre.map Subtype.val ++ [x.1] := by simp

/-- What a round keeps: walks, and the text in the box Bn. -/
def Kpt (Bn : Nat) (W W' : World) : Prop := KeepsWalks W W' ∧ ∀ v, W.cell? ⟨Bn, 0, none⟩ = some v → W'.cell? ⟨Bn, 0, none⟩ = some v
theorem Kpt.t {Bn : Nat} {A B C : World} (h : Kpt Bn A B) (k : Kpt Bn B C) : Kpt Bn A C := ⟨h.1.trans k.1, fun v hv => k.2 v (h.2 v hv)⟩
theorem Kpt.b {Bn : Nat} {w : World} (W : World) (l : Nat) (o o' : Obj) (_ : w.heap.size ≤ l) (h : W.heap[l]? = some o) (hc : o.isCells = false) (hw : o.isWalk = false) : Kpt Bn W (W.putObj l o') :=
  ⟨KeepsWalks.putObj _ h hw, fun _ hv => cell_kept hv (grownBy_putObj' _ l o') (fun r e => by cases e; exact ⟨_, h, hc⟩)⟩

theorem cellOn {W : World} {a : Addr} {v : Value} (o : Obj) (h : W.cell? a = some v) : (W.alloc o).cell? a = some v := cell_kept h (World.grownBy_alloc W o none) (fun r e => by cases e)
theorem frozenOn {W : World} {a : Addr} {v : Value} (o : Obj) (h : W.cell? a = some v) (hf : W.frozen? a = false) : (W.alloc o).frozen? a = false := (frozen_kept h (World.grownBy_alloc W o none) (fun r e => by cases e)).trans hf
theorem iterAt_put (W : World) (k : Nat) (s : ByteArray) (p : Nat) : W.iterAt k s p = W.putObj k (.stringIter s p) := rfl

set_option maxHeartbeats 1000000 in
set_option maxRecDepth 100000 in
theorem names_stopsI (F : Fence) (n : Nat) (h37 : F.fn 94) (hro : F.round = none) (hn : 1 ≤ n) (Bn : Nat) (s : ByteArray) (hs : s.size ≤ 4611686018427387904) (w : World) (hBn : Bn < w.heap.size)
    (hb : w.cell? ⟨Bn, 0, none⟩ = some (.string s)) :
    SeqStopsK F n Tryd.prog 94 #[.pointer (some ⟨Bn, 0, none⟩)] (encsI (s := s)) (Kpt Bn) (fun xs => xs.map Subtype.val = items s) (fun pre => pre.map Subtype.val <+: items s) (s.size + 1) w := fun l J Jx W hW hJ hJx hY h0 => by
  have hbW : W.cell? ⟨Bn, 0, none⟩ = some (.string s) := (hW.cell (p := ⟨Bn, 0, none⟩) hBn).trans hb
  have hszW := hW.size
  clear hb hW
  refine callsIn_of_wp Tryd.func94 rfl h37 ?_ hro
  simp only [Tryd.ntmps94, List.size_toArray, List.length_cons, List.length_nil, Nat.reduceAdd, Nat.reduceSub, Array.replicate_succ, Array.replicate_zero, List.push_toArray, List.append_toArray, List.nil_append, List.cons_append]
  have HY := hid hY
  have HJ := hid hJ
  clear hY hJ hJx
  gi_wp2
  gi_loopg [3] s.size (fun gf st wx => ∃ (pos : Nat) (k : Int) (pre : List (ItemOf s)), st = .int .i64 k ∧ wx.heap[W.heap.size]? = some (.stringIter s pos) ∧ wx.cell? ⟨Bn, 0, none⟩ = some (.string s) ∧
    pos ≤ s.size ∧ -1 ≤ k ∧ k < pos ∧ s.size ≤ pos + gf ∧ pre.length ≤ pos ∧ J pre wx ∧ Hid (pre.map Subtype.val ++ itemsAt s pos k = items s))
  case atStart =>
    exact ⟨0, -1, [], rfl, World.iter_heap W s 0, cellOn _ hbW, Nat.zero_le _, by omega, by omega, by omega, Nat.le_refl _, HJ.out [] W _ none h0 (World.grownBy_alloc W _ none) (fun r e => by cases e), rfl⟩
  case round =>
    obtain ⟨pos, k, pre, rfl, hit, hbox, hle, hk1, hk2, hfu, hpl, hJs, HI⟩ := hrel
    by_cases hps : pos < s.size
    · obtain ⟨g', rfl⟩ : ∃ g', gk = g' + 1 := ⟨gk - 1, by omega⟩
      have hnx : ∀ ty, (Instr.next (.pointer (some ⟨W.heap.size, 0, none⟩)) true ty).run Tryd.prog wr = _ := fun ty => Lib.run_next_any_at wr W.heap.size s pos ty hit hps
      have hend := rune_end s pos hps
      have HS := hid (rune_stroke s pos k hps)
      have HO := hid (rune_other s pos k hps)
      obtain ⟨R, hR⟩ : ∃ R, (Utf8.decode s pos).1 = R := ⟨_, rfl⟩
      obtain ⟨K, hK⟩ : ∃ K, (Utf8.decode s pos).2 = K := ⟨_, rfl⟩
      rw [hR, hK] at hnx HS HO
      rw [hK] at hend
      have hit2 := Lib.iterAt_heap wr W.heap.size s pos (pos + K) hit
      have hg := grownBy_putObj' wr W.heap.size (.stringIter s (pos + K))
      rw [← iterAt_put] at hg
      have hbox2 := cell_kept hbox hg (fun r e => by cases e; exact ⟨_, hit, rfl⟩)
      have hJ2 := HJ.out pre wr _ _ hJs hg (fun r e => by cases e; exact ⟨Nat.le_refl _, _, hit, rfl⟩)
      obtain ⟨W2, hWd⟩ : ∃ W2, wr.iterAt W.heap.size s (pos + K) = W2 := ⟨_, rfl⟩
      rw [hWd] at hnx hit2 hbox2 hJ2
      clear hR hK hWd hit hbox hJs hg
      by_cases h47 : R = 47
      · obtain ⟨rfl, hst⟩ := HS.out h47
        subst h47
        by_cases hp0 : 0 < pos
        · have hin : (k, s.extract (k + 1).toNat pos) ∈ items s := by
            have := HI.out
            rw [hst, if_pos hp0] at this
            exact inItems this
          obtain ⟨fn, tmps, assign, body, hy, hR⟩ := HY.out pre ⟨(k, s.extract (k + 1).toNat pos), hin⟩ W2 hJ2 (by omega)
          dsimp only [encsI] at hy
          have HST := hid hst
          clear hst
          gi_wp2
          refine hR.mono ?_
          rintro e W3 (⟨rfl, hJ3, hk3⟩ | ⟨rfl, hJx3⟩)
          · have hit3 := hk3.1.same _ _ hit2 rfl
            have hbox3 := hk3.2 _ hbox2
            have HI3 : Hid ((pre ++ [(⟨(k, s.extract (k + 1).toNat pos), hin⟩ : ItemOf s)]).map Subtype.val ++ itemsAt s (pos + 1) pos = items s) := by
              show _ = _
              refine Eq.trans ?_ HI.out
              rw [mapSnoc, HST.out, if_pos hp0, List.append_assoc]
            clear HI HST hk3 hit2 hbox2 hJ2 HO
            gi_wp2
            gi_roundg g'
            case measure => omega
            case rel => exact ⟨pos + 1, pos, _, rfl, hit3, hbox3, by omega, by omega, by omega, by omega, by rw [List.length_append, List.length_singleton]; omega, hJ3, HI3⟩
          · gi_wp2
            refine bodyPost_ret (results_none rfl _ _ _) rfl ?_
            exact ⟨⟨_, rfl⟩, .inr ⟨_, ⟨_, by refine Eq.trans ?_ HI.out; rw [mapSnoc, HST.out, if_pos hp0, List.append_assoc]⟩, hJx3⟩⟩
        · obtain rfl : pos = 0 := by omega
          have HI3 : Hid (pre.map Subtype.val ++ itemsAt s (0 + 1) 0 = items s) := by
            show _ = _
            refine Eq.trans ?_ HI.out
            rw [hst, if_neg hp0, List.nil_append]; rfl
          clear HI hst HO
          gi_wp2
          refine ⟨fun _ h => (by cases h), ?_⟩
          gi_wp2
          gi_roundg g'
          case measure => omega
          case rel => exact ⟨0 + 1, 0, pre, rfl, hit2, hbox2, by omega, by omega, by omega, by omega, by omega, hJ2, HI3⟩
      · have HI3 : Hid (pre.map Subtype.val ++ itemsAt s (pos + K) k = items s) := by
          show _ = _
          refine Eq.trans ?_ HI.out
          rw [HO.out h47]
        have h47' : ((R : Int) == 47) = false := by
          rw [beq_eq_false_iff_ne]; omega
        clear HI HO HS
        gi_wp2
        gi_roundg g'
        case measure => omega
        case rel => exact ⟨pos + K, k, pre, rfl, hit2, hbox2, by omega, by omega, by omega, by omega, by omega, hJ2, HI3⟩
    · have hnx : ∀ ty, (Instr.next (.pointer (some ⟨W.heap.size, 0, none⟩)) true ty).run Tryd.prog wr = _ := fun ty => Lib.run_next_end_at wr W.heap.size s pos ty hit hps
      have hin : (k, s.extract (k + 1).toNat s.size) ∈ items s := by
        have := HI.out
        rw [itemsAt_end s pos k hps] at this
        exact inItems this
      have HI3 : Hid ((pre ++ [(⟨(k, s.extract (k + 1).toNat s.size), hin⟩ : ItemOf s)]).map Subtype.val = items s) := by
        show _ = _
        refine Eq.trans ?_ HI.out
        rw [mapSnoc, itemsAt_end s pos k hps]
      clear HI
      obtain ⟨fn, tmps, assign, body, hy, hR⟩ := HY.out pre ⟨(k, s.extract (k + 1).toNat s.size), hin⟩ wr hJs (by omega)
      dsimp only [encsI] at hy
      gi_wp2
      refine hR.mono ?_
      rintro e W3 (⟨rfl, hJ3, hk3⟩ | ⟨rfl, hJx3⟩)
      · gi_wp2
        go_end0
        exact ⟨⟨_, rfl⟩, .inl ⟨_, HI3.out, hJ3⟩⟩
      · gi_wp2
        go_end0
        exact ⟨⟨_, rfl⟩, .inr ⟨_, ⟨[], by rw [List.append_nil]; exact HI3.out⟩, hJx3⟩⟩
theorem names_stops (F : Fence) (n : Nat) (h37 : F.fn 94) (hro : F.round = none) (hn : 1 ≤ n) (Bn : Nat) (s : ByteArray) (hs : s.size ≤ 4611686018427387904) (w : World) (hBn : Bn < w.heap.size)
    (hb : w.cell? ⟨Bn, 0, none⟩ = some (.string s)) :
    SeqStopsK F n Tryd.prog 94 #[.pointer (some ⟨Bn, 0, none⟩)] encs (Kpt Bn) (fun xs => xs = items s) (fun pre => pre <+: items s) (s.size + 1) w := fun l J Jx W hW hJ hJx hY h0 =>
  (names_stopsI F n h37 hro hn Bn s hs w hBn hb l (fun pre => J (pre.map Subtype.val)) (fun pre => Jx (pre.map Subtype.val)) W hW (fun _ => hJ _) (fun _ => hJx _)
    (fun pre x W h1 h2 => by
      have := hY (pre.map Subtype.val) x.1 W h1 (by rw [List.length_map]; exact h2)
      rw [← mapSnoc] at this
      exact this) h0).mono fun e w' ⟨h1, h2⟩ => ⟨h1, h2.imp (fun ⟨xs, h3, h4⟩ => ⟨_, h3, h4⟩) (fun ⟨xs, h3, h4⟩ => ⟨_, h3, h4⟩)⟩
end Go.Proofs.YtbeaegolgaopbaaDoor
