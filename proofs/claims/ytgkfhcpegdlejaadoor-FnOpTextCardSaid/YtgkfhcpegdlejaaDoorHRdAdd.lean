/-
  The walk of the program's own: a word behind the words of a line.
-/
import Derived.Test.YtgkfhcpegdlejaaDoorHPk02
import Derived.Test.YtgkfhcpegdlejaaDoorHPk04
import Derived.Test.YtgkfhcpegdlejaaDoorHTxBuf
namespace Go.Proofs.YtgkfhcpegdlejaaDoor
open Go.RowKit Go.Lib

/-- A line in memory: its words, those that it has not being empty, and how many they are. -/
abbrev lineC (ln : List (List UInt8)) : Array Value := #[.string (nthL ln 0), .string (nthL ln 1), .string (nthL ln 2), .int .i64 (ln.length : Nat)]
/-- The block b alone is turned. -/
structure OnlyB (b : Nat) (w w' : World) : Prop where
  os : w'.os = w.os
  tape : w'.tape = w.tape
  output : w'.output = w.output
  size : w'.heap.size = w.heap.size
  block : ∀ k, k ≠ b → w'.heap[k]? = w.heap[k]?
theorem OnlyB.trans {b : Nat} {x y z : World} (h : OnlyB b x y) (k : OnlyB b y z) : OnlyB b x z :=
  ⟨k.os.trans h.os, k.tape.trans h.tape, k.output.trans h.output, k.size.trans h.size, fun i hi => (k.block i hi).trans (h.block i hi)⟩
theorem OnlyB.refl (b : Nat) (w : World) : OnlyB b w w := ⟨rfl, rfl, rfl, rfl, fun _ _ => rfl⟩
theorem OnlyB.drew (b : Nat) (w : World) : OnlyB b w w.drew := ⟨rfl, rfl, rfl, rfl, fun _ _ => rfl⟩
theorem OnlyB.setRow (b : Nat) (w : World) (cs : Array Value) : OnlyB b w (w.setRow b cs) := ⟨rfl, rfl, rfl, setRow_size _ _ _, fun k hk => setRow_other w b k cs hk⟩
theorem OnlyB.below {b n : Nat} {x y z : World} (h : Below n x y) (k : OnlyB b y z) (hb : n ≤ b) : Below n x z :=
  ⟨k.os.trans h.os, k.tape.trans h.tape, k.output.trans h.output, by rw [k.size]; exact h.size, fun i hi => (k.block i (by omega)).trans (h.block i hi)⟩

/-- The word is laid. -/
theorem add_set {w : World} {b n : Nat} {c : Array Value} {T : TypeId} (hb : w.heap[b]? = some (.cells c T (0, 0))) (v u : Value) :
    OnlyB b w ((w.setCell ⟨b, n, none⟩ v).setCell ⟨b, 3, none⟩ u).drew ∧ ((w.setCell ⟨b, n, none⟩ v).setCell ⟨b, 3, none⟩ u).drew.heap[b]? = some (.cells ((c.setIfInBounds n v).setIfInBounds 3 u) T (0, 0)) := by
  rw [setCell_eq_setRow w b n c T (0, 0) v hb]
  have h2 := setRow_heap w b c (c.setIfInBounds n v) T (0, 0) hb
  rw [setCell_eq_setRow _ b 3 _ T (0, 0) u h2]
  exact ⟨((OnlyB.setRow b w _).trans (OnlyB.setRow b _ _)).trans (OnlyB.drew b _), setRow_heap _ b _ _ T (0, 0) h2⟩
theorem add_no_any (b : Nat) (ln : List (List UInt8)) (s : ByteArray) (w : World) (hb : w.heap[b]? = some (.cells (lineC ln) 57 (0, 0))) (h : s.size = 0 ∨ ln.length = 3) :
    Calls Tryd.prog 75 #[.pointer (some ⟨b, 0, none⟩), .string s] w fun r w' => r = .returned (.bool false) ∧ OnlyB b w w' := by
  by_cases h0 : s.size = 0
  · have he : s = ⟨#[]⟩ := by cases s with | mk d => simp [ByteArray.size] at h0; rw [h0]
    subst he
    go_enter Tryd.func75, Tryd.ntmps75
    go_wp2
    go_ret
    exact ⟨rfl, OnlyB.refl _ _⟩
  · have h3 : ln.length = 3 := by rcases h with h | h; exact absurd h h0; exact h
    have c3 : w.cell? ⟨b, 3, none⟩ = some (.int .i64 3) := by rw [cell_of_row w b 3 _ _ _ hb, show (lineC ln)[3]? = some (.int .i64 (ln.length : Nat)) from rfl, h3]; rfl
    have hne : (s.toList == []) = false := by
      rw [Lib.toList_data]; simp; intro q; apply h0; show s.data.size = 0; rw [q]; rfl
    have hne' : ¬ s.toList = [] := by simpa using hne
    clear hb h h3
    go_enter Tryd.func75, Tryd.ntmps75
    go_wp2
    go_ret
    exact ⟨rfl, OnlyB.refl _ _⟩
set_option maxHeartbeats 1600000 in
set_option maxRecDepth 100000 in
theorem add_yes_any (b : Nat) (ln : List (List UInt8)) (s : ByteArray) (w : World) (hb : w.heap[b]? = some (.cells (lineC ln) 57 (0, 0))) (hl : ln.length < 3) (h0 : ¬ s.size = 0) :
    Calls Tryd.prog 75 #[.pointer (some ⟨b, 0, none⟩), .string s] w fun r w' => r = .returned (.bool true) ∧ OnlyB b w w' ∧ w'.heap[b]? = some (.cells (lineC (ln ++ [LB s])) 57 (0, 0)) := by
  have hne : (s.toList == []) = false := by
    rw [Lib.toList_data]; simp; intro q; apply h0; show s.data.size = 0; rw [q]; rfl
  have hne' : ¬ s.toList = [] := by simpa using hne
  have fz : ∀ j, w.drew.frozen? ⟨b, j, none⟩ = false := fun j => by
    have hb' : w.drew.heap[b]? = some (.cells (lineC ln) 57 (0, 0)) := hb
    simp [World.frozen?, hb']
  have hcell : ∀ j, w.drew.cell? ⟨b, j, none⟩ = (lineC ln)[j]? := fun j => cell_of_row w.drew b j _ _ _ hb
  have HS := hidE (fun n v u => add_set (n := n) hb v u)
  match ln, hl with
  | [], _ =>
      have c3 : w.cell? ⟨b, 3, none⟩ = some (.int .i64 0) := hcell 3
      have c3' : w.drew.cell? ⟨b, 3, none⟩ = some (.int .i64 0) := hcell 3
      have cn : ∃ v, w.drew.cell? ⟨b, 0, none⟩ = some v := ⟨_, hcell 0⟩
      obtain ⟨vn, cn⟩ := cn
      have fn := fz 0
      have f3 : (w.setCell ⟨b, 0, none⟩ (.string s)).frozen? ⟨b, 3, none⟩ = false := by rw [World.frozen?_setCell]; exact fz 3
      have f3' : (w.setCell ⟨b, 0, none⟩ (.string s)).drew.frozen? ⟨b, 3, none⟩ = false := f3
      have d3 : (w.setCell ⟨b, 0, none⟩ (.string s)).cell? ⟨b, 3, none⟩ = some (.int .i64 0) := by rw [World.cell?_setCell_other _ _ _ _ (fun q => by have e := congrArg Addr.off q; dsimp only at e; omega)]; exact c3
      have d3' : (w.setCell ⟨b, 0, none⟩ (.string s)).drew.cell? ⟨b, 3, none⟩ = some (.int .i64 0) := d3
      have fw : w.frozen? ⟨b, 0, none⟩ = false := fz 0
      have cw : w.cell? ⟨b, 0, none⟩ = some vn := cn
      clear hcell fz hb
      go_enter Tryd.func75, Tryd.ntmps75
      go_wp2
      refine wp_region_any (by kernel_rfl) ?_
      change wpAny _ _ _ _ _ _ _ (World.drew _)
      refine wpAny_take (i := 0) (v := ?_) rfl (by kernel_rfl) (by kernel_rfl) (by kernel_rfl) (fun _ _ _ h => h) (Or.inl ⟨by rfl, ?_⟩) ?_
      rotate_left 1
      · intro w; go_simp; first | done | with_reducible rfl
      refine wpAny_take (i := 1) (v := ?_) rfl (by kernel_rfl) (by kernel_rfl) (by kernel_rfl) (fun _ _ _ h => h) (Or.inl ⟨by rfl, ?_⟩) ?_
      rotate_left 1
      · intro w; go_simp; first | done | with_reducible rfl
      refine wpAny_take (i := 2) (v := ?_) rfl (by kernel_rfl) (by kernel_rfl) (by kernel_rfl) (fun _ _ _ h => h) (Or.inl ⟨by rfl, ?_⟩) ?_
      rotate_left 1
      · intro w; go_simp; first | done | with_reducible rfl
      refine wpAny_take (i := 3) (v := ?_) rfl (by kernel_rfl) (by kernel_rfl) (by kernel_rfl) (fun _ _ _ h => h) (Or.inl ⟨by rfl, ?_⟩) ?_
      rotate_left 1
      · intro w; go_simp; first | done | with_reducible rfl
      refine wpAny_take (i := 5) (v := ?_) rfl (by kernel_rfl) (by kernel_rfl) (by kernel_rfl) (fun _ _ _ h => h) (Or.inl ⟨by rfl, ?_⟩) ?_
      rotate_left 1
      · intro w; go_simp; first | done | with_reducible rfl
      refine wpAny_take (i := 6) (v := ?_) rfl (by kernel_rfl) (by kernel_rfl) (by kernel_rfl) (fun _ _ _ h => h) (Or.inl ⟨by rfl, ?_⟩) ?_
      rotate_left 1
      · intro w; go_simp; first | done | with_reducible rfl
      refine wpAny_take (i := 7) (v := ?_) rfl (by kernel_rfl) (by kernel_rfl) (by kernel_rfl) (fun _ _ _ h => h) (Or.inl ⟨by rfl, ?_⟩) ?_
      rotate_left 1
      · intro w; go_simp; first | done | with_reducible rfl
      refine wpAny_ready (rs := [4]) (by kernel_rfl) (by simp) ?_
      refine AllReady.cons rfl (fun K hK => ?_) AllReady.nil
      go_simp
      refine hK _ _ ?_
      clear hK K
      refine wpAny_take (i := 8) (v := ?_) rfl (by kernel_rfl) (by kernel_rfl) (by kernel_rfl) (fun _ _ _ h => h) (Or.inl ⟨by rfl, ?_⟩) ?_
      rotate_left 1
      · intro w; go_simp; first | done | with_reducible rfl
      refine wpAny_ready (rs := [9]) (by kernel_rfl) (by simp) ?_
      refine AllReady.cons rfl (fun K hK => ?_) AllReady.nil
      go_simp
      refine hK _ _ ?_
      clear hK K
      refine wpAny_done (by kernel_rfl) ?_ _
      go_wp2
      go_ret
      obtain ⟨h1, h2⟩ := HS.out 0 (.string s) (.int .i64 1)
      refine ⟨rfl, h1, h2.trans ?_⟩
      rw [show s = BA (LB s) from (ba_lb s).symm]
      rfl
  | [x0], _ =>
      have c3 : w.cell? ⟨b, 3, none⟩ = some (.int .i64 1) := hcell 3
      have c3' : w.drew.cell? ⟨b, 3, none⟩ = some (.int .i64 1) := hcell 3
      have cn : ∃ v, w.drew.cell? ⟨b, 1, none⟩ = some v := ⟨_, hcell 1⟩
      obtain ⟨vn, cn⟩ := cn
      have fn := fz 1
      have f3 : (w.setCell ⟨b, 1, none⟩ (.string s)).frozen? ⟨b, 3, none⟩ = false := by rw [World.frozen?_setCell]; exact fz 3
      have f3' : (w.setCell ⟨b, 1, none⟩ (.string s)).drew.frozen? ⟨b, 3, none⟩ = false := f3
      have d3 : (w.setCell ⟨b, 1, none⟩ (.string s)).cell? ⟨b, 3, none⟩ = some (.int .i64 1) := by rw [World.cell?_setCell_other _ _ _ _ (fun q => by have e := congrArg Addr.off q; dsimp only at e; omega)]; exact c3
      have d3' : (w.setCell ⟨b, 1, none⟩ (.string s)).drew.cell? ⟨b, 3, none⟩ = some (.int .i64 1) := d3
      have fw : w.frozen? ⟨b, 1, none⟩ = false := fz 1
      have cw : w.cell? ⟨b, 1, none⟩ = some vn := cn
      clear hcell fz hb
      go_enter Tryd.func75, Tryd.ntmps75
      go_wp2
      refine wp_region_any (by kernel_rfl) ?_
      change wpAny _ _ _ _ _ _ _ (World.drew _)
      refine wpAny_take (i := 0) (v := ?_) rfl (by kernel_rfl) (by kernel_rfl) (by kernel_rfl) (fun _ _ _ h => h) (Or.inl ⟨by rfl, ?_⟩) ?_
      rotate_left 1
      · intro w; go_simp; first | done | with_reducible rfl
      refine wpAny_take (i := 1) (v := ?_) rfl (by kernel_rfl) (by kernel_rfl) (by kernel_rfl) (fun _ _ _ h => h) (Or.inl ⟨by rfl, ?_⟩) ?_
      rotate_left 1
      · intro w; go_simp; first | done | with_reducible rfl
      refine wpAny_take (i := 2) (v := ?_) rfl (by kernel_rfl) (by kernel_rfl) (by kernel_rfl) (fun _ _ _ h => h) (Or.inl ⟨by rfl, ?_⟩) ?_
      rotate_left 1
      · intro w; go_simp; first | done | with_reducible rfl
      refine wpAny_take (i := 3) (v := ?_) rfl (by kernel_rfl) (by kernel_rfl) (by kernel_rfl) (fun _ _ _ h => h) (Or.inl ⟨by rfl, ?_⟩) ?_
      rotate_left 1
      · intro w; go_simp; first | done | with_reducible rfl
      refine wpAny_take (i := 5) (v := ?_) rfl (by kernel_rfl) (by kernel_rfl) (by kernel_rfl) (fun _ _ _ h => h) (Or.inl ⟨by rfl, ?_⟩) ?_
      rotate_left 1
      · intro w; go_simp; first | done | with_reducible rfl
      refine wpAny_take (i := 6) (v := ?_) rfl (by kernel_rfl) (by kernel_rfl) (by kernel_rfl) (fun _ _ _ h => h) (Or.inl ⟨by rfl, ?_⟩) ?_
      rotate_left 1
      · intro w; go_simp; first | done | with_reducible rfl
      refine wpAny_take (i := 7) (v := ?_) rfl (by kernel_rfl) (by kernel_rfl) (by kernel_rfl) (fun _ _ _ h => h) (Or.inl ⟨by rfl, ?_⟩) ?_
      rotate_left 1
      · intro w; go_simp; first | done | with_reducible rfl
      refine wpAny_ready (rs := [4]) (by kernel_rfl) (by simp) ?_
      refine AllReady.cons rfl (fun K hK => ?_) AllReady.nil
      go_simp
      refine hK _ _ ?_
      clear hK K
      refine wpAny_take (i := 8) (v := ?_) rfl (by kernel_rfl) (by kernel_rfl) (by kernel_rfl) (fun _ _ _ h => h) (Or.inl ⟨by rfl, ?_⟩) ?_
      rotate_left 1
      · intro w; go_simp; first | done | with_reducible rfl
      refine wpAny_ready (rs := [9]) (by kernel_rfl) (by simp) ?_
      refine AllReady.cons rfl (fun K hK => ?_) AllReady.nil
      go_simp
      refine hK _ _ ?_
      clear hK K
      refine wpAny_done (by kernel_rfl) ?_ _
      go_wp2
      go_ret
      obtain ⟨h1, h2⟩ := HS.out 1 (.string s) (.int .i64 2)
      refine ⟨rfl, h1, h2.trans ?_⟩
      rw [show s = BA (LB s) from (ba_lb s).symm]
      rfl
  | [x0, x1], _ =>
      have c3 : w.cell? ⟨b, 3, none⟩ = some (.int .i64 2) := hcell 3
      have c3' : w.drew.cell? ⟨b, 3, none⟩ = some (.int .i64 2) := hcell 3
      have cn : ∃ v, w.drew.cell? ⟨b, 2, none⟩ = some v := ⟨_, hcell 2⟩
      obtain ⟨vn, cn⟩ := cn
      have fn := fz 2
      have f3 : (w.setCell ⟨b, 2, none⟩ (.string s)).frozen? ⟨b, 3, none⟩ = false := by rw [World.frozen?_setCell]; exact fz 3
      have f3' : (w.setCell ⟨b, 2, none⟩ (.string s)).drew.frozen? ⟨b, 3, none⟩ = false := f3
      have d3 : (w.setCell ⟨b, 2, none⟩ (.string s)).cell? ⟨b, 3, none⟩ = some (.int .i64 2) := by rw [World.cell?_setCell_other _ _ _ _ (fun q => by have e := congrArg Addr.off q; dsimp only at e; omega)]; exact c3
      have d3' : (w.setCell ⟨b, 2, none⟩ (.string s)).drew.cell? ⟨b, 3, none⟩ = some (.int .i64 2) := d3
      have fw : w.frozen? ⟨b, 2, none⟩ = false := fz 2
      have cw : w.cell? ⟨b, 2, none⟩ = some vn := cn
      clear hcell fz hb
      go_enter Tryd.func75, Tryd.ntmps75
      go_wp2
      refine wp_region_any (by kernel_rfl) ?_
      change wpAny _ _ _ _ _ _ _ (World.drew _)
      refine wpAny_take (i := 0) (v := ?_) rfl (by kernel_rfl) (by kernel_rfl) (by kernel_rfl) (fun _ _ _ h => h) (Or.inl ⟨by rfl, ?_⟩) ?_
      rotate_left 1
      · intro w; go_simp; first | done | with_reducible rfl
      refine wpAny_take (i := 1) (v := ?_) rfl (by kernel_rfl) (by kernel_rfl) (by kernel_rfl) (fun _ _ _ h => h) (Or.inl ⟨by rfl, ?_⟩) ?_
      rotate_left 1
      · intro w; go_simp; first | done | with_reducible rfl
      refine wpAny_take (i := 2) (v := ?_) rfl (by kernel_rfl) (by kernel_rfl) (by kernel_rfl) (fun _ _ _ h => h) (Or.inl ⟨by rfl, ?_⟩) ?_
      rotate_left 1
      · intro w; go_simp; first | done | with_reducible rfl
      refine wpAny_take (i := 3) (v := ?_) rfl (by kernel_rfl) (by kernel_rfl) (by kernel_rfl) (fun _ _ _ h => h) (Or.inl ⟨by rfl, ?_⟩) ?_
      rotate_left 1
      · intro w; go_simp; first | done | with_reducible rfl
      refine wpAny_take (i := 5) (v := ?_) rfl (by kernel_rfl) (by kernel_rfl) (by kernel_rfl) (fun _ _ _ h => h) (Or.inl ⟨by rfl, ?_⟩) ?_
      rotate_left 1
      · intro w; go_simp; first | done | with_reducible rfl
      refine wpAny_take (i := 6) (v := ?_) rfl (by kernel_rfl) (by kernel_rfl) (by kernel_rfl) (fun _ _ _ h => h) (Or.inl ⟨by rfl, ?_⟩) ?_
      rotate_left 1
      · intro w; go_simp; first | done | with_reducible rfl
      refine wpAny_take (i := 7) (v := ?_) rfl (by kernel_rfl) (by kernel_rfl) (by kernel_rfl) (fun _ _ _ h => h) (Or.inl ⟨by rfl, ?_⟩) ?_
      rotate_left 1
      · intro w; go_simp; first | done | with_reducible rfl
      refine wpAny_ready (rs := [4]) (by kernel_rfl) (by simp) ?_
      refine AllReady.cons rfl (fun K hK => ?_) AllReady.nil
      go_simp
      refine hK _ _ ?_
      clear hK K
      refine wpAny_take (i := 8) (v := ?_) rfl (by kernel_rfl) (by kernel_rfl) (by kernel_rfl) (fun _ _ _ h => h) (Or.inl ⟨by rfl, ?_⟩) ?_
      rotate_left 1
      · intro w; go_simp; first | done | with_reducible rfl
      refine wpAny_ready (rs := [9]) (by kernel_rfl) (by simp) ?_
      refine AllReady.cons rfl (fun K hK => ?_) AllReady.nil
      go_simp
      refine hK _ _ ?_
      clear hK K
      refine wpAny_done (by kernel_rfl) ?_ _
      go_wp2
      go_ret
      obtain ⟨h1, h2⟩ := HS.out 2 (.string s) (.int .i64 3)
      refine ⟨rfl, h1, h2.trans ?_⟩
      rw [show s = BA (LB s) from (ba_lb s).symm]
      rfl
end Go.Proofs.YtgkfhcpegdlejaaDoor
