/-
  The walk of the program's own: a word behind the words of a line.
-/
import Derived.Test.YtgkfhcpegdlejaaGreatDoorHPk02
import Derived.Test.YtgkfhcpegdlejaaGreatDoorHPk04
import Derived.Test.YtgkfhcpegdlejaaGreatDoorHTxBuf
import Derived.Test.YtgkfhcpegdlejaaGreatDoorHPk01
import Derived.Test.YtgkfhcpegdlejaaGreatDoorHPk03
import Derived.BigQuiet
namespace Go.Proofs.YtgkfhcpegdlejaaGreatDoor
open Go.RowKit Go.Lib

/-- A line in memory: its words, those that it has not being empty, and how many they are. -/
abbrev lineC (ln : List (List UInt8)) : Array Value := #[.string (nthL ln 0), .string (nthL ln 1), .string (nthL ln 2), .int .i64 (ln.length : Nat)]
/-- The block b alone is turned. -/
structure OnlyB (b : Nat) (w w' : World) : Prop where
  os : w'.os = w.os
  tape : w'.tape = w.tape
  output : w'.output = w.output
  size : w'.heap.size = w.heap.size
  block : ∀ k, k ≠ b → w'.heap[k]? = w.heap[k]?
theorem OnlyB.trans {b : Nat} {x y z : World} (h : OnlyB b x y) (k : OnlyB b y z) : OnlyB b x z :=
  ⟨k.os.trans h.os, k.tape.trans h.tape, k.output.trans h.output, k.size.trans h.size, fun i hi => (k.block i hi).trans (h.block i hi)⟩
theorem OnlyB.refl (b : Nat) (w : World) : OnlyB b w w := ⟨rfl, rfl, rfl, rfl, fun _ _ => rfl⟩
theorem OnlyB.drew (b : Nat) (w : World) : OnlyB b w w.drew := ⟨rfl, rfl, rfl, rfl, fun _ _ => rfl⟩
theorem OnlyB.setRow (b : Nat) (w : World) (cs : Array Value) : OnlyB b w (w.setRow b cs) := ⟨rfl, rfl, rfl, setRow_size _ _ _, fun k hk => setRow_other w b k cs hk⟩
theorem OnlyB.below {b n : Nat} {x y z : World} (h : Below n x y) (k : OnlyB b y z) (hb : n ≤ b) : Below n x z :=
  ⟨k.os.trans h.os, k.tape.trans h.tape, k.output.trans h.output, by rw [k.size]; exact h.size, fun i hi => (k.block i (by omega)).trans (h.block i hi)⟩

/-- The word is laid. -/
theorem add_set {w : World} {b n : Nat} {c : Array Value} {T : TypeId} (hb : w.heap[b]? = some (.cells c T (0, 0))) (v u : Value) :
    OnlyB b w ((w.setCell ⟨b, n, none⟩ v).setCell ⟨b, 3, none⟩ u).drew ∧ ((w.setCell ⟨b, n, none⟩ v).setCell ⟨b, 3, none⟩ u).drew.heap[b]? = some (.cells ((c.setIfInBounds n v).setIfInBounds 3 u) T (0, 0)) := by
  rw [setCell_eq_setRow w b n c T (0, 0) v hb]
  have h2 := setRow_heap w b c (c.setIfInBounds n v) T (0, 0) hb
  rw [setCell_eq_setRow _ b 3 _ T (0, 0) u h2]
  exact ⟨((OnlyB.setRow b w _).trans (OnlyB.setRow b _ _)).trans (OnlyB.drew b _), setRow_heap _ b _ _ T (0, 0) h2⟩
theorem add_no_any (b : Nat) (ln : List (List UInt8)) (s : ByteArray) (w : World) (hb : w.heap[b]? = some (.cells (lineC ln) 64 (0, 0))) (h : s.size = 0 ∨ ln.length = 3) :
    Calls Tryz.prog 66 #[.pointer (some ⟨b, 0, none⟩), .string s] w fun r w' => r = .returned (.bool false) ∧ OnlyB b w w' := by
  by_cases h0 : s.size = 0
  · have he : s = ⟨#[]⟩ := by cases s with | mk d => simp [ByteArray.size] at h0; rw [h0]
    subst he
    go_enter Tryz.func66, Tryz.ntmps66
    go_wp2
    go_ret
    exact ⟨rfl, OnlyB.refl _ _⟩
  · have h3 : ln.length = 3 := by rcases h with h | h; exact absurd h h0; exact h
    have c3 : w.cell? ⟨b, 3, none⟩ = some (.int .i64 3) := by rw [cell_of_row w b 3 _ _ _ hb, show (lineC ln)[3]? = some (.int .i64 (ln.length : Nat)) from rfl, h3]; rfl
    have hne : (s.toList == []) = false := by
      rw [Lib.toList_data]; simp; intro q; apply h0; show s.data.size = 0; rw [q]; rfl
    have hne' : ¬ s.toList = [] := by simpa using hne
    clear hb h h3
    go_enter Tryz.func66, Tryz.ntmps66
    go_wp2
    go_ret
    exact ⟨rfl, OnlyB.refl _ _⟩
set_option maxHeartbeats 1600000 in
set_option maxRecDepth 100000 in
theorem add_yes_any (b : Nat) (ln : List (List UInt8)) (s : ByteArray) (w : World) (hb : w.heap[b]? = some (.cells (lineC ln) 64 (0, 0))) (hl : ln.length < 3) (h0 : ¬ s.size = 0) :
    Calls Tryz.prog 66 #[.pointer (some ⟨b, 0, none⟩), .string s] w fun r w' => r = .returned (.bool true) ∧ OnlyB b w w' ∧ w'.heap[b]? = some (.cells (lineC (ln ++ [LB s])) 64 (0, 0)) := by
  have hne : (s.toList == []) = false := by
    rw [Lib.toList_data]; simp; intro q; apply h0; show s.data.size = 0; rw [q]; rfl
  have hne' : ¬ s.toList = [] := by simpa using hne
  have fz : ∀ j, w.drew.frozen? ⟨b, j, none⟩ = false := fun j => by
    have hb' : w.drew.heap[b]? = some (.cells (lineC ln) 64 (0, 0)) := hb
    simp [World.frozen?, hb']
  have hcell : ∀ j, w.drew.cell? ⟨b, j, none⟩ = (lineC ln)[j]? := fun j => cell_of_row w.drew b j _ _ _ hb
  have HS := hidE (fun n v u => add_set (n := n) hb v u)
  match ln, hl with
  | [], _ =>
      have c3 : w.cell? ⟨b, 3, none⟩ = some (.int .i64 0) := hcell 3
      have c3' : w.drew.cell? ⟨b, 3, none⟩ = some (.int .i64 0) := hcell 3
      have cn : ∃ v, w.drew.cell? ⟨b, 0, none⟩ = some v := ⟨_, hcell 0⟩
      obtain ⟨vn, cn⟩ := cn
      have fn := fz 0
      have f3 : (w.setCell ⟨b, 0, none⟩ (.string s)).frozen? ⟨b, 3, none⟩ = false := by rw [World.frozen?_setCell]; exact fz 3
      have f3' : (w.setCell ⟨b, 0, none⟩ (.string s)).drew.frozen? ⟨b, 3, none⟩ = false := f3
      have d3 : (w.setCell ⟨b, 0, none⟩ (.string s)).cell? ⟨b, 3, none⟩ = some (.int .i64 0) := by rw [World.cell?_setCell_other _ _ _ _ (fun q => by have e := congrArg Addr.off q; dsimp only at e; omega)]; exact c3
      have d3' : (w.setCell ⟨b, 0, none⟩ (.string s)).drew.cell? ⟨b, 3, none⟩ = some (.int .i64 0) := d3
      have fw : w.frozen? ⟨b, 0, none⟩ = false := fz 0
      have cw : w.cell? ⟨b, 0, none⟩ = some vn := cn
      clear hcell fz hb
      go_enter Tryz.func66, Tryz.ntmps66
      go_wp2
      refine wp_region_any (by kernel_rfl) ?_
      change wpAny _ _ _ _ _ _ _ (World.drew _)
      refine wpAny_take (i := 0) (v := ?_) rfl (by kernel_rfl) (by kernel_rfl) (by kernel_rfl) (fun _ _ _ h => h) (Or.inl ⟨by rfl, ?_⟩) ?_
      rotate_left 1
      · intro w; go_simp; first | done | with_reducible rfl
      refine wpAny_take (i := 1) (v := ?_) rfl (by kernel_rfl) (by kernel_rfl) (by kernel_rfl) (fun _ _ _ h => h) (Or.inl ⟨by rfl, ?_⟩) ?_
      rotate_left 1
      · intro w; go_simp; first | done | with_reducible rfl
      refine wpAny_take (i := 2) (v := ?_) rfl (by kernel_rfl) (by kernel_rfl) (by kernel_rfl) (fun _ _ _ h => h) (Or.inl ⟨by rfl, ?_⟩) ?_
      rotate_left 1
      · intro w; go_simp; first | done | with_reducible rfl
      refine wpAny_take (i := 3) (v := ?_) rfl (by kernel_rfl) (by kernel_rfl) (by kernel_rfl) (fun _ _ _ h => h) (Or.inl ⟨by rfl, ?_⟩) ?_
      rotate_left 1
      · intro w; go_simp; first | done | with_reducible rfl
      refine wpAny_take (i := 5) (v := ?_) rfl (by kernel_rfl) (by kernel_rfl) (by kernel_rfl) (fun _ _ _ h => h) (Or.inl ⟨by rfl, ?_⟩) ?_
      rotate_left 1
      · intro w; go_simp; first | done | with_reducible rfl
      refine wpAny_take (i := 6) (v := ?_) rfl (by kernel_rfl) (by kernel_rfl) (by kernel_rfl) (fun _ _ _ h => h) (Or.inl ⟨by rfl, ?_⟩) ?_
      rotate_left 1
      · intro w; go_simp; first | done | with_reducible rfl
      refine wpAny_take (i := 7) (v := ?_) rfl (by kernel_rfl) (by kernel_rfl) (by kernel_rfl) (fun _ _ _ h => h) (Or.inl ⟨by rfl, ?_⟩) ?_
      rotate_left 1
      · intro w; go_simp; first | done | with_reducible rfl
      refine wpAny_ready (rs := [4]) (by kernel_rfl) (by simp) ?_
      refine AllReady.cons rfl (fun K hK => ?_) AllReady.nil
      go_simp
      refine hK _ _ ?_
      clear hK K
      refine wpAny_take (i := 8) (v := ?_) rfl (by kernel_rfl) (by kernel_rfl) (by kernel_rfl) (fun _ _ _ h => h) (Or.inl ⟨by rfl, ?_⟩) ?_
      rotate_left 1
      · intro w; go_simp; first | done | with_reducible rfl
      refine wpAny_ready (rs := [9]) (by kernel_rfl) (by simp) ?_
      refine AllReady.cons rfl (fun K hK => ?_) AllReady.nil
      go_simp
      refine hK _ _ ?_
      clear hK K
      refine wpAny_done (by kernel_rfl) ?_ _
      go_wp2
      go_ret
      obtain ⟨h1, h2⟩ := HS.out 0 (.string s) (.int .i64 1)
      refine ⟨rfl, h1, h2.trans ?_⟩
      rw [show s = BA (LB s) from (ba_lb s).symm]
      rfl
  | [x0], _ =>
      have c3 : w.cell? ⟨b, 3, none⟩ = some (.int .i64 1) := hcell 3
      have c3' : w.drew.cell? ⟨b, 3, none⟩ = some (.int .i64 1) := hcell 3
      have cn : ∃ v, w.drew.cell? ⟨b, 1, none⟩ = some v := ⟨_, hcell 1⟩
      obtain ⟨vn, cn⟩ := cn
      have fn := fz 1
      have f3 : (w.setCell ⟨b, 1, none⟩ (.string s)).frozen? ⟨b, 3, none⟩ = false := by rw [World.frozen?_setCell]; exact fz 3
      have f3' : (w.setCell ⟨b, 1, none⟩ (.string s)).drew.frozen? ⟨b, 3, none⟩ = false := f3
      have d3 : (w.setCell ⟨b, 1, none⟩ (.string s)).cell? ⟨b, 3, none⟩ = some (.int .i64 1) := by rw [World.cell?_setCell_other _ _ _ _ (fun q => by have e := congrArg Addr.off q; dsimp only at e; omega)]; exact c3
      have d3' : (w.setCell ⟨b, 1, none⟩ (.string s)).drew.cell? ⟨b, 3, none⟩ = some (.int .i64 1) := d3
      have fw : w.frozen? ⟨b, 1, none⟩ = false := fz 1
      have cw : w.cell? ⟨b, 1, none⟩ = some vn := cn
      clear hcell fz hb
      go_enter Tryz.func66, Tryz.ntmps66
      go_wp2
      refine wp_region_any (by kernel_rfl) ?_
      change wpAny _ _ _ _ _ _ _ (World.drew _)
      refine wpAny_take (i := 0) (v := ?_) rfl (by kernel_rfl) (by kernel_rfl) (by kernel_rfl) (fun _ _ _ h => h) (Or.inl ⟨by rfl, ?_⟩) ?_
      rotate_left 1
      · intro w; go_simp; first | done | with_reducible rfl
      refine wpAny_take (i := 1) (v := ?_) rfl (by kernel_rfl) (by kernel_rfl) (by kernel_rfl) (fun _ _ _ h => h) (Or.inl ⟨by rfl, ?_⟩) ?_
      rotate_left 1
      · intro w; go_simp; first | done | with_reducible rfl
      refine wpAny_take (i := 2) (v := ?_) rfl (by kernel_rfl) (by kernel_rfl) (by kernel_rfl) (fun _ _ _ h => h) (Or.inl ⟨by rfl, ?_⟩) ?_
      rotate_left 1
      · intro w; go_simp; first | done | with_reducible rfl
      refine wpAny_take (i := 3) (v := ?_) rfl (by kernel_rfl) (by kernel_rfl) (by kernel_rfl) (fun _ _ _ h => h) (Or.inl ⟨by rfl, ?_⟩) ?_
      rotate_left 1
      · intro w; go_simp; first | done | with_reducible rfl
      refine wpAny_take (i := 5) (v := ?_) rfl (by kernel_rfl) (by kernel_rfl) (by kernel_rfl) (fun _ _ _ h => h) (Or.inl ⟨by rfl, ?_⟩) ?_
      rotate_left 1
      · intro w; go_simp; first | done | with_reducible rfl
      refine wpAny_take (i := 6) (v := ?_) rfl (by kernel_rfl) (by kernel_rfl) (by kernel_rfl) (fun _ _ _ h => h) (Or.inl ⟨by rfl, ?_⟩) ?_
      rotate_left 1
      · intro w; go_simp; first | done | with_reducible rfl
      refine wpAny_take (i := 7) (v := ?_) rfl (by kernel_rfl) (by kernel_rfl) (by kernel_rfl) (fun _ _ _ h => h) (Or.inl ⟨by rfl, ?_⟩) ?_
      rotate_left 1
      · intro w; go_simp; first | done | with_reducible rfl
      refine wpAny_ready (rs := [4]) (by kernel_rfl) (by simp) ?_
      refine AllReady.cons rfl (fun K hK => ?_) AllReady.nil
      go_simp
      refine hK _ _ ?_
      clear hK K
      refine wpAny_take (i := 8) (v := ?_) rfl (by kernel_rfl) (by kernel_rfl) (by kernel_rfl) (fun _ _ _ h => h) (Or.inl ⟨by rfl, ?_⟩) ?_
      rotate_left 1
      · intro w; go_simp; first | done | with_reducible rfl
      refine wpAny_ready (rs := [9]) (by kernel_rfl) (by simp) ?_
      refine AllReady.cons rfl (fun K hK => ?_) AllReady.nil
      go_simp
      refine hK _ _ ?_
      clear hK K
      refine wpAny_done (by kernel_rfl) ?_ _
      go_wp2
      go_ret
      obtain ⟨h1, h2⟩ := HS.out 1 (.string s) (.int .i64 2)
      refine ⟨rfl, h1, h2.trans ?_⟩
      rw [show s = BA (LB s) from (ba_lb s).symm]
      rfl
  | [x0, x1], _ =>
      have c3 : w.cell? ⟨b, 3, none⟩ = some (.int .i64 2) := hcell 3
      have c3' : w.drew.cell? ⟨b, 3, none⟩ = some (.int .i64 2) := hcell 3
      have cn : ∃ v, w.drew.cell? ⟨b, 2, none⟩ = some v := ⟨_, hcell 2⟩
      obtain ⟨vn, cn⟩ := cn
      have fn := fz 2
      have f3 : (w.setCell ⟨b, 2, none⟩ (.string s)).frozen? ⟨b, 3, none⟩ = false := by rw [World.frozen?_setCell]; exact fz 3
      have f3' : (w.setCell ⟨b, 2, none⟩ (.string s)).drew.frozen? ⟨b, 3, none⟩ = false := f3
      have d3 : (w.setCell ⟨b, 2, none⟩ (.string s)).cell? ⟨b, 3, none⟩ = some (.int .i64 2) := by rw [World.cell?_setCell_other _ _ _ _ (fun q => by have e := congrArg Addr.off q; dsimp only at e; omega)]; exact c3
      have d3' : (w.setCell ⟨b, 2, none⟩ (.string s)).drew.cell? ⟨b, 3, none⟩ = some (.int .i64 2) := d3
      have fw : w.frozen? ⟨b, 2, none⟩ = false := fz 2
      have cw : w.cell? ⟨b, 2, none⟩ = some vn := cn
      clear hcell fz hb
      go_enter Tryz.func66, Tryz.ntmps66
      go_wp2
      refine wp_region_any (by kernel_rfl) ?_
      change wpAny _ _ _ _ _ _ _ (World.drew _)
      refine wpAny_take (i := 0) (v := ?_) rfl (by kernel_rfl) (by kernel_rfl) (by kernel_rfl) (fun _ _ _ h => h) (Or.inl ⟨by rfl, ?_⟩) ?_
      rotate_left 1
      · intro w; go_simp; first | done | with_reducible rfl
      refine wpAny_take (i := 1) (v := ?_) rfl (by kernel_rfl) (by kernel_rfl) (by kernel_rfl) (fun _ _ _ h => h) (Or.inl ⟨by rfl, ?_⟩) ?_
      rotate_left 1
      · intro w; go_simp; first | done | with_reducible rfl
      refine wpAny_take (i := 2) (v := ?_) rfl (by kernel_rfl) (by kernel_rfl) (by kernel_rfl) (fun _ _ _ h => h) (Or.inl ⟨by rfl, ?_⟩) ?_
      rotate_left 1
      · intro w; go_simp; first | done | with_reducible rfl
      refine wpAny_take (i := 3) (v := ?_) rfl (by kernel_rfl) (by kernel_rfl) (by kernel_rfl) (fun _ _ _ h => h) (Or.inl ⟨by rfl, ?_⟩) ?_
      rotate_left 1
      · intro w; go_simp; first | done | with_reducible rfl
      refine wpAny_take (i := 5) (v := ?_) rfl (by kernel_rfl) (by kernel_rfl) (by kernel_rfl) (fun _ _ _ h => h) (Or.inl ⟨by rfl, ?_⟩) ?_
      rotate_left 1
      · intro w; go_simp; first | done | with_reducible rfl
      refine wpAny_take (i := 6) (v := ?_) rfl (by kernel_rfl) (by kernel_rfl) (by kernel_rfl) (fun _ _ _ h => h) (Or.inl ⟨by rfl, ?_⟩) ?_
      rotate_left 1
      · intro w; go_simp; first | done | with_reducible rfl
      refine wpAny_take (i := 7) (v := ?_) rfl (by kernel_rfl) (by kernel_rfl) (by kernel_rfl) (fun _ _ _ h => h) (Or.inl ⟨by rfl, ?_⟩) ?_
      rotate_left 1
      · intro w; go_simp; first | done | with_reducible rfl
      refine wpAny_ready (rs := [4]) (by kernel_rfl) (by simp) ?_
      refine AllReady.cons rfl (fun K hK => ?_) AllReady.nil
      go_simp
      refine hK _ _ ?_
      clear hK K
      refine wpAny_take (i := 8) (v := ?_) rfl (by kernel_rfl) (by kernel_rfl) (by kernel_rfl) (fun _ _ _ h => h) (Or.inl ⟨by rfl, ?_⟩) ?_
      rotate_left 1
      · intro w; go_simp; first | done | with_reducible rfl
      refine wpAny_ready (rs := [9]) (by kernel_rfl) (by simp) ?_
      refine AllReady.cons rfl (fun K hK => ?_) AllReady.nil
      go_simp
      refine hK _ _ ?_
      clear hK K
      refine wpAny_done (by kernel_rfl) ?_ _
      go_wp2
      go_ret
      obtain ⟨h1, h2⟩ := HS.out 2 (.string s) (.int .i64 3)
      refine ⟨rfl, h1, h2.trans ?_⟩
      rw [show s = BA (LB s) from (ba_lb s).symm]
      rfl
end Go.Proofs.YtgkfhcpegdlejaaGreatDoor

/-
  The walk of the program's own: a line laid behind a buffer.
-/
namespace Go.Proofs.YtgkfhcpegdlejaaGreatDoor
open Go.RowKit Go.Lib

theorem Tryz.infoU8 : (Tryz.prog.info? 5).map (fun i => (i.zero, i.size, i.bytes)) = some (some (.int .u8 0), 1, 1) := by kernel_rfl

theorem bufT {ops : Array Oper} {rest : List Oper} {o : Oper} {a : Act} {Q : Exit → Act → World → Prop} {w : World} (hgd : o.guard = none) (sl x : Operand)
    (ho : o.op = .call { callee := .builtin .append, args := #[sl, x], argTypes := #[22, 9] })
    (B : Nat) (v : Value) (s : ByteArray) (hs : a.eval sl = v) (W : World) (hb : BufB B 5 v s W w) (m : ByteArray) (hx : a.eval x = .string m) (hlen : s.size + m.size ≤ 140737488355328)
    (h : ∀ v' w', BufB B 5 v' (s ++ m) W w' → wpList Tryz.prog ops Q rest (a.put o.dst v') w') : wpList Tryz.prog ops Q (o :: rest) a w := by
  obtain ⟨i0, hi, hx0⟩ := Option.map_eq_some_iff.1 Tryz.infoU8
  simp only [Prod.mk.injEq] at hx0
  obtain ⟨hz0, hz1, hz2⟩ := hx0
  exact wpList_buf_text hgd sl x 22 9 ho B 5 i0 Tryz.underlying22 Tryz.underlying9 hi hz0 hz1 hz2 v s hs W hb m hx hlen h
theorem bufC {ops : Array Oper} {rest : List Oper} {o : Oper} {a : Act} {Q : Exit → Act → World → Prop} {w0 : World} (hgd : o.guard = none) (sl x : Operand)
    (ho : o.op = .call { callee := .builtin .append, args := #[sl, x], argTypes := #[22, 22] })
    (B : Nat) (v : Value) (s : ByteArray) (hs : a.eval sl = v) (W : World) (c : UInt8) (ci : Int) (hc : ci = (c.toNat : Int)) (hb : BufB B 5 v s W w0)
    (hx : a.eval x = .slice (some ⟨w0.heap.size, 0, none⟩) 1 1) (hlen : s.size + 1 ≤ 140737488355328)
    (h : ∀ v' w', BufB B 5 v' (s ++ ⟨#[c]⟩) W w' → wpList Tryz.prog ops Q rest (a.put o.dst v') w') : wpList Tryz.prog ops Q (o :: rest) a (w0.alloc (.cells #[.int .u8 ci] 5)) := by
  obtain ⟨i0, hi, hx0⟩ := Option.map_eq_some_iff.1 Tryz.infoU8
  simp only [Prod.mk.injEq] at hx0
  obtain ⟨hz0, hz1, hz2⟩ := hx0
  exact wpList_buf_byte hgd sl x 22 ho B 5 i0 Tryz.underlying22 hi hz0 hz1 hz2 v s hs W w0 c ci hc hb hx hlen h

theorem not_bytes {cs : Array Value} {fz : Nat × Nat} : ∀ cs' fz', Obj.cells cs 9 fz ≠ Obj.cells cs' 5 fz' := fun _ _ h => by injection h with _ h _; exact absurd h (by decide)

set_option maxHeartbeats 1600000 in
set_option maxRecDepth 100000 in
theorem appendLine_from (B : Nat) (v : Value) (s a p : ByteArray) (ra : Option Addr) (cap g : Nat) (cs : Array Value) (fz : Nat × Nat) (ms : List ByteArray) (w : World)
    (hb : BufB B 5 v s w w) (hr : 0 < ms.length → ra = some ⟨g, 0, none⟩ ∧ w.heap[g]? = some (.cells cs 9 fz) ∧ ∀ i (h : i < ms.length), cs[i]? = some (.string ms[i]))
    (hs : s.size ≤ 1099511627776) (hz1 : a.size ≤ 1073741824) (hz2 : p.size ≤ 1073741824) (hz3 : ∀ m ∈ ms, m.size ≤ 1073741824) (hl : ms.length ≤ 16) :
    Calls Tryz.prog 47 #[v, .string a, .string p, .slice ra ms.length cap] w fun r w' => ∃ v', r = .returned v' ∧ BufB B 5 v' (s ++ lineT a p ms) w w' := by
  have HR := hidE hr
  have HZ := hidE hz3
  clear hr hz3
  have q1 : (s ++ a).size ≤ 1100585369600 := by rw [ByteArray.size_append]; omega
  have q2 : (s ++ a ++ ⟨#[32]⟩).size ≤ 1100585369601 := by rw [ByteArray.size_append]; show _ + 1 ≤ _; omega
  go_enter Tryz.func47, Tryz.ntmps47
  go_wp2_with (first
    | (at_builtin; refine bufT rfl (.tmp 11) (.tmp 12) rfl B v s rfl w hb a rfl (by omega) ?_; intro v1 w1 hb1)
    | (at_builtin; refine bufC rfl (.tmp 14) (.tmp 15) rfl B v1 (s ++ a) rfl w 32 32 rfl hb1 rfl (by omega) ?_; intro v2 w2 hb2)
    | (at_builtin; refine bufT rfl (.tmp 17) (.tmp 18) rfl B v2 (s ++ a ++ ⟨#[32]⟩) rfl w hb2 p rfl (by omega) ?_; intro v3 w3 hb3)
    | fail)
  clear hb hb1 hb2
  obtain ⟨H, hH⟩ : ∃ H, s ++ a ++ ⟨#[32]⟩ ++ p = H := ⟨_, rfl⟩
  have hHz : H.size ≤ 1101659111425 := by rw [← hH, ByteArray.size_append]; omega
  rw [hH] at hb3
  have HH := hidE hH
  clear hH q1 q2
  go_loopw [0, 22] (fun tv iv wl => ∃ j : Nat, j ≤ ms.length ∧ iv = .int .i64 j ∧ Hid (BufB B 5 tv (H ++ restT (ms.take j)) w wl)) (fun _ iv _ => ms.length - (RowKit.intOf iv).toNat)
  case atStart => exact ⟨0, Nat.zero_le _, rfl, by show BufB _ _ _ (H ++ restT []) _ _; rw [show restT [] = ⟨#[]⟩ from rfl, app_nil]; exact hb3⟩
  case round =>
    clear hb3
    obtain ⟨j, hj, rfl, hbj⟩ := hrel
    by_cases hlt : j < ms.length
    · obtain ⟨rfl, hg, hcs⟩ := HR.out (by omega)
      have hT := HZ.out ms[j] (List.getElem_mem hlt)
      have HT := hidE (restT_take hlt)
      have hpre : (H ++ restT (ms.take j)).size ≤ 1119912724497 := by
        have h1 := restT_le (ms.take j) 1073741824 (fun m hm => HZ.out m (List.mem_of_mem_take hm))
        have h2 : (ms.take j).length ≤ 16 := by rw [List.length_take]; omega
        have h3 := Nat.mul_le_mul_right (1073741824 + 1) h2
        rw [ByteArray.size_append]; omega
      obtain ⟨m, hm⟩ : ∃ m, ms[j] = m := ⟨_, rfl⟩
      have hc : wr.cell? ⟨g, j, none⟩ = some (.string m) := by
        have := hbj.out.kn g _ hg not_bytes
        rw [cell_of_row wr g j cs 9 fz this, hcs j hlt, hm]
      rw [hm] at HT hT
      clear hm hcs hg
      obtain ⟨S, hS⟩ : ∃ S, H ++ restT (ms.take j) = S := ⟨_, rfl⟩
      rw [hS] at hbj hpre
      have hb4 := hbj.out
      clear hbj
      by_cases hm0 : m.size = 0
      · have hmd : m.toList = [] := by rw [Lib.toList_data]; exact List.eq_nil_of_length_eq_zero (by rw [Array.length_toList]; exact hm0)
        have he : m = ⟨#[]⟩ := by cases m with | mk d => simp [ByteArray.size] at hm0; rw [hm0]
        subst he
        have HS : Hid (H ++ restT (ms.take (j + 1)) = S) := by show _ = _; rw [HT.out, if_pos (show (⟨#[]⟩ : ByteArray).size = 0 from rfl), app_nil, hS]
        clear HT hS hm0 hT
        go_wp2
        go_roundw
        case rel => exact ⟨j + 1, by omega, by go_num, by show BufB _ _ _ _ _ _; rw [HS.out]; exact hb4⟩
        case measure => simp [RowKit.intOf]; omega
      · have HS : Hid (H ++ restT (ms.take (j + 1)) = S ++ ⟨#[32]⟩ ++ m) := by show _ = _; rw [HT.out, if_neg hm0, ← app_assoc, hS, app_assoc]
        have hne : (m.toList == []) = false := by
          rw [Lib.toList_data]; simp; intro q; apply hm0; show m.data.size = 0; rw [q]; rfl
        have hne' : ¬ m.toList = [] := by simpa using hne
        have q3 : (S ++ ⟨#[32]⟩).size ≤ 1119912724498 := by rw [ByteArray.size_append]; show _ + 1 ≤ _; omega
        clear HT hS hm0
        go_wp2_with (first
          | (at_builtin; refine bufC rfl (.tmp 28) (.tmp 29) rfl B _ S rfl w 32 32 rfl hb4 rfl (by omega) ?_; intro v5 w5 hb5)
          | (at_builtin; refine bufT rfl (.tmp 31) (.tmp 32) rfl B v5 (S ++ ⟨#[32]⟩) rfl w hb5 m rfl (by omega) ?_; intro v6 w6 hb6)
          | fail)
        go_roundw
        case rel => exact ⟨j + 1, by omega, by go_num, by show BufB _ _ _ _ _ _; rw [HS.out]; exact hb6⟩
        case measure => simp [RowKit.intOf]; omega
    · go_wp2
      go_ret
      refine ⟨_, rfl, ?_⟩
      have := hbj.out
      rw [List.take_of_length_le (by omega), ← HH.out] at this
      unfold lineT
      rw [← app_assoc, ← app_assoc, ← app_assoc]
      exact this
theorem appendLine_any (B : Nat) (v : Value) (s a p : ByteArray) (ra : Option Addr) (cap g : Nat) (cs : Array Value) (fz : Nat × Nat) (ms : List ByteArray) (W w : World)
    (hb : BufB B 5 v s W w) (hr : 0 < ms.length → ra = some ⟨g, 0, none⟩ ∧ w.heap[g]? = some (.cells cs 9 fz) ∧ ∀ i (h : i < ms.length), cs[i]? = some (.string ms[i]))
    (hs : s.size ≤ 1099511627776) (hz1 : a.size ≤ 1073741824) (hz2 : p.size ≤ 1073741824) (hz3 : ∀ m ∈ ms, m.size ≤ 1073741824) (hl : ms.length ≤ 16) :
    Calls Tryz.prog 47 #[v, .string a, .string p, .slice ra ms.length cap] w fun r w' => ∃ v', r = .returned v' ∧ BufB B 5 v' (s ++ lineT a p ms) W w' :=
  (appendLine_from B v s a p ra cap g cs fz ms w hb.from hr hs hz1 hz2 hz3 hl).mono fun _ _ ⟨v', h1, h2⟩ => ⟨v', h1, hb.upon h2⟩
end Go.Proofs.YtgkfhcpegdlejaaGreatDoor

/-
  The walks of the text of an entry: the program's own, and the model's.
-/
namespace Go.Proofs.YtgkfhcpegdlejaaGreatDoor
open Go.RowKit Go.Lib

/-- The words of marks lie where they are laid. -/
structure Words (w : World) : Prop where
  c1 : w.cell? ⟨1, 1, none⟩ = some (.string wF)
  c2 : w.cell? ⟨1, 2, none⟩ = some (.string wD)
  c3 : w.cell? ⟨1, 3, none⟩ = some (.string wX)
  c4 : w.cell? ⟨1, 4, none⟩ = some (.string wB)
theorem Words.lt {w : World} (h : Words w) : 1 < w.heap.size := World.block_lt_of_cell? w ⟨1, 1, none⟩ h.c1
theorem Words.low {w w' : World} {B : Nat} (h : Words w) (hB : 1 < B) (hb : Below B w w') : Words w' :=
  ⟨(hb.cell (p := ⟨1, _, none⟩) hB).trans h.c1, (hb.cell (p := ⟨1, _, none⟩) hB).trans h.c2, (hb.cell (p := ⟨1, _, none⟩) hB).trans h.c3, (hb.cell (p := ⟨1, _, none⟩) hB).trans h.c4⟩
theorem Words.below {w w' : World} (h : Words w) (hb : Below w.heap.size w w') : Words w' := h.low h.lt hb
theorem Words.alloc {w : World} (h : Words w) (o : Obj) : Words (w.alloc o) := h.below ((Below.refl _ w).alloc (Nat.le_refl _) o)

set_option maxHeartbeats 1600000 in
set_option maxRecDepth 100000 in
theorem appendEnt_any (B : Nat) (v : Value) (s : ByteArray) (e : E) (W w : World) (hb : BufB B 5 v s W w) (hw : Words w)
    (hs : s.size ≤ 1099511627776) (hp : e.p.size ≤ 1073741824) (hx : e.x.size ≤ 1073741824) :
    Calls Tryz.prog 27 #[v, encE e] w fun r w' => ∃ v', r = .returned v' ∧ BufB B 5 v' (s ++ entT e) W w' := by
  obtain ⟨p, d, x⟩ := e
  have h1 := (hw.alloc (.cells #[.string p, .bool d, .string x] 50)).c1
  have h2 := (hw.alloc (.cells #[.string p, .bool d, .string x] 50)).c2
  have hbb := hb.alloc (.cells #[.string p, .bool d, .string x] 50)
  clear hb hw
  cases d with
  | true =>
    go_enter Tryz.func27, Tryz.ntmps27
    go_wp2_with (first | (go_at_call 47; refine (appendLine_any B v s wD p none 0 0 #[] (0, 0) [] W _ hbb (fun h => absurd h (by simp)) hs (by decide) hp (fun _ h => by simp at h) (by simp)).mono ?_; rintro e w1 ⟨v1, rfl, hb1⟩) | fail)
    go_ret
    exact ⟨v1, rfl, hb1⟩
  | false =>
    have hc := appendLine_any B v s wF p (some ⟨w.heap.size + 1, 0, none⟩) 1 (w.heap.size + 1) #[.string x] (0, 0) [x] W ((w.alloc (.cells #[.string p, .bool false, .string x] 50)).alloc (.cells #[.string x] 9)) (hbb.alloc _)
      (fun _ => ⟨rfl, by simpa using heap_alloc_new (w.alloc (.cells #[.string p, .bool false, .string x] 50)) (.cells #[.string x] 9), fun i hi => by
        obtain rfl : i = 0 := by simpa using hi
        rfl⟩) hs (by decide) hp (fun m h => by simp at h; subst h; exact hx) (by simp)
    have HC := hidE hc
    clear hc
    go_enter Tryz.func27, Tryz.ntmps27
    go_wp2_with (first | (go_at_call 47; refine HC.out.mono ?_; rintro e w1 ⟨v1, rfl, hb1⟩) | fail)
    go_ret
    exact ⟨v1, rfl, hb1⟩

set_option maxHeartbeats 800000 in
set_option maxRecDepth 100000 in
theorem sEntText_any (e : E) (w : World) (hp : e.p.size ≤ 1073741824) (hx : e.x.size ≤ 1073741824) :
    Calls Tryz.prog 31 #[encE e] w fun r w' => r = .returned (.string (entT e)) ∧ Below w.heap.size w w' := by
  obtain ⟨p, d, x⟩ := e
  have hp' : p.size ≤ 1073741824 := hp
  have hx' : x.size ≤ 1073741824 := hx
  clear hp hx
  have hB : Below w.heap.size w (w.alloc (.cells #[.string p, .bool d, .string x] 50)) := (Below.refl _ w).alloc (Nat.le_refl _) _
  cases d with
  | true =>
    have HE := hidE (entT_dir (e := ⟨p, true, x⟩) rfl)
    go_enter Tryz.func31, Tryz.ntmps31
    go_wp2
    go_ret
    exact ⟨retS HE.out.symm, hB⟩
  | false =>
    by_cases h0 : x.size = 0
    · have HE := hidE (entT_bare (e := ⟨p, false, x⟩) rfl h0)
      have he : x = ⟨#[]⟩ := by cases x with | mk d => simp [ByteArray.size] at h0; rw [h0]
      subst he
      clear h0
      go_enter Tryz.func31, Tryz.ntmps31
      go_wp2
      go_ret
      exact ⟨retS HE.out.symm, hB⟩
    · have HE := hidE (entT_file (e := ⟨p, false, x⟩) rfl h0)
      have hne : (x.toList == []) = false := by
        rw [Lib.toList_data]; simp; intro q; apply h0; show x.data.size = 0; rw [q]; rfl
      have hne' : ¬ x.toList = [] := by simpa using hne
      have q1 : ((⟨#[102, 32]⟩ : ByteArray) ++ p).size ≤ 1073741826 := by rw [ByteArray.size_append]; show 2 + _ ≤ _; omega
      have q2 : ((⟨#[102, 32]⟩ : ByteArray) ++ p ++ ⟨#[32]⟩).size ≤ 1073741827 := by rw [ByteArray.size_append]; show _ + 1 ≤ _; omega
      clear h0
      go_enter Tryz.func31, Tryz.ntmps31
      go_wp2
      go_ret
      exact ⟨retS HE.out.symm, hB⟩
end Go.Proofs.YtgkfhcpegdlejaaGreatDoor

/-
  The table of marks, as the readers and the writers know it.
-/
namespace Go.Proofs.YtgkfhcpegdlejaaGreatDoor
open Go.RowKit Go.Lib

theorem MarkTab.words {w : World} (h : MarkTab w) : Words w := ⟨h.c1, h.c2, h.c3, h.c4⟩
end Go.Proofs.YtgkfhcpegdlejaaGreatDoor

/-
  The walk of the law FnExactEntText, out of the contracts.
-/
namespace Go.Proofs.YtgkfhcpegdlejaaGreatDoor
open Go.RowKit Go.Lib

theorem B3T {a b c : World} (h : Below a.heap.size a b) (k : Below b.heap.size b c) : Below a.heap.size a c := h.trans (k.mono h.size)
theorem box3t {w w' : World} {a b c : Value} {T : TypeId} (h : Below (w.alloc (.cells #[a, b, c] T)).heap.size (w.alloc (.cells #[a, b, c] T)) w') :
    w'.cell? ⟨w.heap.size, 0, none⟩ = some a ∧ w'.cell? ⟨w.heap.size, 1, none⟩ = some b ∧ w'.cell? ⟨w.heap.size, 2, none⟩ = some c := by
  have hl : w.heap.size < (w.alloc (.cells #[a, b, c] T)).heap.size := by simp
  exact ⟨(h.cell (p := ⟨w.heap.size, 0, none⟩) hl).trans (by simp), (h.cell (p := ⟨w.heap.size, 1, none⟩) hl).trans (by simp), (h.cell (p := ⟨w.heap.size, 2, none⟩) hl).trans (by simp)⟩

end Go.Proofs.YtgkfhcpegdlejaaGreatDoor

/-
  The walks of the text of a mark: the program's own, and the model's.
-/
namespace Go.Proofs.YtgkfhcpegdlejaaGreatDoor.Mk
open Go.RowKit Go.Lib

/-- The text of a mark. -/
def markT (e : E) : ByteArray := if e.d = 2 then lineT wD e.p [] else if e.d = 3 then lineT wX e.p [] else if e.d = 4 then lineT wB e.p [] else entT ⟨e.p, false, e.x⟩
theorem markT_le (e : E) : (markT e).size ≤ e.p.size + e.x.size + 3 := by
  unfold markT
  have h : ∀ c : UInt8, (lineT ⟨#[c]⟩ e.p []).size ≤ e.p.size + e.x.size + 3 := fun c => by
    rw [lineT_nil, ByteArray.size_append, ByteArray.size_append]; show 1 + 1 + _ ≤ _; omega
  split
  · exact h _
  · split
    · exact h _
    · split
      · exact h _
      · exact entT_le _

set_option maxHeartbeats 3200000 in
set_option maxRecDepth 100000 in
theorem appendMark_any (B : Nat) (v : Value) (s : ByteArray) (e : E) (W w : World) (hb : BufB B 5 v s W w) (hw : Words w)
    (hs : s.size ≤ 1099511627776) (hp : e.p.size ≤ 1073741824) (hx : e.x.size ≤ 1073741824) :
    Calls Tryz.prog 30 #[v, encE e] w fun r w' => ∃ v', r = .returned v' ∧ BufB B 5 v' (s ++ markT e) W w' := by
  obtain ⟨p, d, x⟩ := e
  have hW := hw.alloc (.cells #[.string p, .int .i64 d, .string x] 55)
  have hbb := hb.alloc (.cells #[.string p, .int .i64 d, .string x] 55)
  have c2 := hW.c2
  have c3 := hW.c3
  have c4 := hW.c4
  clear hb hw
  by_cases h2 : d = 2
  · subst h2
    have hc := appendLine_any B v s wD p none 0 0 #[] (0, 0) [] W (w.alloc (.cells #[.string p, .int .i64 2, .string x] 55)).drew hbb.drew (fun h => absurd h (by simp)) hs (by decide) hp (fun _ h => by simp at h) (by simp)
    have HC := hidE hc
    have k0 : (w.alloc (.cells #[.string p, .int .i64 2, .string x] 55)).drew.cell? ⟨1, 2, none⟩ = some (.string wD) := c2
    obtain ⟨b0, b1, b2⟩ := box3t (w := w) (w' := (w.alloc (.cells #[.string p, .int .i64 2, .string x] 55)).drew) (a := .string p) (b := .int .i64 2) (c := .string x) (T := 55) ⟨rfl, rfl, rfl, Nat.le_refl _, fun _ _ => rfl⟩
    clear hc c2 c3 c4 hW hbb
    go_enter Tryz.func30, Tryz.ntmps30
    go_wp2
    refine wp_region_any (by kernel_rfl) ?_
    change wpAny _ _ _ _ _ _ _ (World.drew _)
    refine wpAny_take (i := 0) (v := ?_) rfl (by kernel_rfl) (by kernel_rfl) (by kernel_rfl) (fun _ _ _ h => h) (Or.inl ⟨by rfl, ?_⟩) ?_
    rotate_left 1
    · intro w; go_simp; first | done | with_reducible rfl
    refine wpAny_take (i := 1) (v := ?_) rfl (by kernel_rfl) (by kernel_rfl) (by kernel_rfl) (fun _ _ _ h => h) (Or.inl ⟨by rfl, ?_⟩) ?_
    rotate_left 1
    · intro w; go_simp; first | done | with_reducible rfl
    refine wpAny_take (i := 5) (v := ?_) rfl (by kernel_rfl) (by kernel_rfl) (by kernel_rfl) (fun _ _ _ h => h) (Or.inl ⟨by rfl, ?_⟩) ?_
    rotate_left 1
    · intro w; go_simp; first | done | with_reducible rfl
    refine wpAny_ready (rs := [2, 6]) (by kernel_rfl) (by simp) ?_
    refine AllReady.cons rfl (fun K hK => ?_) ?_
    · go_simp
      refine hK _ _ ?_
      clear hK K
      refine wpAny_ready (rs := [3, 6]) (by kernel_rfl) (by simp) ?_
      refine AllReady.cons rfl (fun K hK => ?_) ?_
      · go_simp
        refine hK _ _ ?_
        clear hK K
        refine wpAny_ready (rs := [4, 6]) (by kernel_rfl) (by simp) ?_
        refine AllReady.cons rfl (fun K hK => ?_) ?_
        · go_simp
          refine hK _ _ ?_
          clear hK K
          refine wpAny_ready (rs := [6]) (by kernel_rfl) (by simp) ?_
          refine AllReady.cons rfl (fun K hK => ?_) ?_
          · go_simp
            refine hK _ _ ?_
            clear hK K
            refine wpAny_ready (rs := [7]) (by kernel_rfl) (by simp) ?_
            refine AllReady.cons rfl (fun K hK => ?_) ?_
            · go_simp
              go_wp2_with (first | (go_at_call 47; refine HC.out.mono ?_; rintro e w1 ⟨v1, rfl, hb1⟩) | fail)
              refine wpAny_ready (rs := [8]) (by kernel_rfl) (by simp) ?_
              refine AllReady.cons rfl (fun K hK => ?_) ?_
              · go_simp
                refine hK _ _ ?_
                clear hK K
                refine wpAny_done (by kernel_rfl) ?_ _
                go_wp2
                go_ret
                exact ⟨v1, rfl, hb1⟩
              exact AllReady.nil
            exact AllReady.nil
          exact AllReady.nil
        refine AllReady.cons rfl (fun K hK => ?_) ?_
        · go_simp
          refine hK _ _ ?_
          clear hK K
          refine wpAny_ready (rs := [4]) (by kernel_rfl) (by simp) ?_
          refine AllReady.cons rfl (fun K hK => ?_) ?_
          · go_simp
            refine hK _ _ ?_
            clear hK K
            refine wpAny_ready (rs := [7]) (by kernel_rfl) (by simp) ?_
            refine AllReady.cons rfl (fun K hK => ?_) ?_
            · go_simp
              go_wp2_with (first | (go_at_call 47; refine HC.out.mono ?_; rintro e w1 ⟨v1, rfl, hb1⟩) | fail)
              refine wpAny_ready (rs := [8]) (by kernel_rfl) (by simp) ?_
              refine AllReady.cons rfl (fun K hK => ?_) ?_
              · go_simp
                refine hK _ _ ?_
                clear hK K
                refine wpAny_done (by kernel_rfl) ?_ _
                go_wp2
                go_ret
                exact ⟨v1, rfl, hb1⟩
              exact AllReady.nil
            exact AllReady.nil
          exact AllReady.nil
        exact AllReady.nil
      refine AllReady.cons rfl (fun K hK => ?_) ?_
      · go_simp
        refine hK _ _ ?_
        clear hK K
        refine wpAny_ready (rs := [3]) (by kernel_rfl) (by simp) ?_
        refine AllReady.cons rfl (fun K hK => ?_) ?_
        · go_simp
          refine hK _ _ ?_
          clear hK K
          refine wpAny_ready (rs := [4]) (by kernel_rfl) (by simp) ?_
          refine AllReady.cons rfl (fun K hK => ?_) ?_
          · go_simp
            refine hK _ _ ?_
            clear hK K
            refine wpAny_ready (rs := [7]) (by kernel_rfl) (by simp) ?_
            refine AllReady.cons rfl (fun K hK => ?_) ?_
            · go_simp
              go_wp2_with (first | (go_at_call 47; refine HC.out.mono ?_; rintro e w1 ⟨v1, rfl, hb1⟩) | fail)
              refine wpAny_ready (rs := [8]) (by kernel_rfl) (by simp) ?_
              refine AllReady.cons rfl (fun K hK => ?_) ?_
              · go_simp
                refine hK _ _ ?_
                clear hK K
                refine wpAny_done (by kernel_rfl) ?_ _
                go_wp2
                go_ret
                exact ⟨v1, rfl, hb1⟩
              exact AllReady.nil
            exact AllReady.nil
          exact AllReady.nil
        exact AllReady.nil
      exact AllReady.nil
    refine AllReady.cons rfl (fun K hK => ?_) ?_
    · go_simp
      refine hK _ _ ?_
      clear hK K
      refine wpAny_ready (rs := [2]) (by kernel_rfl) (by simp) ?_
      refine AllReady.cons rfl (fun K hK => ?_) ?_
      · go_simp
        refine hK _ _ ?_
        clear hK K
        refine wpAny_ready (rs := [3]) (by kernel_rfl) (by simp) ?_
        refine AllReady.cons rfl (fun K hK => ?_) ?_
        · go_simp
          refine hK _ _ ?_
          clear hK K
          refine wpAny_ready (rs := [4]) (by kernel_rfl) (by simp) ?_
          refine AllReady.cons rfl (fun K hK => ?_) ?_
          · go_simp
            refine hK _ _ ?_
            clear hK K
            refine wpAny_ready (rs := [7]) (by kernel_rfl) (by simp) ?_
            refine AllReady.cons rfl (fun K hK => ?_) ?_
            · go_simp
              go_wp2_with (first | (go_at_call 47; refine HC.out.mono ?_; rintro e w1 ⟨v1, rfl, hb1⟩) | fail)
              refine wpAny_ready (rs := [8]) (by kernel_rfl) (by simp) ?_
              refine AllReady.cons rfl (fun K hK => ?_) ?_
              · go_simp
                refine hK _ _ ?_
                clear hK K
                refine wpAny_done (by kernel_rfl) ?_ _
                go_wp2
                go_ret
                exact ⟨v1, rfl, hb1⟩
              exact AllReady.nil
            exact AllReady.nil
          exact AllReady.nil
        exact AllReady.nil
      exact AllReady.nil
    exact AllReady.nil
  · skip
    by_cases h3 : d = 3
    · subst h3
      have hc := appendLine_any B v s wX p none 0 0 #[] (0, 0) [] W (w.alloc (.cells #[.string p, .int .i64 3, .string x] 55)).drew hbb.drew (fun h => absurd h (by simp)) hs (by decide) hp (fun _ h => by simp at h) (by simp)
      have HC := hidE hc
      have k0 : (w.alloc (.cells #[.string p, .int .i64 3, .string x] 55)).drew.cell? ⟨1, 3, none⟩ = some (.string wX) := c3
      obtain ⟨b0, b1, b2⟩ := box3t (w := w) (w' := (w.alloc (.cells #[.string p, .int .i64 3, .string x] 55)).drew) (a := .string p) (b := .int .i64 3) (c := .string x) (T := 55) ⟨rfl, rfl, rfl, Nat.le_refl _, fun _ _ => rfl⟩
      clear hc c2 c3 c4 hW hbb
      go_enter Tryz.func30, Tryz.ntmps30
      go_wp2
      refine wp_region_any (by kernel_rfl) ?_
      change wpAny _ _ _ _ _ _ _ (World.drew _)
      refine wpAny_take (i := 0) (v := ?_) rfl (by kernel_rfl) (by kernel_rfl) (by kernel_rfl) (fun _ _ _ h => h) (Or.inl ⟨by rfl, ?_⟩) ?_
      rotate_left 1
      · intro w; go_simp; first | done | with_reducible rfl
      refine wpAny_take (i := 1) (v := ?_) rfl (by kernel_rfl) (by kernel_rfl) (by kernel_rfl) (fun _ _ _ h => h) (Or.inl ⟨by rfl, ?_⟩) ?_
      rotate_left 1
      · intro w; go_simp; first | done | with_reducible rfl
      refine wpAny_take (i := 5) (v := ?_) rfl (by kernel_rfl) (by kernel_rfl) (by kernel_rfl) (fun _ _ _ h => h) (Or.inl ⟨by rfl, ?_⟩) ?_
      rotate_left 1
      · intro w; go_simp; first | done | with_reducible rfl
      refine wpAny_ready (rs := [2, 6]) (by kernel_rfl) (by simp) ?_
      refine AllReady.cons rfl (fun K hK => ?_) ?_
      · go_simp
        refine hK _ _ ?_
        clear hK K
        refine wpAny_ready (rs := [3, 6]) (by kernel_rfl) (by simp) ?_
        refine AllReady.cons rfl (fun K hK => ?_) ?_
        · go_simp
          refine hK _ _ ?_
          clear hK K
          refine wpAny_ready (rs := [4, 6]) (by kernel_rfl) (by simp) ?_
          refine AllReady.cons rfl (fun K hK => ?_) ?_
          · go_simp
            refine hK _ _ ?_
            clear hK K
            refine wpAny_ready (rs := [6]) (by kernel_rfl) (by simp) ?_
            refine AllReady.cons rfl (fun K hK => ?_) ?_
            · go_simp
              refine hK _ _ ?_
              clear hK K
              refine wpAny_ready (rs := [7]) (by kernel_rfl) (by simp) ?_
              refine AllReady.cons rfl (fun K hK => ?_) ?_
              · go_simp
                go_wp2_with (first | (go_at_call 47; refine HC.out.mono ?_; rintro e w1 ⟨v1, rfl, hb1⟩) | fail)
                refine wpAny_ready (rs := [8]) (by kernel_rfl) (by simp) ?_
                refine AllReady.cons rfl (fun K hK => ?_) ?_
                · go_simp
                  refine hK _ _ ?_
                  clear hK K
                  refine wpAny_done (by kernel_rfl) ?_ _
                  go_wp2
                  go_ret
                  exact ⟨v1, rfl, hb1⟩
                exact AllReady.nil
              exact AllReady.nil
            exact AllReady.nil
          refine AllReady.cons rfl (fun K hK => ?_) ?_
          · go_simp
            refine hK _ _ ?_
            clear hK K
            refine wpAny_ready (rs := [4]) (by kernel_rfl) (by simp) ?_
            refine AllReady.cons rfl (fun K hK => ?_) ?_
            · go_simp
              refine hK _ _ ?_
              clear hK K
              refine wpAny_ready (rs := [7]) (by kernel_rfl) (by simp) ?_
              refine AllReady.cons rfl (fun K hK => ?_) ?_
              · go_simp
                go_wp2_with (first | (go_at_call 47; refine HC.out.mono ?_; rintro e w1 ⟨v1, rfl, hb1⟩) | fail)
                refine wpAny_ready (rs := [8]) (by kernel_rfl) (by simp) ?_
                refine AllReady.cons rfl (fun K hK => ?_) ?_
                · go_simp
                  refine hK _ _ ?_
                  clear hK K
                  refine wpAny_done (by kernel_rfl) ?_ _
                  go_wp2
                  go_ret
                  exact ⟨v1, rfl, hb1⟩
                exact AllReady.nil
              exact AllReady.nil
            exact AllReady.nil
          exact AllReady.nil
        refine AllReady.cons rfl (fun K hK => ?_) ?_
        · go_simp
          refine hK _ _ ?_
          clear hK K
          refine wpAny_ready (rs := [3]) (by kernel_rfl) (by simp) ?_
          refine AllReady.cons rfl (fun K hK => ?_) ?_
          · go_simp
            refine hK _ _ ?_
            clear hK K
            refine wpAny_ready (rs := [4]) (by kernel_rfl) (by simp) ?_
            refine AllReady.cons rfl (fun K hK => ?_) ?_
            · go_simp
              refine hK _ _ ?_
              clear hK K
              refine wpAny_ready (rs := [7]) (by kernel_rfl) (by simp) ?_
              refine AllReady.cons rfl (fun K hK => ?_) ?_
              · go_simp
                go_wp2_with (first | (go_at_call 47; refine HC.out.mono ?_; rintro e w1 ⟨v1, rfl, hb1⟩) | fail)
                refine wpAny_ready (rs := [8]) (by kernel_rfl) (by simp) ?_
                refine AllReady.cons rfl (fun K hK => ?_) ?_
                · go_simp
                  refine hK _ _ ?_
                  clear hK K
                  refine wpAny_done (by kernel_rfl) ?_ _
                  go_wp2
                  go_ret
                  exact ⟨v1, rfl, hb1⟩
                exact AllReady.nil
              exact AllReady.nil
            exact AllReady.nil
          exact AllReady.nil
        exact AllReady.nil
      refine AllReady.cons rfl (fun K hK => ?_) ?_
      · go_simp
        refine hK _ _ ?_
        clear hK K
        refine wpAny_ready (rs := [2]) (by kernel_rfl) (by simp) ?_
        refine AllReady.cons rfl (fun K hK => ?_) ?_
        · go_simp
          refine hK _ _ ?_
          clear hK K
          refine wpAny_ready (rs := [3]) (by kernel_rfl) (by simp) ?_
          refine AllReady.cons rfl (fun K hK => ?_) ?_
          · go_simp
            refine hK _ _ ?_
            clear hK K
            refine wpAny_ready (rs := [4]) (by kernel_rfl) (by simp) ?_
            refine AllReady.cons rfl (fun K hK => ?_) ?_
            · go_simp
              refine hK _ _ ?_
              clear hK K
              refine wpAny_ready (rs := [7]) (by kernel_rfl) (by simp) ?_
              refine AllReady.cons rfl (fun K hK => ?_) ?_
              · go_simp
                go_wp2_with (first | (go_at_call 47; refine HC.out.mono ?_; rintro e w1 ⟨v1, rfl, hb1⟩) | fail)
                refine wpAny_ready (rs := [8]) (by kernel_rfl) (by simp) ?_
                refine AllReady.cons rfl (fun K hK => ?_) ?_
                · go_simp
                  refine hK _ _ ?_
                  clear hK K
                  refine wpAny_done (by kernel_rfl) ?_ _
                  go_wp2
                  go_ret
                  exact ⟨v1, rfl, hb1⟩
                exact AllReady.nil
              exact AllReady.nil
            exact AllReady.nil
          exact AllReady.nil
        exact AllReady.nil
      exact AllReady.nil
    · skip
      by_cases h4 : d = 4
      · subst h4
        have hc := appendLine_any B v s wB p none 0 0 #[] (0, 0) [] W (w.alloc (.cells #[.string p, .int .i64 4, .string x] 55)).drew hbb.drew (fun h => absurd h (by simp)) hs (by decide) hp (fun _ h => by simp at h) (by simp)
        have HC := hidE hc
        have k0 : (w.alloc (.cells #[.string p, .int .i64 4, .string x] 55)).drew.cell? ⟨1, 4, none⟩ = some (.string wB) := c4
        obtain ⟨b0, b1, b2⟩ := box3t (w := w) (w' := (w.alloc (.cells #[.string p, .int .i64 4, .string x] 55)).drew) (a := .string p) (b := .int .i64 4) (c := .string x) (T := 55) ⟨rfl, rfl, rfl, Nat.le_refl _, fun _ _ => rfl⟩
        clear hc c2 c3 c4 hW hbb
        go_enter Tryz.func30, Tryz.ntmps30
        go_wp2
        refine wp_region_any (by kernel_rfl) ?_
        change wpAny _ _ _ _ _ _ _ (World.drew _)
        refine wpAny_take (i := 0) (v := ?_) rfl (by kernel_rfl) (by kernel_rfl) (by kernel_rfl) (fun _ _ _ h => h) (Or.inl ⟨by rfl, ?_⟩) ?_
        rotate_left 1
        · intro w; go_simp; first | done | with_reducible rfl
        refine wpAny_take (i := 1) (v := ?_) rfl (by kernel_rfl) (by kernel_rfl) (by kernel_rfl) (fun _ _ _ h => h) (Or.inl ⟨by rfl, ?_⟩) ?_
        rotate_left 1
        · intro w; go_simp; first | done | with_reducible rfl
        refine wpAny_take (i := 5) (v := ?_) rfl (by kernel_rfl) (by kernel_rfl) (by kernel_rfl) (fun _ _ _ h => h) (Or.inl ⟨by rfl, ?_⟩) ?_
        rotate_left 1
        · intro w; go_simp; first | done | with_reducible rfl
        refine wpAny_ready (rs := [2, 6]) (by kernel_rfl) (by simp) ?_
        refine AllReady.cons rfl (fun K hK => ?_) ?_
        · go_simp
          refine hK _ _ ?_
          clear hK K
          refine wpAny_ready (rs := [3, 6]) (by kernel_rfl) (by simp) ?_
          refine AllReady.cons rfl (fun K hK => ?_) ?_
          · go_simp
            refine hK _ _ ?_
            clear hK K
            refine wpAny_ready (rs := [4, 6]) (by kernel_rfl) (by simp) ?_
            refine AllReady.cons rfl (fun K hK => ?_) ?_
            · go_simp
              refine hK _ _ ?_
              clear hK K
              refine wpAny_ready (rs := [6]) (by kernel_rfl) (by simp) ?_
              refine AllReady.cons rfl (fun K hK => ?_) ?_
              · go_simp
                refine hK _ _ ?_
                clear hK K
                refine wpAny_ready (rs := [7]) (by kernel_rfl) (by simp) ?_
                refine AllReady.cons rfl (fun K hK => ?_) ?_
                · go_simp
                  go_wp2_with (first | (go_at_call 47; refine HC.out.mono ?_; rintro e w1 ⟨v1, rfl, hb1⟩) | fail)
                  refine wpAny_ready (rs := [8]) (by kernel_rfl) (by simp) ?_
                  refine AllReady.cons rfl (fun K hK => ?_) ?_
                  · go_simp
                    refine hK _ _ ?_
                    clear hK K
                    refine wpAny_done (by kernel_rfl) ?_ _
                    go_wp2
                    go_ret
                    exact ⟨v1, rfl, hb1⟩
                  exact AllReady.nil
                exact AllReady.nil
              exact AllReady.nil
            refine AllReady.cons rfl (fun K hK => ?_) ?_
            · go_simp
              refine hK _ _ ?_
              clear hK K
              refine wpAny_ready (rs := [4]) (by kernel_rfl) (by simp) ?_
              refine AllReady.cons rfl (fun K hK => ?_) ?_
              · go_simp
                refine hK _ _ ?_
                clear hK K
                refine wpAny_ready (rs := [7]) (by kernel_rfl) (by simp) ?_
                refine AllReady.cons rfl (fun K hK => ?_) ?_
                · go_simp
                  go_wp2_with (first | (go_at_call 47; refine HC.out.mono ?_; rintro e w1 ⟨v1, rfl, hb1⟩) | fail)
                  refine wpAny_ready (rs := [8]) (by kernel_rfl) (by simp) ?_
                  refine AllReady.cons rfl (fun K hK => ?_) ?_
                  · go_simp
                    refine hK _ _ ?_
                    clear hK K
                    refine wpAny_done (by kernel_rfl) ?_ _
                    go_wp2
                    go_ret
                    exact ⟨v1, rfl, hb1⟩
                  exact AllReady.nil
                exact AllReady.nil
              exact AllReady.nil
            exact AllReady.nil
          refine AllReady.cons rfl (fun K hK => ?_) ?_
          · go_simp
            refine hK _ _ ?_
            clear hK K
            refine wpAny_ready (rs := [3]) (by kernel_rfl) (by simp) ?_
            refine AllReady.cons rfl (fun K hK => ?_) ?_
            · go_simp
              refine hK _ _ ?_
              clear hK K
              refine wpAny_ready (rs := [4]) (by kernel_rfl) (by simp) ?_
              refine AllReady.cons rfl (fun K hK => ?_) ?_
              · go_simp
                refine hK _ _ ?_
                clear hK K
                refine wpAny_ready (rs := [7]) (by kernel_rfl) (by simp) ?_
                refine AllReady.cons rfl (fun K hK => ?_) ?_
                · go_simp
                  go_wp2_with (first | (go_at_call 47; refine HC.out.mono ?_; rintro e w1 ⟨v1, rfl, hb1⟩) | fail)
                  refine wpAny_ready (rs := [8]) (by kernel_rfl) (by simp) ?_
                  refine AllReady.cons rfl (fun K hK => ?_) ?_
                  · go_simp
                    refine hK _ _ ?_
                    clear hK K
                    refine wpAny_done (by kernel_rfl) ?_ _
                    go_wp2
                    go_ret
                    exact ⟨v1, rfl, hb1⟩
                  exact AllReady.nil
                exact AllReady.nil
              exact AllReady.nil
            exact AllReady.nil
          exact AllReady.nil
        refine AllReady.cons rfl (fun K hK => ?_) ?_
        · go_simp
          refine hK _ _ ?_
          clear hK K
          refine wpAny_ready (rs := [2]) (by kernel_rfl) (by simp) ?_
          refine AllReady.cons rfl (fun K hK => ?_) ?_
          · go_simp
            refine hK _ _ ?_
            clear hK K
            refine wpAny_ready (rs := [3]) (by kernel_rfl) (by simp) ?_
            refine AllReady.cons rfl (fun K hK => ?_) ?_
            · go_simp
              refine hK _ _ ?_
              clear hK K
              refine wpAny_ready (rs := [4]) (by kernel_rfl) (by simp) ?_
              refine AllReady.cons rfl (fun K hK => ?_) ?_
              · go_simp
                refine hK _ _ ?_
                clear hK K
                refine wpAny_ready (rs := [7]) (by kernel_rfl) (by simp) ?_
                refine AllReady.cons rfl (fun K hK => ?_) ?_
                · go_simp
                  go_wp2_with (first | (go_at_call 47; refine HC.out.mono ?_; rintro e w1 ⟨v1, rfl, hb1⟩) | fail)
                  refine wpAny_ready (rs := [8]) (by kernel_rfl) (by simp) ?_
                  refine AllReady.cons rfl (fun K hK => ?_) ?_
                  · go_simp
                    refine hK _ _ ?_
                    clear hK K
                    refine wpAny_done (by kernel_rfl) ?_ _
                    go_wp2
                    go_ret
                    exact ⟨v1, rfl, hb1⟩
                  exact AllReady.nil
                exact AllReady.nil
              exact AllReady.nil
            exact AllReady.nil
          exact AllReady.nil
        exact AllReady.nil
      · skip
        have hc := fun (W' : World) (hb' : BufB B 5 v s W W') (hw' : Words W') => appendEnt_any B v s ⟨p, false, x⟩ W W' hb' hw' hs hp hx
        have HC := hidE hc
        have HT : Hid (markT ⟨p, d, x⟩ = entT ⟨p, false, x⟩) := by show markT _ = _; unfold markT; rw [if_neg h2, if_neg h3, if_neg h4]
        clear hc c2 c3 c4
        go_enter Tryz.func30, Tryz.ntmps30
        go_wp2_with (first | (go_at_call 27; refine (HC.out _ hbb hW).mono ?_; rintro e w1 ⟨v1, rfl, hb1⟩) | fail)
        go_ret
        exact ⟨v1, rfl, by rw [HT.out]; exact hb1⟩
end Go.Proofs.YtgkfhcpegdlejaaGreatDoor.Mk

/-
  The walk of the law FnExactMarkText, out of the contracts.
-/
namespace Go.Proofs.YtgkfhcpegdlejaaGreatDoor.Mk
open Go.RowKit Go.Lib

set_option maxHeartbeats 800000 in
set_option maxRecDepth 100000 in
theorem sMarkText_any (e : E) (w : World) (hp : e.p.size ≤ 1073741824) (hx : e.x.size ≤ 1073741824) :
    Calls Tryz.prog 33 #[encE e] w fun r w' => r = .returned (.string (markT e)) ∧ Below w.heap.size w w' := by
  obtain ⟨p, d, x⟩ := e
  have hp' : p.size ≤ 1073741824 := hp
  have hx' : x.size ≤ 1073741824 := hx
  have hB : Below w.heap.size w (w.alloc (.cells #[.string p, .int .i64 d, .string x] 55)) := (Below.refl _ w).alloc (Nat.le_refl _) _
  have HC := hidE (fun W => sEntText_any ⟨p, false, x⟩ W hp hx)
  clear hp hx
  by_cases h2 : d = 2
  · subst h2
    have HE : Hid (markT ⟨p, 2, x⟩ = ⟨#[100, 32]⟩ ++ p) := by show lineT wD p [] = _; rw [lineT_nil]; rfl
    go_enter Tryz.func33, Tryz.ntmps33
    go_wp2
    go_ret
    exact ⟨retS HE.out.symm, hB⟩
  by_cases h3 : d = 3
  · subst h3
    have HE : Hid (markT ⟨p, 3, x⟩ = ⟨#[120, 32]⟩ ++ p) := by show lineT wX p [] = _; rw [lineT_nil]; rfl
    go_enter Tryz.func33, Tryz.ntmps33
    go_wp2
    go_ret
    exact ⟨retS HE.out.symm, hB⟩
  by_cases h4 : d = 4
  · subst h4
    have HE : Hid (markT ⟨p, 4, x⟩ = ⟨#[98, 32]⟩ ++ p) := by show lineT wB p [] = _; rw [lineT_nil]; rfl
    go_enter Tryz.func33, Tryz.ntmps33
    go_wp2
    go_ret
    exact ⟨retS HE.out.symm, hB⟩
  have HE : Hid (markT ⟨p, d, x⟩ = entT ⟨p, false, x⟩) := by show markT _ = _; unfold markT; rw [if_neg h2, if_neg h3, if_neg h4]
  go_enter Tryz.func33, Tryz.ntmps33
  go_wp2_with (first | (go_at_call 31; refine (HC.out _).mono ?_; rintro e w1 ⟨rfl, hB1⟩) | fail)
  go_ret
  exact ⟨retS HE.out.symm, hB.trans (hB1.mono (by simp))⟩

end Go.Proofs.YtgkfhcpegdlejaaGreatDoor.Mk
