/-
  The walk of the program's own: a line laid behind a buffer.
-/
import Derived.Test.YtmfjdafkgkjidaaDoorHTxBuf
import Derived.Test.YtmfjdafkgkjidaaDoorHTxP
import Derived.Test.YtmfjdafkgkjidaaDoorHWalkBase
namespace Go.Proofs.YtmfjdafkgkjidaaDoor
open Go.RowKit Go.Lib

theorem retS {a b : ByteArray} (h : a = b) : Ending.returned (.string a) = .returned (.string b) := by rw [h]
theorem Tryd.infoU8 : (Tryd.prog.info? 5).map (fun i => (i.zero, i.size, i.bytes)) = some (some (.int .u8 0), 1, 1) := by kernel_rfl

theorem bufT {ops : Array Oper} {rest : List Oper} {o : Oper} {a : Act} {Q : Exit → Act → World → Prop} {w : World} (hgd : o.guard = none) (sl x : Operand)
    (ho : o.op = .call { callee := .builtin .append, args := #[sl, x], argTypes := #[57, 9] })
    (B : Nat) (v : Value) (s : ByteArray) (hs : a.eval sl = v) (W : World) (hb : BufB B 5 v s W w) (m : ByteArray) (hx : a.eval x = .string m) (hlen : s.size + m.size ≤ 140737488355328)
    (h : ∀ v' w', BufB B 5 v' (s ++ m) W w' → wpList Tryd.prog ops Q rest (a.put o.dst v') w') : wpList Tryd.prog ops Q (o :: rest) a w := by
  obtain ⟨i0, hi, hx0⟩ := Option.map_eq_some_iff.1 Tryd.infoU8
  simp only [Prod.mk.injEq] at hx0
  obtain ⟨hz0, hz1, hz2⟩ := hx0
  exact wpList_buf_text hgd sl x 57 9 ho B 5 i0 Tryd.underlying57 Tryd.underlying9 hi hz0 hz1 hz2 v s hs W hb m hx hlen h
theorem bufC {ops : Array Oper} {rest : List Oper} {o : Oper} {a : Act} {Q : Exit → Act → World → Prop} {w0 : World} (hgd : o.guard = none) (sl x : Operand)
    (ho : o.op = .call { callee := .builtin .append, args := #[sl, x], argTypes := #[57, 57] })
    (B : Nat) (v : Value) (s : ByteArray) (hs : a.eval sl = v) (W : World) (c : UInt8) (ci : Int) (hc : ci = (c.toNat : Int)) (hb : BufB B 5 v s W w0)
    (hx : a.eval x = .slice (some ⟨w0.heap.size, 0, none⟩) 1 1) (hlen : s.size + 1 ≤ 140737488355328)
    (h : ∀ v' w', BufB B 5 v' (s ++ ⟨#[c]⟩) W w' → wpList Tryd.prog ops Q rest (a.put o.dst v') w') : wpList Tryd.prog ops Q (o :: rest) a (w0.alloc (.cells #[.int .u8 ci] 5)) := by
  obtain ⟨i0, hi, hx0⟩ := Option.map_eq_some_iff.1 Tryd.infoU8
  simp only [Prod.mk.injEq] at hx0
  obtain ⟨hz0, hz1, hz2⟩ := hx0
  exact wpList_buf_byte hgd sl x 57 ho B 5 i0 Tryd.underlying57 hi hz0 hz1 hz2 v s hs W w0 c ci hc hb hx hlen h

theorem not_bytes {cs : Array Value} {fz : Nat × Nat} : ∀ cs' fz', Obj.cells cs 9 fz ≠ Obj.cells cs' 5 fz' := fun _ _ h => by injection h with _ h _; exact absurd h (by decide)

set_option maxHeartbeats 1600000 in
set_option maxRecDepth 100000 in
theorem appendLine_from (B : Nat) (v : Value) (s a p : ByteArray) (ra : Option Addr) (cap g : Nat) (cs : Array Value) (fz : Nat × Nat) (ms : List ByteArray) (w : World)
    (hb : BufB B 5 v s w w) (hr : 0 < ms.length → ra = some ⟨g, 0, none⟩ ∧ w.heap[g]? = some (.cells cs 9 fz) ∧ ∀ i (h : i < ms.length), cs[i]? = some (.string ms[i]))
    (hs : s.size ≤ 1099511627776) (hz1 : a.size ≤ 1073741824) (hz2 : p.size ≤ 1073741824) (hz3 : ∀ m ∈ ms, m.size ≤ 1073741824) (hl : ms.length ≤ 16) :
    Calls Tryd.prog 43 #[v, .string a, .string p, .slice ra ms.length cap] w fun r w' => ∃ v', r = .returned v' ∧ BufB B 5 v' (s ++ lineT a p ms) w w' := by
  have HR := hidE hr
  have HZ := hidE hz3
  clear hr hz3
  have q1 : (s ++ a).size ≤ 1100585369600 := by rw [ByteArray.size_append]; omega
  have q2 : (s ++ a ++ ⟨#[32]⟩).size ≤ 1100585369601 := by rw [ByteArray.size_append]; show _ + 1 ≤ _; omega
  go_enter Tryd.func43, Tryd.ntmps43
  go_wp2_with (first
    | (at_builtin; refine bufT rfl (.tmp 11) (.tmp 12) rfl B v s rfl w hb a rfl (by omega) ?_; intro v1 w1 hb1)
    | (at_builtin; refine bufC rfl (.tmp 14) (.tmp 15) rfl B v1 (s ++ a) rfl w 32 32 rfl hb1 rfl (by omega) ?_; intro v2 w2 hb2)
    | (at_builtin; refine bufT rfl (.tmp 17) (.tmp 18) rfl B v2 (s ++ a ++ ⟨#[32]⟩) rfl w hb2 p rfl (by omega) ?_; intro v3 w3 hb3)
    | fail)
  clear hb hb1 hb2
  obtain ⟨H, hH⟩ : ∃ H, s ++ a ++ ⟨#[32]⟩ ++ p = H := ⟨_, rfl⟩
  have hHz : H.size ≤ 1101659111425 := by rw [← hH, ByteArray.size_append]; omega
  rw [hH] at hb3
  have HH := hidE hH
  clear hH q1 q2
  go_loopw [0, 22] (fun tv iv wl => ∃ j : Nat, j ≤ ms.length ∧ iv = .int .i64 j ∧ Hid (BufB B 5 tv (H ++ restT (ms.take j)) w wl)) (fun _ iv _ => ms.length - (RowKit.intOf iv).toNat)
  case atStart => exact ⟨0, Nat.zero_le _, rfl, by show BufB _ _ _ (H ++ restT []) _ _; rw [show restT [] = ⟨#[]⟩ from rfl, app_nil]; exact hb3⟩
  case round =>
    clear hb3
    obtain ⟨j, hj, rfl, hbj⟩ := hrel
    by_cases hlt : j < ms.length
    · obtain ⟨rfl, hg, hcs⟩ := HR.out (by omega)
      have hT := HZ.out ms[j] (List.getElem_mem hlt)
      have HT := hidE (restT_take hlt)
      have hpre : (H ++ restT (ms.take j)).size ≤ 1119912724497 := by
        have h1 := restT_le (ms.take j) 1073741824 (fun m hm => HZ.out m (List.mem_of_mem_take hm))
        have h2 : (ms.take j).length ≤ 16 := by rw [List.length_take]; omega
        have h3 := Nat.mul_le_mul_right (1073741824 + 1) h2
        rw [ByteArray.size_append]; omega
      obtain ⟨m, hm⟩ : ∃ m, ms[j] = m := ⟨_, rfl⟩
      have hc : wr.cell? ⟨g, j, none⟩ = some (.string m) := by
        have := hbj.out.kn g _ hg not_bytes
        rw [cell_of_row wr g j cs 9 fz this, hcs j hlt, hm]
      rw [hm] at HT hT
      clear hm hcs hg
      obtain ⟨S, hS⟩ : ∃ S, H ++ restT (ms.take j) = S := ⟨_, rfl⟩
      rw [hS] at hbj hpre
      have hb4 := hbj.out
      clear hbj
      by_cases hm0 : m.size = 0
      · have hmd : m.toList = [] := by rw [Lib.toList_data]; exact List.eq_nil_of_length_eq_zero (by rw [Array.length_toList]; exact hm0)
        have he : m = ⟨#[]⟩ := by cases m with | mk d => simp [ByteArray.size] at hm0; rw [hm0]
        subst he
        have HS : Hid (H ++ restT (ms.take (j + 1)) = S) := by show _ = _; rw [HT.out, if_pos (show (⟨#[]⟩ : ByteArray).size = 0 from rfl), app_nil, hS]
        clear HT hS hm0 hT
        go_wp2
        go_roundw
        case rel => exact ⟨j + 1, by omega, by go_num, by show BufB _ _ _ _ _ _; rw [HS.out]; exact hb4⟩
        case measure => simp [RowKit.intOf]; omega
      · have HS : Hid (H ++ restT (ms.take (j + 1)) = S ++ ⟨#[32]⟩ ++ m) := by show _ = _; rw [HT.out, if_neg hm0, ← app_assoc, hS, app_assoc]
        have hne : (m.toList == []) = false := by
          rw [Lib.toList_data]; simp; intro q; apply hm0; show m.data.size = 0; rw [q]; rfl
        have hne' : ¬ m.toList = [] := by simpa using hne
        have q3 : (S ++ ⟨#[32]⟩).size ≤ 1119912724498 := by rw [ByteArray.size_append]; show _ + 1 ≤ _; omega
        clear HT hS hm0
        go_wp2_with (first
          | (at_builtin; refine bufC rfl (.tmp 28) (.tmp 29) rfl B _ S rfl w 32 32 rfl hb4 rfl (by omega) ?_; intro v5 w5 hb5)
          | (at_builtin; refine bufT rfl (.tmp 31) (.tmp 32) rfl B v5 (S ++ ⟨#[32]⟩) rfl w hb5 m rfl (by omega) ?_; intro v6 w6 hb6)
          | fail)
        go_roundw
        case rel => exact ⟨j + 1, by omega, by go_num, by show BufB _ _ _ _ _ _; rw [HS.out]; exact hb6⟩
        case measure => simp [RowKit.intOf]; omega
    · go_wp2
      go_ret
      refine ⟨_, rfl, ?_⟩
      have := hbj.out
      rw [List.take_of_length_le (by omega), ← HH.out] at this
      unfold lineT
      rw [← app_assoc, ← app_assoc, ← app_assoc]
      exact this
theorem appendLine_any (B : Nat) (v : Value) (s a p : ByteArray) (ra : Option Addr) (cap g : Nat) (cs : Array Value) (fz : Nat × Nat) (ms : List ByteArray) (W w : World)
    (hb : BufB B 5 v s W w) (hr : 0 < ms.length → ra = some ⟨g, 0, none⟩ ∧ w.heap[g]? = some (.cells cs 9 fz) ∧ ∀ i (h : i < ms.length), cs[i]? = some (.string ms[i]))
    (hs : s.size ≤ 1099511627776) (hz1 : a.size ≤ 1073741824) (hz2 : p.size ≤ 1073741824) (hz3 : ∀ m ∈ ms, m.size ≤ 1073741824) (hl : ms.length ≤ 16) :
    Calls Tryd.prog 43 #[v, .string a, .string p, .slice ra ms.length cap] w fun r w' => ∃ v', r = .returned v' ∧ BufB B 5 v' (s ++ lineT a p ms) W w' :=
  (appendLine_from B v s a p ra cap g cs fz ms w hb.from hr hs hz1 hz2 hz3 hl).mono fun _ _ ⟨v', h1, h2⟩ => ⟨v', h1, hb.upon h2⟩
end Go.Proofs.YtmfjdafkgkjidaaDoor
