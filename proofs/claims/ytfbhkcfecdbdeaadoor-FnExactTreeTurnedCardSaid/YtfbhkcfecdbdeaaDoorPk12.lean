/-
  Rows of entries that a function makes itself.
-/
import Derived.Maps.AppendAt
import Derived.Test.YtfbhkcfecdbdeaaDoorPk11
import Derived.Laws.IdiomStrings
namespace Go.Proofs.YtfbhkcfecdbdeaaDoor
open Go.RowKit Go.Lib

theorem rowE_append (es fs : List E) : rowE (es ++ fs) = rowE es ++ rowE fs := by unfold rowE; exact List.flatMap_append
theorem rowE_one (e : E) : rowE [e] = cellsE e := by unfold rowE; simp
theorem rowE_at : ∀ (es : List E) (i : Nat) (h : i < es.length), (rowE es)[i * 3]? = some (.string es[i].p) ∧ (rowE es)[i * 3 + 1]? = some (.bool es[i].d) ∧ (rowE es)[i * 3 + 2]? = some (.string es[i].x)
  | e :: r, 0, _ => ⟨rfl, rfl, rfl⟩
  | e :: r, i + 1, h => by
    obtain ⟨q0, q1, q2⟩ := rowE_at r i (by simpa using h)
    have hd : ∀ j, (rowE (e :: r))[3 + j]? = (rowE r)[j]? := fun j => by
      show (cellsE e ++ rowE r)[3 + j]? = _
      rw [List.getElem?_append_right (by show 3 ≤ _; omega)]
      show (rowE r)[3 + j - 3]? = _
      rw [Nat.add_sub_cancel_left]
    refine ⟨?_, ?_, ?_⟩
    · rw [show (i + 1) * 3 = 3 + i * 3 from by omega, hd]; exact q0
    · rw [show (i + 1) * 3 + 1 = 3 + (i * 3 + 1) from by omega, hd]; exact q1
    · rw [show (i + 1) * 3 + 2 = 3 + (i * 3 + 2) from by omega, hd]; exact q2
theorem rowE_one' {e : E} : ∀ u ∈ cellsE e, u.oneCell' = true := by
  intro u hu; simp [cellsE] at hu; rcases hu with rfl | rfl | rfl <;> rfl

/-- A list of entries that lies in a block of its own, at base or behind. -/
abbrev OwnE (w : World) (base : Nat) (v : Value) (es : List E) : Prop := w.ownsRow base 30 3 v es.length (rowE es)
theorem add0 (g j : Nat) : (⟨g, 0, none⟩ : Addr).add j = ⟨g, 0 + j, none⟩ := by
  cases j with
  | zero => rfl
  | succ j => simp [Addr.add]
theorem OwnE.ents {w : World} {base : Nat} {v : Value} {es : List E} (h : OwnE w base v es) :
    ∃ a g cap, v = .slice a es.length cap ∧ (0 < es.length → a = some ⟨g, 0, none⟩) ∧ Ents w g 0 es ∧ es.length ≤ cap := by
  have hc := fun (g : Nat) (hg : v.ownBlock = some g) => World.ownsRow.cells h hg
  obtain ⟨_, ⟨rfl, e0⟩ | ⟨g, cap, cur, rfl, _, _, hcap, _⟩⟩ := h
  · exact ⟨none, 0, 0, by rw [e0], fun h => by omega, fun i hi => by omega, by omega⟩
  · refine ⟨_, g, cap, rfl, fun _ => rfl, fun i hi => ?_, hcap⟩
    obtain ⟨q0, q1, q2⟩ := rowE_at es i hi
    refine ⟨?_, ?_, ?_⟩
    · have := hc g rfl _ _ q0; rw [add0] at this; exact this
    · have := hc g rfl _ _ q1; rw [add0, ← Nat.add_assoc] at this; exact this
    · have := hc g rfl _ _ q2; rw [add0, ← Nat.add_assoc] at this; exact this
theorem OwnE.below {w w' : World} {base : Nat} {v : Value} {es : List E} (h : OwnE w base v es) (hb : Below w.heap.size w w') : OwnE w' base v es :=
  World.ownsRow.kept (row := none) h ⟨hb.os, hb.tape, hb.output, hb.size, fun b hb' _ => hb.block b hb'⟩ (by
    cases hob : v.ownBlock with
    | none => exact .inl rfl
    | some q => exact .inr (by simp))
theorem OwnE.lower {w : World} {base base' : Nat} {v : Value} {es : List E} (h : OwnE w base v es) (hb : base' ≤ base) : OwnE w base' v es := by
  obtain ⟨h1, h2 | ⟨g, cap, cur, e1, e2, e3⟩⟩ := h
  · exact ⟨h1, .inl h2⟩
  · exact ⟨h1, .inr ⟨g, cap, cur, e1, Nat.le_trans hb e2, e3⟩⟩
theorem OwnE.made (w : World) {base : Nat} (hb : base ≤ w.heap.size) : OwnE (w.alloc (.cells #[] 30)) base (.slice (some ⟨w.heap.size, 0, none⟩) 0 0) [] := World.ownsRow_made w #[] 0 hb (Nat.zero_le _) rfl
theorem OwnE.push {w : World} {base : Nat} {v : Value} {es : List E} {e : E} (h : w.ownsRow base 30 3 v (es.length + 1) (rowE es ++ cellsE e)) : OwnE w base v (es ++ [e]) := by
  show World.ownsRow w base 30 3 v (es ++ [e]).length (rowE (es ++ [e]))
  rw [rowE_append, rowE_one, List.length_append]; exact h

theorem Tryd.infoE' : (Tryd.prog.info? 30).map (fun i => (i.zero, i.size, i.bytes)) = some (some (.agg #[.string ByteArray.empty, .bool false, .string ByteArray.empty]), 3, 40) := by kernel_rfl
theorem cells_new (w : World) (e : E) : ∀ j u, (cellsE e)[j]? = some u → (w.alloc (.cells #[.string e.p, .bool e.d, .string e.x] 30)).cell? ((⟨w.heap.size, 0, none⟩ : Addr).add j) = some u := by
  intro j u hj
  match j, hj with
  | 0, hj => simp [cellsE] at hj; subst hj; simp [Addr.add]
  | 1, hj => simp [cellsE] at hj; subst hj; simp [Addr.add]
  | 2, hj => simp [cellsE] at hj; subst hj; simp [Addr.add]
  | j + 3, hj => simp [cellsE] at hj

end Go.Proofs.YtfbhkcfecdbdeaaDoor

/-
  The walks of the exact laws' marks.
-/
namespace Go.Proofs.YtfbhkcfecdbdeaaDoor
open Go.RowKit Go.Lib Go.Sort

def digC (j : Nat) : UInt8 := UInt8.ofNat (48 + j % 10)
/-- The digits of a number, ahead of a text. -/
def digS (k : Nat) (out : ByteArray) : ByteArray := if _h : k = 0 then out else digS (k / 10) (⟨#[digC k]⟩ ++ out)
termination_by k
decreasing_by omega
/-- The mark of a number. -/
def markS (k : Nat) : ByteArray := ⟨#[109]⟩ ++ (if k = 0 then ⟨#[48]⟩ else digS k ⟨#[]⟩)
theorem dig_step (k : Nat) (out : ByteArray) (h : 0 < k) : digS k out = digS (k / 10) (⟨#[digC k]⟩ ++ out) := by
  rw [digS, dif_neg (by omega)]
theorem dig_zero (out : ByteArray) : digS 0 out = out := by rw [digS, dif_pos rfl]

theorem conv_one (W : World) (j : Nat) : (convert 86 9 (.slice (some ⟨W.heap.size, 0, none⟩) 1 1)).run Tryd.prog (W.alloc (.cells #[.int .u8 (48 + (j : Int) % 10)] 5)) = .ok (.string ⟨#[digC j]⟩) (W.alloc (.cells #[.int .u8 (48 + (j : Int) % 10)] 5)) := by
  have h := run_convert_bytes_back (P := Tryd.prog) (W.alloc (.cells #[.int .u8 (48 + (j : Int) % 10)] 5)) 86 9 5 ⟨W.heap.size, 0, none⟩ 1 [digC j] Tryd.underlying86 Tryd.underlying5 Tryd.underlying9 (fun i hi => by
    have : i = 0 := by simpa using hi
    subst this
    have hj : 48 + j % 10 < 256 := by omega
    simp [digC, Addr.add, Nat.mod_eq_of_lt hj])
  exact h

set_option maxHeartbeats 800000 in
set_option maxRecDepth 100000 in
theorem markText_any (k : Nat) (hk : 0 < k) (hk' : k ≤ 16777216) (w : World) :
    Calls Tryd.prog 39 #[.int .i64 k] w fun r w' => r = .returned (.string (markS k)) ∧ Below w.heap.size w w' := by
  go_enter Tryd.func39, Tryd.ntmps39
  go_wp2
  go_loopw [0, 3] (fun iv ov wl => ∃ (j : Nat) (out : ByteArray), iv = .int .i64 j ∧ ov = .string out ∧ out.size + j ≤ k ∧ Hid (digS j out = digS k ⟨#[]⟩) ∧ Hid (RowKit.Below w.heap.size w wl)) (fun iv _ _ => (RowKit.intOf iv).toNat)
  case atStart => exact ⟨k, ⟨#[]⟩, rfl, rfl, by show 0 + k ≤ k; omega, rfl, RowKit.Below.refl _ _⟩
  case round =>
    obtain ⟨j, out, rfl, rfl, hj, HD, HB⟩ := hrel
    by_cases h0 : 0 < j
    · have HD2 := hidE (dig_step j out h0)
      have hcv := conv_one wr j
      have hz := HB.out.size
      have HB2 := hidE (HB.out.alloc hz (.cells #[.int .u8 (48 + (j : Int) % 10)] 5))
      clear HB
      go_wp2
      go_roundw
      case rel => exact ⟨j / 10, _, by first | rfl | (congr 1) | go_num, rfl, by rw [ByteArray.size_append]; show 1 + _ + _ ≤ _; omega, by show _ = _; rw [← HD2.out, HD.out], HB2⟩
      case measure => simp [RowKit.intOf]; omega
    · have HM : Hid (markS k = ⟨#[109]⟩ ++ out) := by
        have hj0 : j = 0 := by omega
        show _ = _; unfold markS; rw [if_neg (by omega), ← HD.out, hj0, dig_zero]
      clear HD
      go_wp2
      go_ret
      exact ⟨ret_str' HM.out.symm, HB.out⟩
end Go.Proofs.YtfbhkcfecdbdeaaDoor
