/-
  The walks of the text of an entry: the program's own, and the model's.
-/
import Derived.Test.YtfbfmckfmdodlaaDoorHTxLine
import Derived.Test.YtfbfmckfmdodlaaDoorHEntsDef
namespace Go.Proofs.YtfbfmckfmdodlaaDoor
open Go.RowKit Go.Lib

/-- The words of marks lie where they are laid. -/
structure Words (w : World) : Prop where
  c1 : w.cell? ⟨0, 1, none⟩ = some (.string wF)
  c2 : w.cell? ⟨0, 2, none⟩ = some (.string wD)
  c3 : w.cell? ⟨0, 3, none⟩ = some (.string wX)
  c4 : w.cell? ⟨0, 4, none⟩ = some (.string wB)
theorem Words.lt {w : World} (h : Words w) : 0 < w.heap.size := World.block_lt_of_cell? w ⟨0, 1, none⟩ h.c1
theorem Words.low {w w' : World} {B : Nat} (h : Words w) (hB : 0 < B) (hb : Below B w w') : Words w' :=
  ⟨(hb.cell (p := ⟨0, _, none⟩) hB).trans h.c1, (hb.cell (p := ⟨0, _, none⟩) hB).trans h.c2, (hb.cell (p := ⟨0, _, none⟩) hB).trans h.c3, (hb.cell (p := ⟨0, _, none⟩) hB).trans h.c4⟩
theorem Words.below {w w' : World} (h : Words w) (hb : Below w.heap.size w w') : Words w' := h.low h.lt hb
theorem Words.alloc {w : World} (h : Words w) (o : Obj) : Words (w.alloc o) := h.below ((Below.refl _ w).alloc (Nat.le_refl _) o)

set_option maxHeartbeats 800000 in
set_option maxRecDepth 100000 in
theorem sEntText_any (e : E) (w : World) (hp : e.p.size ≤ 1073741824) (hx : e.x.size ≤ 1073741824) :
    Calls Tryd.prog 47 #[encE e] w fun r w' => r = .returned (.string (entT e)) ∧ Below w.heap.size w w' := by
  obtain ⟨p, d, x⟩ := e
  have hp' : p.size ≤ 1073741824 := hp
  have hx' : x.size ≤ 1073741824 := hx
  clear hp hx
  have hB : Below w.heap.size w (w.alloc (.cells #[.string p, .bool d, .string x] 44)) := (Below.refl _ w).alloc (Nat.le_refl _) _
  cases d with
  | true =>
    have HE := hidE (entT_dir (e := ⟨p, true, x⟩) rfl)
    go_enter Tryd.func47, Tryd.ntmps47
    go_wp2
    go_ret
    exact ⟨retS HE.out.symm, hB⟩
  | false =>
    by_cases h0 : x.size = 0
    · have HE := hidE (entT_bare (e := ⟨p, false, x⟩) rfl h0)
      have he : x = ⟨#[]⟩ := by cases x with | mk d => simp [ByteArray.size] at h0; rw [h0]
      subst he
      clear h0
      go_enter Tryd.func47, Tryd.ntmps47
      go_wp2
      go_ret
      exact ⟨retS HE.out.symm, hB⟩
    · have HE := hidE (entT_file (e := ⟨p, false, x⟩) rfl h0)
      have hne : (x.toList == []) = false := by
        rw [Lib.toList_data]; simp; intro q; apply h0; show x.data.size = 0; rw [q]; rfl
      have hne' : ¬ x.toList = [] := by simpa using hne
      have q1 : ((⟨#[102, 32]⟩ : ByteArray) ++ p).size ≤ 1073741826 := by rw [ByteArray.size_append]; show 2 + _ ≤ _; omega
      have q2 : ((⟨#[102, 32]⟩ : ByteArray) ++ p ++ ⟨#[32]⟩).size ≤ 1073741827 := by rw [ByteArray.size_append]; show _ + 1 ≤ _; omega
      clear h0
      go_enter Tryd.func47, Tryd.ntmps47
      go_wp2
      go_ret
      exact ⟨retS HE.out.symm, hB⟩
end Go.Proofs.YtfbfmckfmdodlaaDoor
