/-
  The walks of the text of an entry: the program's own, and the model's.
-/
import Derived.Test.YtmfjdafkgkjidaaDoorHTxLine
import Derived.Test.YtmfjdafkgkjidaaDoorHLawEnts
namespace Go.Proofs.YtmfjdafkgkjidaaDoor
open Go.RowKit Go.Lib

def wX : ByteArray := ⟨#[120]⟩
def wB : ByteArray := ⟨#[98]⟩
/-- The words of marks lie where they are laid. -/
structure Words (w : World) : Prop where
  c1 : w.cell? ⟨1, 1, none⟩ = some (.string wF)
  c2 : w.cell? ⟨1, 2, none⟩ = some (.string wD)
  c3 : w.cell? ⟨1, 3, none⟩ = some (.string wX)
  c4 : w.cell? ⟨1, 4, none⟩ = some (.string wB)
theorem Words.lt {w : World} (h : Words w) : 1 < w.heap.size := World.block_lt_of_cell? w ⟨1, 1, none⟩ h.c1
theorem Words.low {w w' : World} {B : Nat} (h : Words w) (hB : 1 < B) (hb : Below B w w') : Words w' :=
  ⟨(hb.cell (p := ⟨1, _, none⟩) hB).trans h.c1, (hb.cell (p := ⟨1, _, none⟩) hB).trans h.c2, (hb.cell (p := ⟨1, _, none⟩) hB).trans h.c3, (hb.cell (p := ⟨1, _, none⟩) hB).trans h.c4⟩
theorem Words.below {w w' : World} (h : Words w) (hb : Below w.heap.size w w') : Words w' := h.low h.lt hb
theorem Words.alloc {w : World} (h : Words w) (o : Obj) : Words (w.alloc o) := h.below ((Below.refl _ w).alloc (Nat.le_refl _) o)

set_option maxHeartbeats 1600000 in
set_option maxRecDepth 100000 in
theorem appendEnt_any (B : Nat) (v : Value) (s : ByteArray) (e : E) (W w : World) (hb : BufB B 5 v s W w) (hw : Words w)
    (hs : s.size ≤ 1099511627776) (hp : e.p.size ≤ 1073741824) (hx : e.x.size ≤ 1073741824) :
    Calls Tryd.prog 30 #[v, encE e] w fun r w' => ∃ v', r = .returned v' ∧ BufB B 5 v' (s ++ entT e) W w' := by
  obtain ⟨p, d, x⟩ := e
  have h1 := (hw.alloc (.cells #[.string p, .bool d, .string x] 26)).c1
  have h2 := (hw.alloc (.cells #[.string p, .bool d, .string x] 26)).c2
  have hbb := hb.alloc (.cells #[.string p, .bool d, .string x] 26)
  clear hb hw
  cases d with
  | true =>
    go_enter Tryd.func30, Tryd.ntmps30
    go_wp2_with (first | (go_at_call 43; refine (appendLine_any B v s wD p none 0 0 #[] (0, 0) [] W _ hbb (fun h => absurd h (by simp)) hs (by decide) hp (fun _ h => by simp at h) (by simp)).mono ?_; rintro e w1 ⟨v1, rfl, hb1⟩) | fail)
    go_ret
    exact ⟨v1, rfl, hb1⟩
  | false =>
    have hc := appendLine_any B v s wF p (some ⟨w.heap.size + 1, 0, none⟩) 1 (w.heap.size + 1) #[.string x] (0, 0) [x] W ((w.alloc (.cells #[.string p, .bool false, .string x] 26)).alloc (.cells #[.string x] 9)) (hbb.alloc _)
      (fun _ => ⟨rfl, by simpa using heap_alloc_new (w.alloc (.cells #[.string p, .bool false, .string x] 26)) (.cells #[.string x] 9), fun i hi => by
        obtain rfl : i = 0 := by simpa using hi
        rfl⟩) hs (by decide) hp (fun m h => by simp at h; subst h; exact hx) (by simp)
    have HC := hidE hc
    clear hc
    go_enter Tryd.func30, Tryd.ntmps30
    go_wp2_with (first | (go_at_call 43; refine HC.out.mono ?_; rintro e w1 ⟨v1, rfl, hb1⟩) | fail)
    go_ret
    exact ⟨v1, rfl, hb1⟩

set_option maxHeartbeats 800000 in
set_option maxRecDepth 100000 in
theorem iEntText_any (e : E) (w : World) (hw : Words w) (hp : e.p.size ≤ 1073741824) (hx : e.x.size ≤ 1073741824) :
    Calls Tryd.prog 11 #[encE e] w fun r w' => r = .returned (.string (entT e)) ∧ Below w.heap.size w w' := by
  obtain ⟨p, d, x⟩ := e
  have hB : Below w.heap.size w (w.alloc (.cells #[.string p, .bool d, .string x] 26)) := (Below.refl _ w).alloc (Nat.le_refl _) _
  have hc := appendEnt_any (w.heap.size + 1) (.slice none 0 0) ⟨#[]⟩ ⟨p, d, x⟩ _ _ (BufB.nil 5 (W := w.alloc (.cells #[.string p, .bool d, .string x] 26)) (by simp)) (hw.alloc _) (by decide) hp hx
  rw [nil_app] at hc
  have HC := hidE hc
  clear hc
  go_enter Tryd.func11, Tryd.ntmps11
  go_wp2_with (first | (go_at_call 30; refine HC.out.mono ?_; rintro e w1 ⟨v1, rfl, hb1⟩; have hcv := run_convert_buf (P := Tryd.prog) hb1 57 9 Tryd.underlying57 Tryd.underlying5 Tryd.underlying9) | fail)
  go_ret
  exact ⟨rfl, hB.trans (hb1.below.mono (by simp))⟩

set_option maxHeartbeats 800000 in
set_option maxRecDepth 100000 in
theorem sEntText_any (e : E) (w : World) (hp : e.p.size ≤ 1073741824) (hx : e.x.size ≤ 1073741824) :
    Calls Tryd.prog 9 #[encE e] w fun r w' => r = .returned (.string (entT e)) ∧ Below w.heap.size w w' := by
  obtain ⟨p, d, x⟩ := e
  have hp' : p.size ≤ 1073741824 := hp
  have hx' : x.size ≤ 1073741824 := hx
  clear hp hx
  have hB : Below w.heap.size w (w.alloc (.cells #[.string p, .bool d, .string x] 26)) := (Below.refl _ w).alloc (Nat.le_refl _) _
  cases d with
  | true =>
    have HE := hidE (entT_dir (e := ⟨p, true, x⟩) rfl)
    go_enter Tryd.func9, Tryd.ntmps9
    go_wp2
    go_ret
    exact ⟨retS HE.out.symm, hB⟩
  | false =>
    by_cases h0 : x.size = 0
    · have HE := hidE (entT_bare (e := ⟨p, false, x⟩) rfl h0)
      have he : x = ⟨#[]⟩ := by cases x with | mk d => simp [ByteArray.size] at h0; rw [h0]
      subst he
      clear h0
      go_enter Tryd.func9, Tryd.ntmps9
      go_wp2
      go_ret
      exact ⟨retS HE.out.symm, hB⟩
    · have HE := hidE (entT_file (e := ⟨p, false, x⟩) rfl h0)
      have hne : (x.toList == []) = false := by
        rw [Lib.toList_data]; simp; intro q; apply h0; show x.data.size = 0; rw [q]; rfl
      have hne' : ¬ x.toList = [] := by simpa using hne
      have q1 : ((⟨#[102, 32]⟩ : ByteArray) ++ p).size ≤ 1073741826 := by rw [ByteArray.size_append]; show 2 + _ ≤ _; omega
      have q2 : ((⟨#[102, 32]⟩ : ByteArray) ++ p ++ ⟨#[32]⟩).size ≤ 1073741827 := by rw [ByteArray.size_append]; show _ + 1 ≤ _; omega
      clear h0
      go_enter Tryd.func9, Tryd.ntmps9
      go_wp2
      go_ret
      exact ⟨retS HE.out.symm, hB⟩
end Go.Proofs.YtmfjdafkgkjidaaDoor
