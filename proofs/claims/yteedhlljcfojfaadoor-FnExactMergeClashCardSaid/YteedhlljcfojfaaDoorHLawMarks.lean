/-
  The walks of the exact laws' marks in lists of entries.
-/
import Derived.Lib.QuietBelow
import Derived.Test.YteedhlljcfojfaaDoorHLawMark
import Derived.Test.YteedhlljcfojfaaDoorHLawEnts
namespace Go.Proofs.YteedhlljcfojfaaDoor
open Go.RowKit Go.Lib Go.Sort

/-- The entries that the marks make, from the number k on. -/
def markE (k : Nat) : E := ⟨markS k, (((k : Int) + 1) % 3 == 0), markS (k + 2)⟩
def markEs (n k : Nat) : List E := (List.range n).map (fun i => markE (k + i * 3))

/-- Nothing but the block g has turned. -/
def But (g : Nat) (w w' : World) : Prop := w'.os = w.os ∧ w'.tape = w.tape ∧ w'.output = w.output ∧ w.heap.size ≤ w'.heap.size ∧ ∀ b, b < w.heap.size → b ≠ g → w'.heap[b]? = w.heap[b]?
theorem But.refl (g : Nat) (w : World) : But g w w := ⟨rfl, rfl, rfl, Nat.le_refl _, fun _ _ _ => rfl⟩
theorem But.trans {r : Nat} {a b c : World} (h : But r a b) (k : But r b c) : But r a c :=
  ⟨k.1.trans h.1, k.2.1.trans h.2.1, k.2.2.1.trans h.2.2.1, Nat.le_trans h.2.2.2.1 k.2.2.2.1, fun x hx hr => (k.2.2.2.2 x (Nat.lt_of_lt_of_le hx h.2.2.2.1) hr).trans (h.2.2.2.2 x hx hr)⟩
theorem But.of_below {r : Nat} {w w' : World} (h : RowKit.Below w.heap.size w w') : But r w w' := ⟨h.os, h.tape, h.output, h.size, fun b hb _ => h.block b hb⟩
theorem But.set (r : Nat) (w : World) (i : Nat) (v : Value) : But r w (w.setCell ⟨r, i, none⟩ v) := by
  have h : RowKit.Below r w (w.setCell ⟨r, i, none⟩ v) := (RowKit.Below.refl r w).setCell (p := ⟨r, i, none⟩) (Nat.le_refl _) v
  exact ⟨h.os, h.tape, h.output, h.size, fun b hb hne => Below.heap_setCell w ⟨r, i, none⟩ v b hne⟩

theorem ents_set {w : World} {g : Nat} {es : List E} (h : Ents w g 0 es) (i : Nat) (hi : es.length * 3 ≤ i) (v : Value) : Ents (w.setCell ⟨g, i, none⟩ v) g 0 es := by
  intro j hj
  obtain ⟨c0, c1, c2⟩ := h j hj
  exact ⟨(cell_ne w g i _ v (by omega)).trans c0, (cell_ne w g i _ v (by omega)).trans c1, (cell_ne w g i _ v (by omega)).trans c2⟩
theorem ents_snoc {w : World} {g : Nat} {es : List E} {e : E} (h : Ents w g 0 es) (c0 : w.cell? ⟨g, es.length * 3, none⟩ = some (.string e.p)) (c1 : w.cell? ⟨g, es.length * 3 + 1, none⟩ = some (.bool e.d)) (c2 : w.cell? ⟨g, es.length * 3 + 2, none⟩ = some (.string e.x)) : Ents w g 0 (es ++ [e]) := by
  intro j hj
  by_cases hlt : j < es.length
  · rw [List.getElem_append_left hlt]; exact h j hlt
  · have : j = es.length := by simp at hj; omega
    subst this
    simp only [Nat.zero_add]
    rw [List.getElem_append_right (Nat.le_refl _)]
    simpa using ⟨c0, c1, c2⟩
theorem marks_len (n k : Nat) : (markEs n k).length = n := by unfold markEs; simp
theorem marks_succ (n k : Nat) : markEs (n + 1) k = markEs n k ++ [markE (k + n * 3)] := by unfold markEs; rw [List.range_succ, List.map_append]; rfl

set_option maxHeartbeats 1600000 in
set_option maxRecDepth 100000 in
theorem markEntS_any (w : World) (a : Option Addr) (g cap n k : Nat) (hn : n ≤ 1048576) (hk : 0 < k) (hk' : k ≤ 8388608) (ha : 0 < n → a = some ⟨g, 0, none⟩) (hR : Room w g (n * 3)) (hg : 0 < n → g < w.heap.size) :
    Calls Tryd.prog 11 #[.slice a n cap, .int .i64 k] w fun r w' => r = .returned (.int .i64 ((k + n * 3 : Nat) : Int)) ∧ Ents w' g 0 (markEs n k) ∧ Room w' g (n * 3) ∧ But g w w' := by
  go_enter Tryd.func11, Tryd.ntmps11
  go_wp2
  have HR := hidE hR
  clear hR
  go_loopw [1, 5] (fun kv iv wl => ∃ j : Nat, j ≤ n ∧ iv = .int .i64 j ∧ kv = .int .i64 ((k + j * 3 : Nat) : Int) ∧ Hid (Ents wl g 0 (markEs j k)) ∧ Hid (Room wl g (n * 3)) ∧ Hid (But g w wl)) (fun _ iv _ => n - (RowKit.intOf iv).toNat)
  case atStart => exact ⟨0, Nat.zero_le _, rfl, rfl, fun i hi => absurd hi (by simp [markEs]), HR, But.refl _ _⟩
  case round =>
    clear HR
    obtain ⟨j, hj, rfl, rfl, HM, HR, HB⟩ := hrel
    obtain ⟨m, hm⟩ : ∃ m, k + j * 3 = m := ⟨_, rfl⟩
    have hm0 : 0 < m := by omega
    have hm1 : m ≤ 12582912 := by omega
    have HMm := hidE hm
    rw [hm]
    clear hm
    by_cases hlt : j < n
    · obtain rfl := ha (by omega)
      obtain ⟨⟨v0, e0⟩, f0⟩ := HR.out (j * 3) (by omega)
      obtain ⟨⟨v1, e1⟩, f1⟩ := HR.out (j * 3 + 1) (by omega)
      obtain ⟨⟨v2, e2⟩, f2⟩ := HR.out (j * 3 + 2) (by omega)
      go_wp2_with fail
      refine (markText_any m hm0 (by omega) _).mono ?_
      rintro e w1 ⟨rfl, hB1⟩
      clear e0 e1 e2 f0 f1 f2
      have HR1 := hidE (HR.out.below hB1)
      obtain ⟨⟨v0, e0⟩, f0⟩ := HR1.out (j * 3) (by omega)
      obtain ⟨⟨v1, e1⟩, f1⟩ := HR1.out (j * 3 + 1) (by omega)
      obtain ⟨⟨v2, e2⟩, f2⟩ := HR1.out (j * 3 + 2) (by omega)
      have HT := hidE (fun W => markText_any (m + 2) (by omega) (by omega) W)
      rw [show ((m + 2 : Nat) : Int) = (m : Int) + 1 + 1 from by omega] at HT
      have HM1 := hidE (ents_set (ents_set (HM.out.below hB1) (j * 3) (by rw [marks_len]; omega) (.string (markS m))) (j * 3 + 1) (by rw [marks_len]; omega) (.bool (((m : Int) + 1) % 3 == 0)))
      have HR2 := hidE ((HR1.out.set g (j * 3) (.string (markS m))).set g (j * 3 + 1) (.bool (((m : Int) + 1) % 3 == 0)))
      have HB1 := hidE (HB.out.trans ((But.of_below hB1).trans ((But.set g w1 (j * 3) (.string (markS m))).trans (But.set g _ (j * 3 + 1) (.bool (((m : Int) + 1) % 3 == 0))))))
      have HC0 := hidE ((cell_ne (w1.setCell ⟨g, j * 3, none⟩ (.string (markS m))) g (j * 3 + 1) (j * 3) (.bool (((m : Int) + 1) % 3 == 0)) (by omega)).trans (cell_eq _ e0))
      have HC1 := hidE (cell_eq (.bool (((m : Int) + 1) % 3 == 0)) ((cell_ne w1 g (j * 3) (j * 3 + 1) (.string (markS m)) (by omega)).trans e1))
      clear hB1 HM HR HB HR1
      go_wp2_with fail
      refine (HT.out _).mono ?_
      rintro e w2 ⟨rfl, hB2⟩
      have HM2 := hidE (HM1.out.below hB2)
      have HR3 := hidE (HR2.out.below hB2)
      have HB2 := hidE (HB1.out.trans (But.of_below hB2))
      have HC0' := hidE ((hB2.cell (p := ⟨g, j * 3, none⟩) (World.block_lt_of_cell? _ _ HC0.out)).trans HC0.out)
      have HC1' := hidE ((hB2.cell (p := ⟨g, j * 3 + 1, none⟩) (World.block_lt_of_cell? _ _ HC1.out)).trans HC1.out)
      clear e0 e1 e2 f0 f1 f2 hB2 HM1 HR2 HB1 HC0 HC1
      obtain ⟨⟨v2, e2⟩, f2⟩ := HR3.out (j * 3 + 2) (by omega)
      have HM3 : Hid (Ents (w2.setCell ⟨g, j * 3 + 2, none⟩ (.string (markS (m + 2)))) g 0 (markEs (j + 1) k)) := by
        rw [marks_succ]
        have hl := marks_len j k
        refine ents_snoc (ents_set HM2.out _ (by rw [hl]; omega) _) ?_ ?_ ?_
        · rw [hl, HMm.out]; exact (cell_ne w2 g (j * 3 + 2) (j * 3) _ (by omega)).trans HC0'.out
        · rw [hl, HMm.out]; exact (cell_ne w2 g (j * 3 + 2) (j * 3 + 1) _ (by omega)).trans HC1'.out
        · rw [hl, HMm.out]; exact cell_eq _ e2
      have HR4 := hidE (HR3.out.set g (j * 3 + 2) (.string (markS (m + 2))))
      have HB4 := hidE (HB2.out.trans (But.set g w2 (j * 3 + 2) (.string (markS (m + 2)))))
      clear HM2 HR3 HB2 HC0' HC1'
      go_wp2
      go_roundw
      case rel => exact ⟨j + 1, by omega, by go_num, by have := HMm.out; congr 1; omega, HM3, HR4, HB4⟩
      case measure => simp [RowKit.intOf]; omega
    · go_wp2
      go_ret
      have hjn : j = n := by omega
      subst hjn
      exact ⟨ret_iE (by rw [HMm.out]), HM.out, HR.out, HB.out⟩
end Go.Proofs.YteedhlljcfojfaaDoor
