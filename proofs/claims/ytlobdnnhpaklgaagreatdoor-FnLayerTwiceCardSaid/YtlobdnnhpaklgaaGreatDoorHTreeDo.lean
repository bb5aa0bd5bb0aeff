/-
  The walks of the model's Code, Do and TreeDo.
-/
import Derived.Test.YtlobdnnhpaklgaaGreatDoorHMoveCode
import Derived.Test.YtlobdnnhpaklgaaGreatDoorHMoveE
import Derived.Test.YtlobdnnhpaklgaaGreatDoorHOff
namespace Go.Proofs.YtlobdnnhpaklgaaGreatDoor
open Go.RowKit Go.Lib

set_option maxHeartbeats 800000 in
theorem l2Code_any (w : World) (a : Option Addr) (g o cap : Nat) (es : List E) (k : Int) (p t x : ByteArray) (hl : es.length ≤ 1048576) (hp : p.size ≤ 16777216) (ht : t.size ≤ 16777216) (hz : ∀ e ∈ es, e.p.size ≤ 16777216 ∧ e.x.size ≤ 16777216) (ha : 0 < es.length → a = some ⟨g, o, none⟩) (hE : Ents w g o es) :
    Calls Tryz.prog 56 #[.slice a es.length cap, .agg #[.int .i64 k, .string p, .string t, .string x]] w fun r w' => r = .returned (.int .i64 (codeC es k p t)) ∧ Below w.heap.size w w' := by
  have hb : Below w.heap.size w (w.alloc (.cells #[.int .i64 k, .string p, .string t, .string x] 79)) := (Below.refl _ w).alloc (Nat.le_refl _) _
  have HE := hidE (hE.below hb)
  have HB := hidE hb
  have HZ := hidE hz
  clear hE hb hz
  by_cases h1 : k = 1
  · subst h1
    go_enter Tryz.func56, Tryz.ntmps56
    go_wp2_with fail
    refine (l2New_any _ a g o cap es p (by omega) hp ha HE.out).mono ?_
    rintro e w1 ⟨rfl, hB1⟩
    have HB1 := hidE (HB.out.trans (hB1.mono (by simp)))
    clear hB1
    go_wp2
    go_ret
    exact ⟨ret_iE rfl, HB1.out⟩
  · have n1 : (k == 1) = false := by rw [beq_eq_false_iff_ne]; exact h1
    by_cases h2 : k = 2
    · subst h2
      go_enter Tryz.func56, Tryz.ntmps56
      go_wp2_with fail
      refine (l2PutCode_any _ a g o cap es p (by omega) hp ha HE.out).mono ?_
      rintro e w1 ⟨rfl, hB1⟩
      have HB1 := hidE (HB.out.trans (hB1.mono (by simp)))
      clear hB1
      go_wp2
      go_ret
      exact ⟨ret_iE rfl, HB1.out⟩
    · have n2 : (k == 2) = false := by rw [beq_eq_false_iff_ne]; exact h2
      by_cases h5 : k = 5
      · subst h5
        go_enter Tryz.func56, Tryz.ntmps56
        go_wp2_with fail
        refine (l2MoveCode_any _ a g o cap es 5 p t x hl hp ht HZ.out ha HE.out).mono ?_
        rintro e w1 ⟨rfl, hB1⟩
        have HB1 := hidE (HB.out.trans (hB1.mono (by simp)))
        clear hB1
        go_wp2
        go_ret
        exact ⟨ret_iE rfl, HB1.out⟩
      · have n5 : (k == 5) = false := by rw [beq_eq_false_iff_ne]; exact h5
        have HC : Hid (offC es k p = codeC es k p t) := by show _ = _; unfold codeC; rw [if_neg h1, if_neg h2, if_neg h5]
        go_enter Tryz.func56, Tryz.ntmps56
        go_wp2_with fail
        refine (l2OffCode_any _ a g o cap es k p t x hl HZ.out ha HE.out).mono ?_
        rintro e w1 ⟨rfl, hB1⟩
        have HB1 := hidE (HB.out.trans (hB1.mono (by simp)))
        clear hB1
        go_wp2
        go_ret
        exact ⟨ret_iE HC.out, HB1.out⟩

set_option maxHeartbeats 800000 in
theorem l2Do_any (w : World) (a : Option Addr) (g o cap : Nat) (es : List E) (k : Int) (p t x : ByteArray) (hl : es.length ≤ 1048576) (hcap : es.length ≤ cap) (hp : p.size ≤ 16777216) (ht : t.size ≤ 16777216) (hz : ∀ e ∈ es, e.p.size ≤ 16777216 ∧ e.x.size ≤ 16777216) (ha : 0 < es.length → a = some ⟨g, o, none⟩) (hE : Ents w g o es) :
    Calls Tryz.prog 57 #[.slice a es.length cap, .agg #[.int .i64 k, .string p, .string t, .string x]] w fun r w' => ∃ v, r = .returned v ∧ OwnE w' w.heap.size v (madeE es k p t x) ∧ Below w.heap.size w w' := by
  have hb : Below w.heap.size w (w.alloc (.cells #[.int .i64 k, .string p, .string t, .string x] 79)) := (Below.refl _ w).alloc (Nat.le_refl _) _
  have HE := hidE (hE.below hb)
  have HB := hidE hb
  have HZ := hidE hz
  clear hE hb hz
  by_cases h1 : k = 1
  · subst h1
    go_enter Tryz.func57, Tryz.ntmps57
    go_wp2_with fail
    refine (l2Put_any _ a g o cap es p true ⟨#[]⟩ hl hcap ha HE.out).mono ?_
    rintro e w1 ⟨v, rfl, ho1, hB1⟩
    have HB1 := hidE (HB.out.trans (hB1.mono (by simp)))
    have HO1 := hidE (ho1.lower (base' := w.heap.size) (by simp))
    clear hB1 ho1
    go_wp2
    go_ret
    exact ⟨_, rfl, HO1.out, HB1.out⟩
  · have n1 : (k == 1) = false := by rw [beq_eq_false_iff_ne]; exact h1
    by_cases h2 : k = 2
    · subst h2
      go_enter Tryz.func57, Tryz.ntmps57
      go_wp2_with fail
      refine (l2Put_any _ a g o cap es p false x hl hcap ha HE.out).mono ?_
      rintro e w1 ⟨v, rfl, ho1, hB1⟩
      have HB1 := hidE (HB.out.trans (hB1.mono (by simp)))
      have HO1 := hidE (ho1.lower (base' := w.heap.size) (by simp))
      clear hB1 ho1
      go_wp2
      go_ret
      exact ⟨_, rfl, HO1.out, HB1.out⟩
    · have n2 : (k == 2) = false := by rw [beq_eq_false_iff_ne]; exact h2
      by_cases h5 : k = 5
      · subst h5
        go_enter Tryz.func57, Tryz.ntmps57
        go_wp2_with fail
        refine (l2Move_any _ a g o cap es p t hl hp ht HZ.out ha HE.out).mono ?_
        rintro e w1 ⟨v, rfl, ho1, hB1⟩
        have HB1 := hidE (HB.out.trans (hB1.mono (by simp)))
        have HO1 := hidE (ho1.lower (base' := w.heap.size) (by simp))
        clear hB1 ho1
        go_wp2
        go_ret
        exact ⟨_, rfl, HO1.out, HB1.out⟩
      · have n5 : (k == 5) = false := by rw [beq_eq_false_iff_ne]; exact h5
        have HC : Hid (madeE es k p t x = offE es p) := by show _ = _; unfold madeE; rw [if_neg h1, if_neg h2, if_neg h5]
        go_enter Tryz.func57, Tryz.ntmps57
        go_wp2_with fail
        refine (l2Off_any _ a g o cap es p hl ha HE.out).mono ?_
        rintro e w1 ⟨v, rfl, ho1, hB1⟩
        have HB1 := hidE (HB.out.trans (hB1.mono (by simp)))
        have HO1 := hidE (ho1.lower (base' := w.heap.size) (by simp))
        clear hB1 ho1
        go_wp2
        go_ret
        exact ⟨_, rfl, by rw [HC.out]; exact HO1.out, HB1.out⟩
end Go.Proofs.YtlobdnnhpaklgaaGreatDoor
