/-
  The walk of the program's own OpOk.
-/
import Derived.Test.YtbeaegolgaopbaaDoorHPathOkI
import Derived.Test.YtbeaegolgaopbaaDoorHDataI
namespace Go.Proofs.YtbeaegolgaopbaaDoor
open Go.RowKit Go.Shelf Go.Lib

attribute [local go_sem] Oper.semAt_some

abbrev opV (k : Int) (p t x : ByteArray) : Value := .agg #[.int .i64 k, .string p, .string t, .string x]
/-- The type of what is done, by its kind. -/
def deedT (k : Int) : TypeId := if k = 1 then 116 else if k = 2 then 117 else if k = 3 then 118 else if k = 4 then 119 else if k = 5 then 120 else 121

set_option maxHeartbeats 1000000 in
theorem deedOf_any (k : Int) (p t x : ByteArray) (w : World) :
    Calls Tryd.prog 61 #[opV k p t x] w fun r w' => r = .returned (.iface (deedT k) (opV k p t x)) ∧ Below w.heap.size w w' := by
  have hB : Below w.heap.size w (w.alloc (.cells #[.int .i64 k, .string p, .string t, .string x] 34)) := (Below.refl _ w).alloc (Nat.le_refl _) _
  unfold deedT
  by_cases h1 : k = 1
  · subst h1
    go_enter Tryd.func61, Tryd.ntmps61
    go_wp2
    go_ret
    exact ⟨rfl, hB⟩
  · rw [if_neg h1]
    have h1' : (k == 1) = false := by simpa using h1
    by_cases h2 : k = 2
    · subst h2
      go_enter Tryd.func61, Tryd.ntmps61
      go_wp2
      go_ret
      exact ⟨rfl, hB⟩
    · rw [if_neg h2]
      have h2' : (k == 2) = false := by simpa using h2
      by_cases h3 : k = 3
      · subst h3
        go_enter Tryd.func61, Tryd.ntmps61
        go_wp2
        go_ret
        exact ⟨rfl, hB⟩
      · rw [if_neg h3]
        have h3' : (k == 3) = false := by simpa using h3
        by_cases h4 : k = 4
        · subst h4
          go_enter Tryd.func61, Tryd.ntmps61
          go_wp2
          go_ret
          exact ⟨rfl, hB⟩
        · rw [if_neg h4]
          have h4' : (k == 4) = false := by simpa using h4
          by_cases h5 : k = 5
          · subst h5
            go_enter Tryd.func61, Tryd.ntmps61
            go_wp2
            go_ret
            exact ⟨rfl, hB⟩
          · rw [if_neg h5]
            have h5' : (k == 5) = false := by simpa using h5
            go_enter Tryd.func61, Tryd.ntmps61
            go_wp2
            go_ret
            exact ⟨rfl, hB⟩

theorem box4i {w w' : World} {a b c d : Value} {T : TypeId} (h : Below (w.alloc (.cells #[a, b, c, d] T)).heap.size (w.alloc (.cells #[a, b, c, d] T)) w') :
    w'.cell? ⟨w.heap.size, 0, none⟩ = some a ∧ w'.cell? ⟨w.heap.size, 1, none⟩ = some b ∧ w'.cell? ⟨w.heap.size, 2, none⟩ = some c ∧ w'.cell? ⟨w.heap.size, 3, none⟩ = some d := by
  have lt : w.heap.size < (w.alloc (.cells #[a, b, c, d] T)).heap.size := by simp
  refine ⟨(h.cell (p := ⟨w.heap.size, 0, none⟩) lt).trans ?_, (h.cell (p := ⟨w.heap.size, 1, none⟩) lt).trans ?_, (h.cell (p := ⟨w.heap.size, 2, none⟩) lt).trans ?_, (h.cell (p := ⟨w.heap.size, 3, none⟩) lt).trans ?_⟩ <;> simp

def emB (s : ByteArray) : Bool := s.toList.isEmpty
theorem emB_beq (s : ByteArray) : (s.toList == []) = emB s := by unfold emB; cases s.toList <;> rfl
theorem emB_yes {s : ByteArray} (h : emB s = true) : s.toList = [] := by unfold emB at h; simpa using h
theorem emB_no {s : ByteArray} (h : emB s = false) : ¬ s.toList = [] := by unfold emB at h; simpa using h

theorem emB_is {s : ByteArray} {b : Bool} (h : emB s = b) : (s.toList == []) = b := (emB_beq s).trans h

set_option maxHeartbeats 1000000 in
theorem makeFits_any (k : Int) (p t x : ByteArray) (w : World) :
    Calls Tryd.prog 115 #[opV k p t x] w fun r w' => r = .returned (.bool (emB t && emB x)) ∧ Below w.heap.size w w' := by
  have hB : Below w.heap.size w (w.alloc (.cells #[.int .i64 k, .string p, .string t, .string x] 116)) := (Below.refl _ w).alloc (Nat.le_refl _) _
  cases ht : emB t with
  | false =>
    have h1 := emB_no ht
    have h2 := emB_is ht
    go_enter Tryd.func115, Tryd.ntmps115
    go_wp2
    go_ret
    exact ⟨rfl, hB⟩
  | true =>
    have h1 := emB_yes ht
    have h2 := emB_is ht
    have h3 := emB_beq x
    go_enter Tryd.func115, Tryd.ntmps115
    go_wp2
    go_ret
    exact ⟨rfl, hB⟩

set_option maxHeartbeats 1000000 in
theorem rmFits_any (k : Int) (p t x : ByteArray) (w : World) :
    Calls Tryd.prog 119 #[opV k p t x] w fun r w' => r = .returned (.bool (emB t && emB x)) ∧ Below w.heap.size w w' := by
  have hB : Below w.heap.size w (w.alloc (.cells #[.int .i64 k, .string p, .string t, .string x] 118)) := (Below.refl _ w).alloc (Nat.le_refl _) _
  cases ht : emB t with
  | false =>
    have h1 := emB_no ht
    have h2 := emB_is ht
    go_enter Tryd.func119, Tryd.ntmps119
    go_wp2
    go_ret
    exact ⟨rfl, hB⟩
  | true =>
    have h1 := emB_yes ht
    have h2 := emB_is ht
    have h3 := emB_beq x
    go_enter Tryd.func119, Tryd.ntmps119
    go_wp2
    go_ret
    exact ⟨rfl, hB⟩

set_option maxHeartbeats 1000000 in
theorem rmdirFits_any (k : Int) (p t x : ByteArray) (w : World) :
    Calls Tryd.prog 121 #[opV k p t x] w fun r w' => r = .returned (.bool (emB t && emB x)) ∧ Below w.heap.size w w' := by
  have hB : Below w.heap.size w (w.alloc (.cells #[.int .i64 k, .string p, .string t, .string x] 119)) := (Below.refl _ w).alloc (Nat.le_refl _) _
  cases ht : emB t with
  | false =>
    have h1 := emB_no ht
    have h2 := emB_is ht
    go_enter Tryd.func121, Tryd.ntmps121
    go_wp2
    go_ret
    exact ⟨rfl, hB⟩
  | true =>
    have h1 := emB_yes ht
    have h2 := emB_is ht
    have h3 := emB_beq x
    go_enter Tryd.func121, Tryd.ntmps121
    go_wp2
    go_ret
    exact ⟨rfl, hB⟩

set_option maxHeartbeats 1000000 in
theorem putFits_any (k : Int) (p t x : ByteArray) (w : World) :
    Calls Tryd.prog 117 #[opV k p t x] w fun r w' => r = .returned (.bool (emB t && dataB x)) ∧ Below w.heap.size w w' := by
  have hB : Below w.heap.size w (w.alloc (.cells #[.int .i64 k, .string p, .string t, .string x] 117)) := (Below.refl _ w).alloc (Nat.le_refl _) _
  cases ht : emB t with
  | false =>
    have h1 := emB_no ht
    have h2 := emB_is ht
    go_enter Tryd.func117, Tryd.ntmps117
    go_wp2
    go_ret
    exact ⟨rfl, hB⟩
  | true =>
    have h1 := emB_yes ht
    have h2 := emB_is ht
    go_enter Tryd.func117, Tryd.ntmps117
    go_wp2_with (go_at_call 76; refine (dataOk_any _ _).mono ?_; rintro e w1 ⟨rfl, hB1⟩)
    go_ret
    exact ⟨rfl, hB.trans (hB1.mono (by simp))⟩

set_option maxHeartbeats 1000000 in
theorem moveFits_any (k : Int) (p t x : ByteArray) (hz : t.size ≤ 16777216) (w : World) :
    Calls Tryd.prog 123 #[opV k p t x] w fun r w' => r = .returned (.bool (pathB t && emB x)) ∧ Below w.heap.size w w' := by
  have hB : Below w.heap.size w (w.alloc (.cells #[.int .i64 k, .string p, .string t, .string x] 120)) := (Below.refl _ w).alloc (Nat.le_refl _) _
  have h3 := emB_beq x
  have HP : Hid (∀ W, Calls Tryd.prog 60 #[.string t] W fun r w' => r = .returned (.bool (pathB t)) ∧ Below W.heap.size W w') := fun W => pOk_any t hz W
  cases ht : pathB t with
  | false =>
    rw [ht] at HP
    go_enter Tryd.func123, Tryd.ntmps123
    go_wp2_with (go_at_call 60; refine (HP.out _).mono ?_; rintro e w1 ⟨rfl, hB1⟩; obtain ⟨c0, c1, c2, c3⟩ := box4i hB1)
    go_ret
    exact ⟨rfl, hB.trans (hB1.mono (by simp))⟩
  | true =>
    rw [ht] at HP
    go_enter Tryd.func123, Tryd.ntmps123
    go_wp2_with (go_at_call 60; refine (HP.out _).mono ?_; rintro e w1 ⟨rfl, hB1⟩; obtain ⟨c0, c1, c2, c3⟩ := box4i hB1)
    go_ret
    exact ⟨rfl, hB.trans (hB1.mono (by simp))⟩

theorem otherFits_any (k : Int) (p t x : ByteArray) (w : World) :
    Calls Tryd.prog 125 #[opV k p t x] w fun r w' => r = .returned (.bool false) ∧ Below w.heap.size w w' := by
  go_enter Tryd.func125, Tryd.ntmps125
  go_wp2
  go_ret
  exact ⟨rfl, (Below.refl _ w).alloc (Nat.le_refl _) _⟩

/-- Whether To and Data are such as the kind asks for. -/
def fitB (k : Int) (t x : ByteArray) : Bool := if k = 1 then emB t && emB x else if k = 2 then emB t && dataB x else if k = 3 then emB t && emB x else if k = 4 then emB t && emB x else if k = 5 then pathB t && emB x else false

set_option maxHeartbeats 2000000 in
theorem iOpOk_any (w : World) (k : Int) (p t x : ByteArray) (hp : p.size ≤ 16777216) (hz : t.size ≤ 16777216) :
    Calls Tryd.prog 40 #[opV k p t x] w fun r w' => r = .returned (.bool (pathB p && fitB k t x)) ∧ Below w.heap.size w w' := by
  have hB : Below w.heap.size w (w.alloc (.cells #[.int .i64 k, .string p, .string t, .string x] 34)) := (Below.refl _ w).alloc (Nat.le_refl _) _
  have HP : Hid (∀ W, Calls Tryd.prog 60 #[.string p] W fun r w' => r = .returned (.bool (pathB p)) ∧ Below W.heap.size W w') := fun W => pOk_any p hp W
  have HD : Hid (∀ W, Calls Tryd.prog 61 #[opV k p t x] W fun r w' => r = .returned (.iface (deedT k) (opV k p t x)) ∧ Below W.heap.size W w') := fun W => deedOf_any k p t x W
  cases fp : pathB p with
  | false =>
    rw [fp] at HP
    go_enter Tryd.func40, Tryd.ntmps40
    go_wp2_with (go_at_call 60; refine (HP.out _).mono ?_; rintro e w1 ⟨rfl, hB1⟩; obtain ⟨c0, c1, c2, c3⟩ := box4i hB1)
    go_ret
    exact ⟨rfl, hB.trans (hB1.mono (by simp))⟩
  | true =>
    rw [fp] at HP
    unfold deedT at HD
    unfold fitB
    by_cases h1 : k = 1
    · subst h1
      have hm : ∀ W, (method 274 116 (opV 1 p t x) "loop.example/pargeting/impl.fits").run Tryd.prog W = .ok (115, opV 1 p t x) W := fun _ => by kernel_rfl
      go_enter Tryd.func40, Tryd.ntmps40
      go_wp2_with (first | (go_at_call 60; refine (HP.out _).mono ?_; rintro e w1 ⟨rfl, hB1⟩; obtain ⟨c0, c1, c2, c3⟩ := box4i hB1) | (go_at_call 61; refine (HD.out _).mono ?_; rintro e w2 ⟨rfl, hB2⟩) | (go_at_call 115; refine (makeFits_any _ _ _ _ _).mono ?_; rintro e w3 ⟨rfl, hB3⟩))
      go_ret
      exact ⟨rfl, ((hB.trans (hB1.mono (by simp))).trans (hB2.mono (Nat.le_trans (by simp) hB1.size))).trans (hB3.mono (Nat.le_trans (Nat.le_trans (by simp) hB1.size) hB2.size))⟩
    · rw [if_neg h1] at HD ⊢
      by_cases h2 : k = 2
      · subst h2
        have hm : ∀ W, (method 274 117 (opV 2 p t x) "loop.example/pargeting/impl.fits").run Tryd.prog W = .ok (117, opV 2 p t x) W := fun _ => by kernel_rfl
        go_enter Tryd.func40, Tryd.ntmps40
        go_wp2_with (first | (go_at_call 60; refine (HP.out _).mono ?_; rintro e w1 ⟨rfl, hB1⟩; obtain ⟨c0, c1, c2, c3⟩ := box4i hB1) | (go_at_call 61; refine (HD.out _).mono ?_; rintro e w2 ⟨rfl, hB2⟩) | (go_at_call 117; refine (putFits_any _ _ _ _ _).mono ?_; rintro e w3 ⟨rfl, hB3⟩))
        go_ret
        exact ⟨rfl, ((hB.trans (hB1.mono (by simp))).trans (hB2.mono (Nat.le_trans (by simp) hB1.size))).trans (hB3.mono (Nat.le_trans (Nat.le_trans (by simp) hB1.size) hB2.size))⟩
      · rw [if_neg h2] at HD ⊢
        by_cases h3 : k = 3
        · subst h3
          have hm : ∀ W, (method 274 118 (opV 3 p t x) "loop.example/pargeting/impl.fits").run Tryd.prog W = .ok (119, opV 3 p t x) W := fun _ => by kernel_rfl
          go_enter Tryd.func40, Tryd.ntmps40
          go_wp2_with (first | (go_at_call 60; refine (HP.out _).mono ?_; rintro e w1 ⟨rfl, hB1⟩; obtain ⟨c0, c1, c2, c3⟩ := box4i hB1) | (go_at_call 61; refine (HD.out _).mono ?_; rintro e w2 ⟨rfl, hB2⟩) | (go_at_call 119; refine (rmFits_any _ _ _ _ _).mono ?_; rintro e w3 ⟨rfl, hB3⟩))
          go_ret
          exact ⟨rfl, ((hB.trans (hB1.mono (by simp))).trans (hB2.mono (Nat.le_trans (by simp) hB1.size))).trans (hB3.mono (Nat.le_trans (Nat.le_trans (by simp) hB1.size) hB2.size))⟩
        · rw [if_neg h3] at HD ⊢
          by_cases h4 : k = 4
          · subst h4
            have hm : ∀ W, (method 274 119 (opV 4 p t x) "loop.example/pargeting/impl.fits").run Tryd.prog W = .ok (121, opV 4 p t x) W := fun _ => by kernel_rfl
            go_enter Tryd.func40, Tryd.ntmps40
            go_wp2_with (first | (go_at_call 60; refine (HP.out _).mono ?_; rintro e w1 ⟨rfl, hB1⟩; obtain ⟨c0, c1, c2, c3⟩ := box4i hB1) | (go_at_call 61; refine (HD.out _).mono ?_; rintro e w2 ⟨rfl, hB2⟩) | (go_at_call 121; refine (rmdirFits_any _ _ _ _ _).mono ?_; rintro e w3 ⟨rfl, hB3⟩))
            go_ret
            exact ⟨rfl, ((hB.trans (hB1.mono (by simp))).trans (hB2.mono (Nat.le_trans (by simp) hB1.size))).trans (hB3.mono (Nat.le_trans (Nat.le_trans (by simp) hB1.size) hB2.size))⟩
          · rw [if_neg h4] at HD ⊢
            by_cases h5 : k = 5
            · subst h5
              have hm : ∀ W, (method 274 120 (opV 5 p t x) "loop.example/pargeting/impl.fits").run Tryd.prog W = .ok (123, opV 5 p t x) W := fun _ => by kernel_rfl
              go_enter Tryd.func40, Tryd.ntmps40
              go_wp2_with (first | (go_at_call 60; refine (HP.out _).mono ?_; rintro e w1 ⟨rfl, hB1⟩; obtain ⟨c0, c1, c2, c3⟩ := box4i hB1) | (go_at_call 61; refine (HD.out _).mono ?_; rintro e w2 ⟨rfl, hB2⟩) | (go_at_call 123; refine (moveFits_any _ _ _ _ hz _).mono ?_; rintro e w3 ⟨rfl, hB3⟩))
              go_ret
              exact ⟨rfl, ((hB.trans (hB1.mono (by simp))).trans (hB2.mono (Nat.le_trans (by simp) hB1.size))).trans (hB3.mono (Nat.le_trans (Nat.le_trans (by simp) hB1.size) hB2.size))⟩
            · rw [if_neg h5] at HD ⊢
              have hm : ∀ W, (method 274 121 (opV k p t x) "loop.example/pargeting/impl.fits").run Tryd.prog W = .ok (125, opV k p t x) W := fun _ => by kernel_rfl
              go_enter Tryd.func40, Tryd.ntmps40
              go_wp2_with (first | (go_at_call 60; refine (HP.out _).mono ?_; rintro e w1 ⟨rfl, hB1⟩; obtain ⟨c0, c1, c2, c3⟩ := box4i hB1) | (go_at_call 61; refine (HD.out _).mono ?_; rintro e w2 ⟨rfl, hB2⟩) | (go_at_call 125; refine (otherFits_any _ _ _ _ _).mono ?_; rintro e w3 ⟨rfl, hB3⟩))
              go_ret
              exact ⟨rfl, ((hB.trans (hB1.mono (by simp))).trans (hB2.mono (Nat.le_trans (by simp) hB1.size))).trans (hB3.mono (Nat.le_trans (Nat.le_trans (by simp) hB1.size) hB2.size))⟩
end Go.Proofs.YtbeaegolgaopbaaDoor
