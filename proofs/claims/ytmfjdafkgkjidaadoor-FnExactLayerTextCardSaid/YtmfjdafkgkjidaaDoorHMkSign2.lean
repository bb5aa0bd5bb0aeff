/-
  The walks of the program's own: what is left of a sign below a bare one, and the sign of a mark.
-/
import Derived.Test.YtmfjdafkgkjidaaDoorHMkSign
namespace Go.Proofs.YtmfjdafkgkjidaaDoor.Mk
open Go.RowKit Go.Shelf Go.Lib

attribute [local go_sem] Oper.semAt_some

theorem belowN {B : Nat} {a w : World} (h : Below B a w) (n : Nat) : Below B a (w.drewN n) := h.trans ⟨rfl, rfl, rfl, Nat.le_refl _, fun _ _ => rfl⟩
/-- What is left of a sign below a bare one. -/
def inB (d : Int) (x : ByteArray) : Value × Bool := if d = 1 then (signV 1 x, true) else if d = 3 then (.nilIface, false) else (.iface 123 (.agg #[]), true)

set_option maxHeartbeats 1000000 in
theorem inBare_any (d : Int) (x : ByteArray) (hx : x.size ≤ 16777216) (hd : 1 ≤ d ∧ d ≤ 4) (w : World) :
    Calls Tryd.prog 79 #[signV d x] w fun e w' => e = .returned (.tuple #[(inB d x).1, .bool (inB d x).2]) ∧ Below w.heap.size w w' := by
  rcases (by omega : d = 1 ∨ d = 2 ∨ d = 3 ∨ d = 4) with rfl | rfl | rfl | rfl
  · have hm : ∀ W, (method 268 125 (.agg #[.string x]) "loop.example/pargeting/impl.shows").run Tryd.prog W = .ok (125, .agg #[.string x]) W := fun _ => by kernel_rfl
    rw [sign1]
    go_enter Tryd.func79, Tryd.ntmps79
    go_wp2_with (first | (go_at_call 125; refine (showsF_any _ hx _).mono ?_; rintro e w1 ⟨rfl, hB1⟩) | (go_at_call 87; refine (signOfNode1_any _ _).mono ?_; rintro e w2 ⟨rfl, hB2⟩) | fail)
    refine bodyPost_ret (v := .tuple #[.iface 125 (.agg #[.string x]), .bool true]) (by simp [results, Tryd.results79, go_sem, sign1]) rfl ⟨rfl, belowT (belowA hB1 _) hB2⟩
  · have hm : ∀ W, (method 268 123 (.agg #[]) "loop.example/pargeting/impl.shows").run Tryd.prog W = .ok (122, .agg #[]) W := fun _ => by kernel_rfl
    rw [sign2]
    go_enter Tryd.func79, Tryd.ntmps79
    go_wp2_with (first | (go_at_call 122; refine (showsD_any _).mono ?_; rintro e w1 ⟨⟨aa, rfl⟩, hB1⟩) | (go_at_call 87; refine (signOfNode2_any _ _ _).mono ?_; rintro e w2 ⟨rfl, hB2⟩) | fail)
    refine bodyPost_ret (v := .tuple #[.iface 123 (.agg #[]), .bool true]) (by simp [results, Tryd.results79, go_sem, sign2]) rfl ⟨rfl, belowT (belowA hB1 _) hB2⟩
  · have hm : ∀ W, (method 268 126 (.agg #[]) "loop.example/pargeting/impl.shows").run Tryd.prog W = .ok (128, .agg #[]) W := fun _ => by kernel_rfl
    rw [sign3]
    go_enter Tryd.func79, Tryd.ntmps79
    go_wp2_with (first | (go_at_call 128; refine (showsG_any _).mono ?_; rintro e w1 ⟨rfl, hB1⟩) | fail)
    refine bodyPost_ret (v := .tuple #[.nilIface, .bool false]) (by simp [results, Tryd.results79, go_sem]) rfl ⟨rfl, belowA hB1 _⟩
  · have hm : ∀ W, (method 268 127 (.agg #[]) "loop.example/pargeting/impl.shows").run Tryd.prog W = .ok (131, .agg #[]) W := fun _ => by kernel_rfl
    rw [sign4]
    go_enter Tryd.func79, Tryd.ntmps79
    go_wp2_with (first | (go_at_call 131; refine (showsB_any _).mono ?_; rintro e w1 ⟨⟨aa, rfl⟩, hB1⟩) | (go_at_call 87; refine (signOfNode2_any _ _ _).mono ?_; rintro e w2 ⟨rfl, hB2⟩) | fail)
    refine bodyPost_ret (v := .tuple #[.iface 123 (.agg #[]), .bool true]) (by simp [results, Tryd.results79, go_sem, sign2]) rfl ⟨rfl, belowT (belowA hB1 _) hB2⟩

/-- The sign of a mark. -/
def signM (d : Int) (x : ByteArray) : Value := if 1 ≤ d ∧ d ≤ 4 then signV d x else .nilIface
theorem signM_in {d : Int} (h : 1 ≤ d ∧ d ≤ 4) (x : ByteArray) : signM d x = signV d x := if_pos h
set_option maxHeartbeats 1000000 in
theorem signOf_any (p : ByteArray) (d : Int) (x : ByteArray) (hx : x.size ≤ 16777216) (w : World) :
    Calls Tryd.prog 63 #[.agg #[.string p, .int .i64 d, .string x]] w fun e w' => e = .returned (.tuple #[signM d x, .bool (signB d x)]) ∧ Below w.heap.size w w' := by
  have B := Box3.new w (.string p) (.int .i64 d) (.string x) 33
  by_cases h1 : d = 1
  · subst h1
    have e1 : signB 1 x = dataB x := rfl
    rw [e1, signM_in (by omega), sign1]
    go_enter Tryd.func63, Tryd.ntmps63
    have AS : Hid (∀ W', Below (w.alloc (.cells #[.string p, .int .i64 1, .string x] 33)).heap.size (w.alloc (.cells #[.string p, .int .i64 1, .string x] 33)) W' → W'.cell? ⟨w.heap.size, 2, none⟩ = some (.string x)) := fun W' hW => (B.below hW).c2
    go_wp2
    go_region_held3 (fun W' => W'.cell? ⟨w.heap.size, 2, none⟩ = some (.string x))
      ((refine AS.out _ ?_; repeat (first | exact Below.refl _ _ | refine belowT ?_ hB2 | refine belowT ?_ hB1 | apply Below.drew)))
      (first | (go_at_call 75; refine (clone_any _ hx _).mono ?_; rintro e w1 ⟨rfl, hB1⟩) | (go_at_call 68; refine (dataOk_any _ _).mono ?_; rintro e w2 ⟨rfl, hB2⟩))
    all_goals go_wp2
    all_goals exact bodyPost_ret (v := .tuple #[.iface 125 (.agg #[.string x]), .bool (dataB x)]) (by simp [results, Tryd.results63, go_sem]) rfl ⟨rfl, belowT (belowT (belowA (Below.refl _ w) _).drew hB1) hB2⟩
  · have h1' : (d == 1) = false := by simpa using h1
    have e0 : signB d x = (((d == 2) || ((d == 3) || (d == 4))) && (x.toList == [])) := by unfold signB; rw [if_neg h1]
    rw [e0]
    by_cases h2 : d = 2
    · subst h2
      rw [signM_in (by omega), sign2]
      go_enter Tryd.func63, Tryd.ntmps63
      go_wp2
      go_quiet (fail)
      go_wp2
      refine bodyPost_ret (v := .tuple #[.iface 123 (.agg #[]), .bool (x.toList == [])]) (by simp [results, Tryd.results63, go_sem]) rfl ⟨by simp, belowN (belowA (Below.refl _ w) _) _⟩
    · have h2' : (d == 2) = false := by simpa using h2
      by_cases h3 : d = 3
      · subst h3
        rw [signM_in (by omega), sign3]
        go_enter Tryd.func63, Tryd.ntmps63
        go_wp2
        go_quiet (fail)
        go_wp2
        refine bodyPost_ret (v := .tuple #[.iface 126 (.agg #[]), .bool (x.toList == [])]) (by simp [results, Tryd.results63, go_sem]) rfl ⟨by simp, belowN (belowA (Below.refl _ w) _) _⟩
      · have h3' : (d == 3) = false := by simpa using h3
        by_cases h4 : d = 4
        · subst h4
          rw [signM_in (by omega), sign4]
          go_enter Tryd.func63, Tryd.ntmps63
          go_wp2
          go_quiet (fail)
          go_wp2
          refine bodyPost_ret (v := .tuple #[.iface 127 (.agg #[]), .bool (x.toList == [])]) (by simp [results, Tryd.results63, go_sem]) rfl ⟨by simp, belowN (belowA (Below.refl _ w) _) _⟩
        · have h4' : (d == 4) = false := by simpa using h4
          have e1 : signM d x = .nilIface := if_neg (by omega)
          rw [e1, h2', h3', h4']
          go_enter Tryd.func63, Tryd.ntmps63
          go_wp2
          refine bodyPost_ret (v := .tuple #[.nilIface, .bool false]) (by simp [results, Tryd.results63, go_sem]) rfl ⟨rfl, belowA (Below.refl _ w) _⟩
end Go.Proofs.YtmfjdafkgkjidaaDoor.Mk
