/-
  The walks of the program's own small functions on signs.
-/
import Derived.Test.YtnghmjlppdhimaaHPk02
import Derived.Test.YtnghmjlppdhimaaHMkAt
namespace Go.Proofs.Ytnghmjlppdhimaa.Mk
open Go.RowKit Go.Shelf Go.Lib

attribute [local go_sem] Oper.semAt_some

theorem newDir_any (w : World) :
    Calls Try.prog 73 #[] w fun e w' => (∃ a, e = .returned (.agg #[.bool true, .string ⟨#[]⟩, .map (some a)])) ∧ Below w.heap.size w w' := by
  have hmm := @run_makeMap Try.prog
  go_enter Try.func73, Try.ntmps73
  go_wp2
  refine bodyPost_ret (v := .agg #[.bool true, .string ⟨#[]⟩, .map (some (w.heap.size + 1))]) (by simp [results, Try.results73, go_sem]) rfl ⟨⟨_, rfl⟩, ?_⟩
  exact ((Below.refl _ w).alloc (Nat.le_refl _) _).alloc (by simp) _

set_option maxHeartbeats 400000 in
theorem newNode_any (t : TypeId) (u : Value) (w : World) :
    Calls Try.prog 36 #[.iface t u] w fun e w' => e = .returned (.agg #[.iface t u, .map (some (w.heap.size + 1))]) ∧ MapIs w' (w.heap.size + 1) 0 (fun _ => none) ∧ Below w.heap.size w w' := by
  have hmm := @run_makeMap Try.prog
  go_enter Try.func36, Try.ntmps36
  go_wp2
  refine bodyPost_ret (v := .agg #[.iface t u, .map (some (w.heap.size + 1))]) (by simp [results, Try.results36, go_sem]) rfl ⟨rfl, ?_, ?_⟩
  · have := MapIs.made (w.alloc (.cells #[.iface t u, .map (some (w.heap.size + 1))] 41))
    rwa [World.size_alloc] at this
  · exact ((Below.refl _ w).alloc (Nat.le_refl _) _).alloc (by simp) _

set_option maxHeartbeats 400000 in
theorem newLayer_any (w : World) :
    Calls Try.prog 27 #[] w fun e w' => (∃ a, w.heap.size ≤ a ∧ e = .returned (.agg #[.iface 67 (.agg #[]), .map (some a)]) ∧ MapIs w' a 0 (fun _ => none)) ∧ Below w.heap.size w w' := by
  have B := Box2.new w .nilIface (.map none) 43
  go_enter Try.func27, Try.ntmps27
  go_wp2_with (first | (go_at_call 36; refine (newNode_any _ _ _).mono ?_; rintro e w1 ⟨rfl, hM1, hB1⟩; obtain ⟨c0, c1, c2, c3⟩ := B.below hB1) | fail)
  have hBw := belowT (belowA (Below.refl _ w) _) hB1
  refine atSet2 (C := bodyPost Try.prog Try.f27 _ _ _) (B.below hB1) hBw (Nat.le_refl _) ?_
  intro Wf s0 hBf hK _
  simp only [World.size_alloc] at hM1
  exact bodyPost_ret (v := .agg #[.iface 67 (.agg #[]), .map (some (w.heap.size + 1 + 1))]) (by simp [results, Try.results27, go_sem, s0.c0, s0.c1]) rfl ⟨⟨_, by omega, rfl, hM1.keeps hK⟩, hBf⟩

theorem clone_any (x : ByteArray) (hx : x.size ≤ 16777216) (w : World) :
    Calls Try.prog 37 #[.string x] w fun e w' => e = .returned (.string x) ∧ Below w.heap.size w w' := by
  go_enter Try.func37, Try.ntmps37
  go_wp2_with (first | (go_at_call 46; refine (sClone_any _ _ (by omega)).mono ?_; rintro e w' ⟨rfl, hB⟩) | go_in)
  go_ret
  exact ⟨rfl, hB⟩

theorem newFile_any (x : ByteArray) (hx : x.size ≤ 16777216) (w : World) :
    Calls Try.prog 77 #[.string x] w fun e w' => e = .returned (.agg #[.bool false, .string x, .map none]) ∧ Below w.heap.size w w' := by
  have B := Box3.new w (.bool false) (.string ⟨#[]⟩) (.map none) 79
  go_enter Try.func77, Try.ntmps77
  go_wp2_with (first | (go_at_call 37; refine (clone_any _ hx _).mono ?_; rintro e w1 ⟨rfl, hB1⟩; obtain ⟨k0, k1, k2, f0, f1, f2⟩ := B.below hB1) | fail)
  refine atSet3 (C := bodyPost Try.prog Try.f77 _ _ _) (B.below hB1) (belowT (belowA (Below.refl _ w) _) hB1) (Nat.le_refl _) ?_
  intro Wf s0 hBf _
  exact bodyPost_ret (v := .agg #[.bool false, .string x, .map none]) (by simp [results, Try.results77, go_sem, s0.c0, s0.c1, s0.c2]) rfl ⟨rfl, hBf⟩
set_option maxHeartbeats 400000 in
theorem showsF_any (x : ByteArray) (hx : x.size ≤ 16777216) (w : World) :
    Calls Try.prog 76 #[.agg #[.string x]] w fun e w' => e = .returned (.tuple #[.agg #[.bool false, .string x, .map none], .bool true]) ∧ Below w.heap.size w w' := by
  have B := Box3.new (w.alloc (.cells #[.string x] 69)) (.bool false) (.string ⟨#[]⟩) (.map none) 79
  simp only [World.size_alloc] at B
  go_enter Try.func76, Try.ntmps76
  go_wp2_with (first | (go_at_call 77; refine (newFile_any _ hx _).mono ?_; rintro e w1 ⟨rfl, hB1⟩; obtain ⟨k0, k1, k2, f0, f1, f2⟩ := B.below hB1) | fail)
  refine atSet3 (C := bodyPost Try.prog Try.f76 _ _ _) (B.below hB1) (belowT (belowA (belowA (Below.refl _ w) _) _) hB1) (Nat.le_succ _) ?_
  intro Wf s0 hBf _
  exact bodyPost_ret (v := .tuple #[.agg #[.bool false, .string x, .map none], .bool true]) (by simp [results, Try.results76, go_sem, s0.c0, s0.c1, s0.c2]) rfl ⟨rfl, hBf⟩
set_option maxHeartbeats 400000 in
theorem showsD_any (w : World) :
    Calls Try.prog 72 #[.agg #[]] w fun e w' => (∃ a, e = .returned (.tuple #[.agg #[.bool true, .string ⟨#[]⟩, .map (some a)], .bool true])) ∧ Below w.heap.size w w' := by
  have B := Box3.new (w.alloc (.cells #[] 67)) (.bool false) (.string ⟨#[]⟩) (.map none) 79
  simp only [World.size_alloc] at B
  go_enter Try.func72, Try.ntmps72
  go_wp2_with (first | (go_at_call 73; refine (newDir_any _).mono ?_; rintro e w1 ⟨⟨aa, rfl⟩, hB1⟩; obtain ⟨k0, k1, k2, f0, f1, f2⟩ := B.below hB1) | fail)
  refine atSet3 (C := bodyPost Try.prog Try.f72 _ _ _) (B.below hB1) (belowT (belowA (belowA (Below.refl _ w) _) _) hB1) (Nat.le_succ _) ?_
  intro Wf s0 hBf _
  exact bodyPost_ret (v := .tuple #[.agg #[.bool true, .string ⟨#[]⟩, .map (some aa)], .bool true]) (by simp [results, Try.results72, go_sem, s0.c0, s0.c1, s0.c2]) rfl ⟨⟨_, rfl⟩, hBf⟩
set_option maxHeartbeats 400000 in
theorem showsB_any (w : World) :
    Calls Try.prog 83 #[.agg #[]] w fun e w' => (∃ a, e = .returned (.tuple #[.agg #[.bool true, .string ⟨#[]⟩, .map (some a)], .bool true])) ∧ Below w.heap.size w w' := by
  have B := Box3.new (w.alloc (.cells #[] 71)) (.bool false) (.string ⟨#[]⟩) (.map none) 79
  simp only [World.size_alloc] at B
  go_enter Try.func83, Try.ntmps83
  go_wp2_with (first | (go_at_call 73; refine (newDir_any _).mono ?_; rintro e w1 ⟨⟨aa, rfl⟩, hB1⟩; obtain ⟨k0, k1, k2, f0, f1, f2⟩ := B.below hB1) | fail)
  refine atSet3 (C := bodyPost Try.prog Try.f83 _ _ _) (B.below hB1) (belowT (belowA (belowA (Below.refl _ w) _) _) hB1) (Nat.le_succ _) ?_
  intro Wf s0 hBf _
  exact bodyPost_ret (v := .tuple #[.agg #[.bool true, .string ⟨#[]⟩, .map (some aa)], .bool true]) (by simp [results, Try.results83, go_sem, s0.c0, s0.c1, s0.c2]) rfl ⟨⟨_, rfl⟩, hBf⟩
set_option maxHeartbeats 400000 in
theorem showsG_any (w : World) :
    Calls Try.prog 80 #[.agg #[]] w fun e w' => e = .returned (.tuple #[.agg #[.bool false, .string ⟨#[]⟩, .map none], .bool false]) ∧ Below w.heap.size w w' := by
  go_enter Try.func80, Try.ntmps80
  go_wp2
  exact bodyPost_ret (v := .tuple #[.agg #[.bool false, .string ⟨#[]⟩, .map none], .bool false]) (by simp [results, Try.results80, go_sem]) rfl ⟨rfl, belowA (belowA (Below.refl _ w) _) _⟩
theorem hides1_any (x : ByteArray) (w : World) : Calls Try.prog 74 #[.agg #[.string x]] w fun e w' => e = .returned (.bool true) ∧ Below w.heap.size w w' := by
  go_enter Try.func74, Try.ntmps74
  go_wp2
  go_ret
  exact ⟨rfl, belowA (Below.refl _ w) _⟩
theorem hides2_any (w : World) : Calls Try.prog 70 #[.agg #[]] w fun e w' => e = .returned (.bool false) ∧ Below w.heap.size w w' := by
  go_enter Try.func70, Try.ntmps70
  go_wp2
  go_ret
  exact ⟨rfl, belowA (Below.refl _ w) _⟩
theorem hides3_any (w : World) : Calls Try.prog 78 #[.agg #[]] w fun e w' => e = .returned (.bool true) ∧ Below w.heap.size w w' := by
  go_enter Try.func78, Try.ntmps78
  go_wp2
  go_ret
  exact ⟨rfl, belowA (Below.refl _ w) _⟩
theorem hides4_any (w : World) : Calls Try.prog 81 #[.agg #[]] w fun e w' => e = .returned (.bool true) ∧ Below w.heap.size w w' := by
  go_enter Try.func81, Try.ntmps81
  go_wp2
  go_ret
  exact ⟨rfl, belowA (Below.refl _ w) _⟩

set_option maxHeartbeats 1000000 in
theorem showsDir_any (d : Int) (x : ByteArray) (hx : x.size ≤ 16777216) (hd : 1 ≤ d ∧ d ≤ 4) (w : World) :
    Calls Try.prog 40 #[signV d x] w fun e w' => e = .returned (.bool (dirK d)) ∧ Below w.heap.size w w' := by
  rcases (by omega : d = 1 ∨ d = 2 ∨ d = 3 ∨ d = 4) with rfl | rfl | rfl | rfl
  · have hm : ∀ W, (method 208 69 (.agg #[.string x]) "loop.example/pargeting/impl.shows").run Try.prog W = .ok (76, .agg #[.string x]) W := fun _ => by kernel_rfl
    rw [sign1]
    go_enter Try.func40, Try.ntmps40
    go_wp2_with (first | (go_at_call 76; refine (showsF_any _ hx _).mono ?_; rintro e w1 ⟨rfl, hB1⟩) | fail)
    go_ret
    exact ⟨rfl, belowA hB1 _⟩
  · have hm : ∀ W, (method 208 67 (.agg #[]) "loop.example/pargeting/impl.shows").run Try.prog W = .ok (72, .agg #[]) W := fun _ => by kernel_rfl
    rw [sign2]
    go_enter Try.func40, Try.ntmps40
    go_wp2_with (first | (go_at_call 72; refine (showsD_any _).mono ?_; rintro e w1 ⟨⟨aa, rfl⟩, hB1⟩) | fail)
    go_ret
    exact ⟨rfl, belowA hB1 _⟩
  · have hm : ∀ W, (method 208 70 (.agg #[]) "loop.example/pargeting/impl.shows").run Try.prog W = .ok (80, .agg #[]) W := fun _ => by kernel_rfl
    rw [sign3]
    go_enter Try.func40, Try.ntmps40
    go_wp2_with (first | (go_at_call 80; refine (showsG_any _).mono ?_; rintro e w1 ⟨rfl, hB1⟩) | fail)
    go_ret
    exact ⟨rfl, belowA hB1 _⟩
  · have hm : ∀ W, (method 208 71 (.agg #[]) "loop.example/pargeting/impl.shows").run Try.prog W = .ok (83, .agg #[]) W := fun _ => by kernel_rfl
    rw [sign4]
    go_enter Try.func40, Try.ntmps40
    go_wp2_with (first | (go_at_call 83; refine (showsB_any _).mono ?_; rintro e w1 ⟨⟨aa, rfl⟩, hB1⟩) | fail)
    go_ret
    exact ⟨rfl, belowA hB1 _⟩

set_option maxHeartbeats 1000000 in
theorem signOfNode1_any (x : ByteArray) (w : World) :
    Calls Try.prog 50 #[.agg #[.bool false, .string x, .map none]] w fun e w' => e = .returned (signV 1 x) ∧ Below w.heap.size w w' := by
  rw [sign1]
  go_enter Try.func50, Try.ntmps50
  go_wp2
  go_ret
  exact ⟨rfl, belowA (Below.refl _ w) _⟩
set_option maxHeartbeats 1000000 in
theorem signOfNode2_any (a : Nat) (x : ByteArray) (w : World) :
    Calls Try.prog 50 #[.agg #[.bool true, .string x, .map (some a)]] w fun e w' => e = .returned (signV 2 x) ∧ Below w.heap.size w w' := by
  rw [sign2]
  go_enter Try.func50, Try.ntmps50
  go_wp2
  go_ret
  exact ⟨rfl, belowA (Below.refl _ w) _⟩
end Go.Proofs.Ytnghmjlppdhimaa.Mk
