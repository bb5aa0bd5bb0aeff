/-
  The walks of the program's own small functions on signs.
-/
import Derived.Test.YtlgahgnjifhbhaaHDataI
import Derived.Test.YtlgahgnjifhbhaaHMkAt
namespace Go.Proofs.Ytlgahgnjifhbhaa.Mk
open Go.RowKit Go.Shelf Go.Lib

attribute [local go_sem] Oper.semAt_some

theorem newDir_any (w : World) :
    Calls Try.prog 90 #[] w fun e w' => (∃ a, e = .returned (.agg #[.bool true, .string ⟨#[]⟩, .map (some a)])) ∧ Below w.heap.size w w' := by
  have hmm := @run_makeMap Try.prog
  go_enter Try.func90, Try.ntmps90
  go_wp2
  refine bodyPost_ret (v := .agg #[.bool true, .string ⟨#[]⟩, .map (some (w.heap.size + 1))]) (by simp [results, Try.results90, go_sem]) rfl ⟨⟨_, rfl⟩, ?_⟩
  exact ((Below.refl _ w).alloc (Nat.le_refl _) _).alloc (by simp) _

set_option maxHeartbeats 400000 in
theorem newNode_any (t : TypeId) (u : Value) (w : World) :
    Calls Try.prog 51 #[.iface t u] w fun e w' => e = .returned (.agg #[.iface t u, .map (some (w.heap.size + 1))]) ∧ MapIs w' (w.heap.size + 1) 0 (fun _ => none) ∧ Below w.heap.size w w' := by
  have hmm := @run_makeMap Try.prog
  go_enter Try.func51, Try.ntmps51
  go_wp2
  refine bodyPost_ret (v := .agg #[.iface t u, .map (some (w.heap.size + 1))]) (by simp [results, Try.results51, go_sem]) rfl ⟨rfl, ?_, ?_⟩
  · have := MapIs.made (w.alloc (.cells #[.iface t u, .map (some (w.heap.size + 1))] 46))
    rwa [World.size_alloc] at this
  · exact ((Below.refl _ w).alloc (Nat.le_refl _) _).alloc (by simp) _

set_option maxHeartbeats 400000 in
theorem newLayer_any (w : World) :
    Calls Try.prog 37 #[] w fun e w' => (∃ a, w.heap.size ≤ a ∧ e = .returned (.agg #[.iface 84 (.agg #[]), .map (some a)]) ∧ MapIs w' a 0 (fun _ => none)) ∧ Below w.heap.size w w' := by
  have B := Box2.new w .nilIface (.map none) 48
  go_enter Try.func37, Try.ntmps37
  go_wp2_with (first | (go_at_call 51; refine (newNode_any _ _ _).mono ?_; rintro e w1 ⟨rfl, hM1, hB1⟩; obtain ⟨c0, c1, c2, c3⟩ := B.below hB1) | fail)
  have hBw := belowT (belowA (Below.refl _ w) _) hB1
  refine atSet2 (C := bodyPost Try.prog Try.f37 _ _ _) (B.below hB1) hBw (Nat.le_refl _) ?_
  intro Wf s0 hBf hK _
  simp only [World.size_alloc] at hM1
  exact bodyPost_ret (v := .agg #[.iface 84 (.agg #[]), .map (some (w.heap.size + 1 + 1))]) (by simp [results, Try.results37, go_sem, s0.c0, s0.c1]) rfl ⟨⟨_, by omega, rfl, hM1.keeps hK⟩, hBf⟩

theorem clone_any (x : ByteArray) (hx : x.size ≤ 16777216) (w : World) :
    Calls Try.prog 52 #[.string x] w fun e w' => e = .returned (.string x) ∧ Below w.heap.size w w' := by
  go_enter Try.func52, Try.ntmps52
  go_wp2_with (first | (go_at_call 66; refine (sClone_any _ _ (by omega)).mono ?_; rintro e w' ⟨rfl, hB⟩) | go_in)
  go_ret
  exact ⟨rfl, hB⟩

theorem newFile_any (x : ByteArray) (hx : x.size ≤ 16777216) (w : World) :
    Calls Try.prog 94 #[.string x] w fun e w' => e = .returned (.agg #[.bool false, .string x, .map none]) ∧ Below w.heap.size w w' := by
  have B := Box3.new w (.bool false) (.string ⟨#[]⟩) (.map none) 98
  go_enter Try.func94, Try.ntmps94
  go_wp2_with (first | (go_at_call 52; refine (clone_any _ hx _).mono ?_; rintro e w1 ⟨rfl, hB1⟩; obtain ⟨k0, k1, k2, f0, f1, f2⟩ := B.below hB1) | fail)
  refine atSet3 (C := bodyPost Try.prog Try.f94 _ _ _) (B.below hB1) (belowT (belowA (Below.refl _ w) _) hB1) (Nat.le_refl _) ?_
  intro Wf s0 hBf _
  exact bodyPost_ret (v := .agg #[.bool false, .string x, .map none]) (by simp [results, Try.results94, go_sem, s0.c0, s0.c1, s0.c2]) rfl ⟨rfl, hBf⟩
set_option maxHeartbeats 400000 in
theorem showsF_any (x : ByteArray) (hx : x.size ≤ 16777216) (w : World) :
    Calls Try.prog 93 #[.agg #[.string x]] w fun e w' => e = .returned (.tuple #[.agg #[.bool false, .string x, .map none], .bool true]) ∧ Below w.heap.size w w' := by
  have B := Box3.new (w.alloc (.cells #[.string x] 86)) (.bool false) (.string ⟨#[]⟩) (.map none) 98
  simp only [World.size_alloc] at B
  go_enter Try.func93, Try.ntmps93
  go_wp2_with (first | (go_at_call 94; refine (newFile_any _ hx _).mono ?_; rintro e w1 ⟨rfl, hB1⟩; obtain ⟨k0, k1, k2, f0, f1, f2⟩ := B.below hB1) | fail)
  refine atSet3 (C := bodyPost Try.prog Try.f93 _ _ _) (B.below hB1) (belowT (belowA (belowA (Below.refl _ w) _) _) hB1) (Nat.le_succ _) ?_
  intro Wf s0 hBf _
  exact bodyPost_ret (v := .tuple #[.agg #[.bool false, .string x, .map none], .bool true]) (by simp [results, Try.results93, go_sem, s0.c0, s0.c1, s0.c2]) rfl ⟨rfl, hBf⟩
set_option maxHeartbeats 400000 in
theorem showsD_any (w : World) :
    Calls Try.prog 89 #[.agg #[]] w fun e w' => (∃ a, e = .returned (.tuple #[.agg #[.bool true, .string ⟨#[]⟩, .map (some a)], .bool true])) ∧ Below w.heap.size w w' := by
  have B := Box3.new (w.alloc (.cells #[] 84)) (.bool false) (.string ⟨#[]⟩) (.map none) 98
  simp only [World.size_alloc] at B
  go_enter Try.func89, Try.ntmps89
  go_wp2_with (first | (go_at_call 90; refine (newDir_any _).mono ?_; rintro e w1 ⟨⟨aa, rfl⟩, hB1⟩; obtain ⟨k0, k1, k2, f0, f1, f2⟩ := B.below hB1) | fail)
  refine atSet3 (C := bodyPost Try.prog Try.f89 _ _ _) (B.below hB1) (belowT (belowA (belowA (Below.refl _ w) _) _) hB1) (Nat.le_succ _) ?_
  intro Wf s0 hBf _
  exact bodyPost_ret (v := .tuple #[.agg #[.bool true, .string ⟨#[]⟩, .map (some aa)], .bool true]) (by simp [results, Try.results89, go_sem, s0.c0, s0.c1, s0.c2]) rfl ⟨⟨_, rfl⟩, hBf⟩
set_option maxHeartbeats 400000 in
theorem showsB_any (w : World) :
    Calls Try.prog 100 #[.agg #[]] w fun e w' => (∃ a, e = .returned (.tuple #[.agg #[.bool true, .string ⟨#[]⟩, .map (some a)], .bool true])) ∧ Below w.heap.size w w' := by
  have B := Box3.new (w.alloc (.cells #[] 88)) (.bool false) (.string ⟨#[]⟩) (.map none) 98
  simp only [World.size_alloc] at B
  go_enter Try.func100, Try.ntmps100
  go_wp2_with (first | (go_at_call 90; refine (newDir_any _).mono ?_; rintro e w1 ⟨⟨aa, rfl⟩, hB1⟩; obtain ⟨k0, k1, k2, f0, f1, f2⟩ := B.below hB1) | fail)
  refine atSet3 (C := bodyPost Try.prog Try.f100 _ _ _) (B.below hB1) (belowT (belowA (belowA (Below.refl _ w) _) _) hB1) (Nat.le_succ _) ?_
  intro Wf s0 hBf _
  exact bodyPost_ret (v := .tuple #[.agg #[.bool true, .string ⟨#[]⟩, .map (some aa)], .bool true]) (by simp [results, Try.results100, go_sem, s0.c0, s0.c1, s0.c2]) rfl ⟨⟨_, rfl⟩, hBf⟩
set_option maxHeartbeats 400000 in
theorem showsG_any (w : World) :
    Calls Try.prog 97 #[.agg #[]] w fun e w' => e = .returned (.tuple #[.agg #[.bool false, .string ⟨#[]⟩, .map none], .bool false]) ∧ Below w.heap.size w w' := by
  go_enter Try.func97, Try.ntmps97
  go_wp2
  exact bodyPost_ret (v := .tuple #[.agg #[.bool false, .string ⟨#[]⟩, .map none], .bool false]) (by simp [results, Try.results97, go_sem]) rfl ⟨rfl, belowA (belowA (Below.refl _ w) _) _⟩
theorem hides1_any (x : ByteArray) (w : World) : Calls Try.prog 91 #[.agg #[.string x]] w fun e w' => e = .returned (.bool true) ∧ Below w.heap.size w w' := by
  go_enter Try.func91, Try.ntmps91
  go_wp2
  go_ret
  exact ⟨rfl, belowA (Below.refl _ w) _⟩
theorem hides2_any (w : World) : Calls Try.prog 87 #[.agg #[]] w fun e w' => e = .returned (.bool false) ∧ Below w.heap.size w w' := by
  go_enter Try.func87, Try.ntmps87
  go_wp2
  go_ret
  exact ⟨rfl, belowA (Below.refl _ w) _⟩
theorem hides3_any (w : World) : Calls Try.prog 95 #[.agg #[]] w fun e w' => e = .returned (.bool true) ∧ Below w.heap.size w w' := by
  go_enter Try.func95, Try.ntmps95
  go_wp2
  go_ret
  exact ⟨rfl, belowA (Below.refl _ w) _⟩
theorem hides4_any (w : World) : Calls Try.prog 98 #[.agg #[]] w fun e w' => e = .returned (.bool true) ∧ Below w.heap.size w w' := by
  go_enter Try.func98, Try.ntmps98
  go_wp2
  go_ret
  exact ⟨rfl, belowA (Below.refl _ w) _⟩

set_option maxHeartbeats 1000000 in
theorem showsDir_any (d : Int) (x : ByteArray) (hx : x.size ≤ 16777216) (hd : 1 ≤ d ∧ d ≤ 4) (w : World) :
    Calls Try.prog 55 #[signV d x] w fun e w' => e = .returned (.bool (dirK d)) ∧ Below w.heap.size w w' := by
  rcases (by omega : d = 1 ∨ d = 2 ∨ d = 3 ∨ d = 4) with rfl | rfl | rfl | rfl
  · have hm : ∀ W, (method 224 86 (.agg #[.string x]) "loop.example/pargeting/impl.shows").run Try.prog W = .ok (93, .agg #[.string x]) W := fun _ => by kernel_rfl
    rw [sign1]
    go_enter Try.func55, Try.ntmps55
    go_wp2_with (first | (go_at_call 93; refine (showsF_any _ hx _).mono ?_; rintro e w1 ⟨rfl, hB1⟩) | fail)
    go_ret
    exact ⟨rfl, belowA hB1 _⟩
  · have hm : ∀ W, (method 224 84 (.agg #[]) "loop.example/pargeting/impl.shows").run Try.prog W = .ok (89, .agg #[]) W := fun _ => by kernel_rfl
    rw [sign2]
    go_enter Try.func55, Try.ntmps55
    go_wp2_with (first | (go_at_call 89; refine (showsD_any _).mono ?_; rintro e w1 ⟨⟨aa, rfl⟩, hB1⟩) | fail)
    go_ret
    exact ⟨rfl, belowA hB1 _⟩
  · have hm : ∀ W, (method 224 87 (.agg #[]) "loop.example/pargeting/impl.shows").run Try.prog W = .ok (97, .agg #[]) W := fun _ => by kernel_rfl
    rw [sign3]
    go_enter Try.func55, Try.ntmps55
    go_wp2_with (first | (go_at_call 97; refine (showsG_any _).mono ?_; rintro e w1 ⟨rfl, hB1⟩) | fail)
    go_ret
    exact ⟨rfl, belowA hB1 _⟩
  · have hm : ∀ W, (method 224 88 (.agg #[]) "loop.example/pargeting/impl.shows").run Try.prog W = .ok (100, .agg #[]) W := fun _ => by kernel_rfl
    rw [sign4]
    go_enter Try.func55, Try.ntmps55
    go_wp2_with (first | (go_at_call 100; refine (showsB_any _).mono ?_; rintro e w1 ⟨⟨aa, rfl⟩, hB1⟩) | fail)
    go_ret
    exact ⟨rfl, belowA hB1 _⟩

set_option maxHeartbeats 1000000 in
theorem signOfNode1_any (x : ByteArray) (w : World) :
    Calls Try.prog 69 #[.agg #[.bool false, .string x, .map none]] w fun e w' => e = .returned (signV 1 x) ∧ Below w.heap.size w w' := by
  rw [sign1]
  go_enter Try.func69, Try.ntmps69
  go_wp2
  go_ret
  exact ⟨rfl, belowA (Below.refl _ w) _⟩
set_option maxHeartbeats 1000000 in
theorem signOfNode2_any (a : Nat) (x : ByteArray) (w : World) :
    Calls Try.prog 69 #[.agg #[.bool true, .string x, .map (some a)]] w fun e w' => e = .returned (signV 2 x) ∧ Below w.heap.size w w' := by
  rw [sign2]
  go_enter Try.func69, Try.ntmps69
  go_wp2
  go_ret
  exact ⟨rfl, belowA (Below.refl _ w) _⟩
end Go.Proofs.Ytlgahgnjifhbhaa.Mk
