/-
  The walks of the program's own small functions on signs.
-/
import Derived.Test.YtmfjdafkgkjidaaDoorHPk08
import Derived.Test.YtmfjdafkgkjidaaDoorHMkAt
namespace Go.Proofs.YtmfjdafkgkjidaaDoor.Mk
open Go.RowKit Go.Shelf Go.Lib

attribute [local go_sem] Oper.semAt_some

theorem newDir_any (w : World) :
    Calls Tryd.prog 58 #[] w fun e w' => (∃ a, e = .returned (.agg #[.bool true, .string ⟨#[]⟩, .map (some a)])) ∧ Below w.heap.size w w' := by
  have hmm := @run_makeMap Tryd.prog
  go_enter Tryd.func58, Tryd.ntmps58
  go_wp2
  refine bodyPost_ret (v := .agg #[.bool true, .string ⟨#[]⟩, .map (some (w.heap.size + 1))]) (by simp [results, Tryd.results58, go_sem]) rfl ⟨⟨_, rfl⟩, ?_⟩
  exact ((Below.refl _ w).alloc (Nat.le_refl _) _).alloc (by simp) _

set_option maxHeartbeats 400000 in
theorem newNode_any (t : TypeId) (u : Value) (w : World) :
    Calls Tryd.prog 74 #[.iface t u] w fun e w' => e = .returned (.agg #[.iface t u, .map (some (w.heap.size + 1))]) ∧ MapIs w' (w.heap.size + 1) 0 (fun _ => none) ∧ Below w.heap.size w w' := by
  have hmm := @run_makeMap Tryd.prog
  go_enter Tryd.func74, Tryd.ntmps74
  go_wp2
  refine bodyPost_ret (v := .agg #[.iface t u, .map (some (w.heap.size + 1))]) (by simp [results, Tryd.results74, go_sem]) rfl ⟨rfl, ?_, ?_⟩
  · have := MapIs.made (w.alloc (.cells #[.iface t u, .map (some (w.heap.size + 1))] 87))
    rwa [World.size_alloc] at this
  · exact ((Below.refl _ w).alloc (Nat.le_refl _) _).alloc (by simp) _

set_option maxHeartbeats 400000 in
theorem newLayer_any (w : World) :
    Calls Tryd.prog 62 #[] w fun e w' => (∃ a, w.heap.size ≤ a ∧ e = .returned (.agg #[.iface 123 (.agg #[]), .map (some a)]) ∧ MapIs w' a 0 (fun _ => none)) ∧ Below w.heap.size w w' := by
  have B := Box2.new w .nilIface (.map none) 89
  go_enter Tryd.func62, Tryd.ntmps62
  go_wp2_with (first | (go_at_call 74; refine (newNode_any _ _ _).mono ?_; rintro e w1 ⟨rfl, hM1, hB1⟩; obtain ⟨c0, c1, c2, c3⟩ := B.below hB1) | fail)
  have hBw := belowT (belowA (Below.refl _ w) _) hB1
  refine atSet2 (C := bodyPost Tryd.prog Tryd.f62 _ _ _) (B.below hB1) hBw (Nat.le_refl _) ?_
  intro Wf s0 hBf hK _
  simp only [World.size_alloc] at hM1
  exact bodyPost_ret (v := .agg #[.iface 123 (.agg #[]), .map (some (w.heap.size + 1 + 1))]) (by simp [results, Tryd.results62, go_sem, s0.c0, s0.c1]) rfl ⟨⟨_, by omega, rfl, hM1.keeps hK⟩, hBf⟩

theorem clone_any (x : ByteArray) (hx : x.size ≤ 16777216) (w : World) :
    Calls Tryd.prog 75 #[.string x] w fun e w' => e = .returned (.string x) ∧ Below w.heap.size w w' := by
  go_enter Tryd.func75, Tryd.ntmps75
  go_wp2_with (first | (go_at_call 85; refine (sClone_any _ _ (by omega)).mono ?_; rintro e w' ⟨rfl, hB⟩) | go_in)
  go_ret
  exact ⟨rfl, hB⟩

theorem newFile_any (x : ByteArray) (hx : x.size ≤ 16777216) (w : World) :
    Calls Tryd.prog 72 #[.string x] w fun e w' => e = .returned (.agg #[.bool false, .string x, .map none]) ∧ Below w.heap.size w w' := by
  have B := Box3.new w (.bool false) (.string ⟨#[]⟩) (.map none) 77
  go_enter Tryd.func72, Tryd.ntmps72
  go_wp2_with (first | (go_at_call 75; refine (clone_any _ hx _).mono ?_; rintro e w1 ⟨rfl, hB1⟩; obtain ⟨k0, k1, k2, f0, f1, f2⟩ := B.below hB1) | fail)
  refine atSet3 (C := bodyPost Tryd.prog Tryd.f72 _ _ _) (B.below hB1) (belowT (belowA (Below.refl _ w) _) hB1) (Nat.le_refl _) ?_
  intro Wf s0 hBf _
  exact bodyPost_ret (v := .agg #[.bool false, .string x, .map none]) (by simp [results, Tryd.results72, go_sem, s0.c0, s0.c1, s0.c2]) rfl ⟨rfl, hBf⟩
set_option maxHeartbeats 400000 in
theorem showsF_any (x : ByteArray) (hx : x.size ≤ 16777216) (w : World) :
    Calls Tryd.prog 125 #[.agg #[.string x]] w fun e w' => e = .returned (.tuple #[.agg #[.bool false, .string x, .map none], .bool true]) ∧ Below w.heap.size w w' := by
  have B := Box3.new (w.alloc (.cells #[.string x] 125)) (.bool false) (.string ⟨#[]⟩) (.map none) 77
  simp only [World.size_alloc] at B
  go_enter Tryd.func125, Tryd.ntmps125
  go_wp2_with (first | (go_at_call 72; refine (newFile_any _ hx _).mono ?_; rintro e w1 ⟨rfl, hB1⟩; obtain ⟨k0, k1, k2, f0, f1, f2⟩ := B.below hB1) | fail)
  refine atSet3 (C := bodyPost Tryd.prog Tryd.f125 _ _ _) (B.below hB1) (belowT (belowA (belowA (Below.refl _ w) _) _) hB1) (Nat.le_succ _) ?_
  intro Wf s0 hBf _
  exact bodyPost_ret (v := .tuple #[.agg #[.bool false, .string x, .map none], .bool true]) (by simp [results, Tryd.results125, go_sem, s0.c0, s0.c1, s0.c2]) rfl ⟨rfl, hBf⟩
set_option maxHeartbeats 400000 in
theorem showsD_any (w : World) :
    Calls Tryd.prog 122 #[.agg #[]] w fun e w' => (∃ a, e = .returned (.tuple #[.agg #[.bool true, .string ⟨#[]⟩, .map (some a)], .bool true])) ∧ Below w.heap.size w w' := by
  have B := Box3.new (w.alloc (.cells #[] 123)) (.bool false) (.string ⟨#[]⟩) (.map none) 77
  simp only [World.size_alloc] at B
  go_enter Tryd.func122, Tryd.ntmps122
  go_wp2_with (first | (go_at_call 58; refine (newDir_any _).mono ?_; rintro e w1 ⟨⟨aa, rfl⟩, hB1⟩; obtain ⟨k0, k1, k2, f0, f1, f2⟩ := B.below hB1) | fail)
  refine atSet3 (C := bodyPost Tryd.prog Tryd.f122 _ _ _) (B.below hB1) (belowT (belowA (belowA (Below.refl _ w) _) _) hB1) (Nat.le_succ _) ?_
  intro Wf s0 hBf _
  exact bodyPost_ret (v := .tuple #[.agg #[.bool true, .string ⟨#[]⟩, .map (some aa)], .bool true]) (by simp [results, Tryd.results122, go_sem, s0.c0, s0.c1, s0.c2]) rfl ⟨⟨_, rfl⟩, hBf⟩
set_option maxHeartbeats 400000 in
theorem showsB_any (w : World) :
    Calls Tryd.prog 131 #[.agg #[]] w fun e w' => (∃ a, e = .returned (.tuple #[.agg #[.bool true, .string ⟨#[]⟩, .map (some a)], .bool true])) ∧ Below w.heap.size w w' := by
  have B := Box3.new (w.alloc (.cells #[] 127)) (.bool false) (.string ⟨#[]⟩) (.map none) 77
  simp only [World.size_alloc] at B
  go_enter Tryd.func131, Tryd.ntmps131
  go_wp2_with (first | (go_at_call 58; refine (newDir_any _).mono ?_; rintro e w1 ⟨⟨aa, rfl⟩, hB1⟩; obtain ⟨k0, k1, k2, f0, f1, f2⟩ := B.below hB1) | fail)
  refine atSet3 (C := bodyPost Tryd.prog Tryd.f131 _ _ _) (B.below hB1) (belowT (belowA (belowA (Below.refl _ w) _) _) hB1) (Nat.le_succ _) ?_
  intro Wf s0 hBf _
  exact bodyPost_ret (v := .tuple #[.agg #[.bool true, .string ⟨#[]⟩, .map (some aa)], .bool true]) (by simp [results, Tryd.results131, go_sem, s0.c0, s0.c1, s0.c2]) rfl ⟨⟨_, rfl⟩, hBf⟩
set_option maxHeartbeats 400000 in
theorem showsG_any (w : World) :
    Calls Tryd.prog 128 #[.agg #[]] w fun e w' => e = .returned (.tuple #[.agg #[.bool false, .string ⟨#[]⟩, .map none], .bool false]) ∧ Below w.heap.size w w' := by
  go_enter Tryd.func128, Tryd.ntmps128
  go_wp2
  exact bodyPost_ret (v := .tuple #[.agg #[.bool false, .string ⟨#[]⟩, .map none], .bool false]) (by simp [results, Tryd.results128, go_sem]) rfl ⟨rfl, belowA (belowA (Below.refl _ w) _) _⟩

set_option maxHeartbeats 1000000 in
theorem showsDir_any (d : Int) (x : ByteArray) (hx : x.size ≤ 16777216) (hd : 1 ≤ d ∧ d ≤ 4) (w : World) :
    Calls Tryd.prog 77 #[signV d x] w fun e w' => e = .returned (.bool (dirK d)) ∧ Below w.heap.size w w' := by
  rcases (by omega : d = 1 ∨ d = 2 ∨ d = 3 ∨ d = 4) with rfl | rfl | rfl | rfl
  · have hm : ∀ W, (method 268 125 (.agg #[.string x]) "loop.example/pargeting/impl.shows").run Tryd.prog W = .ok (125, .agg #[.string x]) W := fun _ => by kernel_rfl
    rw [sign1]
    go_enter Tryd.func77, Tryd.ntmps77
    go_wp2_with (first | (go_at_call 125; refine (showsF_any _ hx _).mono ?_; rintro e w1 ⟨rfl, hB1⟩) | fail)
    go_ret
    exact ⟨rfl, belowA hB1 _⟩
  · have hm : ∀ W, (method 268 123 (.agg #[]) "loop.example/pargeting/impl.shows").run Tryd.prog W = .ok (122, .agg #[]) W := fun _ => by kernel_rfl
    rw [sign2]
    go_enter Tryd.func77, Tryd.ntmps77
    go_wp2_with (first | (go_at_call 122; refine (showsD_any _).mono ?_; rintro e w1 ⟨⟨aa, rfl⟩, hB1⟩) | fail)
    go_ret
    exact ⟨rfl, belowA hB1 _⟩
  · have hm : ∀ W, (method 268 126 (.agg #[]) "loop.example/pargeting/impl.shows").run Tryd.prog W = .ok (128, .agg #[]) W := fun _ => by kernel_rfl
    rw [sign3]
    go_enter Tryd.func77, Tryd.ntmps77
    go_wp2_with (first | (go_at_call 128; refine (showsG_any _).mono ?_; rintro e w1 ⟨rfl, hB1⟩) | fail)
    go_ret
    exact ⟨rfl, belowA hB1 _⟩
  · have hm : ∀ W, (method 268 127 (.agg #[]) "loop.example/pargeting/impl.shows").run Tryd.prog W = .ok (131, .agg #[]) W := fun _ => by kernel_rfl
    rw [sign4]
    go_enter Tryd.func77, Tryd.ntmps77
    go_wp2_with (first | (go_at_call 131; refine (showsB_any _).mono ?_; rintro e w1 ⟨⟨aa, rfl⟩, hB1⟩) | fail)
    go_ret
    exact ⟨rfl, belowA hB1 _⟩

set_option maxHeartbeats 1000000 in
theorem signOfNode1_any (x : ByteArray) (w : World) :
    Calls Tryd.prog 87 #[.agg #[.bool false, .string x, .map none]] w fun e w' => e = .returned (signV 1 x) ∧ Below w.heap.size w w' := by
  rw [sign1]
  go_enter Tryd.func87, Tryd.ntmps87
  go_wp2
  go_ret
  exact ⟨rfl, belowA (Below.refl _ w) _⟩
set_option maxHeartbeats 1000000 in
theorem signOfNode2_any (a : Nat) (x : ByteArray) (w : World) :
    Calls Tryd.prog 87 #[.agg #[.bool true, .string x, .map (some a)]] w fun e w' => e = .returned (signV 2 x) ∧ Below w.heap.size w w' := by
  rw [sign2]
  go_enter Tryd.func87, Tryd.ntmps87
  go_wp2
  go_ret
  exact ⟨rfl, belowA (Below.refl _ w) _⟩
end Go.Proofs.YtmfjdafkgkjidaaDoor.Mk
