import Derived.Shelf.SlIter.Nil
import Derived.Shelf.SortM.Plain
import Derived.Shelf.SortM.SortNone
import Derived.KernelRfl
import Derived.Test.YtafeddiijemnbaaGreatDoorProg
namespace Go.Proofs.YtafeddiijemnbaaGreatDoor
open Go.RowKit Go.Maps Go.Sort Go.Shelf
def sortedRen : Ren where
  f := fun n => if n = 6 then 88 else if n = 8 then 90 else if n = 9 then 91 else if n = 11 then 93 else if n = 13 then 95 else if n = 12 then 94 else if n = 23 then 105 else if n = 24 then 106 else if n = 14 then 96 else if n = 15 then 97 else if n = 16 then 98 else if n = 17 then 99 else if n = 18 then 100 else if n = 19 then 101 else if n = 20 then 102 else if n = 21 then 103 else if n = 22 then 104 else if n = 25 then 107 else if n = 26 then 108 else if n = 27 then 109 else if n = 28 then 110 else if n = 29 then 111 else if n = 30 then 112 else if n = 31 then 113 else n
  t := fun n => if n = 26 then 9 else if n = 28 then 140 else if n = 24 then 82 else if n = 0 then 0 else if n = 3 then 3 else if n = 37 then 146 else if n = 48 then 156 else if n = 50 then 158 else if n = 4 then 4 else if n = 40 then 149 else if n = 39 then 148 else if n = 45 then 153 else if n = 5 then 5 else if n = 9 then 9 else if n = 51 then 159 else if n = 55 then 163 else if n = 57 then 165 else if n = 58 then 166 else if n = 33 then 86 else n
  g := fun n => n
theorem sortedLays : SlLaysZ.n6 Tryz.prog sortedRen where
  mixed := by kernel_rfl
  f6 := ⟨Tryz.f88.name, by kernel_rfl, by kernel_rfl⟩
  f8 := ⟨Tryz.f90.name, by kernel_rfl, by kernel_rfl⟩
  f11 := ⟨Tryz.f93.name, by kernel_rfl, by kernel_rfl⟩
  t0 := by kernel_rfl
  a0 := fun _ => by kernel_rfl
  z0 := fun _ => by kernel_rfl
  v0 := fun _ => by kernel_rfl
  t24 := by kernel_rfl
  a24 := fun _ => by kernel_rfl
  z24 := fun _ => by kernel_rfl
  v24 := fun _ => by kernel_rfl
  t26 := by kernel_rfl
  a26 := fun _ => by kernel_rfl
  z26 := fun _ => by kernel_rfl
  v26 := fun _ => by kernel_rfl
  t28 := by kernel_rfl
  a28 := fun _ => by kernel_rfl
  z28 := fun _ => by kernel_rfl
  v28 := fun _ => by kernel_rfl
  i26 := by kernel_rfl
def sortRen : Ren where
  f := fun n => if n = 6 then 91 else if n = 8 then 95 else if n = 9 then 94 else if n = 19 then 105 else if n = 20 then 106 else if n = 21 then 96 else if n = 22 then 97 else if n = 23 then 98 else if n = 24 then 99 else if n = 25 then 100 else if n = 26 then 101 else if n = 27 then 102 else if n = 28 then 103 else if n = 29 then 104 else if n = 36 then 107 else if n = 31 then 108 else if n = 32 then 109 else if n = 37 then 110 else if n = 38 then 111 else if n = 39 then 112 else if n = 41 then 113 else n
  t := fun n => if n = 27 then 82 else if n = 29 then 9 else if n = 3 then 3 else if n = 32 then 146 else if n = 26 then 82 else if n = 0 then 0 else if n = 44 then 156 else if n = 46 then 158 else if n = 4 then 4 else if n = 36 then 149 else if n = 35 then 148 else if n = 41 then 153 else if n = 5 then 5 else if n = 9 then 9 else if n = 53 then 159 else if n = 57 then 163 else if n = 63 then 165 else if n = 64 then 166 else n
  g := fun n => n
theorem sortLays : SlLaysM.n6 Tryz.prog sortRen where
  mixed := by kernel_rfl
  f6 := ⟨Tryz.f91.name, by kernel_rfl, by kernel_rfl⟩
  f8 := by kernel_rfl
  f9 := ⟨Tryz.f94.name, by kernel_rfl, by kernel_rfl⟩
  f19 := by kernel_rfl
  f20 := by kernel_rfl
  f21 := ⟨Tryz.f96.name, by kernel_rfl, by kernel_rfl⟩
  f22 := ⟨Tryz.f97.name, by kernel_rfl, by kernel_rfl⟩
  f23 := ⟨Tryz.f98.name, by kernel_rfl, by kernel_rfl⟩
  f24 := ⟨Tryz.f99.name, by kernel_rfl, by kernel_rfl⟩
  f25 := ⟨Tryz.f100.name, by kernel_rfl, by kernel_rfl⟩
  f26 := ⟨Tryz.f101.name, by kernel_rfl, by kernel_rfl⟩
  f27 := ⟨Tryz.f102.name, by kernel_rfl, by kernel_rfl⟩
  f28 := ⟨Tryz.f103.name, by kernel_rfl, by kernel_rfl⟩
  f29 := ⟨Tryz.f104.name, by kernel_rfl, by kernel_rfl⟩
  f31 := by kernel_rfl
  f32 := by kernel_rfl
  f36 := ⟨Tryz.f107.name, by kernel_rfl, by kernel_rfl⟩
  f37 := ⟨Tryz.f110.name, by kernel_rfl, by kernel_rfl⟩
  f38 := ⟨Tryz.f111.name, by kernel_rfl, by kernel_rfl⟩
  f39 := ⟨Tryz.f112.name, by kernel_rfl, by kernel_rfl⟩
  f41 := ⟨Tryz.f113.name, by kernel_rfl, by kernel_rfl⟩
  t0 := by kernel_rfl
  a0 := fun _ => by kernel_rfl
  z0 := fun _ => by kernel_rfl
  v0 := fun _ => by kernel_rfl
  t3 := by kernel_rfl
  a3 := fun _ => by kernel_rfl
  z3 := fun _ => by kernel_rfl
  v3 := fun _ => by kernel_rfl
  t4 := by kernel_rfl
  a4 := fun _ => by kernel_rfl
  z4 := fun _ => by kernel_rfl
  v4 := fun _ => by kernel_rfl
  t5 := by kernel_rfl
  a5 := fun _ => by kernel_rfl
  z5 := fun _ => by kernel_rfl
  v5 := fun _ => by kernel_rfl
  t9 := by kernel_rfl
  a9 := fun _ => by kernel_rfl
  z9 := fun _ => by kernel_rfl
  v9 := fun _ => by kernel_rfl
  t26 := by kernel_rfl
  a26 := fun _ => by kernel_rfl
  z26 := fun _ => by kernel_rfl
  v26 := fun _ => by kernel_rfl
  t27 := by kernel_rfl
  a27 := fun _ => by kernel_rfl
  z27 := fun _ => by kernel_rfl
  v27 := fun _ => by kernel_rfl
  t29 := by kernel_rfl
  a29 := fun _ => by kernel_rfl
  z29 := fun _ => by kernel_rfl
  v29 := fun _ => by kernel_rfl
  t32 := by kernel_rfl
  a32 := fun _ => by kernel_rfl
  z32 := fun _ => by kernel_rfl
  v32 := fun _ => by kernel_rfl
  t35 := by kernel_rfl
  a35 := fun _ => by kernel_rfl
  z35 := fun _ => by kernel_rfl
  v35 := fun _ => by kernel_rfl
  t36 := by kernel_rfl
  a36 := fun _ => by kernel_rfl
  z36 := fun _ => by kernel_rfl
  v36 := fun _ => by kernel_rfl
  t41 := by kernel_rfl
  a41 := fun _ => by kernel_rfl
  z41 := fun _ => by kernel_rfl
  v41 := fun _ => by kernel_rfl
  t44 := by kernel_rfl
  a44 := fun _ => by kernel_rfl
  z44 := fun _ => by kernel_rfl
  v44 := fun _ => by kernel_rfl
  t46 := by kernel_rfl
  a46 := fun _ => by kernel_rfl
  z46 := fun _ => by kernel_rfl
  v46 := fun _ => by kernel_rfl
  t53 := by kernel_rfl
  a53 := fun _ => by kernel_rfl
  z53 := fun _ => by kernel_rfl
  v53 := fun _ => by kernel_rfl
  t57 := by kernel_rfl
  a57 := fun _ => by kernel_rfl
  z57 := fun _ => by kernel_rfl
  v57 := fun _ => by kernel_rfl
  t63 := by kernel_rfl
  a63 := fun _ => by kernel_rfl
  z63 := fun _ => by kernel_rfl
  v63 := fun _ => by kernel_rfl
  t64 := by kernel_rfl
  a64 := fun _ => by kernel_rfl
  z64 := fun _ => by kernel_rfl
  v64 := fun _ => by kernel_rfl
theorem sortsIn (m : Nat) : AnyZ.SortsIn Tryz.prog sortedRen Fence.wide m :=
  ⟨fun blk off cap ss W hH hblk hsz => callsIn_wide.2 (AnyM.slices_Sort_string sortLays blk off cap ss W hH hblk hsz),
   fun p cap W => callsIn_wide.2 (AnyM.slices_Sort_string_none sortLays p cap W)⟩
def keysRen : Ren where
  f := fun n => if n = 7 then 89 else if n = 10 then 92 else n
  t := fun n => if n = 23 then 34 else if n = 26 then 9 else if n = 3 then 36 else if n = 28 then 140 else if n = 0 then 0 else if n = 27 then 139 else if n = 33 then 86 else if n = 4 then 4 else n
  g := fun n => n
theorem keysLays : SlLaysZ.n7 Tryz.prog keysRen where
  mixed := by kernel_rfl
  f7 := ⟨Tryz.f89.name, by kernel_rfl, by kernel_rfl⟩
  f10 := ⟨Tryz.f92.name, by kernel_rfl, by kernel_rfl⟩
  t0 := by kernel_rfl
  a0 := fun _ => by kernel_rfl
  z0 := fun _ => by kernel_rfl
  v0 := fun _ => by kernel_rfl
  t4 := by kernel_rfl
  a4 := fun _ => by kernel_rfl
  z4 := fun _ => by kernel_rfl
  v4 := fun _ => by kernel_rfl
  t23 := by kernel_rfl
  a23 := fun _ => by kernel_rfl
  z23 := fun _ => by kernel_rfl
  v23 := fun _ => by kernel_rfl
  t26 := by kernel_rfl
  a26 := fun _ => by kernel_rfl
  z26 := fun _ => by kernel_rfl
  v26 := fun _ => by kernel_rfl
  t27 := by kernel_rfl
  a27 := fun _ => by kernel_rfl
  z27 := fun _ => by kernel_rfl
  v27 := fun _ => by kernel_rfl
  t28 := by kernel_rfl
  a28 := fun _ => by kernel_rfl
  z28 := fun _ => by kernel_rfl
  v28 := fun _ => by kernel_rfl
  t33 := by kernel_rfl
  a33 := fun _ => by kernel_rfl
  z33 := fun _ => by kernel_rfl
  v33 := fun _ => by kernel_rfl
theorem keysIn (mb : Option Nat) (W : World) : CallsIn Fence.wide 5 Tryz.prog 89 #[.map mb] W fun e w' => e = .returned (.func (.func 92) #[] #[.pointer (some ⟨W.heap.size, 0, none⟩)]) ∧ w' = W.alloc (.cells #[.map mb] 34) :=
  AnyZ.keys_in keysLays Fence.wide 5 trivial rfl mb W
set_option maxHeartbeats 1000000 in
theorem sortedKeys {H : Type} (b nn : Nat) (D0 : DataW H) (R : Value → Option (DataW H × List MemPlace)) (w : World) (hown : w.ownsMap Tryz.prog 9 R b nn D0) (hmax : Maps.size D0 ≤ maxLen) (hbytes : Maps.size D0 * 16 ≤ 140737488355328) :
    CallsIn Fence.wide 5 Tryz.prog 88 #[.func (.func 92) #[] #[.pointer (some ⟨w.heap.size, 0, none⟩)]] (w.alloc (.cells #[.map (some b)] 34)) fun e w' => ∃ (v : Value) (ss : List (List UInt8)), e = .returned v ∧ ss.Perm (strKeys D0) ∧
      w'.ownsRow (w.alloc (.cells #[.map (some b)] 34)).heap.size 9 1 v ss.length ((ss.mergeSort (fun x y => decide (x ≤ y))).map encStr) ∧ (v = .slice none 0 0 ↔ ss = []) ∧ Below (w.alloc (.cells #[.map (some b)] 34)).heap.size (w.alloc (.cells #[.map (some b)] 34)) w' := by
  have hbl := hown.lt
  have hseq : SeqGives Fence.wide 2 Tryz.prog 92 #[.pointer (some ⟨w.heap.size, 0, none⟩)] encStr (fun ss => ss.Perm (strKeys D0)) (Maps.size D0) (w.alloc (.cells #[.map (some b)] 34)) :=
    AnyZ.keys_gives (ρ := keysRen) { keysLays with } Fence.wide _ trivial rfl (by omega) w.heap.size b nn D0 _ (by simp) (by simp) (by
      obtain ⟨es, clock, hb, Ft, hs, hD⟩ := hown
      exact ⟨es, clock, (Below.heap_alloc _ _ b hbl).trans hb, Ft, hs, hD⟩)
  exact AnyZ.sorted_in sortedLays Fence.wide 5 trivial trivial trivial trivial rfl (by omega) (sortsIn _) (enters_of Tryz.func91 (by kernel_rfl) rfl) 92 #[.pointer (some ⟨w.heap.size, 0, none⟩)] trivial (enters_of Tryz.func92 (by kernel_rfl) rfl) _ _ hmax hbytes _ hseq
set_option maxHeartbeats 1000000 in
theorem sortedKeysNil (w : World) :
    CallsIn Fence.wide 5 Tryz.prog 88 #[.func (.func 92) #[] #[.pointer (some ⟨w.heap.size, 0, none⟩)]] (w.alloc (.cells #[.map none] 34)) fun e w' => ∃ (v : Value) (ss : List (List UInt8)), e = .returned v ∧ ss = [] ∧
      w'.ownsRow (w.alloc (.cells #[.map none] 34)).heap.size 9 1 v ss.length ((ss.mergeSort (fun x y => decide (x ≤ y))).map encStr) ∧ (v = .slice none 0 0 ↔ ss = []) ∧ Below (w.alloc (.cells #[.map none] 34)).heap.size (w.alloc (.cells #[.map none] 34)) w' := by
  have hseq : SeqGives Fence.wide 2 Tryz.prog 92 #[.pointer (some ⟨w.heap.size, 0, none⟩)] encStr (fun ss : List (List UInt8) => ss = []) 0 (w.alloc (.cells #[.map none] 34)) :=
    AnyZ.keys_gives_nil (ρ := keysRen) { keysLays with } Fence.wide _ trivial rfl w.heap.size _ (by simp) (by simp)
  exact AnyZ.sorted_in sortedLays Fence.wide 5 trivial trivial trivial trivial rfl (by omega) (sortsIn _) (enters_of Tryz.func91 (by kernel_rfl) rfl) 92 #[.pointer (some ⟨w.heap.size, 0, none⟩)] trivial (enters_of Tryz.func92 (by kernel_rfl) rfl) _ 0 (Nat.zero_le _) (by omega) _ hseq
end Go.Proofs.YtafeddiijemnbaaGreatDoor
