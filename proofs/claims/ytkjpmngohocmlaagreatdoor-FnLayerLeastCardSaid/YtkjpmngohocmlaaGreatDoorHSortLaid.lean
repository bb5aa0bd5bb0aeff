/-
  What slices.SortFunc over entries answers: the library's own contract, laid at this program.
-/
import Derived.Shelf.SlLaysF0
import Derived.KernelRfl
import Derived.Test.YtkjpmngohocmlaaGreatDoorProg
namespace Go.Proofs.YtkjpmngohocmlaaGreatDoor
open Go.Shelf

/-- Where the contract's functions and types lie in this program. -/
def sfRen : Ren where
  f := fun n => if n = 6 then 35 else if n = 15 then 85 else if n = 14 then 84 else if n = 28 then 129 else if n = 29 then 130 else if n = 20 then 121 else if n = 21 then 122 else if n = 22 then 123 else if n = 23 then 124 else if n = 24 then 125 else if n = 25 then 126 else if n = 26 then 127 else if n = 27 then 128 else if n = 46 then 147 else if n = 47 then 148 else if n = 48 then 149 else if n = 49 then 150 else if n = 50 then 151 else if n = 57 then 167 else n
  t := fun n => if n = 22 then 24 else if n = 24 then 32 else if n = 25 then 77 else if n = 3 then 3 else if n = 39 then 133 else if n = 0 then 0 else if n = 53 then 174 else if n = 55 then 176 else if n = 4 then 4 else if n = 46 then 167 else if n = 45 then 166 else if n = 50 then 171 else if n = 5 then 5 else if n = 9 then 9 else if n = 66 then 187 else if n = 70 then 191 else if n = 76 then 202 else if n = 77 then 203 else n
  g := fun n => n

set_option maxRecDepth 100000 in
theorem sfLays : SlLaysF0.n6 Tryz.prog sfRen where
  mixed := by kernel_rfl
  f6 := ⟨Tryz.f35.name, by kernel_rfl, by kernel_rfl⟩
  f14 := ⟨Tryz.f84.name, by kernel_rfl, by kernel_rfl⟩
  f15 := by kernel_rfl
  f20 := ⟨Tryz.f121.name, by kernel_rfl, by kernel_rfl⟩
  f21 := ⟨Tryz.f122.name, by kernel_rfl, by kernel_rfl⟩
  f22 := ⟨Tryz.f123.name, by kernel_rfl, by kernel_rfl⟩
  f23 := ⟨Tryz.f124.name, by kernel_rfl, by kernel_rfl⟩
  f24 := ⟨Tryz.f125.name, by kernel_rfl, by kernel_rfl⟩
  f25 := ⟨Tryz.f126.name, by kernel_rfl, by kernel_rfl⟩
  f26 := ⟨Tryz.f127.name, by kernel_rfl, by kernel_rfl⟩
  f27 := ⟨Tryz.f128.name, by kernel_rfl, by kernel_rfl⟩
  f28 := by kernel_rfl
  f29 := by kernel_rfl
  f46 := ⟨Tryz.f147.name, by kernel_rfl, by kernel_rfl⟩
  f47 := by kernel_rfl
  f48 := by kernel_rfl
  f49 := ⟨Tryz.f150.name, by kernel_rfl, by kernel_rfl⟩
  f50 := ⟨Tryz.f151.name, by kernel_rfl, by kernel_rfl⟩
  f57 := ⟨Tryz.f167.name, by kernel_rfl, by kernel_rfl⟩
  t0 := by kernel_rfl
  a0 := fun _ => by kernel_rfl
  z0 := fun _ => by kernel_rfl
  v0 := fun _ => by kernel_rfl
  t3 := by kernel_rfl
  a3 := fun _ => by kernel_rfl
  z3 := fun _ => by kernel_rfl
  v3 := fun _ => by kernel_rfl
  t4 := by kernel_rfl
  a4 := fun _ => by kernel_rfl
  z4 := fun _ => by kernel_rfl
  v4 := fun _ => by kernel_rfl
  t5 := by kernel_rfl
  a5 := fun _ => by kernel_rfl
  z5 := fun _ => by kernel_rfl
  v5 := fun _ => by kernel_rfl
  t9 := by kernel_rfl
  a9 := fun _ => by kernel_rfl
  z9 := fun _ => by kernel_rfl
  v9 := fun _ => by kernel_rfl
  t22 := by kernel_rfl
  a22 := fun _ => by kernel_rfl
  z22 := fun _ => by kernel_rfl
  v22 := fun _ => by kernel_rfl
  t25 := by kernel_rfl
  a25 := fun _ => by kernel_rfl
  z25 := fun _ => by kernel_rfl
  v25 := fun _ => by kernel_rfl
  t39 := by kernel_rfl
  a39 := fun _ => by kernel_rfl
  z39 := fun _ => by kernel_rfl
  v39 := fun _ => by kernel_rfl
  t45 := by kernel_rfl
  a45 := fun _ => by kernel_rfl
  z45 := fun _ => by kernel_rfl
  v45 := fun _ => by kernel_rfl
  t46 := by kernel_rfl
  a46 := fun _ => by kernel_rfl
  z46 := fun _ => by kernel_rfl
  v46 := fun _ => by kernel_rfl
  t50 := by kernel_rfl
  a50 := fun _ => by kernel_rfl
  z50 := fun _ => by kernel_rfl
  v50 := fun _ => by kernel_rfl
  t53 := by kernel_rfl
  a53 := fun _ => by kernel_rfl
  z53 := fun _ => by kernel_rfl
  v53 := fun _ => by kernel_rfl
  t55 := by kernel_rfl
  a55 := fun _ => by kernel_rfl
  z55 := fun _ => by kernel_rfl
  v55 := fun _ => by kernel_rfl
  t66 := by kernel_rfl
  a66 := fun _ => by kernel_rfl
  z66 := fun _ => by kernel_rfl
  v66 := fun _ => by kernel_rfl
  t70 := by kernel_rfl
  a70 := fun _ => by kernel_rfl
  z70 := fun _ => by kernel_rfl
  v70 := fun _ => by kernel_rfl
  t76 := by kernel_rfl
  a76 := fun _ => by kernel_rfl
  z76 := fun _ => by kernel_rfl
  v76 := fun _ => by kernel_rfl
  t77 := by kernel_rfl
  a77 := fun _ => by kernel_rfl
  z77 := fun _ => by kernel_rfl
  v77 := fun _ => by kernel_rfl

theorem sfIs : sfRen.f 6 = 35 := rfl
theorem sfEnt : sfRen.t 24 = 32 := rfl
end Go.Proofs.YtkjpmngohocmlaaGreatDoor
