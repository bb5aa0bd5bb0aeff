import Derived.Shelf.SlLaysF0
import Derived.KernelRfl
import Derived.Test.YteppodogghjfhaaGreatDoorProg
namespace Go.Proofs.YteppodogghjfhaaGreatDoor
open Go.Shelf
def sfRen : Ren where
 f := fun n => if n = 6 then 104 else if n = 15 then 151 else if n = 14 then 150 else if n = 28 then 193 else if n = 29 then 194 else if n = 20 then 185 else if n = 21 then 186 else if n = 22 then 187 else if n = 23 then 188 else if n = 24 then 189 else if n = 25 then 190 else if n = 26 then 191 else if n = 27 then 192 else if n = 46 then 203 else if n = 47 then 204 else if n = 48 then 205 else if n = 49 then 206 else if n = 50 then 207 else if n = 57 then 221 else n
 t := fun n => if n = 22 then 29 else if n = 24 then 43 else if n = 25 then 154 else if n = 3 then 3 else if n = 39 then 205 else if n = 0 then 0 else if n = 53 then 261 else if n = 55 then 263 else if n = 4 then 4 else if n = 46 then 254 else if n = 45 then 253 else if n = 50 then 258 else if n = 5 then 5 else if n = 9 then 9 else if n = 66 then 279 else if n = 70 then 283 else if n = 76 then 294 else if n = 77 then 295 else n
 g := fun n => n
set_option maxRecDepth 100000 in
theorem sfLays : SlLaysF0.n6 Tryz.prog sfRen where
 mixed := by kernel_rfl
 f6 := ⟨Tryz.f104.name, by kernel_rfl, by kernel_rfl⟩
 f14 := ⟨Tryz.f150.name, by kernel_rfl, by kernel_rfl⟩
 f15 := by kernel_rfl
 f20 := ⟨Tryz.f185.name, by kernel_rfl, by kernel_rfl⟩
 f21 := ⟨Tryz.f186.name, by kernel_rfl, by kernel_rfl⟩
 f22 := ⟨Tryz.f187.name, by kernel_rfl, by kernel_rfl⟩
 f23 := ⟨Tryz.f188.name, by kernel_rfl, by kernel_rfl⟩
 f24 := ⟨Tryz.f189.name, by kernel_rfl, by kernel_rfl⟩
 f25 := ⟨Tryz.f190.name, by kernel_rfl, by kernel_rfl⟩
 f26 := ⟨Tryz.f191.name, by kernel_rfl, by kernel_rfl⟩
 f27 := ⟨Tryz.f192.name, by kernel_rfl, by kernel_rfl⟩
 f28 := by kernel_rfl
 f29 := by kernel_rfl
 f46 := ⟨Tryz.f203.name, by kernel_rfl, by kernel_rfl⟩
 f47 := by kernel_rfl
 f48 := by kernel_rfl
 f49 := ⟨Tryz.f206.name, by kernel_rfl, by kernel_rfl⟩
 f50 := ⟨Tryz.f207.name, by kernel_rfl, by kernel_rfl⟩
 f57 := ⟨Tryz.f221.name, by kernel_rfl, by kernel_rfl⟩
 t0 := by kernel_rfl
 a0 := fun _ => by kernel_rfl
 z0 := fun _ => by kernel_rfl
 v0 := fun _ => by kernel_rfl
 t3 := by kernel_rfl
 a3 := fun _ => by kernel_rfl
 z3 := fun _ => by kernel_rfl
 v3 := fun _ => by kernel_rfl
 t4 := by kernel_rfl
 a4 := fun _ => by kernel_rfl
 z4 := fun _ => by kernel_rfl
 v4 := fun _ => by kernel_rfl
 t5 := by kernel_rfl
 a5 := fun _ => by kernel_rfl
 z5 := fun _ => by kernel_rfl
 v5 := fun _ => by kernel_rfl
 t9 := by kernel_rfl
 a9 := fun _ => by kernel_rfl
 z9 := fun _ => by kernel_rfl
 v9 := fun _ => by kernel_rfl
 t22 := by kernel_rfl
 a22 := fun _ => by kernel_rfl
 z22 := fun _ => by kernel_rfl
 v22 := fun _ => by kernel_rfl
 t25 := by kernel_rfl
 a25 := fun _ => by kernel_rfl
 z25 := fun _ => by kernel_rfl
 v25 := fun _ => by kernel_rfl
 t39 := by kernel_rfl
 a39 := fun _ => by kernel_rfl
 z39 := fun _ => by kernel_rfl
 v39 := fun _ => by kernel_rfl
 t45 := by kernel_rfl
 a45 := fun _ => by kernel_rfl
 z45 := fun _ => by kernel_rfl
 v45 := fun _ => by kernel_rfl
 t46 := by kernel_rfl
 a46 := fun _ => by kernel_rfl
 z46 := fun _ => by kernel_rfl
 v46 := fun _ => by kernel_rfl
 t50 := by kernel_rfl
 a50 := fun _ => by kernel_rfl
 z50 := fun _ => by kernel_rfl
 v50 := fun _ => by kernel_rfl
 t53 := by kernel_rfl
 a53 := fun _ => by kernel_rfl
 z53 := fun _ => by kernel_rfl
 v53 := fun _ => by kernel_rfl
 t55 := by kernel_rfl
 a55 := fun _ => by kernel_rfl
 z55 := fun _ => by kernel_rfl
 v55 := fun _ => by kernel_rfl
 t66 := by kernel_rfl
 a66 := fun _ => by kernel_rfl
 z66 := fun _ => by kernel_rfl
 v66 := fun _ => by kernel_rfl
 t70 := by kernel_rfl
 a70 := fun _ => by kernel_rfl
 z70 := fun _ => by kernel_rfl
 v70 := fun _ => by kernel_rfl
 t76 := by kernel_rfl
 a76 := fun _ => by kernel_rfl
 z76 := fun _ => by kernel_rfl
 v76 := fun _ => by kernel_rfl
 t77 := by kernel_rfl
 a77 := fun _ => by kernel_rfl
 z77 := fun _ => by kernel_rfl
 v77 := fun _ => by kernel_rfl
end Go.Proofs.YteppodogghjfhaaGreatDoor
