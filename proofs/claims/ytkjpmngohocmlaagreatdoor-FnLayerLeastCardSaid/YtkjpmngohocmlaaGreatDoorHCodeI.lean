/-
  The walk of the program's own: the code of each of the eight errors.
-/
import Derived.Test.YtkjpmngohocmlaaGreatDoorHPk07
import Derived.Test.YtkjpmngohocmlaaGreatDoorHErrIs
namespace Go.Proofs.YtkjpmngohocmlaaGreatDoor
open Go.RowKit Go.Shelf Go.Lib

attribute [local go_sem] Oper.semAt_some

theorem hidC {p : Prop} (h : p) : Hid p := h
end Go.Proofs.YtkjpmngohocmlaaGreatDoor
