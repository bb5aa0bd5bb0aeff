/-
  The walk of the program's own: the code of each of the eight errors.
-/
import Derived.Test.YtanldphkkoglkaaGreatDoorHPk07
import Derived.Test.YtanldphkkoglkaaGreatDoorHErrIs
namespace Go.Proofs.YtanldphkkoglkaaGreatDoor
open Go.RowKit Go.Shelf Go.Lib

attribute [local go_sem] Oper.semAt_some

theorem hidC {p : Prop} (h : p) : Hid p := h
end Go.Proofs.YtanldphkkoglkaaGreatDoor
