/-
  The walk of the model's TreeDo.
-/
import Derived.Test.YtanldphkkoglkaaGreatDoorHTreeDo
namespace Go.Proofs.YtanldphkkoglkaaGreatDoor
open Go.RowKit Go.Lib

end Go.Proofs.YtanldphkkoglkaaGreatDoor
