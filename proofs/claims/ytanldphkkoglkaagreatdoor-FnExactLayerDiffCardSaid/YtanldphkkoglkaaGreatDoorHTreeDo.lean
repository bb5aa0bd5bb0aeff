/-
  The walks of the model's Code, Do and TreeDo.
-/
import Derived.Test.YtanldphkkoglkaaGreatDoorHPk15
import Derived.Test.YtanldphkkoglkaaGreatDoorHOff
namespace Go.Proofs.YtanldphkkoglkaaGreatDoor
open Go.RowKit Go.Lib

end Go.Proofs.YtanldphkkoglkaaGreatDoor
