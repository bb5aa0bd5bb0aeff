/-
  The walk of the model's draw of what is done, whatever the code.
-/
import Derived.Test.YtanldphkkoglkaaGreatDoorHDrawT
namespace Go.Proofs.YtanldphkkoglkaaGreatDoor
open Go.RowKit Go.Lib

end Go.Proofs.YtanldphkkoglkaaGreatDoor
