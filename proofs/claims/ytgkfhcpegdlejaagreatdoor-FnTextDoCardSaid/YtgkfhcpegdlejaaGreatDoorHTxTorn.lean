/-
  The walk of the model's torn texts.
-/
import Derived.Test.YtgkfhcpegdlejaaGreatDoorHPk28
import Derived.Deep.RegionHeld3
namespace Go.Proofs.YtgkfhcpegdlejaaGreatDoor
open Go.RowKit Go.Lib

end Go.Proofs.YtgkfhcpegdlejaaGreatDoor
