import Derived.Deep.RegionHeld3
import Derived.Test.YteppodogghjfhaaGreatDoorHPk10
import Derived.Test.YteppodogghjfhaaGreatDoorHPk20
import Derived.Test.YteppodogghjfhaaGreatDoorHPk07
import Derived.Test.YteppodogghjfhaaGreatDoorHPk22
namespace Go.Proofs.YteppodogghjfhaaGreatDoor.Mk
open Go.RowKit Go.Lib Go.Sort
end Go.Proofs.YteppodogghjfhaaGreatDoor.Mk
