/-
  The walks of the model's Code, Do and TreeDo.
-/
import Derived.Test.YtkjpmngohocmlabGreatHMoveCode
import Derived.Test.YtkjpmngohocmlabGreatHMoveE
import Derived.Test.YtkjpmngohocmlabGreatHOff
namespace Go.Proofs.YtkjpmngohocmlabGreat
open Go.RowKit Go.Lib

end Go.Proofs.YtkjpmngohocmlabGreat
