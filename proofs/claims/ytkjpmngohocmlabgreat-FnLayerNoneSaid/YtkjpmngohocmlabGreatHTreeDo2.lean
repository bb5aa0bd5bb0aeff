/-
  The walk of the model's TreeDo.
-/
import Derived.Test.YtkjpmngohocmlabGreatHTreeDo
namespace Go.Proofs.YtkjpmngohocmlabGreat
open Go.RowKit Go.Lib

end Go.Proofs.YtkjpmngohocmlabGreat
