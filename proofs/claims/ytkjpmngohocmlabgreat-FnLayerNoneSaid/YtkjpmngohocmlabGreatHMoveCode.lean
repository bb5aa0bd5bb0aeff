/-
  The walk of how the model says that moving ends.
-/
import Derived.Test.YtkjpmngohocmlabGreatHPk04
import Derived.Test.YtkjpmngohocmlabGreatHPk03
namespace Go.Proofs.YtkjpmngohocmlabGreat
open Go.RowKit Go.Lib Go.Sort

end Go.Proofs.YtkjpmngohocmlabGreat
