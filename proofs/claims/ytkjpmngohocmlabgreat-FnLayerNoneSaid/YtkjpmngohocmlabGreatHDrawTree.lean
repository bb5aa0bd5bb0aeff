/-
  The walk of the model's draw of a tree, whatever the code.
-/
import Derived.Laws.IdiomStrings
import Derived.Test.YtkjpmngohocmlabGreatHDrawOp
import Derived.Test.YtkjpmngohocmlabGreatHPk09
namespace Go.Proofs.YtkjpmngohocmlabGreat
open Go.RowKit Go.Lib

end Go.Proofs.YtkjpmngohocmlabGreat
