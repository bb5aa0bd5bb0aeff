/-
  The walk of the model's draw of what is done, whatever the code.
-/
import Derived.Test.YtkjpmngohocmlabGreatHDrawT
namespace Go.Proofs.YtkjpmngohocmlabGreat
open Go.RowKit Go.Lib

end Go.Proofs.YtkjpmngohocmlabGreat
