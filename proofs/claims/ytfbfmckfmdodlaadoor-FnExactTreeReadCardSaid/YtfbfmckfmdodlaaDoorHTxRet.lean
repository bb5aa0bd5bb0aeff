/-
  Two endings with the same text.
-/
import Derived.Test.YtfbfmckfmdodlaaDoorHPk04
namespace Go.Proofs.YtfbfmckfmdodlaaDoor
open Go.RowKit Go.Lib

theorem retS {a b : ByteArray} (h : a = b) : Ending.returned (.string a) = .returned (.string b) := by rw [h]
end Go.Proofs.YtfbfmckfmdodlaaDoor
