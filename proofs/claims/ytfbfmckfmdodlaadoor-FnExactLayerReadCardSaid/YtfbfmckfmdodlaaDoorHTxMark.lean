/-
  The walks of the text of a mark: the program's own, and the model's.
-/
import Derived.Test.YtfbfmckfmdodlaaDoorHPk10
import Derived.Test.YtfbfmckfmdodlaaDoorHPk03
import Derived.Test.YtfbfmckfmdodlaaDoorHLawEntText
import Derived.BigQuiet
namespace Go.Proofs.YtfbfmckfmdodlaaDoor.Mk
open Go.RowKit Go.Lib

/-- The text of a mark. -/
def markT (e : E) : ByteArray := if e.d = 2 then lineT wD e.p [] else if e.d = 3 then lineT wX e.p [] else if e.d = 4 then lineT wB e.p [] else entT ⟨e.p, false, e.x⟩
theorem markT_le (e : E) : (markT e).size ≤ e.p.size + e.x.size + 3 := by
  unfold markT
  have h : ∀ c : UInt8, (lineT ⟨#[c]⟩ e.p []).size ≤ e.p.size + e.x.size + 3 := fun c => by
    rw [lineT_nil, ByteArray.size_append, ByteArray.size_append]; show 1 + 1 + _ ≤ _; omega
  split
  · exact h _
  · split
    · exact h _
    · split
      · exact h _
      · exact entT_le _

end Go.Proofs.YtfbfmckfmdodlaaDoor.Mk
