/-
  The table of marks, as the readers and the writers know it.
-/
import Derived.Test.YtgkfhcpegdlejaaDoorHPk04
import Derived.Test.YtgkfhcpegdlejaaDoorHPk14
namespace Go.Proofs.YtgkfhcpegdlejaaDoor
open Go.RowKit Go.Lib

theorem MarkTab.words {w : World} (h : MarkTab w) : Words w := ⟨h.c1, h.c2, h.c3, h.c4⟩
end Go.Proofs.YtgkfhcpegdlejaaDoor
