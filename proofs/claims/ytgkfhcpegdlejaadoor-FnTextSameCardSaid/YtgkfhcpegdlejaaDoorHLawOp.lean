/-
  The walks of what the exact laws do with what is done: its size, a copy of the other type.
-/
import Derived.Laws.ResultCell
import Derived.Test.YtgkfhcpegdlejaaDoorHPk17
namespace Go.Proofs.YtgkfhcpegdlejaaDoor
open Go.RowKit Go.Lib Go.Sort

end Go.Proofs.YtgkfhcpegdlejaaDoor
