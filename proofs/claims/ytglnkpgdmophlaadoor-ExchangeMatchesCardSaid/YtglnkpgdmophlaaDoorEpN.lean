/-
  What Bind of brokerref24 answers: the routes with a binding more, or the error. Conditions: the lists read as data, the names ascend; few elements; lengths fit an int.
-/
import Derived.Test.YtglnkpgdmophlaaDoorEpL
namespace Go.Proofs.YtglnkpgdmophlaaDoor
open Go.RowKit
open S2 (BK Put get_ops)

end Go.Proofs.YtglnkpgdmophlaaDoor
