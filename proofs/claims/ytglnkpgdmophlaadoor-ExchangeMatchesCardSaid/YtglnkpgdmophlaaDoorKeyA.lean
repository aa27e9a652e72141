/-
  What the specification's Key, Props, Get and SameProps answer, and few of brokerlaw05. Conditions: the lists read as data; lengths fit an int.
-/
import Derived.Test.YtglnkpgdmophlaaDoorMsg
import Derived.Deep.RegionHeld3
namespace Go.Proofs.YtglnkpgdmophlaaDoor
open Go.RowKit

theorem ret_i2 {k : IntKind} {a b : Int} (h : a = b) : Ending.returned (.int k a) = .returned (.int k b) := by rw [h]

end Go.Proofs.YtglnkpgdmophlaaDoor
