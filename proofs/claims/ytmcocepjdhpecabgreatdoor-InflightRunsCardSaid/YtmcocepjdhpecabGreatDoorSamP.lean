/-
  What Same of packet and of the specification answer: whether two packets are one. Conditions: the packets read as data; lengths fit an int.
-/
import Derived.Test.YtmcocepjdhpecabGreatDoorPlainP
import Derived.Test.YtmcocepjdhpecabGreatDoorEqN
import Derived.Test.YtmcocepjdhpecabGreatDoorSame
import Derived.Deep.RegionHeld3
namespace Go.Proofs.YtmcocepjdhpecabGreatDoor
open Go.RowKit

end Go.Proofs.YtmcocepjdhpecabGreatDoor
