/-
  What Same of packet and of the specification answer: whether two packets are one. Conditions: the packets read as data; lengths fit an int.
-/
import Derived.Test.YtoakhkiiefiebabGreatDoorPlainP
import Derived.Test.YtoakhkiiefiebabGreatDoorEqN
import Derived.Test.YtoakhkiiefiebabGreatDoorSame
import Derived.Deep.RegionHeld3
namespace Go.Proofs.YtoakhkiiefiebabGreatDoor
open Go.RowKit

end Go.Proofs.YtoakhkiiefiebabGreatDoor
