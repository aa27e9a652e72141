/-
  What Same of packet and of the specification answer: whether two packets are one. Conditions: the packets read as data; lengths fit an int.
-/
import Derived.Test.YtjpikgphfhjilaaGreatDoorPlainP
import Derived.Test.YtjpikgphfhjilaaGreatDoorEqN
import Derived.Test.YtjpikgphfhjilaaGreatDoorSame
import Derived.Deep.RegionHeld3
namespace Go.Proofs.YtjpikgphfhjilaaGreatDoor
open Go.RowKit

end Go.Proofs.YtjpikgphfhjilaaGreatDoor
