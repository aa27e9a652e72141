/-
  The library's IndexRune at the two wildcards and a rune of three or four bytes: not found. Conditions: as in the theorem.
-/
import Derived.Test.YthpplhhlhheopabDoorRunes
namespace Go.Proofs.YthpplhhlhheopabDoor.S1
open Go.RowKit

end Go.Proofs.YthpplhhlhheopabDoor.S1
