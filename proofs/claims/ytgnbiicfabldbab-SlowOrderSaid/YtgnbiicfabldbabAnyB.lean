/-
  The library's IndexRune at the two wildcards and a rune of three or four bytes: not found. Conditions: as in the theorem.
-/
import Derived.Test.YtgnbiicfabldbabRunes
namespace Go.Proofs.Ytgnbiicfabldbab.S1
open Go.RowKit

end Go.Proofs.Ytgnbiicfabldbab.S1
