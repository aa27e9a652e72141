/-
What is asked of the sizes of a packet that came in. No function is walked here.
-/
import Derived.Test.YtdkegoaflabjoaaGreatDoorChkR
import Derived.Test.YtdkegoaflabjoaaGreatDoorCheckP
namespace Go.Proofs.YtdkegoaflabjoaaGreatDoor
open Go.RowKit
/-- the sizes of a packet's lists, and of the texts in them -/
structure SzTx (p : Pkt) : Prop where
 sz : PSz p
 tx : PTx p
def BigZ (p : Pkt) : Prop := SzTx p ∧ p.client.size ≤ 9223372036854775807 ∧ p.user.size ≤ 9223372036854775807 ∧ MTx p.msg ∧ MTx p.wmsg
end Go.Proofs.YtdkegoaflabjoaaGreatDoor
