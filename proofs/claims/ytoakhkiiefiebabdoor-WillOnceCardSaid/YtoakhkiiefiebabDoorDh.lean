/-
  The walk of WillChecks. Conditions: the will reads as data; its texts and lists fit a machine; the library's bound on short texts holds a number.
-/
import Derived.Test.YtoakhkiiefiebabDoorDg
namespace Go.Proofs.YtoakhkiiefiebabDoor
open Go.RowKit
open S2 (BK Put)

/-- the texts of a message fit, and its list -/
def MTz (m : Msg) : Prop := m.props.length ≤ 4398046511104 ∧ (m.topic.size ≤ 9223372036854775807 ∧ m.frm.size ≤ 9223372036854775807 ∧ ∀ y ∈ m.props, y.1.size ≤ 9223372036854775807)
end Go.Proofs.YtoakhkiiefiebabDoor
