/-
  What the specification's Check of the pools answers. Conditions: the pool reads as data.
-/
import Derived.Test.YtmcocepjdhpecabGreatDoorIdB
namespace Go.Proofs.YtmcocepjdhpecabGreatDoor.S2
open Go.RowKit

def prevI (X : List Int) (k : Nat) : Int := if k = 0 then 0 else X.getD (k - 1) 0
theorem prevI_zero (X : List Int) : prevI X 0 = 0 := rfl
theorem prevI_succ {X : List Int} {k : Nat} {x : Int} (hx : X[k]? = some x) : prevI X (k + 1) = x := by
  unfold prevI
  rw [if_neg (by omega), Nat.add_sub_cancel, List.getD_eq_getElem?_getD, hx]
  rfl
theorem upI_cons (a x : Int) (xs : List Int) : upI a (x :: xs) = (decide (a < x) && decide (x ≤ 65535) && upI x xs) := rfl

end Go.Proofs.YtmcocepjdhpecabGreatDoor.S2
