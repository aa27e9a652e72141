/-
  What validKey, checkProp, Props and Get of message answer. Conditions: the lists read as data; lengths fit an int.
-/
import Derived.Test.YtgnbiicfabldbabPropA
import Derived.Test.YtgnbiicfabldbabNames
import Derived.Laws.RangeAny
import Derived.Laws.RangeString
namespace Go.Proofs.Ytgnbiicfabldbab
open Go.RowKit

/-- the error of a property for itself -/
def chkP (k v : ByteArray) : Nat := if keyR k = false then 16 else if 160 < v.size then 5 else 0
/-! ### Get -/
theorem getR_nil (key : ByteArray) : getR [] key = (⟨#[]⟩, false) := rfl
theorem getR_cons (x : PR) (r : List PR) (key : ByteArray) : getR (x :: r) key = if x.1 = key then (x.2, true) else getR r key := rfl
def GetRel (l : List PR) (key : ByteArray) (k : Nat) : Prop := getR l key = getR (l.drop k) key
def retG (r : ByteArray × Bool) : Ending := .returned (.tuple #[.string r.1, .bool r.2])
theorem retG_eq {a a' : ByteArray} {b b' : Bool} (h1 : a = a') (h2 : b = b') : Ending.returned (.tuple #[.string a, .bool b]) = retG (a', b') := by subst h1; subst h2; rfl
theorem GetRel.start (l : List PR) (key : ByteArray) : GetRel l key 0 := rfl
theorem GetRel.yes {l : List PR} {key : ByteArray} {k : Nat} {x : PR} (h : GetRel l key k) (hx : l[k]? = some x) (he : x.1 = key) : getR l key = (x.2, true) := by
  unfold GetRel at h
  rw [h, drop_at2 hx, getR_cons, if_pos he]
theorem GetRel.next {l : List PR} {key : ByteArray} {k : Nat} {x : PR} (h : GetRel l key k) (hx : l[k]? = some x) (he : x.1 ≠ key) : GetRel l key (k + 1) := by
  unfold GetRel at h ⊢
  rw [h, drop_at2 hx, getR_cons, if_neg he]
theorem GetRel.done {l : List PR} {key : ByteArray} (h : GetRel l key l.length) : getR l key = (⟨#[]⟩, false) := by
  unfold GetRel at h
  rw [h, List.drop_length, getR_nil]
theorem streq_yes {x y : ByteArray} (h : x = y) : (x.toList == y.toList) = true := str_eq.2 h
theorem streq_no {x y : ByteArray} (h : x ≠ y) : (x.toList == y.toList) = false := by
  cases h' : (x.toList == y.toList)
  · rfl
  · exact absurd (str_eq.1 h') h

end Go.Proofs.Ytgnbiicfabldbab
