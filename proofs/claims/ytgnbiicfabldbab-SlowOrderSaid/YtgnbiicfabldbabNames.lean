/-
  What the two name functions answer: true exactly for the names, whatever the text.
-/
import Derived.Test.YtgnbiicfabldbabPure
import Derived.Test.YtgnbiicfabldbabProg
import Derived.WalkKit
import Derived.WalkSpells
import Derived.WalkLawsBesides
import Derived.Laws.RangeAny
import Derived.Laws.RangeString
import Derived.Deep.LoopGhost
import Derived.Lib.Hide
import Derived.Lib.IndexBytes
namespace Go.Proofs.Ytgnbiicfabldbab.S1
open Go.RowKit

theorem empty_of (s : ByteArray) (h : s.size = 0) : s.toList.isEmpty = true := by
  rw [Lib.toList_data]
  have : s.data.toList = [] := List.length_eq_zero_iff.1 (by rw [← Lib.size_eq]; exact h)
  rw [this]; rfl
theorem nonempty_of (s : ByteArray) (h : 0 < s.size) : s.toList.isEmpty = false := by
  rw [Lib.toList_data]
  cases h' : s.data.toList with
  | nil => have := Lib.size_eq s; rw [h', List.length_nil] at this; omega
  | cons _ _ => rfl
theorem getD_of (s : ByteArray) (i : Nat) (h : i < s.size) : s.data.toList.getD i 0 = s[i]'h := by
  rw [List.getD_eq_getElem?_getD, Lib.data_getElem? s i h]; rfl

theorem ret_b {a b : Bool} (h : a = b) : Ending.returned (.bool a) = .returned (.bool b) := by rw [h]

def NameUpto (l : List UInt8) (i : Nat) : Prop := ∀ j, j < i → T.nokAt j (l.getD j 0) = true
theorem NameUpto.zero (l : List UInt8) : NameUpto l 0 := fun _ h => absurd h (Nat.not_lt_zero _)
theorem NameUpto.succ {l : List UInt8} {i : Nat} (h : NameUpto l i) (hi : T.nokAt i (l.getD i 0) = true) : NameUpto l (i + 1) := fun j hj => by
  rcases Nat.lt_succ_iff_lt_or_eq.1 hj with h' | h'
  · exact h j h'
  · subst h'; exact hi

theorem nup_succ {l : List UInt8} {i : Nat} {x : UInt8} (h0 : T.nokAt 0 (l.getD 0 0) = true) (hx : l.getD i 0 = x) (h : NameUpto l i) (hk : T.nok x = true) : NameUpto l (i + 1) := by
  refine h.succ ?_
  by_cases hi : i = 0
  · subst hi; exact h0
  · rw [hx]
    unfold T.nokAt
    rw [if_neg hi]
    exact hk
theorem name_bad {l : List UInt8} {i : Nat} {x : UInt8} (hi : i < l.length) (hx : l.getD i 0 = x) (hk : T.nok x = false) : T.nameL l = false := by
  refine T.nameL_false_at hi ?_
  rw [hx]
  cases h : T.nokAt i x with
  | false => rfl
  | true => rw [T.nokAt_nok h] at hk; cases hk

end Go.Proofs.Ytgnbiicfabldbab.S1
