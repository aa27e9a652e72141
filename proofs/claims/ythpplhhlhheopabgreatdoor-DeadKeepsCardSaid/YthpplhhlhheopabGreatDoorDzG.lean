/-
  What put and Mark of dead's reference answer. Conditions: the message is valid, the queue's name a name, the reason one of the four.
-/
import Derived.Test.YthpplhhlhheopabGreatDoorDzI
import Derived.Test.YthpplhhlhheopabGreatDoorSetR
namespace Go.Proofs.YthpplhhlhheopabGreatDoor
open Go.RowKit
open S2 (BK Put)

/-- the place of a key in a list in order, reached from the front -/
theorem pos_at {l : List PR} {key : ByteArray} {i : Nat} (h : PW l) (hi : i ≤ l.length) (h1 : ∀ j x, j < i → l[j]? = some x → ltS x.1 key = true) (h2 : ∀ x, l[i]? = some x → ltS x.1 key = false) : posK l key = i :=
  BsRel.pos (l := l) ⟨Nat.le_refl _, hi, h1, fun k x hk hx => by
    rcases Nat.eq_or_lt_of_le hk with rfl | hlt
    · exact h2 x hx
    · obtain ⟨y, hy⟩ : ∃ y, l[i]? = some y := ⟨_, List.getElem?_eq_getElem (by have := (List.getElem?_eq_some_iff.1 hx).1; omega)⟩
      cases hc : ltS x.1 key with
      | false => rfl
      | true =>
        have := ltS_trans (h.asc i k y x hy hx hlt) hc
        rw [h2 y hy] at this; cases this⟩
def LtUpto (l : List PR) (key : ByteArray) (i : Nat) : Prop := ∀ j x, j < i → l[j]? = some x → ltS x.1 key = true
theorem LtUpto.succ {l : List PR} {key : ByteArray} {i : Nat} {x : PR} (h : LtUpto l key i) (hx : l[i]? = some x) (hl : ltS x.1 key = true) : LtUpto l key (i + 1) := fun j y hj hy => by
  rcases Nat.lt_succ_iff_lt_or_eq.1 hj with h' | h'
  · exact h j y h' hy
  · subst h'; rw [hx] at hy; rw [← Option.some.inj hy]; exact hl

end Go.Proofs.YthpplhhlhheopabGreatDoor
