/-
  What Next of the specification of frame answers. Conditions: the position fits an int; so many bytes fit a slice.
-/
import Derived.Test.YtijdfadmmloclabNext
namespace Go.Proofs.Ytijdfadmmloclab
open Go.RowKit

theorem frame_split {l : List UInt8} {k j m : Nat} {E : List UInt8} (hE : E = (l.drop k).take j) : (l.drop k).take (j + 4 + m) = E ++ (l.drop (k + j)).take 4 ++ bodyR l (k + j) m := by
  unfold bodyR
  rw [hE, List.take_add, List.take_add, List.drop_drop, List.drop_drop, Nat.add_assoc k j 4]
theorem wrap_same {l : List UInt8} {k j m : Nat} {E : List UInt8} (hE : E = (l.drop k).take j) (h65 : m ≤ 65536) (hl : k + j + 4 + m ≤ l.length) (he : enc m = E) :
    wrapR (bodyR l (k + j) m) = (l.drop k).take (j + 4 + m) ↔ sum4 (sumR (bodyR l (k + j) m)) = (l.drop (k + j)).take 4 := by
  have hbl : (bodyR l (k + j) m).length = m := by unfold bodyR; rw [List.length_take, List.length_drop]; omega
  rw [frame_split hE]
  unfold wrapR
  rw [if_neg (by omega), hbl, he]
  constructor
  · intro h
    have h2 := List.append_cancel_right h
    exact List.append_cancel_left h2
  · intro h
    rw [h]

end Go.Proofs.Ytijdfadmmloclab
