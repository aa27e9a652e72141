/-
  What Narrow and Select of the program answer. Conditions: MaxLen holds a number; the list reads as at most 1000000 texts.
-/
import Derived.Test.YtoakhkiiefiebaaDoorMatch
namespace Go.Proofs.YtoakhkiiefiebaaDoor.S1
open Go.RowKit

theorem Own.below {w w' : World} {B : Nat} {v : Value} {xs : List ByteArray} (h : Own w B v xs) (hb : Below w.heap.size w w') : Own w' B v xs :=
  World.ownsRow.kept (row := none) h ⟨hb.os, hb.tape, hb.output, hb.size, fun i hi _ => hb.block i hi⟩ (by cases v.ownBlock <;> simp)
theorem Qk.of {W w : World} (hw : Okw W) (hb : Below W.heap.size W w) : Qk W w := ⟨hb, hw.step hb⟩
theorem SL.at_ {W w : World} {A : Option Addr} {xs : List ByteArray} (h : SL W W.heap.size A xs) (hb : Below W.heap.size W w) : SL w w.heap.size A xs := (h.below hb).more hb.size

theorem narrow_yes {xs : List ByteArray} {k : Nat} {x : ByteArray} (hx : xs[k]? = some x) (h : keepB xs k = true) : narrowB xs (k + 1) = narrowB xs k ++ [x] := by
  unfold narrowB
  rw [List.range_succ, List.filter_append, List.map_append]
  simp [h]
  rw [← getD_at hx, List.getD_eq_getElem?_getD]
theorem narrow_no {xs : List ByteArray} {k : Nat} (h : keepB xs k = false) : narrowB xs (k + 1) = narrowB xs k := by
  unfold narrowB
  rw [List.range_succ, List.filter_append, List.map_append]
  simp [h]
theorem narrow_le (xs : List ByteArray) (k : Nat) : (narrowB xs k).length ≤ k := by
  unfold narrowB
  rw [List.length_map]
  exact Nat.le_trans (List.length_filter_le _ _) (by simp)

theorem sel_yes {f x : ByteArray} {xs : List ByteArray} {k : Nat} (hx : xs[k]? = some x) (h : matchesL f x = true) : selectB f (xs.take (k + 1)) = selectB f (xs.take k) ++ [x] := by
  unfold selectB
  rw [List.take_add_one, hx, List.filter_append]
  simp [h]
theorem sel_no {f x : ByteArray} {xs : List ByteArray} {k : Nat} (hx : xs[k]? = some x) (h : matchesL f x = false) : selectB f (xs.take (k + 1)) = selectB f (xs.take k) := by
  unfold selectB
  rw [List.take_add_one, hx, List.filter_append]
  simp [h]
theorem sel_le (f : ByteArray) (xs : List ByteArray) (k : Nat) : (selectB f (xs.take k)).length ≤ k := by
  unfold selectB
  exact Nat.le_trans (List.length_filter_le _ _) (List.length_take_le _ _)

end Go.Proofs.YtoakhkiiefiebaaDoor.S1
