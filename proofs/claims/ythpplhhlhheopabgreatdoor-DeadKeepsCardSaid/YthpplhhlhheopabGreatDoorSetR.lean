/-
  What Set of the specification answers: the list with the value, or the error. Conditions: the list reads as data; lengths fit an int.
-/
import Derived.Test.YthpplhhlhheopabGreatDoorSet
namespace Go.Proofs.YthpplhhlhheopabGreatDoor
open Go.RowKit

theorem filt_yes {p : PR → Bool} {l : List PR} {k : Nat} {x : PR} (hx : l[k]? = some x) (hp : p x = true) : (l.take (k + 1)).filter p = (l.take k).filter p ++ [x] := by
  rw [List.take_add_one, hx, List.filter_append]
  simp [hp]
theorem filt_no {p : PR → Bool} {l : List PR} {k : Nat} {x : PR} (hx : l[k]? = some x) (hp : p x = false) : (l.take (k + 1)).filter p = (l.take k).filter p := by
  rw [List.take_add_one, hx, List.filter_append]
  simp [hp]
theorem filt_len (p : PR → Bool) (l : List PR) (k : Nat) : ((l.take k).filter p).length ≤ l.length := Nat.le_trans (List.length_filter_le _ _) (by rw [List.length_take]; omega)

section
variable {ops : Array Oper} {rest : List Oper} {o : Oper} {a : Act} {Q : Exit → Act → World → Prop}
/-- append of one property that was just laid in a block of its own -/
theorem wpList_appP1 (wr : World) (hgd : o.guard = none) (s x : Operand) (ho : o.op = .call { callee := .builtin .append, args := #[s, x], argTypes := #[22, 22] })
    (B : Nat) (v : Value) (xs : List PR) (k u : ByteArray) (hown : OwnP wr B v xs) (hs : a.eval s = v) (hx : a.eval x = .slice (some ⟨wr.heap.size, 0, none⟩) 1 1) (w0 : World) (hb : Below B w0 wr) (hB : B ≤ wr.heap.size)
    (hn : xs.length ≤ 100000) (h : ∀ v' w', OwnP w' B v' (xs ++ [(k, u)]) → Below B w0 w' → B ≤ w'.heap.size → wpList Tryz.prog ops Q rest (a.put o.dst v') w') : wpList Tryz.prog ops Q (o :: rest) a (wr.alloc (.cells #[.string k, .string u] 36)) :=
  wpList_appG (g := gP) (k := 2) (e := 36) (by decide) (wr.alloc (.cells (gP (k, u)).toArray 36)) hgd s x 22 22 ho (.agg #[.string ByteArray.empty, .string ByteArray.empty]) 32 Tryz.underlying22 infoP rfl (by decide) B v xs [(k, u)] hs (hown.alloc _) _ hx (srcG_one gP_len gP_one Tryz.underlying22 wr (k, u)) w0 (hb.alloc hB _) (by simp; omega) (by simp; omega) h
end

end Go.Proofs.YthpplhhlhheopabGreatDoor
