/-
  What the functions on levels answer: Has, Levels and Join of the specification, Levels of the program, Same. Conditions: the texts are short enough to be split (below 4294967281 bytes), MaxLen holds a number.
-/
import Derived.Test.YtjkhfifnfgchgabGreatDoorMem
import Derived.Test.YtjkhfifnfgchgabGreatDoorShelf
import Derived.Deep.QuietTactic
import Derived.BigQuiet
import Derived.Deep.LoopGhost
namespace Go.Proofs.YtjkhfifnfgchgabGreatDoor.S1
open Go.RowKit

theorem getD_dl (s : ByteArray) (i : Nat) (h : i < s.size) : (dl s).getD i 0 = s[i]'h := by
  unfold dl
  rw [List.getD_eq_getElem?_getD, Lib.data_getElem? s i h]; rfl
theorem retb {a b : Bool} (h : a = b) : Ending.returned (.bool a) = .returned (.bool b) := by rw [h]

/-! ### Has -/
def hasB (l : List UInt8) (c : UInt8) : Bool := l.contains c
def NoUpto (l : List UInt8) (c : UInt8) (i : Nat) : Prop := ∀ j, j < i → l.getD j 0 ≠ c
theorem NoUpto.succ {l : List UInt8} {c : UInt8} {i : Nat} (h : NoUpto l c i) (hi : l.getD i 0 ≠ c) : NoUpto l c (i + 1) := fun j hj => by
  rcases Nat.lt_succ_iff_lt_or_eq.1 hj with h' | h'
  · exact h j h'
  · subst h'; exact hi
theorem noUpto_all {l : List UInt8} {c : UInt8} (h : NoUpto l c l.length) : hasB l c = false := by
  rw [hasB, List.contains_eq_mem, decide_eq_false_iff_not]
  intro hm
  obtain ⟨i, hi, e⟩ := T.mem_getD 0 hm
  exact h i hi e
theorem contains_at {l : List UInt8} {c : UInt8} {i : Nat} (hi : i < l.length) (h : l.getD i 0 = c) : hasB l c = true := by
  rw [hasB, List.contains_eq_mem, decide_eq_true_eq, ← h]
  exact T.getD_mem _ _ _ hi

/-! ### Levels of the program -/
/-! ### Levels of the specification -/
theorem getD_piece (s : ByteArray) (f i : Nat) (hf : f ≤ i) (hi : i < s.size) : dl (s.extract f (i + 1)) = dl (s.extract f i) ++ [s[i]'hi] := by
  unfold dl
  rw [Lib.extract_data, Lib.extract_data]
  have hl := Lib.size_eq s
  rw [show i + 1 - f = (i - f) + 1 by omega, List.take_add_one, List.getElem?_drop, show f + (i - f) = i by omega, Lib.data_getElem? s i hi]
  rfl
theorem dl_take (s : ByteArray) (i : Nat) (hi : i < s.size) : (dl s).take (i + 1) = (dl s).take i ++ [s[i]'hi] := by
  unfold dl
  rw [List.take_add_one, Lib.data_getElem? s i hi]; rfl

/-- what the loop holds after i bytes: the levels so far are these, and the last one begins at f -/
def LvRel (s : ByteArray) (i f : Nat) (xs : List ByteArray) : Prop := f ≤ i ∧ T.lv ((dl s).take i) = xs.map dl ++ [dl (s.extract f i)] ∧ xs.length ≤ i
theorem LvRel.start (s : ByteArray) : LvRel s 0 0 [] := ⟨Nat.le_refl _, by simp [T.lv, dl], Nat.le_refl _⟩
theorem LvRel.slash {s : ByteArray} {i f : Nat} {xs : List ByteArray} (h : LvRel s i f xs) (hi : i < s.size) (hx : s[i]'hi = 47) : LvRel s (i + 1) (i + 1) (xs ++ [s.extract f i]) := by
  refine ⟨Nat.le_refl _, ?_, by simp; exact h.2.2⟩
  rw [dl_take s i hi, hx, T.lv_snoc_slash, h.2.1]
  simp [dl]
theorem LvRel.other {s : ByteArray} {i f : Nat} {xs : List ByteArray} (h : LvRel s i f xs) (hi : i < s.size) (hx : s[i]'hi ≠ 47) : LvRel s (i + 1) f xs := by
  refine ⟨by have := h.1; omega, ?_, by have := h.2.2; omega⟩
  rw [dl_take s i hi, T.lv_snoc _ _ hx _ _ h.2.1, getD_piece s f i h.1 hi]
theorem LvRel.done {s : ByteArray} {f : Nat} {xs : List ByteArray} (h : LvRel s s.size f xs) : xs ++ [s.extract f s.size] = lvB s := by
  have h1 := h.2.1
  rw [size_dl s, List.take_length, ← size_dl s] at h1
  unfold lvB
  rw [h1, List.map_append, map_bs_dl]
  simp [bs_dl]

/-! ### Same -/
def sameB (xs ys : List ByteArray) : Bool := decide (xs = ys)
def SameUpto (xs ys : List ByteArray) (i : Nat) : Prop := ∀ j, j < i → xs[j]? = ys[j]?
theorem SameUpto.succ {xs ys : List ByteArray} {i : Nat} (h : SameUpto xs ys i) (hi : xs[i]? = ys[i]?) : SameUpto xs ys (i + 1) := fun j hj => by
  rcases Nat.lt_succ_iff_lt_or_eq.1 hj with h' | h'
  · exact h j h'
  · subst h'; exact hi
theorem SameUpto.all {xs ys : List ByteArray} (h : SameUpto xs ys xs.length) (hl : xs.length = ys.length) : sameB xs ys = true := by
  refine decide_eq_true (List.ext_getElem? fun j => ?_)
  by_cases hj : j < xs.length
  · exact h j hj
  · rw [List.getElem?_eq_none (by omega), List.getElem?_eq_none (by omega)]
theorem sameB_len {xs ys : List ByteArray} (h : xs.length ≠ ys.length) : sameB xs ys = false := decide_eq_false (fun e => h (by rw [e]))
theorem sameB_at {xs ys : List ByteArray} {i : Nat} (h : xs[i]? ≠ ys[i]?) : sameB xs ys = false := decide_eq_false (fun e => h (by rw [e]))

theorem str_eq {x y : ByteArray} : (x.toList == y.toList) = true ↔ x = y := by
  constructor
  · intro h
    have h' := eq_of_beq h
    rw [Lib.toList_data, Lib.toList_data] at h'
    exact dl_inj h'
  · intro h
    rw [h]
    exact beq_self_eq_true _
theorem same_hit {xs ys : List ByteArray} {i : Nat} {x y : ByteArray} (h : (!x.toList == y.toList) = true) (hx : xs[i]? = some x) (hy : ys[i]? = some y) : sameB xs ys = false := by
  refine sameB_at (i := i) ?_
  rw [hx, hy]
  intro e
  obtain rfl := Option.some.inj e
  simp at h
theorem same_miss {xs ys : List ByteArray} {i : Nat} {x y : ByteArray} (h : (!x.toList == y.toList) = false) (hx : xs[i]? = some x) (hy : ys[i]? = some y) : xs[i]? = ys[i]? := by
  have e : x = y := str_eq.1 (by simpa using h)
  rw [hx, hy, e]

end Go.Proofs.YtjkhfifnfgchgabGreatDoor.S1
