/-
  What Texts answers, of the program and of the specification; Same of lists of texts. Conditions: position and limit fit an int; at most 2^40 bytes.
-/
import Derived.Test.YtbmeimpfehjnfaaFlags
namespace Go.Proofs.Ytbmeimpfehjnfaa
open Go.RowKit

def textsF : Nat → List UInt8 → Int → Int → List ByteArray → List ByteArray × Int × Int
  | 0, _, nx, _, acc => (acc, nx, 0)
  | n + 1, l, nx, limit, acc => if (textR l nx limit).2.2 ≠ 0 then ([], 0, (textR l nx limit).2.2) else textsF n l (textR l nx limit).2.1 limit (acc ++ [(textR l nx limit).1])
def textsR (l : List UInt8) (p limit : Int) : List ByteArray × Int × Int :=
  if (countR l p limit).2.2 ≠ 0 then ([], 0, (countR l p limit).2.2) else textsF (countR l p limit).1.toNat l (countR l p limit).2.1 limit []

theorem textR_ok {l : List UInt8} {p limit nx : Int} {s : ByteArray} (h : textR l p limit = (s, nx, 0)) : ∃ (k j : Nat), p = k ∧ nx = ((k + j : Nat) : Int) ∧ 1 ≤ j ∧ k + j ≤ l.length ∧ (s.size : Int) ≤ limit ∧ encT s = (l.drop k).take j := by
  unfold textR at h
  split at h
  · next h0 => simp only [Prod.mk.injEq] at h; omega
  · next h0 =>
    split at h
    · simp at h
    · next h1 =>
      generalize hr : countR l p limit = r at h h0 h1
      obtain ⟨n, nx', e⟩ := r
      simp only at h h0 h1
      obtain rfl : e = 0 := by omega
      obtain ⟨k, j, m, rfl, rfl, rfl, h2, h3, h4, h5, h6, h7⟩ := countR_ok hr
      simp only [Prod.mk.injEq, and_true, Int.toNat_natCast] at h
      obtain ⟨rfl, rfl⟩ := h
      have hT : ((l.drop (k + j)).take m).length = m := by rw [List.length_take, List.length_drop]; omega
      refine ⟨k, j + m, rfl, by omega, by omega, by omega, by rw [size_bs, hT]; exact h2, ?_⟩
      unfold encT
      rw [size_bs, hT, dl_bs, h7, ← List.drop_drop]
      rw [List.take_add]

def RetTs (r : List ByteArray × Int × Int) (W : World) (e : Ending) (w' : World) : Prop :=
  ∃ v, e = .returned (.tuple #[v, .int .i64 r.2.1, .int .i64 r.2.2]) ∧ Own 9 Value.string w' W.heap.size v r.1 ∧ Below W.heap.size W w'
theorem infoS : (Try.prog.info? 9).map (fun i => (i.zero, i.size, i.bytes)) = some (some (.string ByteArray.empty), 1, 16) := by kernel_rfl
/-! ### Same of lists of texts -/
def SameUpto (xs ys : List ByteArray) (i : Nat) : Prop := ∀ j, j < i → xs[j]? = ys[j]?
theorem SameUpto.succ {xs ys : List ByteArray} {i : Nat} (h : SameUpto xs ys i) (hi : xs[i]? = ys[i]?) : SameUpto xs ys (i + 1) := fun j hj => by
  rcases Nat.lt_succ_iff_lt_or_eq.1 hj with h' | h'
  · exact h j h'
  · subst h'; exact hi
theorem SameUpto.all {xs ys : List ByteArray} (h : SameUpto xs ys xs.length) (hl : xs.length = ys.length) : decide (xs = ys) = true := by
  refine decide_eq_true (List.ext_getElem? fun j => ?_)
  by_cases hj : j < xs.length
  · exact h j hj
  · rw [List.getElem?_eq_none (by omega), List.getElem?_eq_none (by omega)]
theorem sameL_len {xs ys : List ByteArray} (h : xs.length ≠ ys.length) : decide (xs = ys) = false := decide_eq_false (fun e => h (by rw [e]))
theorem sameL_at {xs ys : List ByteArray} {i : Nat} (h : xs[i]? ≠ ys[i]?) : decide (xs = ys) = false := decide_eq_false (fun e => h (by rw [e]))
theorem same_hit {xs ys : List ByteArray} {i : Nat} {x y : ByteArray} (h : (!x.toList == y.toList) = true) (hx : xs[i]? = some x) (hy : ys[i]? = some y) : decide (xs = ys) = false := by
  refine sameL_at (i := i) ?_
  rw [hx, hy]
  intro e
  obtain rfl := Option.some.inj e
  simp at h
theorem same_miss {xs ys : List ByteArray} {i : Nat} {x y : ByteArray} (h : (!x.toList == y.toList) = false) (hx : xs[i]? = some x) (hy : ys[i]? = some y) : xs[i]? = ys[i]? := by
  have e : x = y := str_eq.1 (by simpa using h)
  rw [hx, hy, e]

end Go.Proofs.Ytbmeimpfehjnfaa
