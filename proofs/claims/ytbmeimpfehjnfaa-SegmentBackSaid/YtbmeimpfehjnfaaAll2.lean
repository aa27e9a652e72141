/-
  What All of the specification of frame answers, and Same of lists of byte lists; FrameAlls. Conditions: so many bytes fit a slice.
-/
import Derived.Test.YtbmeimpfehjnfaaAll
namespace Go.Proofs.Ytbmeimpfehjnfaa
open Go.RowKit

/-! ### Same of lists of byte lists -/
def SameUptoB (xs ys : List (List UInt8)) (i : Nat) : Prop := ∀ j, j < i → xs[j]? = ys[j]?
theorem SameUptoB.succ {xs ys : List (List UInt8)} {i : Nat} (h : SameUptoB xs ys i) (hi : xs[i]? = ys[i]?) : SameUptoB xs ys (i + 1) := fun j hj => by
  rcases Nat.lt_succ_iff_lt_or_eq.1 hj with h' | h'
  · exact h j h'
  · subst h'; exact hi
theorem SameUptoB.all {xs ys : List (List UInt8)} (h : SameUptoB xs ys xs.length) (hl : xs.length = ys.length) : decide (xs = ys) = true := by
  refine decide_eq_true (List.ext_getElem? fun j => ?_)
  by_cases hj : j < xs.length
  · exact h j hj
  · rw [List.getElem?_eq_none (by omega), List.getElem?_eq_none (by omega)]
theorem sameV_len {xs ys : List (List UInt8)} (h : xs.length ≠ ys.length) : decide (xs = ys) = false := decide_eq_false (fun e => h (by rw [e]))
theorem sameV_hit {xs ys : List (List UInt8)} {i : Nat} {x y : List UInt8} (h : (!(bs x).toList == (bs y).toList) = true) (hx : xs[i]? = some x) (hy : ys[i]? = some y) : decide (xs = ys) = false := by
  refine decide_eq_false (fun e => ?_)
  rw [e, hy] at hx
  obtain rfl := Option.some.inj hx
  simp at h
theorem sameV_miss {xs ys : List (List UInt8)} {i : Nat} {x y : List UInt8} (h : (!(bs x).toList == (bs y).toList) = false) (hx : xs[i]? = some x) (hy : ys[i]? = some y) : xs[i]? = ys[i]? := by
  rw [bs_dec] at h
  have e : x = y := by simpa using h
  rw [hx, hy, e]

theorem allF_len {l : List UInt8} : ∀ (f p : Nat) (acc : List (List UInt8)), acc.length ≤ p → p ≤ l.length → (allF f l p acc).1.length ≤ l.length := by
  intro f
  induction f with
  | zero => intro p acc h1 h2; simp [allF]; omega
  | succ f ih =>
    intro p acc h1 h2
    rw [allF]
    split
    · next hlt =>
      generalize hr : nextR l p = r
      obtain ⟨T, nx, e⟩ := r
      dsimp only
      split
      · simp; omega
      · next h0 =>
        obtain rfl : e = 0 := by omega
        obtain ⟨k, j, q1, rfl, q2, q3, _⟩ := nextR_ok hr
        rw [Int.toNat_natCast]
        exact ih _ _ (by simp; omega) (by omega)
    · simp; omega

end Go.Proofs.Ytbmeimpfehjnfaa
