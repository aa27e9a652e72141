/-
  The walks of PackTextPuts and PackTextReads: each answers true. Conditions: the lists read as data; the numbers fit their kinds.
-/
import Derived.Test.YtlkkdompcbdbeaaDoorLawK
namespace Go.Proofs.YtlkkdompcbdbeaaDoor
open Go.RowKit

def shortR (l : List ByteArray) : Bool := decide (l.length ≤ 24) && l.all fun x => decide (x.size ≤ 400)
def SmallUpto (xs : List ByteArray) (i : Nat) : Prop := ∀ j x, j < i → xs[j]? = some x → x.size ≤ 400
theorem SmallUpto.succ {xs : List ByteArray} {i : Nat} {x : ByteArray} (h : SmallUpto xs i) (hx : xs[i]? = some x) (hs : x.size ≤ 400) : SmallUpto xs (i + 1) := fun j y hj hy => by
  rcases Nat.lt_succ_iff_lt_or_eq.1 hj with h' | h'
  · exact h j y h' hy
  · subst h'
    rw [hx] at hy
    rw [← Option.some.inj hy]; exact hs
theorem short_done {xs : List ByteArray} (h : SmallUpto xs xs.length) (hl : xs.length ≤ 24) : shortR xs = true := by
  unfold shortR
  rw [decide_eq_true hl, Bool.true_and, List.all_eq_true]
  intro x hx
  obtain ⟨j, hj⟩ := List.mem_iff_getElem?.1 hx
  exact decide_eq_true (h j x (List.getElem?_eq_some_iff.1 hj).1 hj)
theorem short_long {xs : List ByteArray} (h : 24 < xs.length) : shortR xs = false := by
  unfold shortR
  rw [decide_eq_false (by omega)]; rfl
theorem short_bad {xs : List ByteArray} {i : Nat} {x : ByteArray} (hx : xs[i]? = some x) (hs : ¬ x.size ≤ 400) : shortR xs = false := by
  unfold shortR
  have : (xs.all fun x => decide (x.size ≤ 400)) = false := by
    rw [List.all_eq_false]
    exact ⟨x, List.mem_of_getElem? hx, by simpa using hs⟩
  rw [this]; simp
theorem short_parts {xs : List ByteArray} (h : shortR xs = true) : xs.length ≤ 24 ∧ ∀ x ∈ xs, x.size ≤ 400 := by
  unfold shortR at h
  rw [Bool.and_eq_true, List.all_eq_true] at h
  exact ⟨of_decide_eq_true h.1, fun x hx => of_decide_eq_true (h.2 x hx)⟩

/-- two slices of the same bytes are the same -/
theorem same_self {A A' : Option Addr} {c c' : Nat} {T : List UInt8} {w : World} {B B' : Nat} (h : CL bv w B A T) (h' : CL bv w B' A' T) :
    Calls Tryd.prog 28 #[.slice A T.length c, .slice A' T.length c'] w fun e w' => e = .returned (.bool true) ∧ w = w' := by
  have cs := sameB_any A A' c c' T T w B B' h h'
  rw [decide_eq_true rfl] at cs
  exact cs

theorem textsF_len {l : List UInt8} {limit : Int} : ∀ (n : Nat) (p : Nat) (acc : List ByteArray), p ≤ l.length → acc.length ≤ p → (textsF n l (p : Int) limit acc).1.length ≤ l.length := by
  intro n
  induction n with
  | zero => intro p acc hp ha; simp [textsF]; omega
  | succ n ih =>
    intro p acc hp ha
    rw [textsF]
    split
    · simp
    · next h0 =>
      generalize hr : textR l p limit = r at h0 ⊢
      obtain ⟨s, nx, e⟩ := r
      simp only at h0 ⊢
      obtain rfl : e = 0 := by omega
      obtain ⟨k, j, h1, rfl, h3, h4, _, _⟩ := textR_ok hr
      obtain rfl : p = k := by omega
      exact ih (p + j) _ h4 (by simp; omega)
theorem textsR_len (l : List UInt8) (p limit : Int) : (textsR l p limit).1.length ≤ l.length := by
  unfold textsR
  split
  · simp
  · next h0 =>
    generalize hr : countR l p limit = r at h0 ⊢
    obtain ⟨n, nx, e⟩ := r
    simp only at h0 ⊢
    obtain rfl : e = 0 := by omega
    obtain ⟨k, j, m, rfl, rfl, rfl, _, h3, _, h5, _, _⟩ := countR_ok hr
    exact textsF_len _ (k + j) [] h5 (by simp)

theorem below_drewN (w : World) (n : Nat) : Below w.heap.size w (w.drewN n) := by
  induction n with
  | zero => exact Below.refl _ _
  | succ n ih => exact ih.drew

end Go.Proofs.YtlkkdompcbdbeaaDoor
