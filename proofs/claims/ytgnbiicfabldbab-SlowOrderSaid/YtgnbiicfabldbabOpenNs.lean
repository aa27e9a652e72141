/-
  A list of numbers that came in, opened. Conditions: it reads as data.
-/
import Derived.Test.YtgnbiicfabldbabOpenMl
import Derived.Test.YtgnbiicfabldbabIdG
import Derived.Deep.Slices
namespace Go.Proofs.Ytgnbiicfabldbab
open Go.Joins Go.ChangeShapes Go.WideShapes Go.ChangeAt Go.WideMaps Go.WideElems Go.RowKit Go.Deep

section
variable {H : Type} {enc : TypeId × Value → H} {W : World}
set_option maxRecDepth 100000 in
theorem open_numsW {v : Value} {fuel : Nat} {x : DataW H × List MemPlace}
    (hf : DataW.trod enc Try.prog W 0 (fun _ => true) true fuel 39 [v] = some x) :
    ∃ (A : Option Addr) (c : Nat) (X : List Int), v = .slice A X.length c ∧ S2.IL W W.heap.size A X ∧ X.length ≤ c ∧ X.length ≤ 9223372036854775807 ∧ ∀ x ∈ X, -9223372036854775808 ≤ x ∧ x ≤ 9223372036854775807 := by
  rcases open_ints Try.underlying39 Try.underlying3 cellsI64 hf with ⟨hcs, hx⟩ | ⟨a, len', cap', zs, hcs, _, hl, hm, hz, hx, hcell, hwf⟩
  · simp at hcs
    subst hcs
    exact ⟨none, 0, [], rfl, CL.nil _ _ _, Nat.le_refl _, by simp, fun x h => by cases h⟩
  · simp at hcs
    subst hcs
    simp only [if_true] at hz
    have hlen : (zs.take len').length = len' := by rw [List.length_take]; omega
    have hmm : cap' ≤ 9223372036854775807 := by unfold maxLen at hm; omega
    refine ⟨some a, cap', zs.take len', by rw [hlen], fun h0 => ?_, by omega, by omega, fun x hx => wf64 (hwf x (List.mem_of_mem_take hx))⟩
    rw [hlen] at h0
    obtain ⟨b, o, rfl, hb⟩ := plain_addr (hcell 0 (by omega))
    refine ⟨b, o, rfl, hb, fun j X hX => ?_⟩
    have hj : j < len' := by have := (List.getElem?_eq_some_iff.1 hX).1; omega
    rw [List.getElem?_take_of_lt hj] at hX
    rw [add_plain, hcell j (by omega), List.getD_eq_getElem?_getD, hX]
    rfl
end
end Go.Proofs.Ytgnbiicfabldbab
