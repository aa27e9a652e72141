/-
  Lists of numbers and pools that came in, opened for the walks. Conditions: they read as data.
-/
import Derived.Test.YtomlideijhejfabIdG
import Derived.ProofKit
import Derived.OpenShut
import Derived.SizedLaws
import Derived.Lib.SmallJoins
import Derived.Deep.SlicePairs
namespace Go.Proofs.Ytomlideijhejfab
open Go.ChangeShapes Go.WideShapes Go.ChangeAt Go.WideMaps Go.WideElems Go.RowKit

theorem laidOutAll : laidOutB Try.prog = true := by kernel_rfl
theorem cellsI64 : Try.prog.cellsOf 3 = 1 := by kernel_rfl
/-- cells behind an address that holds something -/
theorem plain_addr {w : World} {a : Addr} {v : Value} (h : w.cell? (a.add 0) = some v) : ∃ b o, a = ⟨b, o, none⟩ ∧ b < w.heap.size := by
  obtain ⟨b, off, spot⟩ := a
  have hspot : spot = none := by simpa [Addr.add] using World.cell?_spot h
  subst hspot
  refine ⟨b, off, rfl, ?_⟩
  rcases Nat.lt_or_ge b w.heap.size with h' | h'
  · exact h'
  · have : w.heap[b]? = none := Array.getElem?_eq_none h'
    simp [World.cell?, Addr.add, this] at h
theorem add_plain (b o j : Nat) : (⟨b, o + j, none⟩ : Addr) = (⟨b, o, none⟩ : Addr).add j := by
  unfold Addr.add
  split
  · next h => subst h; rfl
  · rfl
theorem i64_wf {n : Int} (h : (Lit.int .i64 n).wf = true) : -9223372036854775808 ≤ n ∧ n ≤ 9223372036854775807 := by
  have h1 : IntKind.i64.min = -9223372036854775808 := rfl
  have h2 : IntKind.i64.max = 9223372036854775807 := rfl
  simp only [Lit.wf, Bool.and_eq_true, decide_eq_true_eq] at h
  omega
theorem u8_wf {n : Int} (h : (Lit.int .u8 n).wf = true) : 0 ≤ n ∧ n < 256 := by
  have h1 : IntKind.u8.min = 0 := rfl
  have h2 : IntKind.u8.max = 255 := rfl
  simp only [Lit.wf, Bool.and_eq_true, decide_eq_true_eq] at h
  omega
theorem open_nums {H : Type} {enc : TypeId × Value → H} {W : World} {v : Value} {fuel : Nat} {x : DataW H × List MemPlace}
    (hf : DataW.trod enc Try.prog W 0 (fun _ => true) true fuel 38 [v] = some x) :
    ∃ (A : Option Addr) (c : Nat) (X : List Int), v = .slice A X.length c ∧ CL iv W W.heap.size A X ∧ X.length ≤ c ∧ X.length ≤ 9223372036854775807 ∧ ∀ x ∈ X, -9223372036854775808 ≤ x ∧ x ≤ 9223372036854775807 := by
  rcases open_ints Try.underlying38 Try.underlying3 cellsI64 hf with ⟨hcs, hx⟩ | ⟨a, len', cap', zs, hcs, _, hl, hm, hz, hx, hcell, hwf⟩
  · simp at hcs
    subst hcs
    exact ⟨none, 0, [], rfl, CL.nil _ _ _, Nat.le_refl _, by simp, fun x h => by cases h⟩
  · simp at hcs
    subst hcs
    simp only [if_true] at hz
    have hlen : (zs.take len').length = len' := by rw [List.length_take]; omega
    have hmm : cap' ≤ 9223372036854775807 := by unfold maxLen at hm; omega
    refine ⟨some a, cap', zs.take len', by rw [hlen], fun h0 => ?_, by omega, by omega, fun x hx => i64_wf (hwf x (List.mem_of_mem_take hx))⟩
    rw [hlen] at h0
    obtain ⟨b, o, rfl, hb⟩ := plain_addr (hcell 0 (by omega))
    refine ⟨b, o, rfl, hb, fun j X hX => ?_⟩
    have hj : j < len' := by have := (List.getElem?_eq_some_iff.1 hX).1; omega
    rw [List.getElem?_take_of_lt hj] at hX
    rw [add_plain, hcell j (by omega)]
    unfold iv
    rw [List.getD_eq_getElem?_getD, hX]
    rfl
theorem open_credit {H : Type} {enc : TypeId × Value → H} {W : World} {r : Reach} {b0 : Nat} {v : Value} {d : DataW H} {p : List MemPlace} (hv : Value.okWide Try.prog W r b0 23 v)
    (h : DataW.Trod enc Try.prog W 0 (fun _ => true) true 23 v d p) :
    ∃ (m u : Int), v = .agg #[.int .i64 m, .int .i64 u] ∧ (-9223372036854775808 ≤ m ∧ m ≤ 9223372036854775807) ∧ (-9223372036854775808 ≤ u ∧ u ≤ 9223372036854775807) := by
  obtain ⟨v0, v1, y0, y1, n, rfl, _, _, h0, h1⟩ := Go.Joins.open_agg2 Try.underlying23 (by kernel_rfl) (by kernel_rfl) hv h
  obtain ⟨m, e0, _, w0⟩ := DataW.trod_int Try.underlying3 h0
  obtain ⟨u, e1, _, w1⟩ := DataW.trod_int Try.underlying3 h1
  simp only [List.cons.injEq, and_true] at e0 e1
  subst e0 e1
  exact ⟨m, u, rfl, i64_wf w0, i64_wf w1⟩
theorem open_credits {H : Type} {enc : TypeId × Value → H} {W : World} {v : Value} {fuel : Nat} {x : DataW H × List MemPlace}
    (hf : DataW.trod enc Try.prog W 0 (fun _ => true) true fuel 33 [v] = some x) :
    ∃ (A : Option Addr) (c : Nat) (Xs : List (Int × Int)), v = .slice A Xs.length c ∧ (0 < Xs.length → ∃ b o, A = some ⟨b, o, none⟩ ∧ b < W.heap.size ∧ ∀ j y, Xs[j]? = some y → W.cell? ⟨b, o + j * 2, none⟩ = some (.int .i64 y.1) ∧ W.cell? ⟨b, o + j * 2 + 1, none⟩ = some (.int .i64 y.2)) ∧ Xs.length ≤ 9223372036854775807 := by
  have hC : Try.prog.cellsOf 23 = 2 := by kernel_rfl
  rcases Go.Deep.open_slice_pairs Try.underlying33 Try.underlying23 hC rfl rfl cellsI64 cellsI64 hf with ⟨hcs, hx⟩ | ⟨a, len, cap, m, n, V0, V1, D0, D1, P0, P1, hcs, _, hl, hm, hmm, hx, hi⟩
  · simp at hcs
    subst hcs
    exact ⟨none, 0, [], rfl, fun h => by simp at h, by simp⟩
  · simp at hcs
    subst hcs
    simp only [if_true] at hmm
    have hmx : cap ≤ 9223372036854775807 := by unfold maxLen at hm; omega
    have hint : ∀ i, i < len → ∃ p q : Int, V0 i = .int .i64 p ∧ V1 i = .int .i64 q := fun i hlt => by
      obtain ⟨_, _, h3, h4⟩ := hi i (by omega)
      obtain ⟨p, e0, _, _⟩ := DataW.trod_int Try.underlying3 h3
      obtain ⟨q, e1, _, _⟩ := DataW.trod_int Try.underlying3 h4
      simp only [List.cons.injEq, and_true] at e0 e1
      exact ⟨p, q, e0, e1⟩
    refine ⟨some a, cap, (List.range len).map fun i => ((match V0 i with | .int _ p => p | _ => 0), (match V1 i with | .int _ p => p | _ => 0)), by simp, fun h0 => ?_, by simp; omega⟩
    simp at h0
    obtain ⟨b, o, rfl, hb⟩ := plain_addr (hi 0 (by omega)).1
    refine ⟨b, o, rfl, hb, fun j y hy => ?_⟩
    rw [List.getElem?_map] at hy
    have hj : j < len := by
      rcases Nat.lt_or_ge j len with h | h
      · exact h
      · rw [List.getElem?_eq_none (by simpa using h)] at hy; cases hy
    rw [List.getElem?_range hj] at hy
    obtain rfl := Option.some.inj hy
    obtain ⟨h1, h2, _, _⟩ := hi j (by omega)
    obtain ⟨p, q, e0, e1⟩ := hint j hj
    dsimp only
    rw [e0] at h1 ⊢
    rw [e1] at h2 ⊢
    rw [Nat.add_assoc, add_plain b o (j * 2), add_plain b o (j * 2 + 1)]
    exact ⟨h1, h2⟩
end Go.Proofs.Ytomlideijhejfab
