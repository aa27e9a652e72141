/-
  Lists of numbers and pools that came in, opened for the walks. Conditions: they read as data.
-/
import Derived.Test.YtmcocepjdhpecaaIdG
import Derived.ProofKit
import Derived.OpenShut
import Derived.SizedLaws
import Derived.Lib.SmallJoins
import Derived.Deep.SlicePairs
namespace Go.Proofs.Ytmcocepjdhpecaa
open Go.ChangeShapes Go.WideShapes Go.ChangeAt Go.WideMaps Go.WideElems Go.RowKit

theorem laidOutAll : laidOutB Try.prog = true := by kernel_rfl
theorem cellsI64 : Try.prog.cellsOf 3 = 1 := by kernel_rfl
/-- cells behind an address that holds something -/
theorem plain_addr {w : World} {a : Addr} {v : Value} (h : w.cell? (a.add 0) = some v) : ∃ b o, a = ⟨b, o, none⟩ ∧ b < w.heap.size := by
  obtain ⟨b, off, spot⟩ := a
  have hspot : spot = none := by simpa [Addr.add] using World.cell?_spot h
  subst hspot
  refine ⟨b, off, rfl, ?_⟩
  rcases Nat.lt_or_ge b w.heap.size with h' | h'
  · exact h'
  · have : w.heap[b]? = none := Array.getElem?_eq_none h'
    simp [World.cell?, Addr.add, this] at h
theorem add_plain (b o j : Nat) : (⟨b, o + j, none⟩ : Addr) = (⟨b, o, none⟩ : Addr).add j := by
  unfold Addr.add
  split
  · next h => subst h; rfl
  · rfl
theorem i64_wf {n : Int} (h : (Lit.int .i64 n).wf = true) : -9223372036854775808 ≤ n ∧ n ≤ 9223372036854775807 := by
  have h1 : IntKind.i64.min = -9223372036854775808 := rfl
  have h2 : IntKind.i64.max = 9223372036854775807 := rfl
  simp only [Lit.wf, Bool.and_eq_true, decide_eq_true_eq] at h
  omega
theorem u8_wf {n : Int} (h : (Lit.int .u8 n).wf = true) : 0 ≤ n ∧ n < 256 := by
  have h1 : IntKind.u8.min = 0 := rfl
  have h2 : IntKind.u8.max = 255 := rfl
  simp only [Lit.wf, Bool.and_eq_true, decide_eq_true_eq] at h
  omega
theorem open_bucket {H : Type} {enc : TypeId × Value → H} {W : World} {r : Reach} {b0 : Nat} {v : Value} {d : DataW H} {p : List MemPlace} (hv : Value.okWide Try.prog W r b0 23 v)
    (h : DataW.Trod enc Try.prog W 0 (fun _ => true) true 23 v d p) :
    ∃ (a b c e : Int), v = .agg #[.int .i64 a, .int .i64 b, .int .i64 c, .int .i64 e] := by
  obtain ⟨v0, v1, v2, v3, y0, y1, y2, y3, n, rfl, _, _, h0, h1, h2, h3⟩ := Go.Joins.open_agg4 Try.underlying23 (by kernel_rfl) (by kernel_rfl) hv h
  obtain ⟨a, e0, _, w0⟩ := DataW.trod_int Try.underlying3 h0
  obtain ⟨b, e1, _, w1⟩ := DataW.trod_int Try.underlying3 h1
  obtain ⟨c, e2, _, w2⟩ := DataW.trod_int Try.underlying3 h2
  obtain ⟨e, e3, _, w3⟩ := DataW.trod_int Try.underlying3 h3
  simp only [List.cons.injEq, and_true] at e0 e1 e2 e3
  subst e0 e1 e2 e3
  exact ⟨a, b, c, e, rfl⟩
theorem open_ops {H : Type} {enc : TypeId × Value → H} {W : World} {v : Value} {fuel : Nat} {x : DataW H × List MemPlace}
    (hf : DataW.trod enc Try.prog W 0 (fun _ => true) true fuel 38 [v] = some x) :
    ∃ (A : Option Addr) (c : Nat) (Xs : List (Nat × Int)), v = .slice A Xs.length c ∧ (0 < Xs.length → ∃ b o, A = some ⟨b, o, none⟩ ∧ b < W.heap.size ∧ ∀ j y, Xs[j]? = some y → W.cell? ⟨b, o + j * 2, none⟩ = some (.int .u16 (y.1 : Int)) ∧ W.cell? ⟨b, o + j * 2 + 1, none⟩ = some (.int .i64 y.2)) ∧ Xs.length ≤ 9223372036854775807 ∧ ∀ y ∈ Xs, y.1 ≤ 65535 := by
  have hC : Try.prog.cellsOf 42 = 2 := by kernel_rfl
  have hU : Try.prog.cellsOf 40 = 1 := by kernel_rfl
  rcases Go.Deep.open_slice_pairs Try.underlying38 Try.underlying42 hC rfl rfl hU cellsI64 hf with ⟨hcs, hx⟩ | ⟨a, len, cap, m, n, V0, V1, D0, D1, P0, P1, hcs, _, hl, hm, hmm, hx, hi⟩
  · simp at hcs
    subst hcs
    exact ⟨none, 0, [], rfl, fun h => by simp at h, by simp, fun y h => by cases h⟩
  · simp at hcs
    subst hcs
    simp only [if_true] at hmm
    have hmx : cap ≤ 9223372036854775807 := by unfold maxLen at hm; omega
    have hint : ∀ i, i < len → ∃ (p : Nat) (q : Int), V0 i = .int .u16 (p : Int) ∧ V1 i = .int .i64 q ∧ p ≤ 65535 := fun i hlt => by
      obtain ⟨_, _, h3, h4⟩ := hi i (by omega)
      obtain ⟨p, e0, _, w0⟩ := DataW.trod_int Try.underlying40 h3
      obtain ⟨q, e1, _, _⟩ := DataW.trod_int Try.underlying3 h4
      simp only [List.cons.injEq, and_true] at e0 e1
      have k1 : IntKind.u16.min = 0 := rfl
      have k2 : IntKind.u16.max = 65535 := rfl
      simp only [Lit.wf, Bool.and_eq_true, decide_eq_true_eq] at w0
      exact ⟨p.toNat, q, by rw [e0]; congr 1; omega, e1, by omega⟩
    refine ⟨some a, cap, (List.range len).map fun i => ((match V0 i with | .int _ p => p.toNat | _ => 0), (match V1 i with | .int _ p => p | _ => 0)), by simp, fun h0 => ?_, by simp; omega, fun y hy => ?_⟩
    rotate_left
    · obtain ⟨i, hi', rfl⟩ := List.mem_map.1 hy
      obtain ⟨p, q, e0, _, hp⟩ := hint i (List.mem_range.1 hi')
      dsimp only
      rw [e0]
      simpa using hp
    simp at h0
    obtain ⟨b, o, rfl, hb⟩ := plain_addr (hi 0 (by omega)).1
    refine ⟨b, o, rfl, hb, fun j y hy => ?_⟩
    rw [List.getElem?_map] at hy
    have hj : j < len := by
      rcases Nat.lt_or_ge j len with h | h
      · exact h
      · rw [List.getElem?_eq_none (by simpa using h)] at hy; cases hy
    rw [List.getElem?_range hj] at hy
    obtain rfl := Option.some.inj hy
    obtain ⟨h1, h2, _, _⟩ := hi j (by omega)
    obtain ⟨p, q, e0, e1, _⟩ := hint j hj
    dsimp only
    rw [e0] at h1 ⊢
    rw [e1] at h2 ⊢
    rw [Nat.add_assoc, add_plain b o (j * 2), add_plain b o (j * 2 + 1)]
    exact ⟨by simpa using h1, h2⟩
end Go.Proofs.Ytmcocepjdhpecaa
