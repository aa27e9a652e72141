/-
  A segment that came in by value, a list of records that came in, opened. Conditions: they read as data.
-/
import Derived.Test.YtbmeimpfehjnfaaOpenRc
import Derived.Test.YtbmeimpfehjnfaaSgA
import Derived.ProofKit
import Derived.OpenShut
import Derived.SliceStrings
import Derived.SizedLaws
import Derived.Deep.Slices
namespace Go.Proofs.Ytbmeimpfehjnfaa
open Go.Joins Go.ChangeShapes Go.ChangeAt Go.WideShapes Go.WideMaps Go.WideElems Go.RowKit Go.Deep

theorem cellsSg : Try.prog.cellsOf 24 = 3 := by kernel_rfl
theorem cellsBy : Try.prog.cellsOf 22 = 1 := by kernel_rfl
theorem plain_addr2 {w : World} {a : Addr} {v : Value} (h : w.cell? (a.add 0) = some v) : ∃ b o, a = ⟨b, o, none⟩ ∧ b < w.heap.size := by
  obtain ⟨b, off, spot⟩ := a
  have hspot : spot = none := by simpa [Addr.add] using World.cell?_spot h
  subst hspot
  refine ⟨b, off, rfl, ?_⟩
  rcases Nat.lt_or_ge b w.heap.size with h' | h'
  · exact h'
  · have : w.heap[b]? = none := Array.getElem?_eq_none h'
    simp [World.cell?, Addr.add, this] at h
theorem add_plain2 (b o j : Nat) : (⟨b, o + j, none⟩ : Addr) = (⟨b, o, none⟩ : Addr).add j := by
  unfold Addr.add
  split
  · next h => subst h; rfl
  · rfl
section
variable {H : Type} {enc : TypeId × Value → H} {W : World}
set_option maxRecDepth 100000 in
theorem open_sg {r : Reach} {b0 : Nat} {v : Value} {d : DataW H} {p : List MemPlace} (hv : Value.okWide Try.prog W r b0 24 v)
    (h : DataW.Trod enc Try.prog W 0 (fun _ => true) true 24 v d p) : ∃ (b n : Int) (A : Option Addr) (c : Nat) (X : List UInt8), v = sgV b n A X.length c ∧ CL bv W W.heap.size A X ∧ X.length ≤ c ∧ (-9223372036854775808 ≤ b ∧ b ≤ 9223372036854775807) ∧ -9223372036854775808 ≤ n ∧ n ≤ 9223372036854775807 := by
  obtain ⟨cs, rfl, hsz⟩ := okWide_struct Try.underlying24 hv
  obtain ⟨fuel, hf⟩ := h
  obtain ⟨l⟩ := cs
  have hl : l.length = 3 := by have := hsz.trans cellsSg; simpa using this
  match l, hl with
  | [c0, c1, c2], _ =>
    obtain ⟨ys, n, _, hx, _, hyl, hfld⟩ := DataW.trod_struct Try.underlying24 hf
    match ys, hyl with
    | [y0, y1, y2], _ =>
      have g0 := hfld 0 _ rfl
      have g1 := hfld 1 _ rfl
      have g2 := hfld 2 _ rfl
      simp [Value.cells, cellsI64R, cellsBy] at g0 g1 g2
      obtain ⟨v0, e0, _, f0⟩ := DataW.trod_int Try.underlying3 (show DataW.trod enc Try.prog W 0 (fun _ => true) true n 3 [c0] = some y0 from g0)
      obtain ⟨v1, e1, _, f1⟩ := DataW.trod_int Try.underlying3 (show DataW.trod enc Try.prog W 0 (fun _ => true) true n 3 [c1] = some y1 from g1)
      obtain ⟨a2, l2, k2, e2⟩ := Go.Joins.slice_form Try.underlying22 (show DataW.trod enc Try.prog W 0 (fun _ => true) true n 22 [c2] = some y2 from g2)
      simp only [List.cons.injEq, and_true] at e0 e1 e2
      subst e0 e1 e2
      obtain ⟨X, rfl, hs, hc, _⟩ := open_bytes g2
      exact ⟨v0, v1, a2, k2, X, rfl, hs, hc, i64_wf f0, i64_wf f1⟩
set_option maxRecDepth 100000 in
theorem open_rcc {fuel : Nat} {cs : List Value} {x : DataW H × List MemPlace} (hl : cs.length = 4) (hf : DataW.trod enc Try.prog W 0 (fun _ => true) true fuel 32 cs = some x) :
    ∃ X : Rc, cs = rcC X ∧ (X.key.size ≤ 9223372036854775807 ∧ X.val.size ≤ 9223372036854775807) := by
  obtain ⟨ys, n, _, hx, _, hyl, hfld⟩ := DataW.trod_struct Try.underlying32 hf
  match cs, hl with
  | [c0, c1, c2, c3], _ =>
    match ys, hyl with
    | [y0, y1, y2, y3], _ =>
      have g0 := hfld 0 _ rfl
      have g1 := hfld 1 _ rfl
      have g2 := hfld 2 _ rfl
      have g3 := hfld 3 _ rfl
      simp [cellsI64R, cellsStr] at g0 g1 g2 g3
      obtain ⟨v0, e0, _, _⟩ := DataW.trod_int Try.underlying3 (show DataW.trod enc Try.prog W 0 (fun _ => true) true n 3 [c0] = some y0 from g0)
      obtain ⟨v1, e1, _, _⟩ := DataW.trod_int Try.underlying3 (show DataW.trod enc Try.prog W 0 (fun _ => true) true n 3 [c1] = some y1 from g1)
      obtain ⟨v2, e2, _, z2⟩ := DataW.trod_string Try.underlying9 (show DataW.trod enc Try.prog W 0 (fun _ => true) true n 9 [c2] = some y2 from g2)
      obtain ⟨v3, e3, _, z3⟩ := DataW.trod_string Try.underlying9 (show DataW.trod enc Try.prog W 0 (fun _ => true) true n 9 [c3] = some y3 from g3)
      simp only [List.cons.injEq, and_true] at e0 e1 e2 e3
      subst e0 e1 e2 e3
      exact ⟨⟨v0, v1, v2, v3⟩, rfl, len_maxR z2, len_maxR z3⟩
/-- a list of records that came in -/
theorem open_rcs {fuel : Nat} {a0 : Option Addr} {len cap : Nat} {x : DataW H × List MemPlace} (hf : DataW.trod enc Try.prog W 0 (fun _ => true) true fuel 37 [.slice a0 len cap] = some x) :
    ∃ Xs : List Rc, Xs.length = len ∧ GL rcC 4 W W.heap.size a0 Xs ∧ len ≤ cap ∧ ∀ X ∈ Xs, X.key.size ≤ 9223372036854775807 ∧ X.val.size ≤ 9223372036854775807 := by
  rcases open_slice Try.underlying37 hf with ⟨hcs, _⟩ | ⟨a, len', cap', m, n, D, Pl, hcs, _, hl, _, hmm, hx, hi⟩
  · simp at hcs
    obtain ⟨rfl, rfl, rfl⟩ := hcs
    exact ⟨[], rfl, GL.nil _ _ _, Nat.le_refl _, (fun _ h => by cases h)⟩
  · simp at hcs
    obtain ⟨rfl, rfl, rfl⟩ := hcs
    simp only [if_true] at hmm
    have each : ∀ i : Nat, ∃ X : Rc, i < len → (∀ j u, (rcC X)[j]? = some u → W.cell? (a.add (i * 4 + j)) = some u) ∧ (X.key.size ≤ 9223372036854775807 ∧ X.val.size ≤ 9223372036854775807) := fun i => by
      by_cases h : i < len
      · obtain ⟨cs', hc, ht⟩ := hi i (by omega)
        rw [cellsRc] at hc
        obtain ⟨_, hl4, hat⟩ := World.cells?_some hc
        obtain ⟨X, rfl, hz⟩ := open_rcc hl4 ht
        refine ⟨X, fun _ => ⟨fun j u hj => ?_, hz⟩⟩
        have hj3 : j < 4 := by rw [← rcC_len X]; exact (List.getElem?_eq_some_iff.1 hj).1
        rw [← Go.Deep.add_add, hat j hj3]
        exact hj
      · exact ⟨rcZ, fun h' => absurd h' h⟩
    refine ⟨(List.range len).map fun i => Classical.choose (each i), by simp, fun h0 => ?_, hl, fun X hX => ?_⟩
    · simp at h0
      obtain ⟨X0, hX0⟩ := each 0
      have h00 := (hX0 (by omega)).1 0 (.int .i64 X0.off) rfl
      rw [Nat.zero_mul] at h00
      obtain ⟨b, o, rfl, hb⟩ := plain_addr2 h00
      refine ⟨b, o, rfl, hb, fun j X i v hX hv => ?_⟩
      rw [List.getElem?_map] at hX
      have hj : j < len := by
        rcases Nat.lt_or_ge j len with h | h
        · exact h
        · rw [List.getElem?_eq_none (by simpa using h)] at hX; cases hX
      rw [List.getElem?_range hj] at hX
      obtain rfl := Option.some.inj hX
      rw [Nat.add_assoc, add_plain2]
      exact (Classical.choose_spec (each j) hj).1 i v hv
    · obtain ⟨i, hi', rfl⟩ := List.mem_map.1 hX
      exact (Classical.choose_spec (each i) (List.mem_range.1 hi')).2
end
end Go.Proofs.Ytbmeimpfehjnfaa
