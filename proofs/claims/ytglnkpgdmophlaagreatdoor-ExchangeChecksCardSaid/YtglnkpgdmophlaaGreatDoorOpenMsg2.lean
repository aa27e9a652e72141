/-
  A message that came in by value, opened with the sizes of its texts. Conditions: it reads as data.
-/
import Derived.Test.YtglnkpgdmophlaaGreatDoorOpenMsg
namespace Go.Proofs.YtglnkpgdmophlaaGreatDoor
open Go.Joins Go.ChangeShapes Go.WideShapes Go.ChangeAt Go.WideMaps Go.WideElems Go.RowKit Go.Deep

theorem len_max {n : Nat} (h : n ≤ maxLen) : n ≤ 9223372036854775807 := by unfold maxLen at h; omega
theorem open_props2 {H : Type} {enc : TypeId × Value → H} {W : World} {a0 : Option Addr} {len cap fuel : Nat} {x : DataW H × List MemPlace}
    (hf : DataW.trod enc Tryz.prog W 0 (fun _ => true) true fuel 33 [.slice a0 len cap] = some x) :
    ∃ Xs : List PR, Xs.length = len ∧ PL W W.heap.size a0 Xs ∧ ∀ x ∈ Xs, x.1.size ≤ 9223372036854775807 := by
  rcases Go.Deep.open_slice_pairs Tryz.underlying33 Tryz.underlying105 cellsProp rfl rfl cellsStr cellsStr hf with ⟨hcs, hx⟩ | ⟨a, len', cap', m, n, V0, V1, D0, D1, P0, P1, hcs, _, hl, hm, hmm, hx, hi⟩
  · simp at hcs
    obtain ⟨rfl, rfl, rfl⟩ := hcs
    exact ⟨[], rfl, GL.nil _ _ _, fun _ h => by cases h⟩
  · simp at hcs
    obtain ⟨rfl, rfl, rfl⟩ := hcs
    subst hx
    simp only [if_true] at hmm
    refine ⟨(List.range len).map fun i => (strV (V0 i), strV (V1 i)), by simp, fun h0 => ?_, fun X hX => ?_⟩
    rotate_left
    · obtain ⟨i, hi', rfl⟩ := List.mem_map.1 hX
      have hj := List.mem_range.1 hi'
      obtain ⟨_, _, h3, _⟩ := hi i (by omega)
      obtain ⟨s0, e0, _, z0⟩ := DataW.trod_string Tryz.underlying9 h3
      simp at e0
      show (strV (V0 i)).size ≤ _
      rw [e0]
      exact len_max z0
    simp at h0
    obtain ⟨b, o, rfl, hb⟩ := plain_addr (hi 0 (by omega)).1
    refine ⟨b, o, rfl, hb, fun j X i v hX hv => ?_⟩
    rw [List.getElem?_map] at hX
    have hj : j < len := by
      rcases Nat.lt_or_ge j len with h | h
      · exact h
      · rw [List.getElem?_eq_none (by simpa using h)] at hX; cases hX
    rw [List.getElem?_range hj] at hX
    obtain rfl := Option.some.inj hX
    obtain ⟨h1, h2, h3, h4⟩ := hi j (by omega)
    obtain ⟨s0, e0, _⟩ := DataW.trod_string Tryz.underlying9 h3
    obtain ⟨s1, e1, _⟩ := DataW.trod_string Tryz.underlying9 h4
    simp at e0 e1
    rw [e0] at h1
    rw [e1] at h2
    match i, hv with
    | 0, hv =>
      simp [gP, strV, e0] at hv
      rw [Nat.add_zero, add_plain, h1, hv]
    | 1, hv =>
      simp [gP, strV, e1] at hv
      rw [Nat.add_assoc, add_plain, h2, hv]
set_option maxRecDepth 100000 in
theorem open_props2' {H : Type} {enc : TypeId × Value → H} {W : World} {v : Value} {fuel : Nat} {x : DataW H × List MemPlace}
    (hf : DataW.trod enc Tryz.prog W 0 (fun _ => true) true fuel 33 [v] = some x) :
    ∃ (A : Option Addr) (c : Nat) (Xs : List PR), v = .slice A Xs.length c ∧ PL W W.heap.size A Xs ∧ ∀ x ∈ Xs, x.1.size ≤ 9223372036854775807 := by
  have h2 := hf
  rcases Go.Deep.open_slice_pairs Tryz.underlying33 Tryz.underlying105 cellsProp rfl rfl cellsStr cellsStr h2 with ⟨hcs, _⟩ | ⟨a, len, cap, m, n, V0, V1, D0, D1, P0, P1, hcs, _⟩
  · simp at hcs
    subst hcs
    exact ⟨none, 0, [], rfl, GL.nil _ _ _, fun _ h => by cases h⟩
  · simp at hcs
    subst hcs
    obtain ⟨Xs, rfl, hp, hz⟩ := open_props2 hf
    exact ⟨_, _, Xs, rfl, hp, hz⟩
end Go.Proofs.YtglnkpgdmophlaaGreatDoor
