/-
  A window that came in by value, opened with the sizes of its texts and lists. Conditions: it reads as data.
-/
import Derived.Test.YtjadinblfbhgaaaDoorOpenMsg
import Derived.Test.YtjadinblfbhgaaaDoorWi
import Derived.Deep.Slices
namespace Go.Proofs.YtjadinblfbhgaaaDoor
open Go.Joins Go.ChangeShapes Go.WideShapes Go.ChangeAt Go.WideMaps Go.WideElems Go.RowKit Go.Deep

theorem len_max {n : Nat} (h : n ≤ maxLen) : n ≤ 9223372036854775807 := by unfold maxLen at h; omega
theorem cellsFl : Tryd.prog.cellsOf 64 = 11 := by kernel_rfl
theorem cellsFls : Tryd.prog.cellsOf 22 = 1 := by kernel_rfl
theorem cellsIntsW : Tryd.prog.cellsOf 23 = 1 := by kernel_rfl
theorem cellsPool : Tryd.prog.cellsOf 25 = 2 := by kernel_rfl
theorem cellsWin : Tryd.prog.cellsOf 27 = 4 := by kernel_rfl
/-- texts of an item fit, and its identifier is an int -/
def FlOk (f : Fl) : Prop := (-9223372036854775808 ≤ f.id ∧ f.id ≤ 9223372036854775807) ∧ f.m.topic.size ≤ 9223372036854775807 ∧ f.m.frm.size ≤ 9223372036854775807 ∧ ∀ y ∈ f.m.props, y.1.size ≤ 9223372036854775807
section
variable {H : Type} {enc : TypeId × Value → H} {W : World}
theorem open_propsW {a0 : Option Addr} {len cap fuel : Nat} {x : DataW H × List MemPlace}
    (hf : DataW.trod enc Tryd.prog W 0 (fun _ => true) true fuel 37 [.slice a0 len cap] = some x) :
    ∃ Xs : List PR, Xs.length = len ∧ PL W W.heap.size a0 Xs ∧ ∀ x ∈ Xs, x.1.size ≤ 9223372036854775807 := by
  rcases Go.Deep.open_slice_pairs Tryd.underlying37 Tryd.underlying86 cellsProp rfl rfl cellsStr cellsStr hf with ⟨hcs, hx⟩ | ⟨a, len', cap', m, n, V0, V1, D0, D1, P0, P1, hcs, _, hl, hm, hmm, hx, hi⟩
  · simp at hcs
    obtain ⟨rfl, rfl, rfl⟩ := hcs
    exact ⟨[], rfl, GL.nil _ _ _, fun _ h => by cases h⟩
  · simp at hcs
    obtain ⟨rfl, rfl, rfl⟩ := hcs
    subst hx
    simp only [if_true] at hmm
    refine ⟨(List.range len).map fun i => (strV (V0 i), strV (V1 i)), by simp, fun h0 => ?_, fun X hX => ?_⟩
    rotate_left
    · obtain ⟨i, hi', rfl⟩ := List.mem_map.1 hX
      have hj := List.mem_range.1 hi'
      obtain ⟨_, _, h3, _⟩ := hi i (by omega)
      obtain ⟨s0, e0, _, z0⟩ := DataW.trod_string Tryd.underlying9 h3
      simp at e0
      show (strV (V0 i)).size ≤ _
      rw [e0]
      exact len_max z0
    simp at h0
    obtain ⟨b, o, rfl, hb⟩ := plain_addr (hi 0 (by omega)).1
    refine ⟨b, o, rfl, hb, fun j X i v hX hv => ?_⟩
    rw [List.getElem?_map] at hX
    have hj : j < len := by
      rcases Nat.lt_or_ge j len with h | h
      · exact h
      · rw [List.getElem?_eq_none (by simpa using h)] at hX; cases hX
    rw [List.getElem?_range hj] at hX
    obtain rfl := Option.some.inj hX
    obtain ⟨h1, h2, h3, h4⟩ := hi j (by omega)
    obtain ⟨s0, e0, _⟩ := DataW.trod_string Tryd.underlying9 h3
    obtain ⟨s1, e1, _⟩ := DataW.trod_string Tryd.underlying9 h4
    simp at e0 e1
    rw [e0] at h1
    rw [e1] at h2
    match i, hv with
    | 0, hv =>
      simp [gP, strV, e0] at hv
      rw [Nat.add_zero, add_plain, h1, hv]
    | 1, hv =>
      simp [gP, strV, e1] at hv
      rw [Nat.add_assoc, add_plain, h2, hv]
set_option maxRecDepth 100000 in
theorem open_propsW' {v : Value} {fuel : Nat} {x : DataW H × List MemPlace}
    (hf : DataW.trod enc Tryd.prog W 0 (fun _ => true) true fuel 37 [v] = some x) :
    ∃ (A : Option Addr) (c : Nat) (Xs : List PR), v = .slice A Xs.length c ∧ PL W W.heap.size A Xs ∧ ∀ x ∈ Xs, x.1.size ≤ 9223372036854775807 := by
  have h2 := hf
  rcases Go.Deep.open_slice_pairs Tryd.underlying37 Tryd.underlying86 cellsProp rfl rfl cellsStr cellsStr h2 with ⟨hcs, _⟩ | ⟨a, len, cap, m, n, V0, V1, D0, D1, P0, P1, hcs, _⟩
  · simp at hcs
    subst hcs
    exact ⟨none, 0, [], rfl, GL.nil _ _ _, fun _ h => by cases h⟩
  · simp at hcs
    subst hcs
    obtain ⟨Xs, rfl, hp, hz⟩ := open_propsW hf
    exact ⟨_, _, Xs, rfl, hp, hz⟩
set_option maxRecDepth 100000 in
theorem open_msgcW {fuel : Nat} {cs : List Value} {x : DataW H × List MemPlace} (hf : DataW.trod enc Tryd.prog W 0 (fun _ => true) true fuel 39 cs = some x) :
    ∃ (m : Msg) (A : Option Addr) (c : Nat), cs = msgC m A c ∧ PL W W.heap.size A m.props ∧ (m.topic.size ≤ 9223372036854775807 ∧ m.frm.size ≤ 9223372036854775807 ∧ ∀ y ∈ m.props, y.1.size ≤ 9223372036854775807) := by
  obtain ⟨ys, n, _, _, hl, hyl, hfld⟩ := DataW.trod_struct Tryd.underlying39 hf
  rw [cellsMsg] at hl
  match cs, hl with
  | [c0, c1, c2, c3, c4, c5, c6, c7, c8], _ =>
    match ys, hyl with
    | [y0, y1, y2, y3, y4, y5, y6, y7, y8], _ =>
      have g0 := hfld 0 _ rfl
      have g1 := hfld 1 _ rfl
      have g2 := hfld 2 _ rfl
      have g3 := hfld 3 _ rfl
      have g4 := hfld 4 _ rfl
      have g5 := hfld 5 _ rfl
      have g6 := hfld 6 _ rfl
      have g7 := hfld 7 _ rfl
      have g8 := hfld 8 _ rfl
      simp [cellsStr, cellsI64, cellsBool, cellsProps] at g0 g1 g2 g3 g4 g5 g6 g7 g8
      obtain ⟨v0, e0, _, z0⟩ := DataW.trod_string Tryd.underlying9 (show DataW.trod enc Tryd.prog W 0 (fun _ => true) true n 9 [c0] = some y0 from g0)
      obtain ⟨v1, e1, _⟩ := DataW.trod_string Tryd.underlying9 (show DataW.trod enc Tryd.prog W 0 (fun _ => true) true n 9 [c1] = some y1 from g1)
      obtain ⟨v2, e2, _, _⟩ := DataW.trod_int Tryd.underlying3 (show DataW.trod enc Tryd.prog W 0 (fun _ => true) true n 3 [c2] = some y2 from g2)
      obtain ⟨v3, e3, _⟩ := DataW.trod_bool Tryd.underlying4 (show DataW.trod enc Tryd.prog W 0 (fun _ => true) true n 4 [c3] = some y3 from g3)
      obtain ⟨v4, e4, _, _⟩ := DataW.trod_int Tryd.underlying3 (show DataW.trod enc Tryd.prog W 0 (fun _ => true) true n 3 [c4] = some y4 from g4)
      obtain ⟨v5, e5, _, _⟩ := DataW.trod_int Tryd.underlying3 (show DataW.trod enc Tryd.prog W 0 (fun _ => true) true n 3 [c5] = some y5 from g5)
      obtain ⟨v6, e6, _, z6⟩ := DataW.trod_string Tryd.underlying9 (show DataW.trod enc Tryd.prog W 0 (fun _ => true) true n 9 [c6] = some y6 from g6)
      obtain ⟨v7, e7, _, _⟩ := DataW.trod_int Tryd.underlying3 (show DataW.trod enc Tryd.prog W 0 (fun _ => true) true n 3 [c7] = some y7 from g7)
      obtain ⟨A8, p8, X8, e8, h8, z8⟩ := open_propsW' (show DataW.trod enc Tryd.prog W 0 (fun _ => true) true n 37 [c8] = some y8 from g8)
      simp only [List.cons.injEq, and_true] at e0 e1 e2 e3 e4 e5 e6 e7
      subst e0 e1 e2 e3 e4 e5 e6 e7 e8
      exact ⟨⟨v0, v1, v2, v3, v4, v5, v6, v7, X8⟩, A8, p8, rfl, h8, len_max z0, len_max z6, z8⟩
set_option maxRecDepth 100000 in
theorem open_flc {fuel : Nat} {cs : List Value} {x : DataW H × List MemPlace} (hf : DataW.trod enc Tryd.prog W 0 (fun _ => true) true fuel 64 cs = some x) :
    ∃ X : FE, cs = gF X ∧ PL W W.heap.size X.a X.f.m.props ∧ FlOk X.f := by
  obtain ⟨ys, n, _, _, hl, hyl, hfld⟩ := DataW.trod_struct Tryd.underlying64 hf
  rw [cellsFl] at hl
  match cs, hl with
  | [c0, c1, c2, c3, c4, c5, c6, c7, c8, c9, c10], _ =>
    match ys, hyl with
    | [y0, y1, y2], _ =>
      have g0 := hfld 0 _ rfl
      have g1 := hfld 1 _ rfl
      have g2 := hfld 2 _ rfl
      simp [cellsI64, cellsMsg] at g0 g1 g2
      obtain ⟨v0, e0, _, w0⟩ := DataW.trod_int Tryd.underlying3 (show DataW.trod enc Tryd.prog W 0 (fun _ => true) true n 3 [c0] = some y0 from g0)
      obtain ⟨v1, e1, _, _⟩ := DataW.trod_int Tryd.underlying3 (show DataW.trod enc Tryd.prog W 0 (fun _ => true) true n 3 [c1] = some y1 from g1)
      obtain ⟨m, A, c, e2, h2, z2⟩ := open_msgcW (show DataW.trod enc Tryd.prog W 0 (fun _ => true) true n 39 [c2, c3, c4, c5, c6, c7, c8, c9, c10] = some y2 from g2)
      simp only [List.cons.injEq, and_true] at e0 e1
      subst e0 e1
      exact ⟨⟨⟨v0, v1, m⟩, A, c⟩, by show [Value.int .i64 v0, Value.int .i64 v1] ++ [c2, c3, c4, c5, c6, c7, c8, c9, c10] = _; rw [e2]; rfl, h2, wf64 w0, z2⟩
set_option maxRecDepth 100000 in
theorem open_fls {fuel : Nat} {v : Value} {x : DataW H × List MemPlace} (hf : DataW.trod enc Tryd.prog W 0 (fun _ => true) true fuel 22 [v] = some x) :
    ∃ (A : Option Addr) (c : Nat) (Xs : List FE), v = .slice A Xs.length c ∧ FI W W.heap.size A Xs ∧ Xs.length ≤ c ∧ Xs.length ≤ 9223372036854775807 ∧ ∀ X ∈ Xs, FlOk X.f := by
  rcases open_slice Tryd.underlying22 hf with ⟨hcs, _⟩ | ⟨a, len, cap, m, n, D, Pl, hcs, _, hl, hmx, hmm, _, hi⟩
  · simp at hcs
    subst hcs
    exact ⟨none, 0, [], rfl, FI.nil _ _ _, Nat.le_refl _, by simp, fun _ h => by cases h⟩
  · simp at hcs
    subst hcs
    simp only [if_true] at hmm
    have each : ∀ i : Nat, ∃ X : FE, i < len → (∀ j u, (gF X)[j]? = some u → W.cell? (a.add (i * 11 + j)) = some u) ∧ PL W W.heap.size X.a X.f.m.props ∧ FlOk X.f := fun i => by
      by_cases h : i < len
      · obtain ⟨cs', hc, ht⟩ := hi i (by omega)
        rw [cellsFl] at hc
        obtain ⟨X, rfl, hp, hk⟩ := open_flc ht
        obtain ⟨_, _, hat⟩ := World.cells?_some hc
        refine ⟨X, fun _ => ⟨fun j u hj => ?_, hp, hk⟩⟩
        have hj3 : j < 11 := (List.getElem?_eq_some_iff.1 hj).1
        rw [← Go.Deep.add_add, hat j hj3, hj]
      · exact ⟨FE.zero, fun h' => absurd h' h⟩
    refine ⟨some a, cap, (List.range len).map fun i => Classical.choose (each i), by simp, ⟨fun h0 => ?_, fun X hX => ?_⟩, by simpa using hl, by simp; have := len_max hmx; omega, fun X hX => ?_⟩
    rotate_left
    · obtain ⟨i, hi', rfl⟩ := List.mem_map.1 hX
      exact (Classical.choose_spec (each i) (List.mem_range.1 hi')).2.1
    · obtain ⟨i, hi', rfl⟩ := List.mem_map.1 hX
      exact (Classical.choose_spec (each i) (List.mem_range.1 hi')).2.2
    simp at h0
    obtain ⟨b, o, rfl, hb⟩ := plain_addr (show W.cell? (a.add 0) = some _ from (Classical.choose_spec (each 0) (by omega)).1 0 _ rfl)
    refine ⟨b, o, rfl, hb, fun j X i v hX hv => ?_⟩
    rw [List.getElem?_map] at hX
    have hj : j < len := by
      rcases Nat.lt_or_ge j len with h | h
      · exact h
      · rw [List.getElem?_eq_none (by simpa using h)] at hX; cases hX
    rw [List.getElem?_range hj] at hX
    obtain rfl := Option.some.inj hX
    rw [Nat.add_assoc, add_plain]
    exact (Classical.choose_spec (each j) hj).1 i v hv
set_option maxRecDepth 100000 in
theorem open_numsW {v : Value} {fuel : Nat} {x : DataW H × List MemPlace}
    (hf : DataW.trod enc Tryd.prog W 0 (fun _ => true) true fuel 23 [v] = some x) :
    ∃ (A : Option Addr) (c : Nat) (X : List Int), v = .slice A X.length c ∧ S2.IL W W.heap.size A X ∧ X.length ≤ c ∧ X.length ≤ 9223372036854775807 ∧ ∀ x ∈ X, -9223372036854775808 ≤ x ∧ x ≤ 9223372036854775807 := by
  rcases open_ints Tryd.underlying23 Tryd.underlying3 cellsI64 hf with ⟨hcs, hx⟩ | ⟨a, len', cap', zs, hcs, _, hl, hm, hz, hx, hcell, hwf⟩
  · simp at hcs
    subst hcs
    exact ⟨none, 0, [], rfl, CL.nil _ _ _, Nat.le_refl _, by simp, fun x h => by cases h⟩
  · simp at hcs
    subst hcs
    simp only [if_true] at hz
    have hlen : (zs.take len').length = len' := by rw [List.length_take]; omega
    have hmm : cap' ≤ 9223372036854775807 := by unfold maxLen at hm; omega
    refine ⟨some a, cap', zs.take len', by rw [hlen], fun h0 => ?_, by omega, by omega, fun x hx => wf64 (hwf x (List.mem_of_mem_take hx))⟩
    rw [hlen] at h0
    obtain ⟨b, o, rfl, hb⟩ := plain_addr (hcell 0 (by omega))
    refine ⟨b, o, rfl, hb, fun j X hX => ?_⟩
    have hj : j < len' := by have := (List.getElem?_eq_some_iff.1 hX).1; omega
    rw [List.getElem?_take_of_lt hj] at hX
    rw [add_plain, hcell j (by omega), List.getD_eq_getElem?_getD, hX]
    rfl
set_option maxRecDepth 100000 in
theorem open_poolc {fuel : Nat} {cs : List Value} {x : DataW H × List MemPlace} (hf : DataW.trod enc Tryd.prog W 0 (fun _ => true) true fuel 25 cs = some x) :
    ∃ (A : Option Addr) (c : Nat) (X : List Int) (l : Int), cs = [.slice A X.length c, .int .i64 l] ∧ S2.IL W W.heap.size A X ∧ X.length ≤ c ∧ X.length ≤ 9223372036854775807 ∧ ∀ x ∈ X, -9223372036854775808 ≤ x ∧ x ≤ 9223372036854775807 := by
  obtain ⟨ys, n, _, _, hl, hyl, hfld⟩ := DataW.trod_struct Tryd.underlying25 hf
  rw [cellsPool] at hl
  match cs, hl with
  | [c0, c1], _ =>
    match ys, hyl with
    | [y0, y1], _ =>
      have g0 := hfld 0 _ rfl
      have g1 := hfld 1 _ rfl
      simp [cellsI64, cellsIntsW] at g0 g1
      obtain ⟨A, c, X, e0, h1, h2, h3, h4⟩ := open_numsW (show DataW.trod enc Tryd.prog W 0 (fun _ => true) true n 23 [c0] = some y0 from g0)
      obtain ⟨l, e1, _, _⟩ := DataW.trod_int Tryd.underlying3 (show DataW.trod enc Tryd.prog W 0 (fun _ => true) true n 3 [c1] = some y1 from g1)
      simp only [List.cons.injEq, and_true] at e1
      subst e0 e1
      exact ⟨A, c, X, l, rfl, h1, h2, h3, h4⟩
set_option maxRecDepth 100000 in
theorem open_win {r : Reach} {b0 : Nat} {v : Value} {d : DataW H} {p : List MemPlace} (hv : Value.okWide Tryd.prog W r b0 27 v)
    (h : DataW.Trod enc Tryd.prog W 0 (fun _ => true) true 27 v d p) : ∃ (L : Int) (A : Option Addr) (c : Nat) (xs : List FE) (A2 : Option Addr) (c2 : Nat) (X : List Int) (l : Int),
      v = wv L A c xs A2 c2 X l ∧ WOk W A c xs A2 c2 X ∧ X.length ≤ 9223372036854775807 ∧ xs.length ≤ 9223372036854775807 ∧ (∀ x ∈ xs, FlOk x.f) ∧ ∀ x ∈ X, -9223372036854775808 ≤ x ∧ x ≤ 9223372036854775807 := by
  obtain ⟨cs, rfl, hsz⟩ := okWide_struct Tryd.underlying27 hv
  obtain ⟨fuel, hf⟩ := h
  obtain ⟨l⟩ := cs
  have hl : l.length = 4 := by have := hsz.trans cellsWin; simpa using this
  match l, hl with
  | [c0, c1, c2, c3], _ =>
    obtain ⟨ys, n, _, _, _, hyl, hfld⟩ := DataW.trod_struct Tryd.underlying27 hf
    match ys, hyl with
    | [y0, y1, y2], _ =>
      have g0 := hfld 0 _ rfl
      have g1 := hfld 1 _ rfl
      have g2 := hfld 2 _ rfl
      simp [Value.cells, cellsI64, cellsFls, cellsPool] at g0 g1 g2
      obtain ⟨L, e0, _, _⟩ := DataW.trod_int Tryd.underlying3 (show DataW.trod _ _ _ _ _ _ _ 3 [c0] = some y0 from g0)
      obtain ⟨A, c, xs, e1, h1, h2, h3, h4⟩ := open_fls (show DataW.trod enc Tryd.prog W 0 (fun _ => true) true n 22 [c1] = some y1 from g1)
      obtain ⟨A2, c2', X, l2, e2, k1, k2, k3, k4⟩ := open_poolc (show DataW.trod enc Tryd.prog W 0 (fun _ => true) true n 25 [c2, c3] = some y2 from g2)
      simp only [List.cons.injEq, and_true] at e0 e2
      obtain ⟨e2, e3⟩ := e2
      subst e0 e1 e2 e3
      exact ⟨L, A, c, xs, A2, c2', X, l2, rfl, ⟨h1, h2, k1, k2⟩, k3, h3, h4, k4⟩
end
end Go.Proofs.YtjadinblfbhgaaaDoor
