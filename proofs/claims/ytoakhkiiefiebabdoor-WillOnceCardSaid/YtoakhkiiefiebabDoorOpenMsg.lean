/-
  A message that came in by value, and bytes that came in, opened for the walks. Conditions: it reads as data.
-/
import Derived.Test.YtoakhkiiefiebabDoorOpenQ
import Derived.Lib.SmallJoins
namespace Go.Proofs.YtoakhkiiefiebabDoor
open Go.Joins Go.ChangeShapes Go.WideShapes Go.ChangeAt Go.WideMaps Go.WideElems Go.RowKit Go.Deep

theorem cellsMsg : Tryd.prog.cellsOf 27 = 9 := by kernel_rfl
theorem cellsI64 : Tryd.prog.cellsOf 3 = 1 := by kernel_rfl
theorem cellsBool : Tryd.prog.cellsOf 4 = 1 := by kernel_rfl
theorem cellsProps : Tryd.prog.cellsOf 25 = 1 := by kernel_rfl
theorem wf64 {n : Int} (h : (Lit.int .i64 n).wf = true) : -9223372036854775808 ≤ n ∧ n ≤ 9223372036854775807 := by
  have h1 : IntKind.i64.min = -9223372036854775808 := rfl
  have h2 : IntKind.i64.max = 9223372036854775807 := rfl
  simp only [Lit.wf, Bool.and_eq_true, decide_eq_true_eq] at h
  omega
set_option maxRecDepth 100000 in
theorem open_props' {H : Type} {enc : TypeId × Value → H} {W : World} {v : Value} {fuel : Nat} {x : DataW H × List MemPlace}
    (hf : DataW.trod enc Tryd.prog W 0 (fun _ => true) true fuel 25 [v] = some x) :
    ∃ (A : Option Addr) (c : Nat) (Xs : List PR), v = .slice A Xs.length c ∧ PL W W.heap.size A Xs := by
  have h2 := hf
  rcases Go.Deep.open_slice_pairs Tryd.underlying25 Tryd.underlying66 cellsProp rfl rfl cellsStr cellsStr h2 with ⟨hcs, _⟩ | ⟨a, len, cap, m, n, V0, V1, D0, D1, P0, P1, hcs, _⟩
  · simp at hcs
    subst hcs
    exact ⟨none, 0, [], rfl, GL.nil _ _ _⟩
  · simp at hcs
    subst hcs
    obtain ⟨Xs, rfl, hp, _⟩ := open_props hf
    exact ⟨_, _, Xs, rfl, hp⟩
set_option maxRecDepth 100000 in
theorem open_msg {H : Type} {enc : TypeId × Value → H} {W : World} {r : Reach} {b0 : Nat} {v : Value} {d : DataW H} {p : List MemPlace} (hv : Value.okWide Tryd.prog W r b0 27 v)
    (h : DataW.Trod enc Tryd.prog W 0 (fun _ => true) true 27 v d p) : ∃ (m : Msg) (A : Option Addr) (c : Nat), v = msgV m A c ∧ m.fits ∧ PL W W.heap.size A m.props := by
  obtain ⟨cs, rfl, hsz⟩ := okWide_struct Tryd.underlying27 hv
  obtain ⟨fuel, hf⟩ := h
  obtain ⟨l⟩ := cs
  have hl : l.length = 9 := by have := hsz.trans cellsMsg; simpa using this
  match l, hl with
  | [c0, c1, c2, c3, c4, c5, c6, c7, c8], _ =>
    obtain ⟨ys, n, _, _, _, hyl, hfld⟩ := DataW.trod_struct Tryd.underlying27 hf
    match ys, hyl with
    | [y0, y1, y2, y3, y4, y5, y6, y7, y8], _ =>
      have g0 := hfld 0 _ rfl
      have g1 := hfld 1 _ rfl
      have g2 := hfld 2 _ rfl
      have g3 := hfld 3 _ rfl
      have g4 := hfld 4 _ rfl
      have g5 := hfld 5 _ rfl
      have g6 := hfld 6 _ rfl
      have g7 := hfld 7 _ rfl
      have g8 := hfld 8 _ rfl
      simp [Value.cells, cellsStr, cellsI64, cellsBool, cellsProps] at g0 g1 g2 g3 g4 g5 g6 g7 g8
      obtain ⟨s0, e0, _⟩ := DataW.trod_string Tryd.underlying9 (show DataW.trod _ _ _ _ _ _ _ 9 [c0] = some y0 from g0)
      obtain ⟨s1, e1, _⟩ := DataW.trod_string Tryd.underlying9 (show DataW.trod _ _ _ _ _ _ _ 9 [c1] = some y1 from g1)
      obtain ⟨n2, e2, _, w2⟩ := DataW.trod_int Tryd.underlying3 (show DataW.trod _ _ _ _ _ _ _ 3 [c2] = some y2 from g2)
      obtain ⟨b3, e3, _⟩ := DataW.trod_bool Tryd.underlying4 (show DataW.trod _ _ _ _ _ _ _ 4 [c3] = some y3 from g3)
      obtain ⟨n4, e4, _, w4⟩ := DataW.trod_int Tryd.underlying3 (show DataW.trod _ _ _ _ _ _ _ 3 [c4] = some y4 from g4)
      obtain ⟨n5, e5, _, w5⟩ := DataW.trod_int Tryd.underlying3 (show DataW.trod _ _ _ _ _ _ _ 3 [c5] = some y5 from g5)
      obtain ⟨s6, e6, _⟩ := DataW.trod_string Tryd.underlying9 (show DataW.trod _ _ _ _ _ _ _ 9 [c6] = some y6 from g6)
      obtain ⟨n7, e7, _, w7⟩ := DataW.trod_int Tryd.underlying3 (show DataW.trod _ _ _ _ _ _ _ 3 [c7] = some y7 from g7)
      obtain ⟨A, c, Xs, e8, hp⟩ := open_props' (show DataW.trod enc Tryd.prog W 0 (fun _ => true) true n 25 [c8] = some y8 from g8)
      simp only [List.cons.injEq, and_true] at e0 e1 e2 e3 e4 e5 e6 e7
      subst e0 e1 e2 e3 e4 e5 e6 e7 e8
      exact ⟨⟨s0, s1, n2, b3, n4, n5, s6, n7, Xs⟩, A, c, rfl, ⟨wf64 w2, wf64 w4, wf64 w5, wf64 w7⟩, hp⟩

/-! ### Bytes -/
theorem cellsU8 : Tryd.prog.cellsOf 5 = 1 := by kernel_rfl
theorem bytesU8 : Tryd.prog.bytesOf 5 = 1 := by kernel_rfl
theorem u8_wf {n : Int} (h : (Lit.int .u8 n).wf = true) : 0 ≤ n ∧ n < 256 := by
  have h1 : IntKind.u8.min = 0 := rfl
  have h2 : IntKind.u8.max = 255 := rfl
  simp only [Lit.wf, Bool.and_eq_true, decide_eq_true_eq] at h
  omega
end Go.Proofs.YtoakhkiiefiebabDoor
