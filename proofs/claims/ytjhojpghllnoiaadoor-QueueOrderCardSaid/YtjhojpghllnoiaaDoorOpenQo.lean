/-
  Calls of brokerlaw25 that came in, one by value and a list of them, opened with the sizes of their texts. Conditions: they read as data; the weights of what was read are bounded.
-/
import Derived.Test.YtjhojpghllnoiaaDoorOpenQe
import Derived.Test.YtjhojpghllnoiaaDoorQaV
namespace Go.Proofs.YtjhojpghllnoiaaDoor
open Go.Joins Go.ChangeShapes Go.WideShapes Go.ChangeAt Go.WideMaps Go.WideElems Go.RowKit Go.Deep

theorem cellsOq : Tryd.prog.cellsOf 36 = 24 := by kernel_rfl
theorem bytesOq : 1 ≤ Tryd.prog.bytesOf 36 := by decide +kernel
/-- a message's texts fit, and it has few properties -/
def MgZ (m : Msg) : Prop := (m.topic.size ≤ 9223372036854775807 ∧ m.frm.size ≤ 9223372036854775807 ∧ ∀ y ∈ m.props, y.1.size ≤ 9223372036854775807) ∧ m.props.length ≤ 4398046511104
section
variable {H : Type} {enc : TypeId × Value → H} {W : World}
set_option maxRecDepth 100000 in
theorem open_oqc {fuel : Nat} {cs : List Value} {x : DataW H × List MemPlace} (hl : cs.length = 24) (hf : DataW.trod enc Tryd.prog W 0 (fun _ => true) true fuel 36 cs = some x) :
    ∃ X : OQ, cs = gO X ∧ PL W W.heap.size X.ma (omp X) ∧ (WB 36 x.1 → PL W W.heap.size X.xa X.x.m.props ∧ MgZ X.m ∧ MgZ X.x.m) := by
  match cs, hl with
  | [c0, c1, c2, c3, c4, c5, c6, c7, c8, c9, c10, c11, c12, c13, c14, c15, c16, c17, c18, c19, c20, c21, c22, c23], _ =>
    obtain ⟨ys, n, _, hx, _, hyl, hfld⟩ := DataW.trod_struct Tryd.underlying36 hf
    match ys, hyl with
    | [y0, y1, y2, y3, y4], _ =>
      have g0 := hfld 0 _ rfl
      have g1 := hfld 1 _ rfl
      have g2 := hfld 2 _ rfl
      have g3 := hfld 3 _ rfl
      have g4 := hfld 4 _ rfl
      simp [cellsI64, cellsMsg, cellsEn] at g0 g1 g2 g3 g4
      obtain ⟨v0, e0, _, _⟩ := DataW.trod_int Tryd.underlying3 (show DataW.trod enc Tryd.prog W 0 (fun _ => true) true n 3 [c0] = some y0 from g0)
      obtain ⟨v1, e1, _, _⟩ := DataW.trod_int Tryd.underlying3 (show DataW.trod enc Tryd.prog W 0 (fun _ => true) true n 3 [c1] = some y1 from g1)
      obtain ⟨v2, e2, _, _⟩ := DataW.trod_int Tryd.underlying3 (show DataW.trod enc Tryd.prog W 0 (fun _ => true) true n 3 [c2] = some y2 from g2)
      obtain ⟨m, A, c, e3, h3, t3, u3⟩ := open_msgcx (show DataW.trod enc Tryd.prog W 0 (fun _ => true) true n 32 [c3, c4, c5, c6, c7, c8, c9, c10, c11] = some y3 from g3)
      obtain ⟨X4, e4, h4, u4⟩ := open_encx (by rfl) (show DataW.trod enc Tryd.prog W 0 (fun _ => true) true n 34 [c12, c13, c14, c15, c16, c17, c18, c19, c20, c21, c22, c23] = some y4 from g4)
      simp only [List.cons.injEq, and_true] at e0 e1 e2
      subst e0 e1 e2 hx
      refine ⟨⟨v0, v1, v2, m, A, c, X4.x, X4.a, X4.c⟩, ?_, h3, fun hw => ⟨h4, ⟨t3, (u3 (WB.field Tryd.underlying36 hw (j := 3) rfl rfl)).1⟩, u4 (WB.field Tryd.underlying36 hw (j := 4) rfl rfl)⟩⟩
      show [Value.int .i64 v0, Value.int .i64 v1, Value.int .i64 v2] ++ ([c3, c4, c5, c6, c7, c8, c9, c10, c11] ++ [c12, c13, c14, c15, c16, c17, c18, c19, c20, c21, c22, c23]) = _
      rw [e3, e4]; rfl
set_option maxRecDepth 100000 in
theorem open_oqs {fuel : Nat} {a0 : Option Addr} {len cap : Nat} {x : DataW H × List MemPlace} (hf : DataW.trod enc Tryd.prog W 0 (fun _ => true) true fuel 27 [.slice a0 len cap] = some x) :
    ∃ Xs : List OQ, Xs.length = len ∧ OI W W.heap.size a0 Xs ∧ len ≤ cap ∧ (WB 27 x.1 → len ≤ 140737488355328 ∧ ∀ X ∈ Xs, PL W W.heap.size X.xa X.x.m.props ∧ MgZ X.m ∧ MgZ X.x.m) :=
  open_listx (g := gO) (k := 24) (ad := OQ.ma) (ps := omp) (PW := fun X => PL W W.heap.size X.xa X.x.m.props ∧ MgZ X.m ∧ MgZ X.x.m) (by decide) gO_len OQ.zero Tryd.underlying27 cellsOq bytesOq (fun hl ht => open_oqc hl ht) hf
set_option maxRecDepth 100000 in
theorem open_oqx {r : Reach} {b0 : Nat} {v : Value} {d : DataW H} {p : List MemPlace} (hv : Value.okWide Tryd.prog W r b0 36 v)
    (h : DataW.Trod enc Tryd.prog W 0 (fun _ => true) true 36 v d p) : ∃ X : OQ, v = .agg (gO X).toArray ∧ PL W W.heap.size X.ma (omp X) ∧ (WB 36 d → PL W W.heap.size X.xa X.x.m.props ∧ MgZ X.m ∧ MgZ X.x.m) := by
  obtain ⟨cs, rfl, hsz⟩ := okWide_struct Tryd.underlying36 hv
  obtain ⟨fuel, hf⟩ := h
  obtain ⟨l⟩ := cs
  have hl : l.length = 24 := by have := hsz.trans cellsOq; simpa using this
  obtain ⟨X, rfl, h1, h2⟩ := open_oqc hl hf
  exact ⟨X, rfl, h1, h2⟩
end
end Go.Proofs.YtjhojpghllnoiaaDoor
