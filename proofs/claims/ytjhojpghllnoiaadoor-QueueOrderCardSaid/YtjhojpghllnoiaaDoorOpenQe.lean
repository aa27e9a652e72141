/-
  A queue that came in by value, opened with the sizes of its entries. Conditions: it reads as data; the weights of what was read are bounded.
-/
import Derived.Test.YtjhojpghllnoiaaDoorOpenQu
import Derived.Test.YtjhojpghllnoiaaDoorQaH
namespace Go.Proofs.YtjhojpghllnoiaaDoor
open Go.Joins Go.ChangeShapes Go.WideShapes Go.ChangeAt Go.WideMaps Go.WideElems Go.RowKit Go.Deep

theorem cellsQu : Tryd.prog.cellsOf 26 = 7 := by kernel_rfl
theorem cellsEs : Tryd.prog.cellsOf 24 = 1 := by kernel_rfl
theorem bytesEn1 : 1 ≤ Tryd.prog.bytesOf 34 := by decide +kernel
/-- an entry's texts fit, and it has few properties -/
def EnZ (x : EE) : Prop := (x.x.m.topic.size ≤ 9223372036854775807 ∧ x.x.m.frm.size ≤ 9223372036854775807 ∧ ∀ y ∈ x.x.m.props, y.1.size ≤ 9223372036854775807) ∧ x.x.m.props.length ≤ 4398046511104
section
variable {H : Type} {enc : TypeId × Value → H} {W : World}
theorem slice_shape {t e : TypeId} (hu : Tryd.prog.underlying t = some (.slice e)) {v : Value} {fuel : Nat} {x : DataW H × List MemPlace} (hf : DataW.trod enc Tryd.prog W 0 (fun _ => true) true fuel t [v] = some x) : ∃ a n c, v = .slice a n c := by
  rcases open_slice hu hf with ⟨hcs, _⟩ | ⟨a, len, cap, m, n, D, Pl, hcs, _⟩
  · simp at hcs; exact ⟨_, _, _, hcs⟩
  · simp at hcs; exact ⟨_, _, _, hcs⟩
set_option maxRecDepth 100000 in
theorem open_spcx {fuel : Nat} {cs : List Value} {x : DataW H × List MemPlace} (hl : cs.length = 5) (hf : DataW.trod enc Tryd.prog W 0 (fun _ => true) true fuel 23 cs = some x) :
    ∃ s : Sp, cs = spC s ∧ (s.name.size ≤ 9223372036854775807 ∧ s.dead.size ≤ 9223372036854775807) := by
  match cs, hl with
  | [c0, c1, c2, c3, c4], _ =>
    obtain ⟨ys, n, _, hx, _, hyl, hfld⟩ := DataW.trod_struct Tryd.underlying23 hf
    match ys, hyl with
    | [y0, y1, y2, y3, y4], _ =>
      have g0 := hfld 0 _ rfl
      have g1 := hfld 1 _ rfl
      have g2 := hfld 2 _ rfl
      have g3 := hfld 3 _ rfl
      have g4 := hfld 4 _ rfl
      simp [cellsI64, cellsStr] at g0 g1 g2 g3 g4
      obtain ⟨v0, e0, _, z0⟩ := DataW.trod_string Tryd.underlying9 (show DataW.trod enc Tryd.prog W 0 (fun _ => true) true n 9 [c0] = some y0 from g0)
      obtain ⟨v1, e1, _, _⟩ := DataW.trod_int Tryd.underlying3 (show DataW.trod enc Tryd.prog W 0 (fun _ => true) true n 3 [c1] = some y1 from g1)
      obtain ⟨v2, e2, _, _⟩ := DataW.trod_int Tryd.underlying3 (show DataW.trod enc Tryd.prog W 0 (fun _ => true) true n 3 [c2] = some y2 from g2)
      obtain ⟨v3, e3, _, _⟩ := DataW.trod_int Tryd.underlying3 (show DataW.trod enc Tryd.prog W 0 (fun _ => true) true n 3 [c3] = some y3 from g3)
      obtain ⟨v4, e4, _, z4⟩ := DataW.trod_string Tryd.underlying9 (show DataW.trod enc Tryd.prog W 0 (fun _ => true) true n 9 [c4] = some y4 from g4)
      simp only [List.cons.injEq, and_true] at e0 e1 e2 e3 e4
      subst e0 e1 e2 e3 e4
      exact ⟨⟨v0, v1, v2, v3, v4⟩, rfl, len_max z0, len_max z4⟩
set_option maxRecDepth 100000 in
theorem open_encx {fuel : Nat} {cs : List Value} {x : DataW H × List MemPlace} (hl : cs.length = 12) (hf : DataW.trod enc Tryd.prog W 0 (fun _ => true) true fuel 34 cs = some x) :
    ∃ X : EE, cs = gE X ∧ PL W W.heap.size X.a (eps X) ∧ (WB 34 x.1 → EnZ X) := by
  match cs, hl with
  | [c0, c1, c2, c3, c4, c5, c6, c7, c8, c9, c10, c11], _ =>
    obtain ⟨ys, n, _, hx, _, hyl, hfld⟩ := DataW.trod_struct Tryd.underlying34 hf
    match ys, hyl with
    | [y0, y1, y2, y3], _ =>
      have g0 := hfld 0 _ rfl
      have g1 := hfld 1 _ rfl
      have g2 := hfld 2 _ rfl
      have g3 := hfld 3 _ rfl
      simp [cellsI64, cellsMsg] at g0 g1 g2 g3
      obtain ⟨v0, e0, _, _⟩ := DataW.trod_int Tryd.underlying3 (show DataW.trod enc Tryd.prog W 0 (fun _ => true) true n 3 [c0] = some y0 from g0)
      obtain ⟨v1, e1, _, _⟩ := DataW.trod_int Tryd.underlying3 (show DataW.trod enc Tryd.prog W 0 (fun _ => true) true n 3 [c1] = some y1 from g1)
      obtain ⟨v2, e2, _, _⟩ := DataW.trod_int Tryd.underlying3 (show DataW.trod enc Tryd.prog W 0 (fun _ => true) true n 3 [c2] = some y2 from g2)
      obtain ⟨m, A, c, e3, h3, t3, u3⟩ := open_msgcx (show DataW.trod enc Tryd.prog W 0 (fun _ => true) true n 32 [c3, c4, c5, c6, c7, c8, c9, c10, c11] = some y3 from g3)
      simp only [List.cons.injEq, and_true] at e0 e1 e2
      subst e0 e1 e2 hx
      refine ⟨⟨⟨v0, v1, v2, m⟩, A, c⟩, ?_, h3, fun hw => ⟨t3, (u3 (WB.field Tryd.underlying34 hw (j := 3) rfl rfl)).1⟩⟩
      show [Value.int .i64 v0, Value.int .i64 v1, Value.int .i64 v2] ++ [c3, c4, c5, c6, c7, c8, c9, c10, c11] = _
      rw [e3]; rfl
theorem open_ensx {fuel : Nat} {a0 : Option Addr} {len cap : Nat} {x : DataW H × List MemPlace} (hf : DataW.trod enc Tryd.prog W 0 (fun _ => true) true fuel 24 [.slice a0 len cap] = some x) :
    ∃ Xs : List EE, Xs.length = len ∧ EI W W.heap.size a0 Xs ∧ len ≤ cap ∧ (WB 24 x.1 → len ≤ 140737488355328 ∧ ∀ X ∈ Xs, EnZ X) :=
  open_listx (by decide) gE_len ⟨En.zero, none, 0⟩ Tryd.underlying24 cellsEn bytesEn1 (fun hl ht => open_encx hl ht) hf
set_option maxRecDepth 100000 in
theorem open_qux {r : Reach} {b0 : Nat} {v : Value} {d : DataW H} {p : List MemPlace} (hv : Value.okWide Tryd.prog W r b0 26 v)
    (h : DataW.Trod enc Tryd.prog W 0 (fun _ => true) true 26 v d p) : ∃ (s : Sp) (n : Int) (A : Option Addr) (c : Nat) (xs : List EE), v = quV s n (.slice A xs.length c) ∧ (s.name.size ≤ 9223372036854775807 ∧ s.dead.size ≤ 9223372036854775807) ∧ EI W W.heap.size A xs ∧ xs.length ≤ c ∧ (WB 26 d → xs.length ≤ 140737488355328 ∧ ∀ x ∈ xs, EnZ x) := by
  obtain ⟨cs, rfl, hsz⟩ := okWide_struct Tryd.underlying26 hv
  obtain ⟨fuel, hf⟩ := h
  obtain ⟨l⟩ := cs
  have hl : l.length = 7 := by have := hsz.trans cellsQu; simpa using this
  match l, hl with
  | [c0, c1, c2, c3, c4, c5, c6], _ =>
    obtain ⟨ys, n, _, hx, _, hyl, hfld⟩ := DataW.trod_struct Tryd.underlying26 hf
    match ys, hyl with
    | [y0, y1, y2], _ =>
      have g0 := hfld 0 _ rfl
      have g1 := hfld 1 _ rfl
      have g2 := hfld 2 _ rfl
      simp [Value.cells, cellsI64, cellsSp, cellsEs] at g0 g1 g2
      obtain ⟨s, e0, z0⟩ := open_spcx (by rfl) (show DataW.trod enc Tryd.prog W 0 (fun _ => true) true n 23 [c0, c1, c2, c3, c4] = some y0 from g0)
      obtain ⟨v1, e1, _, _⟩ := DataW.trod_int Tryd.underlying3 (show DataW.trod enc Tryd.prog W 0 (fun _ => true) true n 3 [c5] = some y1 from g1)
      obtain ⟨A, len, cap, e2⟩ := slice_shape Tryd.underlying24 (show DataW.trod enc Tryd.prog W 0 (fun _ => true) true n 24 [c6] = some y2 from g2)
      subst e2
      obtain ⟨Xs, hXl, hX, hc, hw⟩ := open_ensx (show DataW.trod enc Tryd.prog W 0 (fun _ => true) true n 24 [.slice A len cap] = some y2 from g2)
      simp only [List.cons.injEq, and_true] at e1 e0
      obtain ⟨rfl, rfl, rfl, rfl, rfl⟩ := e0
      subst e1 hXl
      refine ⟨s, v1, A, cap, Xs, rfl, z0, hX, hc, fun h => hw ?_⟩
      have hx1 : d = .agg (([y0, y1, y2].map Prod.fst)) := congrArg Prod.fst hx
      subst hx1
      exact WB.field Tryd.underlying26 h (j := 2) rfl rfl
end
end Go.Proofs.YtjhojpghllnoiaaDoor
