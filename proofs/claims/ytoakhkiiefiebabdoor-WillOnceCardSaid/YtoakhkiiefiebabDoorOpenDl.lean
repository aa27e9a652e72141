/-
  A will by value, and lists of wills that wait, that came in, opened with the sizes of their texts and lists. Conditions: they read as data; the weights of what was read are bounded.
-/
import Derived.Test.YtoakhkiiefiebabDoorOpenMs
import Derived.Test.YtoakhkiiefiebabDoorDh
namespace Go.Proofs.YtoakhkiiefiebabDoor
open Go.Joins Go.ChangeShapes Go.WideShapes Go.ChangeAt Go.WideMaps Go.WideElems Go.RowKit Go.Deep

theorem cellsWi : Tryd.prog.cellsOf 29 = 11 := by kernel_rfl
theorem cellsDue : Tryd.prog.cellsOf 45 = 11 := by kernel_rfl
theorem bytesDue1 : 1 ≤ Tryd.prog.bytesOf 45 := by decide +kernel
section
variable {H : Type} {enc : TypeId × Value → H} {W : World}
set_option maxRecDepth 100000 in
theorem open_willx {r : Reach} {b0 : Nat} {v : Value} {d : DataW H} {p : List MemPlace} (hv : Value.okWide Tryd.prog W r b0 29 v)
    (h : DataW.Trod enc Tryd.prog W 0 (fun _ => true) true 29 v d p) : ∃ (s : Bool) (k : Int) (m : Msg) (A : Option Addr) (c : Nat), v = wiV s k m A c ∧ PL W W.heap.size A m.props ∧ (WB 29 d → MTz m) := by
  obtain ⟨cs, rfl, hsz⟩ := okWide_struct Tryd.underlying29 hv
  obtain ⟨fuel, hf⟩ := h
  obtain ⟨l⟩ := cs
  have hl : l.length = 11 := by have := hsz.trans cellsWi; simpa using this
  match l, hl with
  | [c0, c1, c2, c3, c4, c5, c6, c7, c8, c9, c10], _ =>
    obtain ⟨ys, n, _, hx, _, hyl, hfld⟩ := DataW.trod_struct Tryd.underlying29 hf
    match ys, hyl with
    | [y0, y1, y2], _ =>
      have g0 := hfld 0 _ rfl
      have g1 := hfld 1 _ rfl
      have g2 := hfld 2 _ rfl
      simp [Value.cells, cellsI64, cellsBool, cellsMsg] at g0 g1 g2
      obtain ⟨v0, e0, _⟩ := DataW.trod_bool Tryd.underlying4 (show DataW.trod enc Tryd.prog W 0 (fun _ => true) true n 4 [c0] = some y0 from g0)
      obtain ⟨v1, e1, _, _⟩ := DataW.trod_int Tryd.underlying3 (show DataW.trod enc Tryd.prog W 0 (fun _ => true) true n 3 [c1] = some y1 from g1)
      obtain ⟨m, A, c, e2, h2, t2, u2⟩ := open_msgcx (show DataW.trod enc Tryd.prog W 0 (fun _ => true) true n 27 [c2, c3, c4, c5, c6, c7, c8, c9, c10] = some y2 from g2)
      simp only [List.cons.injEq, and_true] at e0 e1
      have hd : d = .agg [y0.1, y1.1, y2.1] := by have := congrArg Prod.fst hx; simpa using this
      subst e0 e1
      refine ⟨v0, v1, m, A, c, ?_, h2, fun hw => ⟨(u2 (WB.field Tryd.underlying29 (hd ▸ hw) (j := 2) rfl rfl)).1, t2⟩⟩
      have : [c2, c3, c4, c5, c6, c7, c8, c9, c10] = msgC m A c := e2
      show Value.agg ([Value.bool v0, Value.int .i64 v1] ++ [c2, c3, c4, c5, c6, c7, c8, c9, c10]).toArray = _
      rw [this]; rfl
set_option maxRecDepth 100000 in
theorem open_duecx {fuel : Nat} {cs : List Value} {x : DataW H × List MemPlace} (hl : cs.length = 11) (hf : DataW.trod enc Tryd.prog W 0 (fun _ => true) true fuel 45 cs = some x) :
    ∃ X : DE, cs = gD X ∧ PL W W.heap.size X.a (dps X) ∧ (WB 45 x.1 → MTz X.d.m ∧ X.d.cl.size ≤ 140737488355328) := by
  obtain ⟨ys, n, _, hx, _, hyl, hfld⟩ := DataW.trod_struct Tryd.underlying45 hf
  match cs, hl with
  | [c0, c1, c2, c3, c4, c5, c6, c7, c8, c9, c10], _ =>
    match ys, hyl with
    | [y0, y1, y2], _ =>
      have g0 := hfld 0 _ rfl
      have g1 := hfld 1 _ rfl
      have g2 := hfld 2 _ rfl
      simp [cellsI64, cellsStr, cellsMsg] at g0 g1 g2
      obtain ⟨v0, e0, r0, _⟩ := DataW.trod_string Tryd.underlying9 (show DataW.trod enc Tryd.prog W 0 (fun _ => true) true n 9 [c0] = some y0 from g0)
      obtain ⟨v1, e1, _, _⟩ := DataW.trod_int Tryd.underlying3 (show DataW.trod enc Tryd.prog W 0 (fun _ => true) true n 3 [c1] = some y1 from g1)
      obtain ⟨m, A, c, e2, h2, t2, u2⟩ := open_msgcx (show DataW.trod enc Tryd.prog W 0 (fun _ => true) true n 27 [c2, c3, c4, c5, c6, c7, c8, c9, c10] = some y2 from g2)
      simp only [List.cons.injEq, and_true] at e0 e1
      subst e0 e1 hx
      exact ⟨⟨⟨v0, v1, m⟩, A, c⟩, by show [Value.string v0, Value.int .i64 v1] ++ [c2, c3, c4, c5, c6, c7, c8, c9, c10] = _; rw [e2]; rfl, h2, fun hw => ⟨⟨(u2 (WB.field Tryd.underlying45 hw (j := 2) rfl rfl)).1, t2⟩, WB.text (H := H) (t := 9) (by have h2 := WB.field Tryd.underlying45 hw (j := 0) rfl rfl; rwa [r0] at h2)⟩⟩
theorem open_duesx {fuel : Nat} {a0 : Option Addr} {len cap : Nat} {x : DataW H × List MemPlace} (hf : DataW.trod enc Tryd.prog W 0 (fun _ => true) true fuel 23 [.slice a0 len cap] = some x) :
    ∃ Xs : List DE, Xs.length = len ∧ DI W W.heap.size a0 Xs ∧ len ≤ cap ∧ (WB 23 x.1 → len ≤ 140737488355328 ∧ ∀ X ∈ Xs, MTz X.d.m ∧ X.d.cl.size ≤ 140737488355328) :=
  open_listx (by decide) gD_len DE.zero Tryd.underlying23 cellsDue bytesDue1 (fun hl ht => open_duecx hl ht) hf
end
end Go.Proofs.YtoakhkiiefiebabDoor
