/-
  Routes that came in by value, opened with the sizes of their lists and texts. Conditions: they read as data; the weights of what was read are bounded.
-/
import Derived.Test.YtglnkpgdmophlaaGreatDoorOpenMs
import Derived.Test.YtglnkpgdmophlaaGreatDoorEpD
namespace Go.Proofs.YtglnkpgdmophlaaGreatDoor
open Go.Joins Go.ChangeShapes Go.WideShapes Go.ChangeAt Go.WideMaps Go.WideElems Go.RowKit Go.Deep

theorem cellsEx : Tryz.prog.cellsOf 32 = 3 := by kernel_rfl
theorem cellsBd : Tryz.prog.cellsOf 35 = 5 := by kernel_rfl
theorem cellsRt : Tryz.prog.cellsOf 25 = 2 := by kernel_rfl
theorem cellsExs : Tryz.prog.cellsOf 22 = 1 := by kernel_rfl
theorem cellsBds : Tryz.prog.cellsOf 23 = 1 := by kernel_rfl
theorem bytesEx1 : 1 ≤ Tryz.prog.bytesOf 32 := by decide +kernel
theorem bytesBd1 : 1 ≤ Tryz.prog.bytesOf 35 := by decide +kernel
section
variable {H : Type} {enc : TypeId × Value → H} {W : World}
set_option maxRecDepth 100000 in
theorem open_exc {fuel : Nat} {cs : List Value} {x : DataW H × List MemPlace} (hl : cs.length = 3) (hf : DataW.trod enc Tryz.prog W 0 (fun _ => true) true fuel 32 cs = some x) :
    ∃ X : Ex, cs = gE X ∧ PL W W.heap.size none [] ∧ (WB 32 x.1 → SzX X) := by
  obtain ⟨ys, n, _, _, _, hyl, hfld⟩ := DataW.trod_struct Tryz.underlying32 hf
  match cs, hl with
  | [c0, c1, c2], _ =>
    match ys, hyl with
    | [y0, y1, y2], _ =>
      have g0 := hfld 0 _ rfl
      have g1 := hfld 1 _ rfl
      have g2 := hfld 2 _ rfl
      simp [cellsI64, cellsStr] at g0 g1 g2
      obtain ⟨v0, e0, _, z0⟩ := DataW.trod_string Tryz.underlying9 (show DataW.trod enc Tryz.prog W 0 (fun _ => true) true n 9 [c0] = some y0 from g0)
      obtain ⟨v1, e1, _, _⟩ := DataW.trod_int Tryz.underlying3 (show DataW.trod enc Tryz.prog W 0 (fun _ => true) true n 3 [c1] = some y1 from g1)
      obtain ⟨v2, e2, _, z2⟩ := DataW.trod_string Tryz.underlying9 (show DataW.trod enc Tryz.prog W 0 (fun _ => true) true n 9 [c2] = some y2 from g2)
      simp only [List.cons.injEq, and_true] at e0 e1 e2
      subst e0 e1 e2
      exact ⟨⟨v0, v1, v2⟩, rfl, GL.nil _ _ _, fun _ => ⟨len_max z0, len_max z2⟩⟩
set_option maxRecDepth 100000 in
theorem open_bdc {fuel : Nat} {cs : List Value} {x : DataW H × List MemPlace} (hl : cs.length = 5) (hf : DataW.trod enc Tryz.prog W 0 (fun _ => true) true fuel 35 cs = some x) :
    ∃ X : BE, cs = gB X ∧ PL W W.heap.size X.a (bps X) ∧ (WB 35 x.1 → X.d.ml.length ≤ 4398046511104 ∧ SzB X.d) := by
  obtain ⟨ys, n, _, hx, _, hyl, hfld⟩ := DataW.trod_struct Tryz.underlying35 hf
  match cs, hl with
  | [c0, c1, c2, c3, c4], _ =>
    match ys, hyl with
    | [y0, y1, y2, y3, y4], _ =>
      have g0 := hfld 0 _ rfl
      have g1 := hfld 1 _ rfl
      have g2 := hfld 2 _ rfl
      have g3 := hfld 3 _ rfl
      have g4 := hfld 4 _ rfl
      simp [cellsBool, cellsStr, cellsProps] at g0 g1 g2 g3 g4
      obtain ⟨v0, e0, _, z0⟩ := DataW.trod_string Tryz.underlying9 (show DataW.trod enc Tryz.prog W 0 (fun _ => true) true n 9 [c0] = some y0 from g0)
      obtain ⟨v1, e1, _, z1⟩ := DataW.trod_string Tryz.underlying9 (show DataW.trod enc Tryz.prog W 0 (fun _ => true) true n 9 [c1] = some y1 from g1)
      obtain ⟨v2, e2, _, _⟩ := DataW.trod_string Tryz.underlying9 (show DataW.trod enc Tryz.prog W 0 (fun _ => true) true n 9 [c2] = some y2 from g2)
      obtain ⟨v3, e3, _⟩ := DataW.trod_bool Tryz.underlying4 (show DataW.trod enc Tryz.prog W 0 (fun _ => true) true n 4 [c3] = some y3 from g3)
      obtain ⟨A4, p4, X4, e4, h4, t4⟩ := open_props2' (show DataW.trod enc Tryz.prog W 0 (fun _ => true) true n 33 [c4] = some y4 from g4)
      simp only [List.cons.injEq, and_true] at e0 e1 e2 e3
      subst e0 e1 e2 e3 e4 hx
      exact ⟨⟨⟨v0, v1, v2, v3, X4⟩, A4, p4⟩, rfl, h4, fun h => ⟨trod_len32 (show DataW.trod enc Tryz.prog W 0 (fun _ => true) true n 33 [_] = some y4 from g4) (WB.field Tryz.underlying35 h (j := 4) rfl rfl), len_max z0, len_max z1, t4⟩⟩
theorem slice_shape {t e : TypeId} (hu : Tryz.prog.underlying t = some (.slice e)) {v : Value} {fuel : Nat} {x : DataW H × List MemPlace} (hf : DataW.trod enc Tryz.prog W 0 (fun _ => true) true fuel t [v] = some x) : ∃ a n c, v = .slice a n c := by
  rcases open_slice hu hf with ⟨hcs, _⟩ | ⟨a, len, cap, m, n, D, Pl, hcs, _⟩
  · simp at hcs; exact ⟨_, _, _, hcs⟩
  · simp at hcs; exact ⟨_, _, _, hcs⟩
set_option maxRecDepth 100000 in
theorem open_rts {r : Reach} {b0 : Nat} {v : Value} {d : DataW H} {p : List MemPlace} (hv : Value.okWide Tryz.prog W r b0 25 v)
    (h : DataW.Trod enc Tryz.prog W 0 (fun _ => true) true 25 v d p) : ∃ (A1 : Option Addr) (c1 : Nat) (l : List Ex) (A2 : Option Addr) (c2 : Nat) (xs : List BE), v = rtV A1 l.length c1 A2 xs.length c2 ∧ EL W W.heap.size A1 l ∧ l.length ≤ c1 ∧ BI W W.heap.size A2 xs ∧ xs.length ≤ c2 ∧
      (WB 25 d → (l.length ≤ 140737488355328 ∧ ∀ X ∈ l, SzX X) ∧ (xs.length ≤ 140737488355328 ∧ ∀ X ∈ xs, X.d.ml.length ≤ 4398046511104 ∧ SzB X.d)) := by
  obtain ⟨cs, rfl, hsz⟩ := okWide_struct Tryz.underlying25 hv
  obtain ⟨fuel, hf⟩ := h
  obtain ⟨l⟩ := cs
  have hl : l.length = 2 := by have := hsz.trans cellsRt; simpa using this
  match l, hl with
  | [c0, c1], _ =>
    obtain ⟨ys, n, _, hx, _, hyl, hfld⟩ := DataW.trod_struct Tryz.underlying25 hf
    match ys, hyl with
    | [y0, y1], _ =>
      have g0 := hfld 0 _ rfl
      have g1 := hfld 1 _ rfl
      simp [Value.cells, cellsExs, cellsBds] at g0 g1
      obtain ⟨a0, n0, k0, e0⟩ := slice_shape Tryz.underlying22 (show DataW.trod enc Tryz.prog W 0 (fun _ => true) true n 22 [c0] = some y0 from g0)
      obtain ⟨a1, n1, k1, e1⟩ := slice_shape Tryz.underlying23 (show DataW.trod enc Tryz.prog W 0 (fun _ => true) true n 23 [c1] = some y1 from g1)
      subst e0 e1
      obtain ⟨Xs, hl0, hx0, hc0, w0⟩ := open_listx (g := gE) (k := 3) (ad := fun _ => none) (ps := fun _ => []) (PW := SzX) (by decide) gE_len Ex.zero Tryz.underlying22 cellsEx bytesEx1 (fun hl ht => open_exc hl ht) (show DataW.trod enc Tryz.prog W 0 (fun _ => true) true n 22 [.slice a0 n0 k0] = some y0 from g0)
      obtain ⟨Ys, hl1, hx1, hc1, w1⟩ := open_listx (g := gB) (k := 5) (ad := BE.a) (ps := bps) (PW := fun X => X.d.ml.length ≤ 4398046511104 ∧ SzB X.d) (by decide) gB_len BE.zero Tryz.underlying23 cellsBd bytesBd1 (fun hl ht => open_bdc hl ht) (show DataW.trod enc Tryz.prog W 0 (fun _ => true) true n 23 [.slice a1 n1 k1] = some y1 from g1)
      subst hl0 hl1
      have hd : d = .agg [y0.1, y1.1] := by have := congrArg Prod.fst hx; simpa using this
      exact ⟨a0, k0, Xs, a1, k1, Ys, rfl, hx0.1, hc0, hx1, hc1, fun hw => ⟨w0 (WB.field Tryz.underlying25 (hd ▸ hw) (j := 0) rfl rfl), w1 (WB.field Tryz.underlying25 (hd ▸ hw) (j := 1) rfl rfl)⟩⟩
end
end Go.Proofs.YtglnkpgdmophlaaGreatDoor
