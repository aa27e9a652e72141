/-
  A message, and a list of messages, that came in, opened with the sizes of their texts and lists. Conditions: they read as data; the weights of what was read are bounded.
-/
import Derived.Test.YtoakhkiiefiebabDoorOpenMsg2
import Derived.Test.YtoakhkiiefiebabDoorLe
import Derived.SizedLaws
import Derived.Deep.Slices
namespace Go.Proofs.YtoakhkiiefiebabDoor
open Go.Joins Go.ChangeShapes Go.WideShapes Go.ChangeAt Go.WideMaps Go.WideElems Go.RowKit Go.Deep

/-- the weights of what was read are bounded -/
def WB {H : Type} (t : TypeId) (d : DataW H) : Prop := ∀ n ∈ d.weights Tryd.prog t, n ≤ 140737488355328
theorem WB.field {H : Type} {t : TypeId} {fs : Array Field} {parts : List (DataW H)} (hu : Tryd.prog.underlying t = some (.struct fs)) (h : WB t (.agg parts)) {j : Nat} {u : TypeId} {d : DataW H} (ht : (fs.toList.map (·.type))[j]? = some u) (hd : parts[j]? = some d) : WB u d :=
  fun n hn => h n (by simp only [DataW.weights, hu]; exact DataW.weights_mem_each ht hd n hn)
theorem weightsAll_mem {H : Type} {P : Program} {e : TypeId} : ∀ {l : List (DataW H)} {d : DataW H}, d ∈ l → ∀ n ∈ d.weights P e, n ∈ DataW.weightsAll P e l
  | x :: l, d, hd, n, hn => by
    simp only [DataW.weightsAll, List.mem_append]
    rcases List.mem_cons.1 hd with rfl | h
    · exact Or.inl hn
    · exact Or.inr (weightsAll_mem h n hn)
theorem WB.elem {H : Type} {t e : TypeId} {elems spare : List (DataW H)} (hu : Tryd.prog.underlying t = some (.slice e)) (h : WB t (.slice elems spare)) {d : DataW H} (hd : d ∈ elems) : WB e d :=
  fun n hn => h n (by simp only [DataW.weights, hu, List.mem_cons, List.mem_append]; exact Or.inr (Or.inl (weightsAll_mem hd n hn)))
theorem WB.len {H : Type} {t e : TypeId} {elems spare : List (DataW H)} (hu : Tryd.prog.underlying t = some (.slice e)) (hb : 1 ≤ Tryd.prog.bytesOf e) (h : WB t (.slice elems spare)) : elems.length ≤ 140737488355328 := by
  have h1 := h ((elems.length + spare.length) * Tryd.prog.bytesOf e) (by simp [DataW.weights, hu])
  have h2 : (elems.length + spare.length) * 1 ≤ (elems.length + spare.length) * Tryd.prog.bytesOf e := Nat.mul_le_mul (Nat.le_refl _) hb
  omega
theorem WB.text {H : Type} {t : TypeId} {s : ByteArray} (h : WB (H := H) t (.lit (.string s.data.toList))) : s.size ≤ 140737488355328 := by
  have := h s.data.toList.length (by simp [DataW.weights])
  rw [Lib.size_eq]
  exact this
theorem WB.of {H : Type} {ts : List TypeId} {ds : List (DataW H)} (h : (DataW.weightsEach Tryd.prog ts ds).all (· ≤ reachBytes) = true) {j : Nat} {t : TypeId} {d : DataW H} (ht : ts[j]? = some t) (hd : ds[j]? = some d) : WB t d := fun n hn => by
  have h1 := List.all_eq_true.1 h _ (DataW.weights_mem_each ht hd n hn)
  have h2 := reachBytes_lt
  have h3 : n ≤ reachBytes := by simpa using h1
  omega
section
variable {H : Type} {enc : TypeId × Value → H} {W : World}
theorem WB.cap {t e : TypeId} {elems spare : List (DataW H)} (hu : Tryd.prog.underlying t = some (.slice e)) (h : WB t (.slice elems spare)) : (elems.length + spare.length) * Tryd.prog.bytesOf e ≤ 140737488355328 := h _ (by simp [DataW.weights, hu])
/-- how many properties a list has that was read -/
theorem trod_len32 {fuel : Nat} {A : Option Addr} {n c : Nat} {x : DataW H × List MemPlace} (hf : DataW.trod enc Tryd.prog W 0 (fun _ => true) true fuel 25 [.slice A n c] = some x) (h : WB 25 x.1) : n ≤ 4398046511104 := by
  rcases open_slice Tryd.underlying25 hf with ⟨hcs, _⟩ | ⟨a, len, cap, m, k, D, Pl, hcs, _, _, _, _, hx, _⟩
  · simp at hcs
    obtain ⟨_, rfl, _⟩ := hcs
    omega
  · simp at hcs
    obtain ⟨_, rfl, _⟩ := hcs
    subst hx
    have := WB.cap Tryd.underlying25 h
    rw [bytesProp] at this
    simp at this
    omega
set_option maxRecDepth 100000 in
theorem open_msgcx {fuel : Nat} {cs : List Value} {x : DataW H × List MemPlace} (hf : DataW.trod enc Tryd.prog W 0 (fun _ => true) true fuel 27 cs = some x) :
    ∃ (m : Msg) (A : Option Addr) (c : Nat), cs = msgC m A c ∧ PL W W.heap.size A m.props ∧ (m.topic.size ≤ 9223372036854775807 ∧ m.frm.size ≤ 9223372036854775807 ∧ ∀ y ∈ m.props, y.1.size ≤ 9223372036854775807) ∧ (WB 27 x.1 → m.props.length ≤ 4398046511104 ∧ m.payload.size ≤ 140737488355328) := by
  obtain ⟨ys, n, _, hx, hl, hyl, hfld⟩ := DataW.trod_struct Tryd.underlying27 hf
  rw [cellsMsg] at hl
  match cs, hl with
  | [c0, c1, c2, c3, c4, c5, c6, c7, c8], _ =>
    match ys, hyl with
    | [y0, y1, y2, y3, y4, y5, y6, y7, y8], _ =>
      have g0 := hfld 0 _ rfl
      have g1 := hfld 1 _ rfl
      have g2 := hfld 2 _ rfl
      have g3 := hfld 3 _ rfl
      have g4 := hfld 4 _ rfl
      have g5 := hfld 5 _ rfl
      have g6 := hfld 6 _ rfl
      have g7 := hfld 7 _ rfl
      have g8 := hfld 8 _ rfl
      simp [cellsStr, cellsI64, cellsBool, cellsProps] at g0 g1 g2 g3 g4 g5 g6 g7 g8
      obtain ⟨v0, e0, _, z0⟩ := DataW.trod_string Tryd.underlying9 (show DataW.trod enc Tryd.prog W 0 (fun _ => true) true n 9 [c0] = some y0 from g0)
      obtain ⟨v1, e1, r1, z1⟩ := DataW.trod_string Tryd.underlying9 (show DataW.trod enc Tryd.prog W 0 (fun _ => true) true n 9 [c1] = some y1 from g1)
      obtain ⟨v2, e2, _, _⟩ := DataW.trod_int Tryd.underlying3 (show DataW.trod enc Tryd.prog W 0 (fun _ => true) true n 3 [c2] = some y2 from g2)
      obtain ⟨v3, e3, _⟩ := DataW.trod_bool Tryd.underlying4 (show DataW.trod enc Tryd.prog W 0 (fun _ => true) true n 4 [c3] = some y3 from g3)
      obtain ⟨v4, e4, _, _⟩ := DataW.trod_int Tryd.underlying3 (show DataW.trod enc Tryd.prog W 0 (fun _ => true) true n 3 [c4] = some y4 from g4)
      obtain ⟨v5, e5, _, _⟩ := DataW.trod_int Tryd.underlying3 (show DataW.trod enc Tryd.prog W 0 (fun _ => true) true n 3 [c5] = some y5 from g5)
      obtain ⟨v6, e6, _, z6⟩ := DataW.trod_string Tryd.underlying9 (show DataW.trod enc Tryd.prog W 0 (fun _ => true) true n 9 [c6] = some y6 from g6)
      obtain ⟨v7, e7, _, _⟩ := DataW.trod_int Tryd.underlying3 (show DataW.trod enc Tryd.prog W 0 (fun _ => true) true n 3 [c7] = some y7 from g7)
      obtain ⟨A8, p8, X8, e8, h8, t8⟩ := open_props2' (show DataW.trod enc Tryd.prog W 0 (fun _ => true) true n 25 [c8] = some y8 from g8)
      simp only [List.cons.injEq, and_true] at e0 e1 e2 e3 e4 e5 e6 e7
      subst e0 e1 e2 e3 e4 e5 e6 e7 e8 hx
      exact ⟨⟨v0, v1, v2, v3, v4, v5, v6, v7, X8⟩, A8, p8, rfl, h8, ⟨len_max z0, len_max z6, t8⟩, fun h => ⟨trod_len32 (show DataW.trod enc Tryd.prog W 0 (fun _ => true) true n 25 [_] = some y8 from g8) (WB.field Tryd.underlying27 h (j := 8) rfl rfl), WB.text (H := H) (t := 9) (by have h2 := WB.field Tryd.underlying27 h (j := 1) rfl rfl; rwa [r1] at h2)⟩⟩
set_option maxRecDepth 100000 in
theorem open_msgvx {r : Reach} {b0 : Nat} {v : Value} {d : DataW H} {p : List MemPlace} (hv : Value.okWide Tryd.prog W r b0 27 v)
    (h : DataW.Trod enc Tryd.prog W 0 (fun _ => true) true 27 v d p) : ∃ (m : Msg) (A : Option Addr) (c : Nat), v = msgV m A c ∧ PL W W.heap.size A m.props ∧ (m.topic.size ≤ 9223372036854775807 ∧ m.frm.size ≤ 9223372036854775807 ∧ ∀ y ∈ m.props, y.1.size ≤ 9223372036854775807) ∧ (WB 27 d → m.props.length ≤ 4398046511104 ∧ m.payload.size ≤ 140737488355328) := by
  obtain ⟨cs, rfl, hsz⟩ := okWide_struct Tryd.underlying27 hv
  obtain ⟨fuel, hf⟩ := h
  obtain ⟨l⟩ := cs
  obtain ⟨m, A, c, rfl, h1, h2, h3⟩ := open_msgcx hf
  exact ⟨m, A, c, rfl, h1, h2, h3⟩
/-- a list of structs with a message each: from what is said of one -/
theorem open_listx {α : Type} {g : α → List Value} {k : Nat} {ad : α → Option Addr} {ps : α → List PR} {t e : TypeId} (hk0 : 0 < k) (hg : ∀ x, (g x).length = k) (z : α) (hu : Tryd.prog.underlying t = some (.slice e)) (hce : Tryd.prog.cellsOf e = k) (hbe : 1 ≤ Tryd.prog.bytesOf e) {PW : α → Prop}
    (hone : ∀ {n : Nat} {cs : List Value} {y : DataW H × List MemPlace}, cs.length = k → DataW.trod enc Tryd.prog W 0 (fun _ => true) true n e cs = some y → ∃ X : α, cs = g X ∧ PL W W.heap.size (ad X) (ps X) ∧ (WB e y.1 → PW X))
    {fuel : Nat} {a0 : Option Addr} {len cap : Nat} {x : DataW H × List MemPlace} (hf : DataW.trod enc Tryd.prog W 0 (fun _ => true) true fuel t [.slice a0 len cap] = some x) :
    ∃ Xs : List α, Xs.length = len ∧ LI g k ad ps W W.heap.size a0 Xs ∧ len ≤ cap ∧ (WB t x.1 → len ≤ 140737488355328 ∧ ∀ X ∈ Xs, PW X) := by
  rcases open_slice hu hf with ⟨hcs, _⟩ | ⟨a, len', cap', m, n, D, Pl, hcs, _, hl, _, hmm, hx, hi⟩
  · simp at hcs
    obtain ⟨rfl, rfl, rfl⟩ := hcs
    exact ⟨[], rfl, LI.nil _ _ _, Nat.le_refl _, fun _ => ⟨by omega, fun _ h => by cases h⟩⟩
  · simp at hcs
    obtain ⟨rfl, rfl, rfl⟩ := hcs
    simp only [if_true] at hmm
    have each : ∀ i : Nat, ∃ X : α, i < len → (∀ j u, (g X)[j]? = some u → W.cell? (a.add (i * k + j)) = some u) ∧ PL W W.heap.size (ad X) (ps X) ∧ (WB e (D i) → PW X) := fun i => by
      by_cases h : i < len
      · obtain ⟨cs', hc, ht⟩ := hi i (by omega)
        rw [hce] at hc
        obtain ⟨_, hl34, hat⟩ := World.cells?_some hc
        obtain ⟨X, rfl, hp, hw⟩ := hone hl34 ht
        refine ⟨X, fun _ => ⟨fun j u hj => ?_, hp, hw⟩⟩
        have hj3 : j < k := by rw [← hg X]; exact (List.getElem?_eq_some_iff.1 hj).1
        rw [← Go.Deep.add_add, hat j hj3]
        exact hj
      · exact ⟨z, fun h' => absurd h' h⟩
    refine ⟨(List.range len).map fun i => Classical.choose (each i), by simp, ⟨fun h0 => ?_, fun X hX => ?_⟩, hl, fun hw => ⟨?_, fun X hX => ?_⟩⟩
    · simp at h0
      obtain ⟨v, hv⟩ : ∃ v, (g (Classical.choose (each 0)))[0]? = some v := ⟨_, List.getElem?_eq_getElem (by rw [hg]; exact hk0)⟩
      have hz := (Classical.choose_spec (each 0) (by omega)).1 0 v hv
      rw [Nat.zero_mul, Nat.zero_add] at hz
      obtain ⟨b, o, rfl, hb⟩ := plain_addr hz
      refine ⟨b, o, rfl, hb, fun j X i v hX hv => ?_⟩
      rw [List.getElem?_map] at hX
      have hj : j < len := by
        rcases Nat.lt_or_ge j len with h | h
        · exact h
        · rw [List.getElem?_eq_none (by simpa using h)] at hX; cases hX
      rw [List.getElem?_range hj] at hX
      obtain rfl := Option.some.inj hX
      rw [Nat.add_assoc, add_plain]
      exact (Classical.choose_spec (each j) hj).1 i v hv
    · obtain ⟨i, hi', rfl⟩ := List.mem_map.1 hX
      exact (Classical.choose_spec (each i) (List.mem_range.1 hi')).2.1
    · subst hx
      simpa using WB.len hu hbe hw
    · obtain ⟨i, hi', rfl⟩ := List.mem_map.1 hX
      subst hx
      exact (Classical.choose_spec (each i) (List.mem_range.1 hi')).2.2 (WB.elem hu hw (List.mem_map_of_mem (f := D) hi'))
end
end Go.Proofs.YtoakhkiiefiebabDoor
