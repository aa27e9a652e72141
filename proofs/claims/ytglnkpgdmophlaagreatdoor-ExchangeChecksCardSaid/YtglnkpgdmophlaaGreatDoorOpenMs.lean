/-
  A message, and a list of messages, that came in, opened with the sizes of their texts and lists. Conditions: they read as data; the weights of what was read are bounded.
-/
import Derived.Test.YtglnkpgdmophlaaGreatDoorOpenMsg2
import Derived.Test.YtglnkpgdmophlaaGreatDoorLe
import Derived.SizedLaws
import Derived.Deep.Slices
namespace Go.Proofs.YtglnkpgdmophlaaGreatDoor
open Go.Joins Go.ChangeShapes Go.WideShapes Go.ChangeAt Go.WideMaps Go.WideElems Go.RowKit Go.Deep

/-- the weights of what was read are bounded -/
def WB {H : Type} (t : TypeId) (d : DataW H) : Prop := ∀ n ∈ d.weights Tryz.prog t, n ≤ 140737488355328
theorem WB.field {H : Type} {t : TypeId} {fs : Array Field} {parts : List (DataW H)} (hu : Tryz.prog.underlying t = some (.struct fs)) (h : WB t (.agg parts)) {j : Nat} {u : TypeId} {d : DataW H} (ht : (fs.toList.map (·.type))[j]? = some u) (hd : parts[j]? = some d) : WB u d :=
  fun n hn => h n (by simp only [DataW.weights, hu]; exact DataW.weights_mem_each ht hd n hn)
theorem weightsAll_mem {H : Type} {P : Program} {e : TypeId} : ∀ {l : List (DataW H)} {d : DataW H}, d ∈ l → ∀ n ∈ d.weights P e, n ∈ DataW.weightsAll P e l
  | x :: l, d, hd, n, hn => by
    simp only [DataW.weightsAll, List.mem_append]
    rcases List.mem_cons.1 hd with rfl | h
    · exact Or.inl hn
    · exact Or.inr (weightsAll_mem h n hn)
theorem WB.elem {H : Type} {t e : TypeId} {elems spare : List (DataW H)} (hu : Tryz.prog.underlying t = some (.slice e)) (h : WB t (.slice elems spare)) {d : DataW H} (hd : d ∈ elems) : WB e d :=
  fun n hn => h n (by simp only [DataW.weights, hu, List.mem_cons, List.mem_append]; exact Or.inr (Or.inl (weightsAll_mem hd n hn)))
theorem WB.len {H : Type} {t e : TypeId} {elems spare : List (DataW H)} (hu : Tryz.prog.underlying t = some (.slice e)) (hb : 1 ≤ Tryz.prog.bytesOf e) (h : WB t (.slice elems spare)) : elems.length ≤ 140737488355328 := by
  have h1 := h ((elems.length + spare.length) * Tryz.prog.bytesOf e) (by simp [DataW.weights, hu])
  have h2 : (elems.length + spare.length) * 1 ≤ (elems.length + spare.length) * Tryz.prog.bytesOf e := Nat.mul_le_mul (Nat.le_refl _) hb
  omega
theorem WB.text {H : Type} {t : TypeId} {s : ByteArray} (h : WB (H := H) t (.lit (.string s.data.toList))) : s.size ≤ 140737488355328 := by
  have := h s.data.toList.length (by simp [DataW.weights])
  rw [Lib.size_eq]
  exact this
theorem WB.of {H : Type} {ts : List TypeId} {ds : List (DataW H)} (h : (DataW.weightsEach Tryz.prog ts ds).all (· ≤ reachBytes) = true) {j : Nat} {t : TypeId} {d : DataW H} (ht : ts[j]? = some t) (hd : ds[j]? = some d) : WB t d := fun n hn => by
  have h1 := List.all_eq_true.1 h _ (DataW.weights_mem_each ht hd n hn)
  have h2 := reachBytes_lt
  have h3 : n ≤ reachBytes := by simpa using h1
  omega
section
variable {H : Type} {enc : TypeId × Value → H} {W : World}
theorem WB.cap {t e : TypeId} {elems spare : List (DataW H)} (hu : Tryz.prog.underlying t = some (.slice e)) (h : WB t (.slice elems spare)) : (elems.length + spare.length) * Tryz.prog.bytesOf e ≤ 140737488355328 := h _ (by simp [DataW.weights, hu])
/-- how many properties a list has that was read -/
theorem trod_len32 {fuel : Nat} {A : Option Addr} {n c : Nat} {x : DataW H × List MemPlace} (hf : DataW.trod enc Tryz.prog W 0 (fun _ => true) true fuel 33 [.slice A n c] = some x) (h : WB 33 x.1) : n ≤ 4398046511104 := by
  rcases open_slice Tryz.underlying33 hf with ⟨hcs, _⟩ | ⟨a, len, cap, m, k, D, Pl, hcs, _, _, _, _, hx, _⟩
  · simp at hcs
    obtain ⟨_, rfl, _⟩ := hcs
    omega
  · simp at hcs
    obtain ⟨_, rfl, _⟩ := hcs
    subst hx
    have := WB.cap Tryz.underlying33 h
    rw [bytesProp] at this
    simp at this
    omega
/-- a list of structs with a message each: from what is said of one -/
theorem open_listx {α : Type} {g : α → List Value} {k : Nat} {ad : α → Option Addr} {ps : α → List PR} {t e : TypeId} (hk0 : 0 < k) (hg : ∀ x, (g x).length = k) (z : α) (hu : Tryz.prog.underlying t = some (.slice e)) (hce : Tryz.prog.cellsOf e = k) (hbe : 1 ≤ Tryz.prog.bytesOf e) {PW : α → Prop}
    (hone : ∀ {n : Nat} {cs : List Value} {y : DataW H × List MemPlace}, cs.length = k → DataW.trod enc Tryz.prog W 0 (fun _ => true) true n e cs = some y → ∃ X : α, cs = g X ∧ PL W W.heap.size (ad X) (ps X) ∧ (WB e y.1 → PW X))
    {fuel : Nat} {a0 : Option Addr} {len cap : Nat} {x : DataW H × List MemPlace} (hf : DataW.trod enc Tryz.prog W 0 (fun _ => true) true fuel t [.slice a0 len cap] = some x) :
    ∃ Xs : List α, Xs.length = len ∧ LI g k ad ps W W.heap.size a0 Xs ∧ len ≤ cap ∧ (WB t x.1 → len ≤ 140737488355328 ∧ ∀ X ∈ Xs, PW X) := by
  rcases open_slice hu hf with ⟨hcs, _⟩ | ⟨a, len', cap', m, n, D, Pl, hcs, _, hl, _, hmm, hx, hi⟩
  · simp at hcs
    obtain ⟨rfl, rfl, rfl⟩ := hcs
    exact ⟨[], rfl, LI.nil _ _ _, Nat.le_refl _, fun _ => ⟨by omega, fun _ h => by cases h⟩⟩
  · simp at hcs
    obtain ⟨rfl, rfl, rfl⟩ := hcs
    simp only [if_true] at hmm
    have each : ∀ i : Nat, ∃ X : α, i < len → (∀ j u, (g X)[j]? = some u → W.cell? (a.add (i * k + j)) = some u) ∧ PL W W.heap.size (ad X) (ps X) ∧ (WB e (D i) → PW X) := fun i => by
      by_cases h : i < len
      · obtain ⟨cs', hc, ht⟩ := hi i (by omega)
        rw [hce] at hc
        obtain ⟨_, hl34, hat⟩ := World.cells?_some hc
        obtain ⟨X, rfl, hp, hw⟩ := hone hl34 ht
        refine ⟨X, fun _ => ⟨fun j u hj => ?_, hp, hw⟩⟩
        have hj3 : j < k := by rw [← hg X]; exact (List.getElem?_eq_some_iff.1 hj).1
        rw [← Go.Deep.add_add, hat j hj3]
        exact hj
      · exact ⟨z, fun h' => absurd h' h⟩
    refine ⟨(List.range len).map fun i => Classical.choose (each i), by simp, ⟨fun h0 => ?_, fun X hX => ?_⟩, hl, fun hw => ⟨?_, fun X hX => ?_⟩⟩
    · simp at h0
      obtain ⟨v, hv⟩ : ∃ v, (g (Classical.choose (each 0)))[0]? = some v := ⟨_, List.getElem?_eq_getElem (by rw [hg]; exact hk0)⟩
      have hz := (Classical.choose_spec (each 0) (by omega)).1 0 v hv
      rw [Nat.zero_mul, Nat.zero_add] at hz
      obtain ⟨b, o, rfl, hb⟩ := plain_addr hz
      refine ⟨b, o, rfl, hb, fun j X i v hX hv => ?_⟩
      rw [List.getElem?_map] at hX
      have hj : j < len := by
        rcases Nat.lt_or_ge j len with h | h
        · exact h
        · rw [List.getElem?_eq_none (by simpa using h)] at hX; cases hX
      rw [List.getElem?_range hj] at hX
      obtain rfl := Option.some.inj hX
      rw [Nat.add_assoc, add_plain]
      exact (Classical.choose_spec (each j) hj).1 i v hv
    · obtain ⟨i, hi', rfl⟩ := List.mem_map.1 hX
      exact (Classical.choose_spec (each i) (List.mem_range.1 hi')).2.1
    · subst hx
      simpa using WB.len hu hbe hw
    · obtain ⟨i, hi', rfl⟩ := List.mem_map.1 hX
      subst hx
      exact (Classical.choose_spec (each i) (List.mem_range.1 hi')).2.2 (WB.elem hu hw (List.mem_map_of_mem (f := D) hi'))
end
end Go.Proofs.YtglnkpgdmophlaaGreatDoor
