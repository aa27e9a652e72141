/-
  A list of properties that came in, opened for the walks. Conditions: it reads as data.
  A message that came in by value, and bytes that came in, opened for the walks. Conditions: it reads as data.
  A message that came in by value, opened with the sizes of its texts. Conditions: it reads as data.
  A message, and a list of messages, that came in, opened with the sizes of their texts and lists. Conditions: they read as data; the weights of what was read are bounded.
  Routes that came in by value, opened with the sizes of their lists and texts. Conditions: they read as data; the weights of what was read are bounded.
  Calls of brokerlaw24 that came in, opened with the sizes of their texts and lists. Conditions: they read as data; the weights of what was read are bounded.
  A binding and two texts that came in by value, opened. Conditions: they read as data; the weights of what was read are bounded.
  A list of properties and two texts that came in by value, opened with their sizes. Conditions: they read as data; the weights of what was read are bounded.
-/
import Derived.Test.YtjkhfifnfgchgabGreatDoorMsg
import Derived.ProofKit
import Derived.OpenShut
import Derived.SliceStrings
import Derived.SizedLaws
import Derived.Deep.SlicePairs
import Derived.Lib.SmallJoins
import Derived.Test.YtjkhfifnfgchgabGreatDoorLe
import Derived.Deep.Slices
import Derived.Test.YtjkhfifnfgchgabGreatDoorEpD
import Derived.Test.YtjkhfifnfgchgabGreatDoorEaN
namespace Go.Proofs.YtjkhfifnfgchgabGreatDoor
open Go.ChangeShapes Go.WideShapes Go.ChangeAt Go.WideMaps Go.WideElems Go.RowKit

theorem laidOutAll : laidOutB Tryz.prog = true := by kernel_rfl
theorem cellsStr : Tryz.prog.cellsOf 9 = 1 := by kernel_rfl
theorem cellsProp : Tryz.prog.cellsOf 85 = 2 := by kernel_rfl
theorem bytesProp : Tryz.prog.bytesOf 85 = 32 := by kernel_rfl
/-- cells behind an address that holds something -/
theorem plain_addr {w : World} {a : Addr} {v : Value} (h : w.cell? (a.add 0) = some v) : ∃ b o, a = ⟨b, o, none⟩ ∧ b < w.heap.size := by
  obtain ⟨b, off, spot⟩ := a
  have hspot : spot = none := by simpa [Addr.add] using World.cell?_spot h
  subst hspot
  refine ⟨b, off, rfl, ?_⟩
  rcases Nat.lt_or_ge b w.heap.size with h' | h'
  · exact h'
  · have : w.heap[b]? = none := Array.getElem?_eq_none h'
    simp [World.cell?, Addr.add, this] at h
theorem add_plain (b o j : Nat) : (⟨b, o + j, none⟩ : Addr) = (⟨b, o, none⟩ : Addr).add j := by
  unfold Addr.add
  split
  · next h => subst h; rfl
  · rfl
/-- a value's text -/
def strV : Value → ByteArray
  | .string s => s
  | _ => ⟨#[]⟩
theorem open_props {H : Type} {enc : TypeId × Value → H} {W : World} {a0 : Option Addr} {len cap fuel : Nat} {x : DataW H × List MemPlace}
    (hf : DataW.trod enc Tryz.prog W 0 (fun _ => true) true fuel 33 [.slice a0 len cap] = some x) :
    ∃ Xs : List PR, Xs.length = len ∧ PL W W.heap.size a0 Xs ∧ len ≤ cap ∧ (len = 0 ∨ ∃ elems spare, x.1 = .slice elems spare ∧ elems.length = len) := by
  rcases Go.Deep.open_slice_pairs Tryz.underlying33 Tryz.underlying85 cellsProp rfl rfl cellsStr cellsStr hf with ⟨hcs, hx⟩ | ⟨a, len', cap', m, n, V0, V1, D0, D1, P0, P1, hcs, _, hl, hm, hmm, hx, hi⟩
  · simp at hcs
    obtain ⟨rfl, rfl, rfl⟩ := hcs
    exact ⟨[], rfl, GL.nil _ _ _, Nat.le_refl _, Or.inl rfl⟩
  · simp at hcs
    obtain ⟨rfl, rfl, rfl⟩ := hcs
    subst hx
    simp only [if_true] at hmm
    refine ⟨(List.range len).map fun i => (strV (V0 i), strV (V1 i)), by simp, fun h0 => ?_, hl, Or.inr ⟨_, _, rfl, by simp⟩⟩
    simp at h0
    obtain ⟨b, o, rfl, hb⟩ := plain_addr (hi 0 (by omega)).1
    refine ⟨b, o, rfl, hb, fun j X i v hX hv => ?_⟩
    rw [List.getElem?_map] at hX
    have hj : j < len := by
      rcases Nat.lt_or_ge j len with h | h
      · exact h
      · rw [List.getElem?_eq_none (by simpa using h)] at hX; cases hX
    rw [List.getElem?_range hj] at hX
    obtain rfl := Option.some.inj hX
    obtain ⟨h1, h2, h3, h4⟩ := hi j (by omega)
    obtain ⟨s0, e0, _⟩ := DataW.trod_string Tryz.underlying9 h3
    obtain ⟨s1, e1, _⟩ := DataW.trod_string Tryz.underlying9 h4
    simp at e0 e1
    rw [e0] at h1
    rw [e1] at h2
    match i, hv with
    | 0, hv =>
      simp [gP, strV, e0] at hv
      rw [Nat.add_zero, add_plain, h1, hv]
    | 1, hv =>
      simp [gP, strV, e1] at hv
      rw [Nat.add_assoc, add_plain, h2, hv]
theorem props_small {H : Type} {ts : List TypeId} {ds : List (DataW H)} (h : (DataW.weightsEach Tryz.prog ts ds).all (· ≤ reachBytes) = true) {j : Nat} (ht : ts[j]? = some 33) {d : DataW H} (hd : ds[j]? = some d)
    {n : Nat} (hs : n = 0 ∨ ∃ elems spare, d = .slice elems spare ∧ elems.length = n) : n ≤ 4398046511104 := by
  rcases hs with h0 | ⟨elems, spare, rfl, rfl⟩
  · omega
  · have hr := reachBytes_lt
    have := sized_slice h ht hd Tryz.underlying33
    rw [bytesProp] at this
    omega

end Go.Proofs.YtjkhfifnfgchgabGreatDoor
namespace Go.Proofs.YtjkhfifnfgchgabGreatDoor
open Go.Joins Go.ChangeShapes Go.WideShapes Go.ChangeAt Go.WideMaps Go.WideElems Go.RowKit Go.Deep

theorem cellsI64 : Tryz.prog.cellsOf 3 = 1 := by kernel_rfl
theorem cellsBool : Tryz.prog.cellsOf 4 = 1 := by kernel_rfl
theorem cellsProps : Tryz.prog.cellsOf 33 = 1 := by kernel_rfl
theorem wf64 {n : Int} (h : (Lit.int .i64 n).wf = true) : -9223372036854775808 ≤ n ∧ n ≤ 9223372036854775807 := by
  have h1 : IntKind.i64.min = -9223372036854775808 := rfl
  have h2 : IntKind.i64.max = 9223372036854775807 := rfl
  simp only [Lit.wf, Bool.and_eq_true, decide_eq_true_eq] at h
  omega
set_option maxRecDepth 100000 in
theorem open_props' {H : Type} {enc : TypeId × Value → H} {W : World} {v : Value} {fuel : Nat} {x : DataW H × List MemPlace}
    (hf : DataW.trod enc Tryz.prog W 0 (fun _ => true) true fuel 33 [v] = some x) :
    ∃ (A : Option Addr) (c : Nat) (Xs : List PR), v = .slice A Xs.length c ∧ PL W W.heap.size A Xs := by
  have h2 := hf
  rcases Go.Deep.open_slice_pairs Tryz.underlying33 Tryz.underlying85 cellsProp rfl rfl cellsStr cellsStr h2 with ⟨hcs, _⟩ | ⟨a, len, cap, m, n, V0, V1, D0, D1, P0, P1, hcs, _⟩
  · simp at hcs
    subst hcs
    exact ⟨none, 0, [], rfl, GL.nil _ _ _⟩
  · simp at hcs
    subst hcs
    obtain ⟨Xs, rfl, hp, _⟩ := open_props hf
    exact ⟨_, _, Xs, rfl, hp⟩
/-! ### Bytes -/
theorem cellsU8 : Tryz.prog.cellsOf 5 = 1 := by kernel_rfl
theorem bytesU8 : Tryz.prog.bytesOf 5 = 1 := by kernel_rfl
theorem u8_wf {n : Int} (h : (Lit.int .u8 n).wf = true) : 0 ≤ n ∧ n < 256 := by
  have h1 : IntKind.u8.min = 0 := rfl
  have h2 : IntKind.u8.max = 255 := rfl
  simp only [Lit.wf, Bool.and_eq_true, decide_eq_true_eq] at h
  omega
end Go.Proofs.YtjkhfifnfgchgabGreatDoor
namespace Go.Proofs.YtjkhfifnfgchgabGreatDoor
open Go.Joins Go.ChangeShapes Go.WideShapes Go.ChangeAt Go.WideMaps Go.WideElems Go.RowKit Go.Deep

theorem len_max {n : Nat} (h : n ≤ maxLen) : n ≤ 9223372036854775807 := by unfold maxLen at h; omega
theorem open_props2 {H : Type} {enc : TypeId × Value → H} {W : World} {a0 : Option Addr} {len cap fuel : Nat} {x : DataW H × List MemPlace}
    (hf : DataW.trod enc Tryz.prog W 0 (fun _ => true) true fuel 33 [.slice a0 len cap] = some x) :
    ∃ Xs : List PR, Xs.length = len ∧ PL W W.heap.size a0 Xs ∧ ∀ x ∈ Xs, x.1.size ≤ 9223372036854775807 := by
  rcases Go.Deep.open_slice_pairs Tryz.underlying33 Tryz.underlying85 cellsProp rfl rfl cellsStr cellsStr hf with ⟨hcs, hx⟩ | ⟨a, len', cap', m, n, V0, V1, D0, D1, P0, P1, hcs, _, hl, hm, hmm, hx, hi⟩
  · simp at hcs
    obtain ⟨rfl, rfl, rfl⟩ := hcs
    exact ⟨[], rfl, GL.nil _ _ _, fun _ h => by cases h⟩
  · simp at hcs
    obtain ⟨rfl, rfl, rfl⟩ := hcs
    subst hx
    simp only [if_true] at hmm
    refine ⟨(List.range len).map fun i => (strV (V0 i), strV (V1 i)), by simp, fun h0 => ?_, fun X hX => ?_⟩
    rotate_left
    · obtain ⟨i, hi', rfl⟩ := List.mem_map.1 hX
      have hj := List.mem_range.1 hi'
      obtain ⟨_, _, h3, _⟩ := hi i (by omega)
      obtain ⟨s0, e0, _, z0⟩ := DataW.trod_string Tryz.underlying9 h3
      simp at e0
      show (strV (V0 i)).size ≤ _
      rw [e0]
      exact len_max z0
    simp at h0
    obtain ⟨b, o, rfl, hb⟩ := plain_addr (hi 0 (by omega)).1
    refine ⟨b, o, rfl, hb, fun j X i v hX hv => ?_⟩
    rw [List.getElem?_map] at hX
    have hj : j < len := by
      rcases Nat.lt_or_ge j len with h | h
      · exact h
      · rw [List.getElem?_eq_none (by simpa using h)] at hX; cases hX
    rw [List.getElem?_range hj] at hX
    obtain rfl := Option.some.inj hX
    obtain ⟨h1, h2, h3, h4⟩ := hi j (by omega)
    obtain ⟨s0, e0, _⟩ := DataW.trod_string Tryz.underlying9 h3
    obtain ⟨s1, e1, _⟩ := DataW.trod_string Tryz.underlying9 h4
    simp at e0 e1
    rw [e0] at h1
    rw [e1] at h2
    match i, hv with
    | 0, hv =>
      simp [gP, strV, e0] at hv
      rw [Nat.add_zero, add_plain, h1, hv]
    | 1, hv =>
      simp [gP, strV, e1] at hv
      rw [Nat.add_assoc, add_plain, h2, hv]
set_option maxRecDepth 100000 in
theorem open_props2' {H : Type} {enc : TypeId × Value → H} {W : World} {v : Value} {fuel : Nat} {x : DataW H × List MemPlace}
    (hf : DataW.trod enc Tryz.prog W 0 (fun _ => true) true fuel 33 [v] = some x) :
    ∃ (A : Option Addr) (c : Nat) (Xs : List PR), v = .slice A Xs.length c ∧ PL W W.heap.size A Xs ∧ ∀ x ∈ Xs, x.1.size ≤ 9223372036854775807 := by
  have h2 := hf
  rcases Go.Deep.open_slice_pairs Tryz.underlying33 Tryz.underlying85 cellsProp rfl rfl cellsStr cellsStr h2 with ⟨hcs, _⟩ | ⟨a, len, cap, m, n, V0, V1, D0, D1, P0, P1, hcs, _⟩
  · simp at hcs
    subst hcs
    exact ⟨none, 0, [], rfl, GL.nil _ _ _, fun _ h => by cases h⟩
  · simp at hcs
    subst hcs
    obtain ⟨Xs, rfl, hp, hz⟩ := open_props2 hf
    exact ⟨_, _, Xs, rfl, hp, hz⟩
end Go.Proofs.YtjkhfifnfgchgabGreatDoor
namespace Go.Proofs.YtjkhfifnfgchgabGreatDoor
open Go.Joins Go.ChangeShapes Go.WideShapes Go.ChangeAt Go.WideMaps Go.WideElems Go.RowKit Go.Deep

/-- the weights of what was read are bounded -/
def WB {H : Type} (t : TypeId) (d : DataW H) : Prop := ∀ n ∈ d.weights Tryz.prog t, n ≤ 140737488355328
theorem WB.field {H : Type} {t : TypeId} {fs : Array Field} {parts : List (DataW H)} (hu : Tryz.prog.underlying t = some (.struct fs)) (h : WB t (.agg parts)) {j : Nat} {u : TypeId} {d : DataW H} (ht : (fs.toList.map (·.type))[j]? = some u) (hd : parts[j]? = some d) : WB u d :=
  fun n hn => h n (by simp only [DataW.weights, hu]; exact DataW.weights_mem_each ht hd n hn)
theorem weightsAll_mem {H : Type} {P : Program} {e : TypeId} : ∀ {l : List (DataW H)} {d : DataW H}, d ∈ l → ∀ n ∈ d.weights P e, n ∈ DataW.weightsAll P e l
  | x :: l, d, hd, n, hn => by
    simp only [DataW.weightsAll, List.mem_append]
    rcases List.mem_cons.1 hd with rfl | h
    · exact Or.inl hn
    · exact Or.inr (weightsAll_mem h n hn)
theorem WB.elem {H : Type} {t e : TypeId} {elems spare : List (DataW H)} (hu : Tryz.prog.underlying t = some (.slice e)) (h : WB t (.slice elems spare)) {d : DataW H} (hd : d ∈ elems) : WB e d :=
  fun n hn => h n (by simp only [DataW.weights, hu, List.mem_cons, List.mem_append]; exact Or.inr (Or.inl (weightsAll_mem hd n hn)))
theorem WB.len {H : Type} {t e : TypeId} {elems spare : List (DataW H)} (hu : Tryz.prog.underlying t = some (.slice e)) (hb : 1 ≤ Tryz.prog.bytesOf e) (h : WB t (.slice elems spare)) : elems.length ≤ 140737488355328 := by
  have h1 := h ((elems.length + spare.length) * Tryz.prog.bytesOf e) (by simp [DataW.weights, hu])
  have h2 : (elems.length + spare.length) * 1 ≤ (elems.length + spare.length) * Tryz.prog.bytesOf e := Nat.mul_le_mul (Nat.le_refl _) hb
  omega
theorem WB.text {H : Type} {t : TypeId} {s : ByteArray} (h : WB (H := H) t (.lit (.string s.data.toList))) : s.size ≤ 140737488355328 := by
  have := h s.data.toList.length (by simp [DataW.weights])
  rw [Lib.size_eq]
  exact this
theorem WB.of {H : Type} {ts : List TypeId} {ds : List (DataW H)} (h : (DataW.weightsEach Tryz.prog ts ds).all (· ≤ reachBytes) = true) {j : Nat} {t : TypeId} {d : DataW H} (ht : ts[j]? = some t) (hd : ds[j]? = some d) : WB t d := fun n hn => by
  have h1 := List.all_eq_true.1 h _ (DataW.weights_mem_each ht hd n hn)
  have h2 := reachBytes_lt
  have h3 : n ≤ reachBytes := by simpa using h1
  omega
section
variable {H : Type} {enc : TypeId × Value → H} {W : World}
theorem WB.cap {t e : TypeId} {elems spare : List (DataW H)} (hu : Tryz.prog.underlying t = some (.slice e)) (h : WB t (.slice elems spare)) : (elems.length + spare.length) * Tryz.prog.bytesOf e ≤ 140737488355328 := h _ (by simp [DataW.weights, hu])
/-- how many properties a list has that was read -/
theorem trod_len32 {fuel : Nat} {A : Option Addr} {n c : Nat} {x : DataW H × List MemPlace} (hf : DataW.trod enc Tryz.prog W 0 (fun _ => true) true fuel 33 [.slice A n c] = some x) (h : WB 33 x.1) : n ≤ 4398046511104 := by
  rcases open_slice Tryz.underlying33 hf with ⟨hcs, _⟩ | ⟨a, len, cap, m, k, D, Pl, hcs, _, _, _, _, hx, _⟩
  · simp at hcs
    obtain ⟨_, rfl, _⟩ := hcs
    omega
  · simp at hcs
    obtain ⟨_, rfl, _⟩ := hcs
    subst hx
    have := WB.cap Tryz.underlying33 h
    rw [bytesProp] at this
    simp at this
    omega
/-- a list of structs with a message each: from what is said of one -/
theorem open_listx {α : Type} {g : α → List Value} {k : Nat} {ad : α → Option Addr} {ps : α → List PR} {t e : TypeId} (hk0 : 0 < k) (hg : ∀ x, (g x).length = k) (z : α) (hu : Tryz.prog.underlying t = some (.slice e)) (hce : Tryz.prog.cellsOf e = k) (hbe : 1 ≤ Tryz.prog.bytesOf e) {PW : α → Prop}
    (hone : ∀ {n : Nat} {cs : List Value} {y : DataW H × List MemPlace}, cs.length = k → DataW.trod enc Tryz.prog W 0 (fun _ => true) true n e cs = some y → ∃ X : α, cs = g X ∧ PL W W.heap.size (ad X) (ps X) ∧ (WB e y.1 → PW X))
    {fuel : Nat} {a0 : Option Addr} {len cap : Nat} {x : DataW H × List MemPlace} (hf : DataW.trod enc Tryz.prog W 0 (fun _ => true) true fuel t [.slice a0 len cap] = some x) :
    ∃ Xs : List α, Xs.length = len ∧ LI g k ad ps W W.heap.size a0 Xs ∧ len ≤ cap ∧ (WB t x.1 → len ≤ 140737488355328 ∧ ∀ X ∈ Xs, PW X) := by
  rcases open_slice hu hf with ⟨hcs, _⟩ | ⟨a, len', cap', m, n, D, Pl, hcs, _, hl, _, hmm, hx, hi⟩
  · simp at hcs
    obtain ⟨rfl, rfl, rfl⟩ := hcs
    exact ⟨[], rfl, LI.nil _ _ _, Nat.le_refl _, fun _ => ⟨by omega, fun _ h => by cases h⟩⟩
  · simp at hcs
    obtain ⟨rfl, rfl, rfl⟩ := hcs
    simp only [if_true] at hmm
    have each : ∀ i : Nat, ∃ X : α, i < len → (∀ j u, (g X)[j]? = some u → W.cell? (a.add (i * k + j)) = some u) ∧ PL W W.heap.size (ad X) (ps X) ∧ (WB e (D i) → PW X) := fun i => by
      by_cases h : i < len
      · obtain ⟨cs', hc, ht⟩ := hi i (by omega)
        rw [hce] at hc
        obtain ⟨_, hl34, hat⟩ := World.cells?_some hc
        obtain ⟨X, rfl, hp, hw⟩ := hone hl34 ht
        refine ⟨X, fun _ => ⟨fun j u hj => ?_, hp, hw⟩⟩
        have hj3 : j < k := by rw [← hg X]; exact (List.getElem?_eq_some_iff.1 hj).1
        rw [← Go.Deep.add_add, hat j hj3]
        exact hj
      · exact ⟨z, fun h' => absurd h' h⟩
    refine ⟨(List.range len).map fun i => Classical.choose (each i), by simp, ⟨fun h0 => ?_, fun X hX => ?_⟩, hl, fun hw => ⟨?_, fun X hX => ?_⟩⟩
    · simp at h0
      obtain ⟨v, hv⟩ : ∃ v, (g (Classical.choose (each 0)))[0]? = some v := ⟨_, List.getElem?_eq_getElem (by rw [hg]; exact hk0)⟩
      have hz := (Classical.choose_spec (each 0) (by omega)).1 0 v hv
      rw [Nat.zero_mul, Nat.zero_add] at hz
      obtain ⟨b, o, rfl, hb⟩ := plain_addr hz
      refine ⟨b, o, rfl, hb, fun j X i v hX hv => ?_⟩
      rw [List.getElem?_map] at hX
      have hj : j < len := by
        rcases Nat.lt_or_ge j len with h | h
        · exact h
        · rw [List.getElem?_eq_none (by simpa using h)] at hX; cases hX
      rw [List.getElem?_range hj] at hX
      obtain rfl := Option.some.inj hX
      rw [Nat.add_assoc, add_plain]
      exact (Classical.choose_spec (each j) hj).1 i v hv
    · obtain ⟨i, hi', rfl⟩ := List.mem_map.1 hX
      exact (Classical.choose_spec (each i) (List.mem_range.1 hi')).2.1
    · subst hx
      simpa using WB.len hu hbe hw
    · obtain ⟨i, hi', rfl⟩ := List.mem_map.1 hX
      subst hx
      exact (Classical.choose_spec (each i) (List.mem_range.1 hi')).2.2 (WB.elem hu hw (List.mem_map_of_mem (f := D) hi'))
end
end Go.Proofs.YtjkhfifnfgchgabGreatDoor
namespace Go.Proofs.YtjkhfifnfgchgabGreatDoor
open Go.Joins Go.ChangeShapes Go.WideShapes Go.ChangeAt Go.WideMaps Go.WideElems Go.RowKit Go.Deep

theorem cellsEx : Tryz.prog.cellsOf 32 = 3 := by kernel_rfl
theorem cellsBd : Tryz.prog.cellsOf 35 = 5 := by kernel_rfl
theorem cellsRt : Tryz.prog.cellsOf 25 = 2 := by kernel_rfl
theorem cellsExs : Tryz.prog.cellsOf 22 = 1 := by kernel_rfl
theorem cellsBds : Tryz.prog.cellsOf 23 = 1 := by kernel_rfl
theorem bytesEx1 : 1 ≤ Tryz.prog.bytesOf 32 := by decide +kernel
theorem bytesBd1 : 1 ≤ Tryz.prog.bytesOf 35 := by decide +kernel
section
variable {H : Type} {enc : TypeId × Value → H} {W : World}
set_option maxRecDepth 100000 in
theorem open_exc {fuel : Nat} {cs : List Value} {x : DataW H × List MemPlace} (hl : cs.length = 3) (hf : DataW.trod enc Tryz.prog W 0 (fun _ => true) true fuel 32 cs = some x) :
    ∃ X : Ex, cs = gE X ∧ PL W W.heap.size none [] ∧ (WB 32 x.1 → SzX X) := by
  obtain ⟨ys, n, _, _, _, hyl, hfld⟩ := DataW.trod_struct Tryz.underlying32 hf
  match cs, hl with
  | [c0, c1, c2], _ =>
    match ys, hyl with
    | [y0, y1, y2], _ =>
      have g0 := hfld 0 _ rfl
      have g1 := hfld 1 _ rfl
      have g2 := hfld 2 _ rfl
      simp [cellsI64, cellsStr] at g0 g1 g2
      obtain ⟨v0, e0, _, z0⟩ := DataW.trod_string Tryz.underlying9 (show DataW.trod enc Tryz.prog W 0 (fun _ => true) true n 9 [c0] = some y0 from g0)
      obtain ⟨v1, e1, _, _⟩ := DataW.trod_int Tryz.underlying3 (show DataW.trod enc Tryz.prog W 0 (fun _ => true) true n 3 [c1] = some y1 from g1)
      obtain ⟨v2, e2, _, z2⟩ := DataW.trod_string Tryz.underlying9 (show DataW.trod enc Tryz.prog W 0 (fun _ => true) true n 9 [c2] = some y2 from g2)
      simp only [List.cons.injEq, and_true] at e0 e1 e2
      subst e0 e1 e2
      exact ⟨⟨v0, v1, v2⟩, rfl, GL.nil _ _ _, fun _ => ⟨len_max z0, len_max z2⟩⟩
set_option maxRecDepth 100000 in
theorem open_bdc {fuel : Nat} {cs : List Value} {x : DataW H × List MemPlace} (hl : cs.length = 5) (hf : DataW.trod enc Tryz.prog W 0 (fun _ => true) true fuel 35 cs = some x) :
    ∃ X : BE, cs = gB X ∧ PL W W.heap.size X.a (bps X) ∧ (WB 35 x.1 → X.d.ml.length ≤ 4398046511104 ∧ SzB X.d) := by
  obtain ⟨ys, n, _, hx, _, hyl, hfld⟩ := DataW.trod_struct Tryz.underlying35 hf
  match cs, hl with
  | [c0, c1, c2, c3, c4], _ =>
    match ys, hyl with
    | [y0, y1, y2, y3, y4], _ =>
      have g0 := hfld 0 _ rfl
      have g1 := hfld 1 _ rfl
      have g2 := hfld 2 _ rfl
      have g3 := hfld 3 _ rfl
      have g4 := hfld 4 _ rfl
      simp [cellsBool, cellsStr, cellsProps] at g0 g1 g2 g3 g4
      obtain ⟨v0, e0, _, z0⟩ := DataW.trod_string Tryz.underlying9 (show DataW.trod enc Tryz.prog W 0 (fun _ => true) true n 9 [c0] = some y0 from g0)
      obtain ⟨v1, e1, _, z1⟩ := DataW.trod_string Tryz.underlying9 (show DataW.trod enc Tryz.prog W 0 (fun _ => true) true n 9 [c1] = some y1 from g1)
      obtain ⟨v2, e2, _, _⟩ := DataW.trod_string Tryz.underlying9 (show DataW.trod enc Tryz.prog W 0 (fun _ => true) true n 9 [c2] = some y2 from g2)
      obtain ⟨v3, e3, _⟩ := DataW.trod_bool Tryz.underlying4 (show DataW.trod enc Tryz.prog W 0 (fun _ => true) true n 4 [c3] = some y3 from g3)
      obtain ⟨A4, p4, X4, e4, h4, t4⟩ := open_props2' (show DataW.trod enc Tryz.prog W 0 (fun _ => true) true n 33 [c4] = some y4 from g4)
      simp only [List.cons.injEq, and_true] at e0 e1 e2 e3
      subst e0 e1 e2 e3 e4 hx
      exact ⟨⟨⟨v0, v1, v2, v3, X4⟩, A4, p4⟩, rfl, h4, fun h => ⟨trod_len32 (show DataW.trod enc Tryz.prog W 0 (fun _ => true) true n 33 [_] = some y4 from g4) (WB.field Tryz.underlying35 h (j := 4) rfl rfl), len_max z0, len_max z1, t4⟩⟩
theorem slice_shape {t e : TypeId} (hu : Tryz.prog.underlying t = some (.slice e)) {v : Value} {fuel : Nat} {x : DataW H × List MemPlace} (hf : DataW.trod enc Tryz.prog W 0 (fun _ => true) true fuel t [v] = some x) : ∃ a n c, v = .slice a n c := by
  rcases open_slice hu hf with ⟨hcs, _⟩ | ⟨a, len, cap, m, n, D, Pl, hcs, _⟩
  · simp at hcs; exact ⟨_, _, _, hcs⟩
  · simp at hcs; exact ⟨_, _, _, hcs⟩
set_option maxRecDepth 100000 in
theorem open_rts {r : Reach} {b0 : Nat} {v : Value} {d : DataW H} {p : List MemPlace} (hv : Value.okWide Tryz.prog W r b0 25 v)
    (h : DataW.Trod enc Tryz.prog W 0 (fun _ => true) true 25 v d p) : ∃ (A1 : Option Addr) (c1 : Nat) (l : List Ex) (A2 : Option Addr) (c2 : Nat) (xs : List BE), v = rtV A1 l.length c1 A2 xs.length c2 ∧ EL W W.heap.size A1 l ∧ l.length ≤ c1 ∧ BI W W.heap.size A2 xs ∧ xs.length ≤ c2 ∧
      (WB 25 d → (l.length ≤ 140737488355328 ∧ ∀ X ∈ l, SzX X) ∧ (xs.length ≤ 140737488355328 ∧ ∀ X ∈ xs, X.d.ml.length ≤ 4398046511104 ∧ SzB X.d)) := by
  obtain ⟨cs, rfl, hsz⟩ := okWide_struct Tryz.underlying25 hv
  obtain ⟨fuel, hf⟩ := h
  obtain ⟨l⟩ := cs
  have hl : l.length = 2 := by have := hsz.trans cellsRt; simpa using this
  match l, hl with
  | [c0, c1], _ =>
    obtain ⟨ys, n, _, hx, _, hyl, hfld⟩ := DataW.trod_struct Tryz.underlying25 hf
    match ys, hyl with
    | [y0, y1], _ =>
      have g0 := hfld 0 _ rfl
      have g1 := hfld 1 _ rfl
      simp [Value.cells, cellsExs, cellsBds] at g0 g1
      obtain ⟨a0, n0, k0, e0⟩ := slice_shape Tryz.underlying22 (show DataW.trod enc Tryz.prog W 0 (fun _ => true) true n 22 [c0] = some y0 from g0)
      obtain ⟨a1, n1, k1, e1⟩ := slice_shape Tryz.underlying23 (show DataW.trod enc Tryz.prog W 0 (fun _ => true) true n 23 [c1] = some y1 from g1)
      subst e0 e1
      obtain ⟨Xs, hl0, hx0, hc0, w0⟩ := open_listx (g := gE) (k := 3) (ad := fun _ => none) (ps := fun _ => []) (PW := SzX) (by decide) gE_len Ex.zero Tryz.underlying22 cellsEx bytesEx1 (fun hl ht => open_exc hl ht) (show DataW.trod enc Tryz.prog W 0 (fun _ => true) true n 22 [.slice a0 n0 k0] = some y0 from g0)
      obtain ⟨Ys, hl1, hx1, hc1, w1⟩ := open_listx (g := gB) (k := 5) (ad := BE.a) (ps := bps) (PW := fun X => X.d.ml.length ≤ 4398046511104 ∧ SzB X.d) (by decide) gB_len BE.zero Tryz.underlying23 cellsBd bytesBd1 (fun hl ht => open_bdc hl ht) (show DataW.trod enc Tryz.prog W 0 (fun _ => true) true n 23 [.slice a1 n1 k1] = some y1 from g1)
      subst hl0 hl1
      have hd : d = .agg [y0.1, y1.1] := by have := congrArg Prod.fst hx; simpa using this
      exact ⟨a0, k0, Xs, a1, k1, Ys, rfl, hx0.1, hc0, hx1, hc1, fun hw => ⟨w0 (WB.field Tryz.underlying25 (hd ▸ hw) (j := 0) rfl rfl), w1 (WB.field Tryz.underlying25 (hd ▸ hw) (j := 1) rfl rfl)⟩⟩
end
end Go.Proofs.YtjkhfifnfgchgabGreatDoor
namespace Go.Proofs.YtjkhfifnfgchgabGreatDoor
open Go.Joins Go.ChangeShapes Go.WideShapes Go.ChangeAt Go.WideMaps Go.WideElems Go.RowKit Go.Deep

theorem cellsOp24 : Tryz.prog.cellsOf 37 = 9 := by kernel_rfl
theorem bytesOp24 : 1 ≤ Tryz.prog.bytesOf 37 := by decide +kernel
section
variable {H : Type} {enc : TypeId × Value → H} {W : World}
set_option maxRecDepth 100000 in
theorem open_eoc {fuel : Nat} {cs : List Value} {x : DataW H × List MemPlace} (hl : cs.length = 9) (hf : DataW.trod enc Tryz.prog W 0 (fun _ => true) true fuel 37 cs = some x) :
    ∃ X : EO, cs = gO X ∧ PL W W.heap.size (oad X) (ops X) ∧ (WB 37 x.1 → SzX X.x ∧ OkB X.b.d) := by
  obtain ⟨ys, n, _, hx, _, hyl, hfld⟩ := DataW.trod_struct Tryz.underlying37 hf
  match cs, hl with
  | [c0, c1, c2, c3, c4, c5, c6, c7, c8], _ =>
    match ys, hyl with
    | [y0, y1, y2], _ =>
      have g0 := hfld 0 _ rfl
      have g1 := hfld 1 _ rfl
      have g2 := hfld 2 _ rfl
      simp [cellsI64, cellsEx, cellsBd] at g0 g1 g2
      obtain ⟨v0, e0, _, _⟩ := DataW.trod_int Tryz.underlying3 (show DataW.trod enc Tryz.prog W 0 (fun _ => true) true n 3 [c0] = some y0 from g0)
      obtain ⟨X1, e1, _, u1⟩ := open_exc (by rfl) (show DataW.trod enc Tryz.prog W 0 (fun _ => true) true n 32 [c1, c2, c3] = some y1 from g1)
      obtain ⟨X2, e2, h2, u2⟩ := open_bdc (by rfl) (show DataW.trod enc Tryz.prog W 0 (fun _ => true) true n 35 [c4, c5, c6, c7, c8] = some y2 from g2)
      simp only [List.cons.injEq, and_true] at e0
      subst e0 hx
      refine ⟨⟨v0, X1, X2⟩, ?_, h2, fun hw => ⟨u1 (WB.field Tryz.underlying37 hw (j := 1) rfl rfl), u2 (WB.field Tryz.underlying37 hw (j := 2) rfl rfl)⟩⟩
      show [Value.int .i64 v0] ++ ([c1, c2, c3] ++ [c4, c5, c6, c7, c8]) = _
      rw [e1, e2]; rfl
set_option maxRecDepth 100000 in
theorem open_eos {fuel : Nat} {a0 : Option Addr} {len cap : Nat} {x : DataW H × List MemPlace} (hf : DataW.trod enc Tryz.prog W 0 (fun _ => true) true fuel 26 [.slice a0 len cap] = some x) :
    ∃ Xs : List EO, Xs.length = len ∧ OI W W.heap.size a0 Xs ∧ len ≤ cap ∧ (WB 26 x.1 → len ≤ 140737488355328 ∧ ∀ X ∈ Xs, SzX X.x ∧ OkB X.b.d) :=
  open_listx (g := gO) (k := 9) (ad := oad) (ps := ops) (PW := fun X => SzX X.x ∧ OkB X.b.d) (by decide) gO_len EO.zero Tryz.underlying26 cellsOp24 bytesOp24 (fun hl ht => open_eoc hl ht) hf
end
end Go.Proofs.YtjkhfifnfgchgabGreatDoor
namespace Go.Proofs.YtjkhfifnfgchgabGreatDoor
open Go.Joins Go.ChangeShapes Go.WideShapes Go.ChangeAt Go.WideMaps Go.WideElems Go.RowKit Go.Deep

theorem cellsArr2 : Tryz.prog.cellsOf 44 = 2 := by kernel_rfl
section
variable {H : Type} {enc : TypeId × Value → H} {W : World}
set_option maxRecDepth 100000 in
theorem open_bdx {r : Reach} {b0 : Nat} {v : Value} {d : DataW H} {p : List MemPlace} (hv : Value.okWide Tryz.prog W r b0 35 v)
    (h : DataW.Trod enc Tryz.prog W 0 (fun _ => true) true 35 v d p) : ∃ X : BE, v = bdV X ∧ PL W W.heap.size X.a X.d.ml ∧ (WB 35 d → OkB X.d) := by
  obtain ⟨cs, rfl, hsz⟩ := okWide_struct Tryz.underlying35 hv
  obtain ⟨fuel, hf⟩ := h
  obtain ⟨l⟩ := cs
  have hl : l.length = 5 := by have := hsz.trans cellsBd; simpa using this
  obtain ⟨X, e, hp, hz⟩ := open_bdc hl hf
  have e' : l = gB X := e
  subst e'
  exact ⟨X, rfl, hp, hz⟩
set_option maxRecDepth 100000 in
theorem open_arr2 {r : Reach} {b0 : Nat} {v : Value} {d : DataW H} {p : List MemPlace} (hv : Value.okWide Tryz.prog W r b0 44 v)
    (h : DataW.Trod enc Tryz.prog W 0 (fun _ => true) true 44 v d p) : ∃ s t : ByteArray, v = .agg #[.string s, .string t] := by
  have hv' := hv
  simp only [Value.okWide, Tryz.underlying44] at hv'
  obtain ⟨cs, rfl, hsz, _⟩ := hv'
  obtain ⟨fuel, hf⟩ := h
  obtain ⟨l⟩ := cs
  obtain ⟨ys, n, _, _, hlc, hyl, hfld⟩ := DataW.trod_array Tryz.underlying44 hf
  have hl : l.length = 2 := by have := hlc.trans cellsArr2; simpa [Value.cells] using this
  match l, hl with
  | [c0, c1], _ =>
    match ys, hyl with
    | [y0, y1], _ =>
      have g0 := hfld 0 (by decide)
      have g1 := hfld 1 (by decide)
      simp [Value.cells, cellsStr] at g0 g1
      obtain ⟨v0, e0, _, _⟩ := DataW.trod_string Tryz.underlying9 (show DataW.trod enc Tryz.prog W 0 (fun _ => true) true n 9 [c0] = some y0 from g0)
      obtain ⟨v1, e1, _, _⟩ := DataW.trod_string Tryz.underlying9 (show DataW.trod enc Tryz.prog W 0 (fun _ => true) true n 9 [c1] = some y1 from g1)
      simp only [List.cons.injEq, and_true] at e0 e1
      subst e0 e1
      exact ⟨v0, v1, rfl⟩
end
end Go.Proofs.YtjkhfifnfgchgabGreatDoor
namespace Go.Proofs.YtjkhfifnfgchgabGreatDoor
open Go.Joins Go.ChangeShapes Go.WideShapes Go.ChangeAt Go.WideMaps Go.WideElems Go.RowKit Go.Deep

section
variable {H : Type} {enc : TypeId × Value → H} {W : World}
theorem open_pqx {fuel : Nat} {a0 : Option Addr} {len cap : Nat} {x : DataW H × List MemPlace} (hf : DataW.trod enc Tryz.prog W 0 (fun _ => true) true fuel 33 [.slice a0 len cap] = some x) :
    ∃ Xs : List PR, Xs.length = len ∧ PL W W.heap.size a0 Xs ∧ (∀ y ∈ Xs, y.1.size ≤ 9223372036854775807) ∧ (WB 33 x.1 → len ≤ 4398046511104) := by
  obtain ⟨A, p, X, e, h, t⟩ := open_props2' hf
  simp only [Value.slice.injEq] at e
  obtain ⟨rfl, rfl, rfl⟩ := e
  exact ⟨X, rfl, h, t, fun hw => trod_len32 hf hw⟩
set_option maxRecDepth 100000 in
theorem open_arr2z {r : Reach} {b0 : Nat} {v : Value} {d : DataW H} {p : List MemPlace} (hv : Value.okWide Tryz.prog W r b0 44 v)
    (h : DataW.Trod enc Tryz.prog W 0 (fun _ => true) true 44 v d p) : ∃ s t : ByteArray, v = .agg #[.string s, .string t] ∧ s.size ≤ 9223372036854775807 := by
  have hv' := hv
  simp only [Value.okWide, Tryz.underlying44] at hv'
  obtain ⟨cs, rfl, hsz, _⟩ := hv'
  obtain ⟨fuel, hf⟩ := h
  obtain ⟨l⟩ := cs
  obtain ⟨ys, n, _, _, hlc, hyl, hfld⟩ := DataW.trod_array Tryz.underlying44 hf
  have hl : l.length = 2 := by have := hlc.trans cellsArr2; simpa [Value.cells] using this
  match l, hl with
  | [c0, c1], _ =>
    match ys, hyl with
    | [y0, y1], _ =>
      have g0 := hfld 0 (by decide)
      have g1 := hfld 1 (by decide)
      simp [Value.cells, cellsStr] at g0 g1
      obtain ⟨v0, e0, _, z0⟩ := DataW.trod_string Tryz.underlying9 (show DataW.trod enc Tryz.prog W 0 (fun _ => true) true n 9 [c0] = some y0 from g0)
      obtain ⟨v1, e1, _, _⟩ := DataW.trod_string Tryz.underlying9 (show DataW.trod enc Tryz.prog W 0 (fun _ => true) true n 9 [c1] = some y1 from g1)
      simp only [List.cons.injEq, and_true] at e0 e1
      subst e0 e1
      exact ⟨v0, v1, rfl, len_max z0⟩
end
end Go.Proofs.YtjkhfifnfgchgabGreatDoor
