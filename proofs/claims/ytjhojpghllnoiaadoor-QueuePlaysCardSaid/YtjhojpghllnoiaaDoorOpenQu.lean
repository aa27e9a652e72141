/-
  A list of properties that came in, opened for the walks. Conditions: it reads as data.
  A message that came in by value, and bytes that came in, opened for the walks. Conditions: it reads as data.
  A message that came in by value, opened with the sizes of its texts. Conditions: it reads as data.
  A message, and a list of messages, that came in, opened with the sizes of their texts and lists. Conditions: they read as data; the weights of what was read are bounded.
  A message, a queue's description and an entry that came in by value, opened with the sizes of their texts. Conditions: they read as data; the weights of what was read are bounded.
-/
import Derived.Test.YtjhojpghllnoiaaDoorMsg
import Derived.ProofKit
import Derived.OpenShut
import Derived.SliceStrings
import Derived.SizedLaws
import Derived.Deep.SlicePairs
import Derived.Lib.SmallJoins
import Derived.Test.YtjhojpghllnoiaaDoorLe
import Derived.Deep.Slices
import Derived.Test.YtjhojpghllnoiaaDoorDzA
import Derived.LaidLaws
namespace Go.Proofs.YtjhojpghllnoiaaDoor
open Go.ChangeShapes Go.WideShapes Go.ChangeAt Go.WideMaps Go.WideElems Go.RowKit

theorem laidOutAll : laidOutB Tryd.prog = true := by kernel_rfl
theorem cellsStr : Tryd.prog.cellsOf 9 = 1 := by kernel_rfl
theorem cellsProp : Tryd.prog.cellsOf 82 = 2 := by kernel_rfl
theorem bytesProp : Tryd.prog.bytesOf 82 = 32 := by kernel_rfl
/-- cells behind an address that holds something -/
theorem plain_addr {w : World} {a : Addr} {v : Value} (h : w.cell? (a.add 0) = some v) : ∃ b o, a = ⟨b, o, none⟩ ∧ b < w.heap.size := by
  obtain ⟨b, off, spot⟩ := a
  have hspot : spot = none := by simpa [Addr.add] using World.cell?_spot h
  subst hspot
  refine ⟨b, off, rfl, ?_⟩
  rcases Nat.lt_or_ge b w.heap.size with h' | h'
  · exact h'
  · have : w.heap[b]? = none := Array.getElem?_eq_none h'
    simp [World.cell?, Addr.add, this] at h
theorem add_plain (b o j : Nat) : (⟨b, o + j, none⟩ : Addr) = (⟨b, o, none⟩ : Addr).add j := by
  unfold Addr.add
  split
  · next h => subst h; rfl
  · rfl
/-- a value's text -/
def strV : Value → ByteArray
  | .string s => s
  | _ => ⟨#[]⟩
theorem open_props {H : Type} {enc : TypeId × Value → H} {W : World} {a0 : Option Addr} {len cap fuel : Nat} {x : DataW H × List MemPlace}
    (hf : DataW.trod enc Tryd.prog W 0 (fun _ => true) true fuel 30 [.slice a0 len cap] = some x) :
    ∃ Xs : List PR, Xs.length = len ∧ PL W W.heap.size a0 Xs ∧ len ≤ cap ∧ (len = 0 ∨ ∃ elems spare, x.1 = .slice elems spare ∧ elems.length = len) := by
  rcases Go.Deep.open_slice_pairs Tryd.underlying30 Tryd.underlying82 cellsProp rfl rfl cellsStr cellsStr hf with ⟨hcs, hx⟩ | ⟨a, len', cap', m, n, V0, V1, D0, D1, P0, P1, hcs, _, hl, hm, hmm, hx, hi⟩
  · simp at hcs
    obtain ⟨rfl, rfl, rfl⟩ := hcs
    exact ⟨[], rfl, GL.nil _ _ _, Nat.le_refl _, Or.inl rfl⟩
  · simp at hcs
    obtain ⟨rfl, rfl, rfl⟩ := hcs
    subst hx
    simp only [if_true] at hmm
    refine ⟨(List.range len).map fun i => (strV (V0 i), strV (V1 i)), by simp, fun h0 => ?_, hl, Or.inr ⟨_, _, rfl, by simp⟩⟩
    simp at h0
    obtain ⟨b, o, rfl, hb⟩ := plain_addr (hi 0 (by omega)).1
    refine ⟨b, o, rfl, hb, fun j X i v hX hv => ?_⟩
    rw [List.getElem?_map] at hX
    have hj : j < len := by
      rcases Nat.lt_or_ge j len with h | h
      · exact h
      · rw [List.getElem?_eq_none (by simpa using h)] at hX; cases hX
    rw [List.getElem?_range hj] at hX
    obtain rfl := Option.some.inj hX
    obtain ⟨h1, h2, h3, h4⟩ := hi j (by omega)
    obtain ⟨s0, e0, _⟩ := DataW.trod_string Tryd.underlying9 h3
    obtain ⟨s1, e1, _⟩ := DataW.trod_string Tryd.underlying9 h4
    simp at e0 e1
    rw [e0] at h1
    rw [e1] at h2
    match i, hv with
    | 0, hv =>
      simp [gP, strV, e0] at hv
      rw [Nat.add_zero, add_plain, h1, hv]
    | 1, hv =>
      simp [gP, strV, e1] at hv
      rw [Nat.add_assoc, add_plain, h2, hv]
theorem props_small {H : Type} {ts : List TypeId} {ds : List (DataW H)} (h : (DataW.weightsEach Tryd.prog ts ds).all (· ≤ reachBytes) = true) {j : Nat} (ht : ts[j]? = some 30) {d : DataW H} (hd : ds[j]? = some d)
    {n : Nat} (hs : n = 0 ∨ ∃ elems spare, d = .slice elems spare ∧ elems.length = n) : n ≤ 4398046511104 := by
  rcases hs with h0 | ⟨elems, spare, rfl, rfl⟩
  · omega
  · have hr := reachBytes_lt
    have := sized_slice h ht hd Tryd.underlying30
    rw [bytesProp] at this
    omega

end Go.Proofs.YtjhojpghllnoiaaDoor
namespace Go.Proofs.YtjhojpghllnoiaaDoor
open Go.Joins Go.ChangeShapes Go.WideShapes Go.ChangeAt Go.WideMaps Go.WideElems Go.RowKit Go.Deep

theorem cellsMsg : Tryd.prog.cellsOf 32 = 9 := by kernel_rfl
theorem cellsI64 : Tryd.prog.cellsOf 3 = 1 := by kernel_rfl
theorem cellsBool : Tryd.prog.cellsOf 4 = 1 := by kernel_rfl
theorem cellsProps : Tryd.prog.cellsOf 30 = 1 := by kernel_rfl
theorem wf64 {n : Int} (h : (Lit.int .i64 n).wf = true) : -9223372036854775808 ≤ n ∧ n ≤ 9223372036854775807 := by
  have h1 : IntKind.i64.min = -9223372036854775808 := rfl
  have h2 : IntKind.i64.max = 9223372036854775807 := rfl
  simp only [Lit.wf, Bool.and_eq_true, decide_eq_true_eq] at h
  omega
set_option maxRecDepth 100000 in
theorem open_props' {H : Type} {enc : TypeId × Value → H} {W : World} {v : Value} {fuel : Nat} {x : DataW H × List MemPlace}
    (hf : DataW.trod enc Tryd.prog W 0 (fun _ => true) true fuel 30 [v] = some x) :
    ∃ (A : Option Addr) (c : Nat) (Xs : List PR), v = .slice A Xs.length c ∧ PL W W.heap.size A Xs := by
  have h2 := hf
  rcases Go.Deep.open_slice_pairs Tryd.underlying30 Tryd.underlying82 cellsProp rfl rfl cellsStr cellsStr h2 with ⟨hcs, _⟩ | ⟨a, len, cap, m, n, V0, V1, D0, D1, P0, P1, hcs, _⟩
  · simp at hcs
    subst hcs
    exact ⟨none, 0, [], rfl, GL.nil _ _ _⟩
  · simp at hcs
    subst hcs
    obtain ⟨Xs, rfl, hp, _⟩ := open_props hf
    exact ⟨_, _, Xs, rfl, hp⟩
set_option maxRecDepth 100000 in
theorem open_msg {H : Type} {enc : TypeId × Value → H} {W : World} {r : Reach} {b0 : Nat} {v : Value} {d : DataW H} {p : List MemPlace} (hv : Value.okWide Tryd.prog W r b0 32 v)
    (h : DataW.Trod enc Tryd.prog W 0 (fun _ => true) true 32 v d p) : ∃ (m : Msg) (A : Option Addr) (c : Nat), v = msgV m A c ∧ m.fits ∧ PL W W.heap.size A m.props := by
  obtain ⟨cs, rfl, hsz⟩ := okWide_struct Tryd.underlying32 hv
  obtain ⟨fuel, hf⟩ := h
  obtain ⟨l⟩ := cs
  have hl : l.length = 9 := by have := hsz.trans cellsMsg; simpa using this
  match l, hl with
  | [c0, c1, c2, c3, c4, c5, c6, c7, c8], _ =>
    obtain ⟨ys, n, _, _, _, hyl, hfld⟩ := DataW.trod_struct Tryd.underlying32 hf
    match ys, hyl with
    | [y0, y1, y2, y3, y4, y5, y6, y7, y8], _ =>
      have g0 := hfld 0 _ rfl
      have g1 := hfld 1 _ rfl
      have g2 := hfld 2 _ rfl
      have g3 := hfld 3 _ rfl
      have g4 := hfld 4 _ rfl
      have g5 := hfld 5 _ rfl
      have g6 := hfld 6 _ rfl
      have g7 := hfld 7 _ rfl
      have g8 := hfld 8 _ rfl
      simp [Value.cells, cellsStr, cellsI64, cellsBool, cellsProps] at g0 g1 g2 g3 g4 g5 g6 g7 g8
      obtain ⟨s0, e0, _⟩ := DataW.trod_string Tryd.underlying9 (show DataW.trod _ _ _ _ _ _ _ 9 [c0] = some y0 from g0)
      obtain ⟨s1, e1, _⟩ := DataW.trod_string Tryd.underlying9 (show DataW.trod _ _ _ _ _ _ _ 9 [c1] = some y1 from g1)
      obtain ⟨n2, e2, _, w2⟩ := DataW.trod_int Tryd.underlying3 (show DataW.trod _ _ _ _ _ _ _ 3 [c2] = some y2 from g2)
      obtain ⟨b3, e3, _⟩ := DataW.trod_bool Tryd.underlying4 (show DataW.trod _ _ _ _ _ _ _ 4 [c3] = some y3 from g3)
      obtain ⟨n4, e4, _, w4⟩ := DataW.trod_int Tryd.underlying3 (show DataW.trod _ _ _ _ _ _ _ 3 [c4] = some y4 from g4)
      obtain ⟨n5, e5, _, w5⟩ := DataW.trod_int Tryd.underlying3 (show DataW.trod _ _ _ _ _ _ _ 3 [c5] = some y5 from g5)
      obtain ⟨s6, e6, _⟩ := DataW.trod_string Tryd.underlying9 (show DataW.trod _ _ _ _ _ _ _ 9 [c6] = some y6 from g6)
      obtain ⟨n7, e7, _, w7⟩ := DataW.trod_int Tryd.underlying3 (show DataW.trod _ _ _ _ _ _ _ 3 [c7] = some y7 from g7)
      obtain ⟨A, c, Xs, e8, hp⟩ := open_props' (show DataW.trod enc Tryd.prog W 0 (fun _ => true) true n 30 [c8] = some y8 from g8)
      simp only [List.cons.injEq, and_true] at e0 e1 e2 e3 e4 e5 e6 e7
      subst e0 e1 e2 e3 e4 e5 e6 e7 e8
      exact ⟨⟨s0, s1, n2, b3, n4, n5, s6, n7, Xs⟩, A, c, rfl, ⟨wf64 w2, wf64 w4, wf64 w5, wf64 w7⟩, hp⟩

/-! ### Bytes -/
theorem cellsU8 : Tryd.prog.cellsOf 5 = 1 := by kernel_rfl
theorem bytesU8 : Tryd.prog.bytesOf 5 = 1 := by kernel_rfl
theorem u8_wf {n : Int} (h : (Lit.int .u8 n).wf = true) : 0 ≤ n ∧ n < 256 := by
  have h1 : IntKind.u8.min = 0 := rfl
  have h2 : IntKind.u8.max = 255 := rfl
  simp only [Lit.wf, Bool.and_eq_true, decide_eq_true_eq] at h
  omega
end Go.Proofs.YtjhojpghllnoiaaDoor
namespace Go.Proofs.YtjhojpghllnoiaaDoor
open Go.Joins Go.ChangeShapes Go.WideShapes Go.ChangeAt Go.WideMaps Go.WideElems Go.RowKit Go.Deep

theorem len_max {n : Nat} (h : n ≤ maxLen) : n ≤ 9223372036854775807 := by unfold maxLen at h; omega
theorem open_props2 {H : Type} {enc : TypeId × Value → H} {W : World} {a0 : Option Addr} {len cap fuel : Nat} {x : DataW H × List MemPlace}
    (hf : DataW.trod enc Tryd.prog W 0 (fun _ => true) true fuel 30 [.slice a0 len cap] = some x) :
    ∃ Xs : List PR, Xs.length = len ∧ PL W W.heap.size a0 Xs ∧ ∀ x ∈ Xs, x.1.size ≤ 9223372036854775807 := by
  rcases Go.Deep.open_slice_pairs Tryd.underlying30 Tryd.underlying82 cellsProp rfl rfl cellsStr cellsStr hf with ⟨hcs, hx⟩ | ⟨a, len', cap', m, n, V0, V1, D0, D1, P0, P1, hcs, _, hl, hm, hmm, hx, hi⟩
  · simp at hcs
    obtain ⟨rfl, rfl, rfl⟩ := hcs
    exact ⟨[], rfl, GL.nil _ _ _, fun _ h => by cases h⟩
  · simp at hcs
    obtain ⟨rfl, rfl, rfl⟩ := hcs
    subst hx
    simp only [if_true] at hmm
    refine ⟨(List.range len).map fun i => (strV (V0 i), strV (V1 i)), by simp, fun h0 => ?_, fun X hX => ?_⟩
    rotate_left
    · obtain ⟨i, hi', rfl⟩ := List.mem_map.1 hX
      have hj := List.mem_range.1 hi'
      obtain ⟨_, _, h3, _⟩ := hi i (by omega)
      obtain ⟨s0, e0, _, z0⟩ := DataW.trod_string Tryd.underlying9 h3
      simp at e0
      show (strV (V0 i)).size ≤ _
      rw [e0]
      exact len_max z0
    simp at h0
    obtain ⟨b, o, rfl, hb⟩ := plain_addr (hi 0 (by omega)).1
    refine ⟨b, o, rfl, hb, fun j X i v hX hv => ?_⟩
    rw [List.getElem?_map] at hX
    have hj : j < len := by
      rcases Nat.lt_or_ge j len with h | h
      · exact h
      · rw [List.getElem?_eq_none (by simpa using h)] at hX; cases hX
    rw [List.getElem?_range hj] at hX
    obtain rfl := Option.some.inj hX
    obtain ⟨h1, h2, h3, h4⟩ := hi j (by omega)
    obtain ⟨s0, e0, _⟩ := DataW.trod_string Tryd.underlying9 h3
    obtain ⟨s1, e1, _⟩ := DataW.trod_string Tryd.underlying9 h4
    simp at e0 e1
    rw [e0] at h1
    rw [e1] at h2
    match i, hv with
    | 0, hv =>
      simp [gP, strV, e0] at hv
      rw [Nat.add_zero, add_plain, h1, hv]
    | 1, hv =>
      simp [gP, strV, e1] at hv
      rw [Nat.add_assoc, add_plain, h2, hv]
set_option maxRecDepth 100000 in
theorem open_props2' {H : Type} {enc : TypeId × Value → H} {W : World} {v : Value} {fuel : Nat} {x : DataW H × List MemPlace}
    (hf : DataW.trod enc Tryd.prog W 0 (fun _ => true) true fuel 30 [v] = some x) :
    ∃ (A : Option Addr) (c : Nat) (Xs : List PR), v = .slice A Xs.length c ∧ PL W W.heap.size A Xs ∧ ∀ x ∈ Xs, x.1.size ≤ 9223372036854775807 := by
  have h2 := hf
  rcases Go.Deep.open_slice_pairs Tryd.underlying30 Tryd.underlying82 cellsProp rfl rfl cellsStr cellsStr h2 with ⟨hcs, _⟩ | ⟨a, len, cap, m, n, V0, V1, D0, D1, P0, P1, hcs, _⟩
  · simp at hcs
    subst hcs
    exact ⟨none, 0, [], rfl, GL.nil _ _ _, fun _ h => by cases h⟩
  · simp at hcs
    subst hcs
    obtain ⟨Xs, rfl, hp, hz⟩ := open_props2 hf
    exact ⟨_, _, Xs, rfl, hp, hz⟩
set_option maxRecDepth 100000 in
theorem open_msg2 {H : Type} {enc : TypeId × Value → H} {W : World} {r : Reach} {b0 : Nat} {v : Value} {d : DataW H} {p : List MemPlace} (hv : Value.okWide Tryd.prog W r b0 32 v)
    (h : DataW.Trod enc Tryd.prog W 0 (fun _ => true) true 32 v d p) : ∃ (m : Msg) (A : Option Addr) (c : Nat), v = msgV m A c ∧ m.fits ∧ PL W W.heap.size A m.props ∧ (m.topic.size ≤ 9223372036854775807 ∧ m.frm.size ≤ 9223372036854775807 ∧ ∀ x ∈ m.props, x.1.size ≤ 9223372036854775807) := by
  obtain ⟨cs, rfl, hsz⟩ := okWide_struct Tryd.underlying32 hv
  obtain ⟨fuel, hf⟩ := h
  obtain ⟨l⟩ := cs
  have hl : l.length = 9 := by have := hsz.trans cellsMsg; simpa using this
  match l, hl with
  | [c0, c1, c2, c3, c4, c5, c6, c7, c8], _ =>
    obtain ⟨ys, n, _, _, _, hyl, hfld⟩ := DataW.trod_struct Tryd.underlying32 hf
    match ys, hyl with
    | [y0, y1, y2, y3, y4, y5, y6, y7, y8], _ =>
      have g0 := hfld 0 _ rfl
      have g1 := hfld 1 _ rfl
      have g2 := hfld 2 _ rfl
      have g3 := hfld 3 _ rfl
      have g4 := hfld 4 _ rfl
      have g5 := hfld 5 _ rfl
      have g6 := hfld 6 _ rfl
      have g7 := hfld 7 _ rfl
      have g8 := hfld 8 _ rfl
      simp [Value.cells, cellsStr, cellsI64, cellsBool, cellsProps] at g0 g1 g2 g3 g4 g5 g6 g7 g8
      obtain ⟨s0, e0, _, z0⟩ := DataW.trod_string Tryd.underlying9 (show DataW.trod _ _ _ _ _ _ _ 9 [c0] = some y0 from g0)
      obtain ⟨s1, e1, _⟩ := DataW.trod_string Tryd.underlying9 (show DataW.trod _ _ _ _ _ _ _ 9 [c1] = some y1 from g1)
      obtain ⟨n2, e2, _, w2⟩ := DataW.trod_int Tryd.underlying3 (show DataW.trod _ _ _ _ _ _ _ 3 [c2] = some y2 from g2)
      obtain ⟨b3, e3, _⟩ := DataW.trod_bool Tryd.underlying4 (show DataW.trod _ _ _ _ _ _ _ 4 [c3] = some y3 from g3)
      obtain ⟨n4, e4, _, w4⟩ := DataW.trod_int Tryd.underlying3 (show DataW.trod _ _ _ _ _ _ _ 3 [c4] = some y4 from g4)
      obtain ⟨n5, e5, _, w5⟩ := DataW.trod_int Tryd.underlying3 (show DataW.trod _ _ _ _ _ _ _ 3 [c5] = some y5 from g5)
      obtain ⟨s6, e6, _, z6⟩ := DataW.trod_string Tryd.underlying9 (show DataW.trod _ _ _ _ _ _ _ 9 [c6] = some y6 from g6)
      obtain ⟨n7, e7, _, w7⟩ := DataW.trod_int Tryd.underlying3 (show DataW.trod _ _ _ _ _ _ _ 3 [c7] = some y7 from g7)
      obtain ⟨A, c, Xs, e8, hp, z8⟩ := open_props2' (show DataW.trod enc Tryd.prog W 0 (fun _ => true) true n 30 [c8] = some y8 from g8)
      simp only [List.cons.injEq, and_true] at e0 e1 e2 e3 e4 e5 e6 e7
      subst e0 e1 e2 e3 e4 e5 e6 e7 e8
      exact ⟨⟨s0, s1, n2, b3, n4, n5, s6, n7, Xs⟩, A, c, rfl, ⟨wf64 w2, wf64 w4, wf64 w5, wf64 w7⟩, hp, len_max z0, len_max z6, z8⟩

end Go.Proofs.YtjhojpghllnoiaaDoor
namespace Go.Proofs.YtjhojpghllnoiaaDoor
open Go.Joins Go.ChangeShapes Go.WideShapes Go.ChangeAt Go.WideMaps Go.WideElems Go.RowKit Go.Deep

/-- the weights of what was read are bounded -/
def WB {H : Type} (t : TypeId) (d : DataW H) : Prop := ∀ n ∈ d.weights Tryd.prog t, n ≤ 140737488355328
theorem WB.field {H : Type} {t : TypeId} {fs : Array Field} {parts : List (DataW H)} (hu : Tryd.prog.underlying t = some (.struct fs)) (h : WB t (.agg parts)) {j : Nat} {u : TypeId} {d : DataW H} (ht : (fs.toList.map (·.type))[j]? = some u) (hd : parts[j]? = some d) : WB u d :=
  fun n hn => h n (by simp only [DataW.weights, hu]; exact DataW.weights_mem_each ht hd n hn)
theorem weightsAll_mem {H : Type} {P : Program} {e : TypeId} : ∀ {l : List (DataW H)} {d : DataW H}, d ∈ l → ∀ n ∈ d.weights P e, n ∈ DataW.weightsAll P e l
  | x :: l, d, hd, n, hn => by
    simp only [DataW.weightsAll, List.mem_append]
    rcases List.mem_cons.1 hd with rfl | h
    · exact Or.inl hn
    · exact Or.inr (weightsAll_mem h n hn)
theorem WB.elem {H : Type} {t e : TypeId} {elems spare : List (DataW H)} (hu : Tryd.prog.underlying t = some (.slice e)) (h : WB t (.slice elems spare)) {d : DataW H} (hd : d ∈ elems) : WB e d :=
  fun n hn => h n (by simp only [DataW.weights, hu, List.mem_cons, List.mem_append]; exact Or.inr (Or.inl (weightsAll_mem hd n hn)))
theorem WB.len {H : Type} {t e : TypeId} {elems spare : List (DataW H)} (hu : Tryd.prog.underlying t = some (.slice e)) (hb : 1 ≤ Tryd.prog.bytesOf e) (h : WB t (.slice elems spare)) : elems.length ≤ 140737488355328 := by
  have h1 := h ((elems.length + spare.length) * Tryd.prog.bytesOf e) (by simp [DataW.weights, hu])
  have h2 : (elems.length + spare.length) * 1 ≤ (elems.length + spare.length) * Tryd.prog.bytesOf e := Nat.mul_le_mul (Nat.le_refl _) hb
  omega
theorem WB.text {H : Type} {t : TypeId} {s : ByteArray} (h : WB (H := H) t (.lit (.string s.data.toList))) : s.size ≤ 140737488355328 := by
  have := h s.data.toList.length (by simp [DataW.weights])
  rw [Lib.size_eq]
  exact this
theorem WB.of {H : Type} {ts : List TypeId} {ds : List (DataW H)} (h : (DataW.weightsEach Tryd.prog ts ds).all (· ≤ reachBytes) = true) {j : Nat} {t : TypeId} {d : DataW H} (ht : ts[j]? = some t) (hd : ds[j]? = some d) : WB t d := fun n hn => by
  have h1 := List.all_eq_true.1 h _ (DataW.weights_mem_each ht hd n hn)
  have h2 := reachBytes_lt
  have h3 : n ≤ reachBytes := by simpa using h1
  omega
section
variable {H : Type} {enc : TypeId × Value → H} {W : World}
theorem WB.cap {t e : TypeId} {elems spare : List (DataW H)} (hu : Tryd.prog.underlying t = some (.slice e)) (h : WB t (.slice elems spare)) : (elems.length + spare.length) * Tryd.prog.bytesOf e ≤ 140737488355328 := h _ (by simp [DataW.weights, hu])
/-- how many properties a list has that was read -/
theorem trod_len32 {fuel : Nat} {A : Option Addr} {n c : Nat} {x : DataW H × List MemPlace} (hf : DataW.trod enc Tryd.prog W 0 (fun _ => true) true fuel 30 [.slice A n c] = some x) (h : WB 30 x.1) : n ≤ 4398046511104 := by
  rcases open_slice Tryd.underlying30 hf with ⟨hcs, _⟩ | ⟨a, len, cap, m, k, D, Pl, hcs, _, _, _, _, hx, _⟩
  · simp at hcs
    obtain ⟨_, rfl, _⟩ := hcs
    omega
  · simp at hcs
    obtain ⟨_, rfl, _⟩ := hcs
    subst hx
    have := WB.cap Tryd.underlying30 h
    rw [bytesProp] at this
    simp at this
    omega
set_option maxRecDepth 100000 in
theorem open_msgcx {fuel : Nat} {cs : List Value} {x : DataW H × List MemPlace} (hf : DataW.trod enc Tryd.prog W 0 (fun _ => true) true fuel 32 cs = some x) :
    ∃ (m : Msg) (A : Option Addr) (c : Nat), cs = msgC m A c ∧ PL W W.heap.size A m.props ∧ (m.topic.size ≤ 9223372036854775807 ∧ m.frm.size ≤ 9223372036854775807 ∧ ∀ y ∈ m.props, y.1.size ≤ 9223372036854775807) ∧ (WB 32 x.1 → m.props.length ≤ 4398046511104 ∧ m.payload.size ≤ 140737488355328) := by
  obtain ⟨ys, n, _, hx, hl, hyl, hfld⟩ := DataW.trod_struct Tryd.underlying32 hf
  rw [cellsMsg] at hl
  match cs, hl with
  | [c0, c1, c2, c3, c4, c5, c6, c7, c8], _ =>
    match ys, hyl with
    | [y0, y1, y2, y3, y4, y5, y6, y7, y8], _ =>
      have g0 := hfld 0 _ rfl
      have g1 := hfld 1 _ rfl
      have g2 := hfld 2 _ rfl
      have g3 := hfld 3 _ rfl
      have g4 := hfld 4 _ rfl
      have g5 := hfld 5 _ rfl
      have g6 := hfld 6 _ rfl
      have g7 := hfld 7 _ rfl
      have g8 := hfld 8 _ rfl
      simp [cellsStr, cellsI64, cellsBool, cellsProps] at g0 g1 g2 g3 g4 g5 g6 g7 g8
      obtain ⟨v0, e0, _, z0⟩ := DataW.trod_string Tryd.underlying9 (show DataW.trod enc Tryd.prog W 0 (fun _ => true) true n 9 [c0] = some y0 from g0)
      obtain ⟨v1, e1, r1, z1⟩ := DataW.trod_string Tryd.underlying9 (show DataW.trod enc Tryd.prog W 0 (fun _ => true) true n 9 [c1] = some y1 from g1)
      obtain ⟨v2, e2, _, _⟩ := DataW.trod_int Tryd.underlying3 (show DataW.trod enc Tryd.prog W 0 (fun _ => true) true n 3 [c2] = some y2 from g2)
      obtain ⟨v3, e3, _⟩ := DataW.trod_bool Tryd.underlying4 (show DataW.trod enc Tryd.prog W 0 (fun _ => true) true n 4 [c3] = some y3 from g3)
      obtain ⟨v4, e4, _, _⟩ := DataW.trod_int Tryd.underlying3 (show DataW.trod enc Tryd.prog W 0 (fun _ => true) true n 3 [c4] = some y4 from g4)
      obtain ⟨v5, e5, _, _⟩ := DataW.trod_int Tryd.underlying3 (show DataW.trod enc Tryd.prog W 0 (fun _ => true) true n 3 [c5] = some y5 from g5)
      obtain ⟨v6, e6, _, z6⟩ := DataW.trod_string Tryd.underlying9 (show DataW.trod enc Tryd.prog W 0 (fun _ => true) true n 9 [c6] = some y6 from g6)
      obtain ⟨v7, e7, _, _⟩ := DataW.trod_int Tryd.underlying3 (show DataW.trod enc Tryd.prog W 0 (fun _ => true) true n 3 [c7] = some y7 from g7)
      obtain ⟨A8, p8, X8, e8, h8, t8⟩ := open_props2' (show DataW.trod enc Tryd.prog W 0 (fun _ => true) true n 30 [c8] = some y8 from g8)
      simp only [List.cons.injEq, and_true] at e0 e1 e2 e3 e4 e5 e6 e7
      subst e0 e1 e2 e3 e4 e5 e6 e7 e8 hx
      exact ⟨⟨v0, v1, v2, v3, v4, v5, v6, v7, X8⟩, A8, p8, rfl, h8, ⟨len_max z0, len_max z6, t8⟩, fun h => ⟨trod_len32 (show DataW.trod enc Tryd.prog W 0 (fun _ => true) true n 30 [_] = some y8 from g8) (WB.field Tryd.underlying32 h (j := 8) rfl rfl), WB.text (H := H) (t := 9) (by have h2 := WB.field Tryd.underlying32 h (j := 1) rfl rfl; rwa [r1] at h2)⟩⟩
set_option maxRecDepth 100000 in
theorem open_msgvx {r : Reach} {b0 : Nat} {v : Value} {d : DataW H} {p : List MemPlace} (hv : Value.okWide Tryd.prog W r b0 32 v)
    (h : DataW.Trod enc Tryd.prog W 0 (fun _ => true) true 32 v d p) : ∃ (m : Msg) (A : Option Addr) (c : Nat), v = msgV m A c ∧ PL W W.heap.size A m.props ∧ (m.topic.size ≤ 9223372036854775807 ∧ m.frm.size ≤ 9223372036854775807 ∧ ∀ y ∈ m.props, y.1.size ≤ 9223372036854775807) ∧ (WB 32 d → m.props.length ≤ 4398046511104 ∧ m.payload.size ≤ 140737488355328) := by
  obtain ⟨cs, rfl, hsz⟩ := okWide_struct Tryd.underlying32 hv
  obtain ⟨fuel, hf⟩ := h
  obtain ⟨l⟩ := cs
  obtain ⟨m, A, c, rfl, h1, h2, h3⟩ := open_msgcx hf
  exact ⟨m, A, c, rfl, h1, h2, h3⟩
/-- a list of structs with a message each: from what is said of one -/
theorem open_listx {α : Type} {g : α → List Value} {k : Nat} {ad : α → Option Addr} {ps : α → List PR} {t e : TypeId} (hk0 : 0 < k) (hg : ∀ x, (g x).length = k) (z : α) (hu : Tryd.prog.underlying t = some (.slice e)) (hce : Tryd.prog.cellsOf e = k) (hbe : 1 ≤ Tryd.prog.bytesOf e) {PW : α → Prop}
    (hone : ∀ {n : Nat} {cs : List Value} {y : DataW H × List MemPlace}, cs.length = k → DataW.trod enc Tryd.prog W 0 (fun _ => true) true n e cs = some y → ∃ X : α, cs = g X ∧ PL W W.heap.size (ad X) (ps X) ∧ (WB e y.1 → PW X))
    {fuel : Nat} {a0 : Option Addr} {len cap : Nat} {x : DataW H × List MemPlace} (hf : DataW.trod enc Tryd.prog W 0 (fun _ => true) true fuel t [.slice a0 len cap] = some x) :
    ∃ Xs : List α, Xs.length = len ∧ LI g k ad ps W W.heap.size a0 Xs ∧ len ≤ cap ∧ (WB t x.1 → len ≤ 140737488355328 ∧ ∀ X ∈ Xs, PW X) := by
  rcases open_slice hu hf with ⟨hcs, _⟩ | ⟨a, len', cap', m, n, D, Pl, hcs, _, hl, _, hmm, hx, hi⟩
  · simp at hcs
    obtain ⟨rfl, rfl, rfl⟩ := hcs
    exact ⟨[], rfl, LI.nil _ _ _, Nat.le_refl _, fun _ => ⟨by omega, fun _ h => by cases h⟩⟩
  · simp at hcs
    obtain ⟨rfl, rfl, rfl⟩ := hcs
    simp only [if_true] at hmm
    have each : ∀ i : Nat, ∃ X : α, i < len → (∀ j u, (g X)[j]? = some u → W.cell? (a.add (i * k + j)) = some u) ∧ PL W W.heap.size (ad X) (ps X) ∧ (WB e (D i) → PW X) := fun i => by
      by_cases h : i < len
      · obtain ⟨cs', hc, ht⟩ := hi i (by omega)
        rw [hce] at hc
        obtain ⟨_, hl34, hat⟩ := World.cells?_some hc
        obtain ⟨X, rfl, hp, hw⟩ := hone hl34 ht
        refine ⟨X, fun _ => ⟨fun j u hj => ?_, hp, hw⟩⟩
        have hj3 : j < k := by rw [← hg X]; exact (List.getElem?_eq_some_iff.1 hj).1
        rw [← Go.Deep.add_add, hat j hj3]
        exact hj
      · exact ⟨z, fun h' => absurd h' h⟩
    refine ⟨(List.range len).map fun i => Classical.choose (each i), by simp, ⟨fun h0 => ?_, fun X hX => ?_⟩, hl, fun hw => ⟨?_, fun X hX => ?_⟩⟩
    · simp at h0
      obtain ⟨v, hv⟩ : ∃ v, (g (Classical.choose (each 0)))[0]? = some v := ⟨_, List.getElem?_eq_getElem (by rw [hg]; exact hk0)⟩
      have hz := (Classical.choose_spec (each 0) (by omega)).1 0 v hv
      rw [Nat.zero_mul, Nat.zero_add] at hz
      obtain ⟨b, o, rfl, hb⟩ := plain_addr hz
      refine ⟨b, o, rfl, hb, fun j X i v hX hv => ?_⟩
      rw [List.getElem?_map] at hX
      have hj : j < len := by
        rcases Nat.lt_or_ge j len with h | h
        · exact h
        · rw [List.getElem?_eq_none (by simpa using h)] at hX; cases hX
      rw [List.getElem?_range hj] at hX
      obtain rfl := Option.some.inj hX
      rw [Nat.add_assoc, add_plain]
      exact (Classical.choose_spec (each j) hj).1 i v hv
    · obtain ⟨i, hi', rfl⟩ := List.mem_map.1 hX
      exact (Classical.choose_spec (each i) (List.mem_range.1 hi')).2.1
    · subst hx
      simpa using WB.len hu hbe hw
    · obtain ⟨i, hi', rfl⟩ := List.mem_map.1 hX
      subst hx
      exact (Classical.choose_spec (each i) (List.mem_range.1 hi')).2.2 (WB.elem hu hw (List.mem_map_of_mem (f := D) hi'))
end
end Go.Proofs.YtjhojpghllnoiaaDoor
namespace Go.Proofs.YtjhojpghllnoiaaDoor
open Go.Joins Go.ChangeShapes Go.WideShapes Go.ChangeAt Go.WideMaps Go.WideElems Go.RowKit Go.Deep

theorem cellsSp : Tryd.prog.cellsOf 23 = 5 := by kernel_rfl
theorem cellsEn : Tryd.prog.cellsOf 34 = 12 := by kernel_rfl
section
variable {H : Type} {enc : TypeId × Value → H} {W : World}
set_option maxRecDepth 100000 in
theorem open_msgx {r : Reach} {b0 : Nat} {v : Value} {d : DataW H} {p : List MemPlace} (hv : Value.okWide Tryd.prog W r b0 32 v)
    (h : DataW.Trod enc Tryd.prog W 0 (fun _ => true) true 32 v d p) : ∃ (m : Msg) (A : Option Addr) (c : Nat), v = msgV m A c ∧ PL W W.heap.size A m.props ∧ (m.topic.size ≤ 9223372036854775807 ∧ m.frm.size ≤ 9223372036854775807 ∧ ∀ y ∈ m.props, y.1.size ≤ 9223372036854775807) := by
  obtain ⟨cs, rfl, hsz⟩ := okWide_struct Tryd.underlying32 hv
  obtain ⟨fuel, hf⟩ := h
  obtain ⟨l⟩ := cs
  obtain ⟨m, A, c, rfl, h1, h2, _⟩ := open_msgcx hf
  exact ⟨m, A, c, rfl, h1, h2⟩
set_option maxRecDepth 100000 in
theorem open_spx {r : Reach} {b0 : Nat} {v : Value} {d : DataW H} {p : List MemPlace} (hv : Value.okWide Tryd.prog W r b0 23 v)
    (h : DataW.Trod enc Tryd.prog W 0 (fun _ => true) true 23 v d p) : ∃ s : Sp, v = spV s ∧ (s.name.size ≤ 9223372036854775807 ∧ s.dead.size ≤ 9223372036854775807) := by
  obtain ⟨cs, rfl, hsz⟩ := okWide_struct Tryd.underlying23 hv
  obtain ⟨fuel, hf⟩ := h
  obtain ⟨l⟩ := cs
  have hl : l.length = 5 := by have := hsz.trans cellsSp; simpa using this
  match l, hl with
  | [c0, c1, c2, c3, c4], _ =>
    obtain ⟨ys, n, _, hx, _, hyl, hfld⟩ := DataW.trod_struct Tryd.underlying23 hf
    match ys, hyl with
    | [y0, y1, y2, y3, y4], _ =>
      have g0 := hfld 0 _ rfl
      have g1 := hfld 1 _ rfl
      have g2 := hfld 2 _ rfl
      have g3 := hfld 3 _ rfl
      have g4 := hfld 4 _ rfl
      simp [Value.cells, cellsI64, cellsStr] at g0 g1 g2 g3 g4
      obtain ⟨v0, e0, _, z0⟩ := DataW.trod_string Tryd.underlying9 (show DataW.trod enc Tryd.prog W 0 (fun _ => true) true n 9 [c0] = some y0 from g0)
      obtain ⟨v1, e1, _, _⟩ := DataW.trod_int Tryd.underlying3 (show DataW.trod enc Tryd.prog W 0 (fun _ => true) true n 3 [c1] = some y1 from g1)
      obtain ⟨v2, e2, _, _⟩ := DataW.trod_int Tryd.underlying3 (show DataW.trod enc Tryd.prog W 0 (fun _ => true) true n 3 [c2] = some y2 from g2)
      obtain ⟨v3, e3, _, _⟩ := DataW.trod_int Tryd.underlying3 (show DataW.trod enc Tryd.prog W 0 (fun _ => true) true n 3 [c3] = some y3 from g3)
      obtain ⟨v4, e4, _, z4⟩ := DataW.trod_string Tryd.underlying9 (show DataW.trod enc Tryd.prog W 0 (fun _ => true) true n 9 [c4] = some y4 from g4)
      simp only [List.cons.injEq, and_true] at e0 e1 e2 e3 e4
      subst e0 e1 e2 e3 e4
      exact ⟨⟨v0, v1, v2, v3, v4⟩, rfl, len_max z0, len_max z4⟩
set_option maxRecDepth 100000 in
theorem open_enx {r : Reach} {b0 : Nat} {v : Value} {d : DataW H} {p : List MemPlace} (hv : Value.okWide Tryd.prog W r b0 34 v)
    (h : DataW.Trod enc Tryd.prog W 0 (fun _ => true) true 34 v d p) : ∃ (k r t : Int) (m : Msg) (A : Option Addr) (c : Nat), v = enV k r t m A c ∧ PL W W.heap.size A m.props ∧ (m.topic.size ≤ 9223372036854775807 ∧ m.frm.size ≤ 9223372036854775807 ∧ ∀ y ∈ m.props, y.1.size ≤ 9223372036854775807) := by
  obtain ⟨cs, rfl, hsz⟩ := okWide_struct Tryd.underlying34 hv
  obtain ⟨fuel, hf⟩ := h
  obtain ⟨l⟩ := cs
  have hl : l.length = 12 := by have := hsz.trans cellsEn; simpa using this
  match l, hl with
  | [c0, c1, c2, c3, c4, c5, c6, c7, c8, c9, c10, c11], _ =>
    obtain ⟨ys, n, _, hx, _, hyl, hfld⟩ := DataW.trod_struct Tryd.underlying34 hf
    match ys, hyl with
    | [y0, y1, y2, y3], _ =>
      have g0 := hfld 0 _ rfl
      have g1 := hfld 1 _ rfl
      have g2 := hfld 2 _ rfl
      have g3 := hfld 3 _ rfl
      simp [Value.cells, cellsI64, cellsMsg] at g0 g1 g2 g3
      obtain ⟨v0, e0, _, _⟩ := DataW.trod_int Tryd.underlying3 (show DataW.trod enc Tryd.prog W 0 (fun _ => true) true n 3 [c0] = some y0 from g0)
      obtain ⟨v1, e1, _, _⟩ := DataW.trod_int Tryd.underlying3 (show DataW.trod enc Tryd.prog W 0 (fun _ => true) true n 3 [c1] = some y1 from g1)
      obtain ⟨v2, e2, _, _⟩ := DataW.trod_int Tryd.underlying3 (show DataW.trod enc Tryd.prog W 0 (fun _ => true) true n 3 [c2] = some y2 from g2)
      obtain ⟨m, A, c, e3, h3, t3, _⟩ := open_msgcx (show DataW.trod enc Tryd.prog W 0 (fun _ => true) true n 32 [c3, c4, c5, c6, c7, c8, c9, c10, c11] = some y3 from g3)
      simp only [List.cons.injEq, and_true] at e0 e1 e2
      subst e0 e1 e2
      refine ⟨v0, v1, v2, m, A, c, ?_, h3, t3⟩
      have : [c3, c4, c5, c6, c7, c8, c9, c10, c11] = msgC m A c := e3
      show Value.agg ([Value.int .i64 v0, Value.int .i64 v1, Value.int .i64 v2] ++ [c3, c4, c5, c6, c7, c8, c9, c10, c11]).toArray = _
      rw [this]; rfl
end
end Go.Proofs.YtjhojpghllnoiaaDoor
