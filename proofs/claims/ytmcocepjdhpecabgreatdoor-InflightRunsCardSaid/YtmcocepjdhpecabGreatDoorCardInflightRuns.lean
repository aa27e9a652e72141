/-
  A list of properties that came in, opened for the walks. Conditions: it reads as data.
  A message that came in by value, and bytes that came in, opened for the walks. Conditions: it reads as data.
  A window that came in by value, opened with the sizes of its texts and lists. Conditions: it reads as data.
  Operations of brokerlaw14 that came in, opened with the sizes of their texts. Conditions: they read as data.
  What sent and packet of brokerlaw14 answer: how many packets of a kind have an identifier; the packet of an operation. Conditions: the lists read as data; few elements.
  What New of brokerref14 answers, and Same for empty windows. Conditions: none.
  A packet that came in by value, opened for the walks. Conditions: it reads as data.
  InflightHandles answers true, walked. Conditions: the window and the packet read as data; the library's bound on short texts holds a number.
  InflightRuns answers true, walked. Conditions: the operations read as data, their texts fit; the library's bound on short texts holds a number.
  PROVED: InflightRuns answers true for every text (each of its 2 arguments).
  Conditions: those that the row prints (the tables of package unicode/utf8 read as the program's text lays them; each argument has at most 2^47 bytes). The tie of the tables is given, over a pruned copy of the project.
-/
import Derived.Test.YtmcocepjdhpecabGreatDoorMsg
import Derived.ProofKit
import Derived.OpenShut
import Derived.SliceStrings
import Derived.SizedLaws
import Derived.Deep.SlicePairs
import Derived.Lib.SmallJoins
import Derived.Test.YtmcocepjdhpecabGreatDoorWn
import Derived.Deep.Slices
import Derived.Test.YtmcocepjdhpecabGreatDoorVp
import Derived.Test.YtmcocepjdhpecabGreatDoorPkt
import Derived.Test.YtmcocepjdhpecabGreatDoorVh
import Derived.Test.YtmcocepjdhpecabGreatDoorCards
import Derived.Test.YtmcocepjdhpecabGreatDoorTie
import Derived.Deep.DeepHandedRow
import Derived.Lib.LaidTab
import Derived.Lay
import Derived.LaidOnce
import Derived.Carry
import Derived.SevenTiedAt
namespace Go.Proofs.YtmcocepjdhpecabGreatDoor
open Go.ChangeShapes Go.WideShapes Go.ChangeAt Go.WideMaps Go.WideElems Go.RowKit

theorem laidOutAll : laidOutB Tryz.prog = true := by kernel_rfl
theorem cellsStr : Tryz.prog.cellsOf 9 = 1 := by kernel_rfl
theorem cellsProp : Tryz.prog.cellsOf 91 = 2 := by kernel_rfl
theorem bytesProp : Tryz.prog.bytesOf 91 = 32 := by kernel_rfl
/-- cells behind an address that holds something -/
theorem plain_addr {w : World} {a : Addr} {v : Value} (h : w.cell? (a.add 0) = some v) : ∃ b o, a = ⟨b, o, none⟩ ∧ b < w.heap.size := by
  obtain ⟨b, off, spot⟩ := a
  have hspot : spot = none := by simpa [Addr.add] using World.cell?_spot h
  subst hspot
  refine ⟨b, off, rfl, ?_⟩
  rcases Nat.lt_or_ge b w.heap.size with h' | h'
  · exact h'
  · have : w.heap[b]? = none := Array.getElem?_eq_none h'
    simp [World.cell?, Addr.add, this] at h
theorem add_plain (b o j : Nat) : (⟨b, o + j, none⟩ : Addr) = (⟨b, o, none⟩ : Addr).add j := by
  unfold Addr.add
  split
  · next h => subst h; rfl
  · rfl
/-- a value's text -/
def strV : Value → ByteArray
  | .string s => s
  | _ => ⟨#[]⟩
theorem open_props {H : Type} {enc : TypeId × Value → H} {W : World} {a0 : Option Addr} {len cap fuel : Nat} {x : DataW H × List MemPlace}
    (hf : DataW.trod enc Tryz.prog W 0 (fun _ => true) true fuel 32 [.slice a0 len cap] = some x) :
    ∃ Xs : List PR, Xs.length = len ∧ PL W W.heap.size a0 Xs ∧ len ≤ cap ∧ (len = 0 ∨ ∃ elems spare, x.1 = .slice elems spare ∧ elems.length = len) := by
  rcases Go.Deep.open_slice_pairs Tryz.underlying32 Tryz.underlying91 cellsProp rfl rfl cellsStr cellsStr hf with ⟨hcs, hx⟩ | ⟨a, len', cap', m, n, V0, V1, D0, D1, P0, P1, hcs, _, hl, hm, hmm, hx, hi⟩
  · simp at hcs
    obtain ⟨rfl, rfl, rfl⟩ := hcs
    exact ⟨[], rfl, GL.nil _ _ _, Nat.le_refl _, Or.inl rfl⟩
  · simp at hcs
    obtain ⟨rfl, rfl, rfl⟩ := hcs
    subst hx
    simp only [if_true] at hmm
    refine ⟨(List.range len).map fun i => (strV (V0 i), strV (V1 i)), by simp, fun h0 => ?_, hl, Or.inr ⟨_, _, rfl, by simp⟩⟩
    simp at h0
    obtain ⟨b, o, rfl, hb⟩ := plain_addr (hi 0 (by omega)).1
    refine ⟨b, o, rfl, hb, fun j X i v hX hv => ?_⟩
    rw [List.getElem?_map] at hX
    have hj : j < len := by
      rcases Nat.lt_or_ge j len with h | h
      · exact h
      · rw [List.getElem?_eq_none (by simpa using h)] at hX; cases hX
    rw [List.getElem?_range hj] at hX
    obtain rfl := Option.some.inj hX
    obtain ⟨h1, h2, h3, h4⟩ := hi j (by omega)
    obtain ⟨s0, e0, _⟩ := DataW.trod_string Tryz.underlying9 h3
    obtain ⟨s1, e1, _⟩ := DataW.trod_string Tryz.underlying9 h4
    simp at e0 e1
    rw [e0] at h1
    rw [e1] at h2
    match i, hv with
    | 0, hv =>
      simp [gP, strV, e0] at hv
      rw [Nat.add_zero, add_plain, h1, hv]
    | 1, hv =>
      simp [gP, strV, e1] at hv
      rw [Nat.add_assoc, add_plain, h2, hv]
theorem props_small {H : Type} {ts : List TypeId} {ds : List (DataW H)} (h : (DataW.weightsEach Tryz.prog ts ds).all (· ≤ reachBytes) = true) {j : Nat} (ht : ts[j]? = some 32) {d : DataW H} (hd : ds[j]? = some d)
    {n : Nat} (hs : n = 0 ∨ ∃ elems spare, d = .slice elems spare ∧ elems.length = n) : n ≤ 4398046511104 := by
  rcases hs with h0 | ⟨elems, spare, rfl, rfl⟩
  · omega
  · have hr := reachBytes_lt
    have := sized_slice h ht hd Tryz.underlying32
    rw [bytesProp] at this
    omega

end Go.Proofs.YtmcocepjdhpecabGreatDoor
namespace Go.Proofs.YtmcocepjdhpecabGreatDoor
open Go.Joins Go.ChangeShapes Go.WideShapes Go.ChangeAt Go.WideMaps Go.WideElems Go.RowKit Go.Deep

theorem cellsMsg : Tryz.prog.cellsOf 34 = 9 := by kernel_rfl
theorem cellsI64 : Tryz.prog.cellsOf 3 = 1 := by kernel_rfl
theorem cellsBool : Tryz.prog.cellsOf 4 = 1 := by kernel_rfl
theorem cellsProps : Tryz.prog.cellsOf 32 = 1 := by kernel_rfl
theorem wf64 {n : Int} (h : (Lit.int .i64 n).wf = true) : -9223372036854775808 ≤ n ∧ n ≤ 9223372036854775807 := by
  have h1 : IntKind.i64.min = -9223372036854775808 := rfl
  have h2 : IntKind.i64.max = 9223372036854775807 := rfl
  simp only [Lit.wf, Bool.and_eq_true, decide_eq_true_eq] at h
  omega
set_option maxRecDepth 100000 in
theorem open_props' {H : Type} {enc : TypeId × Value → H} {W : World} {v : Value} {fuel : Nat} {x : DataW H × List MemPlace}
    (hf : DataW.trod enc Tryz.prog W 0 (fun _ => true) true fuel 32 [v] = some x) :
    ∃ (A : Option Addr) (c : Nat) (Xs : List PR), v = .slice A Xs.length c ∧ PL W W.heap.size A Xs := by
  have h2 := hf
  rcases Go.Deep.open_slice_pairs Tryz.underlying32 Tryz.underlying91 cellsProp rfl rfl cellsStr cellsStr h2 with ⟨hcs, _⟩ | ⟨a, len, cap, m, n, V0, V1, D0, D1, P0, P1, hcs, _⟩
  · simp at hcs
    subst hcs
    exact ⟨none, 0, [], rfl, GL.nil _ _ _⟩
  · simp at hcs
    subst hcs
    obtain ⟨Xs, rfl, hp, _⟩ := open_props hf
    exact ⟨_, _, Xs, rfl, hp⟩
set_option maxRecDepth 100000 in
theorem open_msg {H : Type} {enc : TypeId × Value → H} {W : World} {r : Reach} {b0 : Nat} {v : Value} {d : DataW H} {p : List MemPlace} (hv : Value.okWide Tryz.prog W r b0 34 v)
    (h : DataW.Trod enc Tryz.prog W 0 (fun _ => true) true 34 v d p) : ∃ (m : Msg) (A : Option Addr) (c : Nat), v = msgV m A c ∧ m.fits ∧ PL W W.heap.size A m.props := by
  obtain ⟨cs, rfl, hsz⟩ := okWide_struct Tryz.underlying34 hv
  obtain ⟨fuel, hf⟩ := h
  obtain ⟨l⟩ := cs
  have hl : l.length = 9 := by have := hsz.trans cellsMsg; simpa using this
  match l, hl with
  | [c0, c1, c2, c3, c4, c5, c6, c7, c8], _ =>
    obtain ⟨ys, n, _, _, _, hyl, hfld⟩ := DataW.trod_struct Tryz.underlying34 hf
    match ys, hyl with
    | [y0, y1, y2, y3, y4, y5, y6, y7, y8], _ =>
      have g0 := hfld 0 _ rfl
      have g1 := hfld 1 _ rfl
      have g2 := hfld 2 _ rfl
      have g3 := hfld 3 _ rfl
      have g4 := hfld 4 _ rfl
      have g5 := hfld 5 _ rfl
      have g6 := hfld 6 _ rfl
      have g7 := hfld 7 _ rfl
      have g8 := hfld 8 _ rfl
      simp [Value.cells, cellsStr, cellsI64, cellsBool, cellsProps] at g0 g1 g2 g3 g4 g5 g6 g7 g8
      obtain ⟨s0, e0, _⟩ := DataW.trod_string Tryz.underlying9 (show DataW.trod _ _ _ _ _ _ _ 9 [c0] = some y0 from g0)
      obtain ⟨s1, e1, _⟩ := DataW.trod_string Tryz.underlying9 (show DataW.trod _ _ _ _ _ _ _ 9 [c1] = some y1 from g1)
      obtain ⟨n2, e2, _, w2⟩ := DataW.trod_int Tryz.underlying3 (show DataW.trod _ _ _ _ _ _ _ 3 [c2] = some y2 from g2)
      obtain ⟨b3, e3, _⟩ := DataW.trod_bool Tryz.underlying4 (show DataW.trod _ _ _ _ _ _ _ 4 [c3] = some y3 from g3)
      obtain ⟨n4, e4, _, w4⟩ := DataW.trod_int Tryz.underlying3 (show DataW.trod _ _ _ _ _ _ _ 3 [c4] = some y4 from g4)
      obtain ⟨n5, e5, _, w5⟩ := DataW.trod_int Tryz.underlying3 (show DataW.trod _ _ _ _ _ _ _ 3 [c5] = some y5 from g5)
      obtain ⟨s6, e6, _⟩ := DataW.trod_string Tryz.underlying9 (show DataW.trod _ _ _ _ _ _ _ 9 [c6] = some y6 from g6)
      obtain ⟨n7, e7, _, w7⟩ := DataW.trod_int Tryz.underlying3 (show DataW.trod _ _ _ _ _ _ _ 3 [c7] = some y7 from g7)
      obtain ⟨A, c, Xs, e8, hp⟩ := open_props' (show DataW.trod enc Tryz.prog W 0 (fun _ => true) true n 32 [c8] = some y8 from g8)
      simp only [List.cons.injEq, and_true] at e0 e1 e2 e3 e4 e5 e6 e7
      subst e0 e1 e2 e3 e4 e5 e6 e7 e8
      exact ⟨⟨s0, s1, n2, b3, n4, n5, s6, n7, Xs⟩, A, c, rfl, ⟨wf64 w2, wf64 w4, wf64 w5, wf64 w7⟩, hp⟩

/-! ### Bytes -/
theorem cellsU8 : Tryz.prog.cellsOf 5 = 1 := by kernel_rfl
theorem bytesU8 : Tryz.prog.bytesOf 5 = 1 := by kernel_rfl
theorem u8_wf {n : Int} (h : (Lit.int .u8 n).wf = true) : 0 ≤ n ∧ n < 256 := by
  have h1 : IntKind.u8.min = 0 := rfl
  have h2 : IntKind.u8.max = 255 := rfl
  simp only [Lit.wf, Bool.and_eq_true, decide_eq_true_eq] at h
  omega
end Go.Proofs.YtmcocepjdhpecabGreatDoor
namespace Go.Proofs.YtmcocepjdhpecabGreatDoor
open Go.Joins Go.ChangeShapes Go.WideShapes Go.ChangeAt Go.WideMaps Go.WideElems Go.RowKit Go.Deep

theorem len_max {n : Nat} (h : n ≤ maxLen) : n ≤ 9223372036854775807 := by unfold maxLen at h; omega
theorem cellsFl : Tryz.prog.cellsOf 56 = 11 := by kernel_rfl
theorem cellsFls : Tryz.prog.cellsOf 23 = 1 := by kernel_rfl
theorem cellsIntsW : Tryz.prog.cellsOf 24 = 1 := by kernel_rfl
theorem cellsPool : Tryz.prog.cellsOf 26 = 2 := by kernel_rfl
theorem cellsWin : Tryz.prog.cellsOf 28 = 4 := by kernel_rfl
/-- texts of an item fit, and its identifier is an int -/
def FlOk (f : Fl) : Prop := (-9223372036854775808 ≤ f.id ∧ f.id ≤ 9223372036854775807) ∧ f.m.topic.size ≤ 9223372036854775807 ∧ f.m.frm.size ≤ 9223372036854775807 ∧ ∀ y ∈ f.m.props, y.1.size ≤ 9223372036854775807
section
variable {H : Type} {enc : TypeId × Value → H} {W : World}
theorem open_propsW {a0 : Option Addr} {len cap fuel : Nat} {x : DataW H × List MemPlace}
    (hf : DataW.trod enc Tryz.prog W 0 (fun _ => true) true fuel 32 [.slice a0 len cap] = some x) :
    ∃ Xs : List PR, Xs.length = len ∧ PL W W.heap.size a0 Xs ∧ ∀ x ∈ Xs, x.1.size ≤ 9223372036854775807 := by
  rcases Go.Deep.open_slice_pairs Tryz.underlying32 Tryz.underlying91 cellsProp rfl rfl cellsStr cellsStr hf with ⟨hcs, hx⟩ | ⟨a, len', cap', m, n, V0, V1, D0, D1, P0, P1, hcs, _, hl, hm, hmm, hx, hi⟩
  · simp at hcs
    obtain ⟨rfl, rfl, rfl⟩ := hcs
    exact ⟨[], rfl, GL.nil _ _ _, fun _ h => by cases h⟩
  · simp at hcs
    obtain ⟨rfl, rfl, rfl⟩ := hcs
    subst hx
    simp only [if_true] at hmm
    refine ⟨(List.range len).map fun i => (strV (V0 i), strV (V1 i)), by simp, fun h0 => ?_, fun X hX => ?_⟩
    rotate_left
    · obtain ⟨i, hi', rfl⟩ := List.mem_map.1 hX
      have hj := List.mem_range.1 hi'
      obtain ⟨_, _, h3, _⟩ := hi i (by omega)
      obtain ⟨s0, e0, _, z0⟩ := DataW.trod_string Tryz.underlying9 h3
      simp at e0
      show (strV (V0 i)).size ≤ _
      rw [e0]
      exact len_max z0
    simp at h0
    obtain ⟨b, o, rfl, hb⟩ := plain_addr (hi 0 (by omega)).1
    refine ⟨b, o, rfl, hb, fun j X i v hX hv => ?_⟩
    rw [List.getElem?_map] at hX
    have hj : j < len := by
      rcases Nat.lt_or_ge j len with h | h
      · exact h
      · rw [List.getElem?_eq_none (by simpa using h)] at hX; cases hX
    rw [List.getElem?_range hj] at hX
    obtain rfl := Option.some.inj hX
    obtain ⟨h1, h2, h3, h4⟩ := hi j (by omega)
    obtain ⟨s0, e0, _⟩ := DataW.trod_string Tryz.underlying9 h3
    obtain ⟨s1, e1, _⟩ := DataW.trod_string Tryz.underlying9 h4
    simp at e0 e1
    rw [e0] at h1
    rw [e1] at h2
    match i, hv with
    | 0, hv =>
      simp [gP, strV, e0] at hv
      rw [Nat.add_zero, add_plain, h1, hv]
    | 1, hv =>
      simp [gP, strV, e1] at hv
      rw [Nat.add_assoc, add_plain, h2, hv]
set_option maxRecDepth 100000 in
theorem open_propsW' {v : Value} {fuel : Nat} {x : DataW H × List MemPlace}
    (hf : DataW.trod enc Tryz.prog W 0 (fun _ => true) true fuel 32 [v] = some x) :
    ∃ (A : Option Addr) (c : Nat) (Xs : List PR), v = .slice A Xs.length c ∧ PL W W.heap.size A Xs ∧ ∀ x ∈ Xs, x.1.size ≤ 9223372036854775807 := by
  have h2 := hf
  rcases Go.Deep.open_slice_pairs Tryz.underlying32 Tryz.underlying91 cellsProp rfl rfl cellsStr cellsStr h2 with ⟨hcs, _⟩ | ⟨a, len, cap, m, n, V0, V1, D0, D1, P0, P1, hcs, _⟩
  · simp at hcs
    subst hcs
    exact ⟨none, 0, [], rfl, GL.nil _ _ _, fun _ h => by cases h⟩
  · simp at hcs
    subst hcs
    obtain ⟨Xs, rfl, hp, hz⟩ := open_propsW hf
    exact ⟨_, _, Xs, rfl, hp, hz⟩
set_option maxRecDepth 100000 in
theorem open_msgcW {fuel : Nat} {cs : List Value} {x : DataW H × List MemPlace} (hf : DataW.trod enc Tryz.prog W 0 (fun _ => true) true fuel 34 cs = some x) :
    ∃ (m : Msg) (A : Option Addr) (c : Nat), cs = msgC m A c ∧ PL W W.heap.size A m.props ∧ (m.topic.size ≤ 9223372036854775807 ∧ m.frm.size ≤ 9223372036854775807 ∧ ∀ y ∈ m.props, y.1.size ≤ 9223372036854775807) := by
  obtain ⟨ys, n, _, _, hl, hyl, hfld⟩ := DataW.trod_struct Tryz.underlying34 hf
  rw [cellsMsg] at hl
  match cs, hl with
  | [c0, c1, c2, c3, c4, c5, c6, c7, c8], _ =>
    match ys, hyl with
    | [y0, y1, y2, y3, y4, y5, y6, y7, y8], _ =>
      have g0 := hfld 0 _ rfl
      have g1 := hfld 1 _ rfl
      have g2 := hfld 2 _ rfl
      have g3 := hfld 3 _ rfl
      have g4 := hfld 4 _ rfl
      have g5 := hfld 5 _ rfl
      have g6 := hfld 6 _ rfl
      have g7 := hfld 7 _ rfl
      have g8 := hfld 8 _ rfl
      simp [cellsStr, cellsI64, cellsBool, cellsProps] at g0 g1 g2 g3 g4 g5 g6 g7 g8
      obtain ⟨v0, e0, _, z0⟩ := DataW.trod_string Tryz.underlying9 (show DataW.trod enc Tryz.prog W 0 (fun _ => true) true n 9 [c0] = some y0 from g0)
      obtain ⟨v1, e1, _⟩ := DataW.trod_string Tryz.underlying9 (show DataW.trod enc Tryz.prog W 0 (fun _ => true) true n 9 [c1] = some y1 from g1)
      obtain ⟨v2, e2, _, _⟩ := DataW.trod_int Tryz.underlying3 (show DataW.trod enc Tryz.prog W 0 (fun _ => true) true n 3 [c2] = some y2 from g2)
      obtain ⟨v3, e3, _⟩ := DataW.trod_bool Tryz.underlying4 (show DataW.trod enc Tryz.prog W 0 (fun _ => true) true n 4 [c3] = some y3 from g3)
      obtain ⟨v4, e4, _, _⟩ := DataW.trod_int Tryz.underlying3 (show DataW.trod enc Tryz.prog W 0 (fun _ => true) true n 3 [c4] = some y4 from g4)
      obtain ⟨v5, e5, _, _⟩ := DataW.trod_int Tryz.underlying3 (show DataW.trod enc Tryz.prog W 0 (fun _ => true) true n 3 [c5] = some y5 from g5)
      obtain ⟨v6, e6, _, z6⟩ := DataW.trod_string Tryz.underlying9 (show DataW.trod enc Tryz.prog W 0 (fun _ => true) true n 9 [c6] = some y6 from g6)
      obtain ⟨v7, e7, _, _⟩ := DataW.trod_int Tryz.underlying3 (show DataW.trod enc Tryz.prog W 0 (fun _ => true) true n 3 [c7] = some y7 from g7)
      obtain ⟨A8, p8, X8, e8, h8, z8⟩ := open_propsW' (show DataW.trod enc Tryz.prog W 0 (fun _ => true) true n 32 [c8] = some y8 from g8)
      simp only [List.cons.injEq, and_true] at e0 e1 e2 e3 e4 e5 e6 e7
      subst e0 e1 e2 e3 e4 e5 e6 e7 e8
      exact ⟨⟨v0, v1, v2, v3, v4, v5, v6, v7, X8⟩, A8, p8, rfl, h8, len_max z0, len_max z6, z8⟩
set_option maxRecDepth 100000 in
theorem open_flc {fuel : Nat} {cs : List Value} {x : DataW H × List MemPlace} (hf : DataW.trod enc Tryz.prog W 0 (fun _ => true) true fuel 56 cs = some x) :
    ∃ X : FE, cs = gF X ∧ PL W W.heap.size X.a X.f.m.props ∧ FlOk X.f := by
  obtain ⟨ys, n, _, _, hl, hyl, hfld⟩ := DataW.trod_struct Tryz.underlying56 hf
  rw [cellsFl] at hl
  match cs, hl with
  | [c0, c1, c2, c3, c4, c5, c6, c7, c8, c9, c10], _ =>
    match ys, hyl with
    | [y0, y1, y2], _ =>
      have g0 := hfld 0 _ rfl
      have g1 := hfld 1 _ rfl
      have g2 := hfld 2 _ rfl
      simp [cellsI64, cellsMsg] at g0 g1 g2
      obtain ⟨v0, e0, _, w0⟩ := DataW.trod_int Tryz.underlying3 (show DataW.trod enc Tryz.prog W 0 (fun _ => true) true n 3 [c0] = some y0 from g0)
      obtain ⟨v1, e1, _, _⟩ := DataW.trod_int Tryz.underlying3 (show DataW.trod enc Tryz.prog W 0 (fun _ => true) true n 3 [c1] = some y1 from g1)
      obtain ⟨m, A, c, e2, h2, z2⟩ := open_msgcW (show DataW.trod enc Tryz.prog W 0 (fun _ => true) true n 34 [c2, c3, c4, c5, c6, c7, c8, c9, c10] = some y2 from g2)
      simp only [List.cons.injEq, and_true] at e0 e1
      subst e0 e1
      exact ⟨⟨⟨v0, v1, m⟩, A, c⟩, by show [Value.int .i64 v0, Value.int .i64 v1] ++ [c2, c3, c4, c5, c6, c7, c8, c9, c10] = _; rw [e2]; rfl, h2, wf64 w0, z2⟩
set_option maxRecDepth 100000 in
theorem open_fls {fuel : Nat} {v : Value} {x : DataW H × List MemPlace} (hf : DataW.trod enc Tryz.prog W 0 (fun _ => true) true fuel 23 [v] = some x) :
    ∃ (A : Option Addr) (c : Nat) (Xs : List FE), v = .slice A Xs.length c ∧ FI W W.heap.size A Xs ∧ Xs.length ≤ c ∧ Xs.length ≤ 9223372036854775807 ∧ ∀ X ∈ Xs, FlOk X.f := by
  rcases open_slice Tryz.underlying23 hf with ⟨hcs, _⟩ | ⟨a, len, cap, m, n, D, Pl, hcs, _, hl, hmx, hmm, _, hi⟩
  · simp at hcs
    subst hcs
    exact ⟨none, 0, [], rfl, FI.nil _ _ _, Nat.le_refl _, by simp, fun _ h => by cases h⟩
  · simp at hcs
    subst hcs
    simp only [if_true] at hmm
    have each : ∀ i : Nat, ∃ X : FE, i < len → (∀ j u, (gF X)[j]? = some u → W.cell? (a.add (i * 11 + j)) = some u) ∧ PL W W.heap.size X.a X.f.m.props ∧ FlOk X.f := fun i => by
      by_cases h : i < len
      · obtain ⟨cs', hc, ht⟩ := hi i (by omega)
        rw [cellsFl] at hc
        obtain ⟨X, rfl, hp, hk⟩ := open_flc ht
        obtain ⟨_, _, hat⟩ := World.cells?_some hc
        refine ⟨X, fun _ => ⟨fun j u hj => ?_, hp, hk⟩⟩
        have hj3 : j < 11 := (List.getElem?_eq_some_iff.1 hj).1
        rw [← Go.Deep.add_add, hat j hj3, hj]
      · exact ⟨FE.zero, fun h' => absurd h' h⟩
    refine ⟨some a, cap, (List.range len).map fun i => Classical.choose (each i), by simp, ⟨fun h0 => ?_, fun X hX => ?_⟩, by simpa using hl, by simp; have := len_max hmx; omega, fun X hX => ?_⟩
    rotate_left
    · obtain ⟨i, hi', rfl⟩ := List.mem_map.1 hX
      exact (Classical.choose_spec (each i) (List.mem_range.1 hi')).2.1
    · obtain ⟨i, hi', rfl⟩ := List.mem_map.1 hX
      exact (Classical.choose_spec (each i) (List.mem_range.1 hi')).2.2
    simp at h0
    obtain ⟨b, o, rfl, hb⟩ := plain_addr (show W.cell? (a.add 0) = some _ from (Classical.choose_spec (each 0) (by omega)).1 0 _ rfl)
    refine ⟨b, o, rfl, hb, fun j X i v hX hv => ?_⟩
    rw [List.getElem?_map] at hX
    have hj : j < len := by
      rcases Nat.lt_or_ge j len with h | h
      · exact h
      · rw [List.getElem?_eq_none (by simpa using h)] at hX; cases hX
    rw [List.getElem?_range hj] at hX
    obtain rfl := Option.some.inj hX
    rw [Nat.add_assoc, add_plain]
    exact (Classical.choose_spec (each j) hj).1 i v hv
set_option maxRecDepth 100000 in
theorem open_numsW {v : Value} {fuel : Nat} {x : DataW H × List MemPlace}
    (hf : DataW.trod enc Tryz.prog W 0 (fun _ => true) true fuel 24 [v] = some x) :
    ∃ (A : Option Addr) (c : Nat) (X : List Int), v = .slice A X.length c ∧ S2.IL W W.heap.size A X ∧ X.length ≤ c ∧ X.length ≤ 9223372036854775807 ∧ ∀ x ∈ X, -9223372036854775808 ≤ x ∧ x ≤ 9223372036854775807 := by
  rcases open_ints Tryz.underlying24 Tryz.underlying3 cellsI64 hf with ⟨hcs, hx⟩ | ⟨a, len', cap', zs, hcs, _, hl, hm, hz, hx, hcell, hwf⟩
  · simp at hcs
    subst hcs
    exact ⟨none, 0, [], rfl, CL.nil _ _ _, Nat.le_refl _, by simp, fun x h => by cases h⟩
  · simp at hcs
    subst hcs
    simp only [if_true] at hz
    have hlen : (zs.take len').length = len' := by rw [List.length_take]; omega
    have hmm : cap' ≤ 9223372036854775807 := by unfold maxLen at hm; omega
    refine ⟨some a, cap', zs.take len', by rw [hlen], fun h0 => ?_, by omega, by omega, fun x hx => wf64 (hwf x (List.mem_of_mem_take hx))⟩
    rw [hlen] at h0
    obtain ⟨b, o, rfl, hb⟩ := plain_addr (hcell 0 (by omega))
    refine ⟨b, o, rfl, hb, fun j X hX => ?_⟩
    have hj : j < len' := by have := (List.getElem?_eq_some_iff.1 hX).1; omega
    rw [List.getElem?_take_of_lt hj] at hX
    rw [add_plain, hcell j (by omega), List.getD_eq_getElem?_getD, hX]
    rfl
set_option maxRecDepth 100000 in
theorem open_poolc {fuel : Nat} {cs : List Value} {x : DataW H × List MemPlace} (hf : DataW.trod enc Tryz.prog W 0 (fun _ => true) true fuel 26 cs = some x) :
    ∃ (A : Option Addr) (c : Nat) (X : List Int) (l : Int), cs = [.slice A X.length c, .int .i64 l] ∧ S2.IL W W.heap.size A X ∧ X.length ≤ c ∧ X.length ≤ 9223372036854775807 ∧ ∀ x ∈ X, -9223372036854775808 ≤ x ∧ x ≤ 9223372036854775807 := by
  obtain ⟨ys, n, _, _, hl, hyl, hfld⟩ := DataW.trod_struct Tryz.underlying26 hf
  rw [cellsPool] at hl
  match cs, hl with
  | [c0, c1], _ =>
    match ys, hyl with
    | [y0, y1], _ =>
      have g0 := hfld 0 _ rfl
      have g1 := hfld 1 _ rfl
      simp [cellsI64, cellsIntsW] at g0 g1
      obtain ⟨A, c, X, e0, h1, h2, h3, h4⟩ := open_numsW (show DataW.trod enc Tryz.prog W 0 (fun _ => true) true n 24 [c0] = some y0 from g0)
      obtain ⟨l, e1, _, _⟩ := DataW.trod_int Tryz.underlying3 (show DataW.trod enc Tryz.prog W 0 (fun _ => true) true n 3 [c1] = some y1 from g1)
      simp only [List.cons.injEq, and_true] at e1
      subst e0 e1
      exact ⟨A, c, X, l, rfl, h1, h2, h3, h4⟩
set_option maxRecDepth 100000 in
theorem open_win {r : Reach} {b0 : Nat} {v : Value} {d : DataW H} {p : List MemPlace} (hv : Value.okWide Tryz.prog W r b0 28 v)
    (h : DataW.Trod enc Tryz.prog W 0 (fun _ => true) true 28 v d p) : ∃ (L : Int) (A : Option Addr) (c : Nat) (xs : List FE) (A2 : Option Addr) (c2 : Nat) (X : List Int) (l : Int),
      v = wv L A c xs A2 c2 X l ∧ WOk W A c xs A2 c2 X ∧ X.length ≤ 9223372036854775807 ∧ xs.length ≤ 9223372036854775807 ∧ (∀ x ∈ xs, FlOk x.f) ∧ ∀ x ∈ X, -9223372036854775808 ≤ x ∧ x ≤ 9223372036854775807 := by
  obtain ⟨cs, rfl, hsz⟩ := okWide_struct Tryz.underlying28 hv
  obtain ⟨fuel, hf⟩ := h
  obtain ⟨l⟩ := cs
  have hl : l.length = 4 := by have := hsz.trans cellsWin; simpa using this
  match l, hl with
  | [c0, c1, c2, c3], _ =>
    obtain ⟨ys, n, _, _, _, hyl, hfld⟩ := DataW.trod_struct Tryz.underlying28 hf
    match ys, hyl with
    | [y0, y1, y2], _ =>
      have g0 := hfld 0 _ rfl
      have g1 := hfld 1 _ rfl
      have g2 := hfld 2 _ rfl
      simp [Value.cells, cellsI64, cellsFls, cellsPool] at g0 g1 g2
      obtain ⟨L, e0, _, _⟩ := DataW.trod_int Tryz.underlying3 (show DataW.trod _ _ _ _ _ _ _ 3 [c0] = some y0 from g0)
      obtain ⟨A, c, xs, e1, h1, h2, h3, h4⟩ := open_fls (show DataW.trod enc Tryz.prog W 0 (fun _ => true) true n 23 [c1] = some y1 from g1)
      obtain ⟨A2, c2', X, l2, e2, k1, k2, k3, k4⟩ := open_poolc (show DataW.trod enc Tryz.prog W 0 (fun _ => true) true n 26 [c2, c3] = some y2 from g2)
      simp only [List.cons.injEq, and_true] at e0 e2
      obtain ⟨e2, e3⟩ := e2
      subst e0 e1 e2 e3
      exact ⟨L, A, c, xs, A2, c2', X, l2, rfl, ⟨h1, h2, k1, k2⟩, k3, h3, h4, k4⟩
end
end Go.Proofs.YtmcocepjdhpecabGreatDoor
namespace Go.Proofs.YtmcocepjdhpecabGreatDoor
open Go.Joins Go.ChangeShapes Go.WideShapes Go.ChangeAt Go.WideMaps Go.WideElems Go.RowKit Go.Deep

theorem cellsOp : Tryz.prog.cellsOf 36 = 11 := by kernel_rfl
theorem cellsOps : Tryz.prog.cellsOf 22 = 1 := by kernel_rfl
theorem cellsMsgO : Tryz.prog.cellsOf 34 = 9 := by kernel_rfl
/-- the identifier of an operation, which lies in the place of an entry's state, is an int; its texts fit a machine -/
def OpOz (f : Fl) : Prop := -9223372036854775808 ≤ f.st ∧ f.m.topic.size ≤ 9223372036854775807 ∧ f.m.frm.size ≤ 9223372036854775807 ∧ ∀ y ∈ f.m.props, y.1.size ≤ 9223372036854775807
section
variable {H : Type} {enc : TypeId × Value → H} {W : World}
set_option maxRecDepth 100000 in
theorem open_opc {fuel : Nat} {cs : List Value} {x : DataW H × List MemPlace} (hf : DataW.trod enc Tryz.prog W 0 (fun _ => true) true fuel 36 cs = some x) :
    ∃ X : FE, cs = gF X ∧ PL W W.heap.size X.a X.f.m.props ∧ OpOz X.f := by
  obtain ⟨ys, n, _, _, hl, hyl, hfld⟩ := DataW.trod_struct Tryz.underlying36 hf
  rw [cellsOp] at hl
  match cs, hl with
  | [c0, c1, c2, c3, c4, c5, c6, c7, c8, c9, c10], _ =>
    match ys, hyl with
    | [y0, y1, y2], _ =>
      have g0 := hfld 0 _ rfl
      have g1 := hfld 1 _ rfl
      have g2 := hfld 2 _ rfl
      simp [cellsI64, cellsMsg] at g0 g1 g2
      obtain ⟨v0, e0, _, _⟩ := DataW.trod_int Tryz.underlying3 (show DataW.trod enc Tryz.prog W 0 (fun _ => true) true n 3 [c0] = some y0 from g0)
      obtain ⟨v1, e1, _, w1⟩ := DataW.trod_int Tryz.underlying3 (show DataW.trod enc Tryz.prog W 0 (fun _ => true) true n 3 [c1] = some y1 from g1)
      obtain ⟨m, A, c, e2, h2, z2⟩ := open_msgcW (show DataW.trod enc Tryz.prog W 0 (fun _ => true) true n 34 [c2, c3, c4, c5, c6, c7, c8, c9, c10] = some y2 from g2)
      simp only [List.cons.injEq, and_true] at e0 e1
      subst e0 e1
      exact ⟨⟨⟨v0, v1, m⟩, A, c⟩, by show [Value.int .i64 v0, Value.int .i64 v1] ++ [c2, c3, c4, c5, c6, c7, c8, c9, c10] = _; rw [e2]; rfl, h2, (wf64 w1).1, z2⟩
set_option maxRecDepth 100000 in
theorem open_ops14 {fuel : Nat} {v : Value} {x : DataW H × List MemPlace} (hf : DataW.trod enc Tryz.prog W 0 (fun _ => true) true fuel 22 [v] = some x) :
    ∃ (A : Option Addr) (c : Nat) (Xs : List FE), v = .slice A Xs.length c ∧ FI W W.heap.size A Xs ∧ Xs.length ≤ c ∧ Xs.length ≤ 9223372036854775807 ∧ ∀ X ∈ Xs, OpOz X.f := by
  rcases open_slice Tryz.underlying22 hf with ⟨hcs, _⟩ | ⟨a, len, cap, m, n, D, Pl, hcs, _, hl, hmx, hmm, _, hi⟩
  · simp at hcs
    subst hcs
    exact ⟨none, 0, [], rfl, FI.nil _ _ _, Nat.le_refl _, by simp, fun _ h => by cases h⟩
  · simp at hcs
    subst hcs
    simp only [if_true] at hmm
    have each : ∀ i : Nat, ∃ X : FE, i < len → (∀ j u, (gF X)[j]? = some u → W.cell? (a.add (i * 11 + j)) = some u) ∧ PL W W.heap.size X.a X.f.m.props ∧ OpOz X.f := fun i => by
      by_cases h : i < len
      · obtain ⟨cs', hc, ht⟩ := hi i (by omega)
        rw [cellsOp] at hc
        obtain ⟨X, rfl, hp, hk⟩ := open_opc ht
        obtain ⟨_, _, hat⟩ := World.cells?_some hc
        refine ⟨X, fun _ => ⟨fun j u hj => ?_, hp, hk⟩⟩
        have hj3 : j < 11 := (List.getElem?_eq_some_iff.1 hj).1
        rw [← Go.Deep.add_add, hat j hj3, hj]
      · exact ⟨FE.zero, fun h' => absurd h' h⟩
    refine ⟨some a, cap, (List.range len).map fun i => Classical.choose (each i), by simp, ⟨fun h0 => ?_, fun X hX => ?_⟩, by simpa using hl, by simp; have := len_max hmx; omega, fun X hX => ?_⟩
    rotate_left
    · obtain ⟨i, hi', rfl⟩ := List.mem_map.1 hX
      exact (Classical.choose_spec (each i) (List.mem_range.1 hi')).2.1
    · obtain ⟨i, hi', rfl⟩ := List.mem_map.1 hX
      exact (Classical.choose_spec (each i) (List.mem_range.1 hi')).2.2
    simp at h0
    obtain ⟨b, o, rfl, hb⟩ := plain_addr (show W.cell? (a.add 0) = some _ from (Classical.choose_spec (each 0) (by omega)).1 0 _ rfl)
    refine ⟨b, o, rfl, hb, fun j X i v hX hv => ?_⟩
    rw [List.getElem?_map] at hX
    have hj : j < len := by
      rcases Nat.lt_or_ge j len with h | h
      · exact h
      · rw [List.getElem?_eq_none (by simpa using h)] at hX; cases hX
    rw [List.getElem?_range hj] at hX
    obtain rfl := Option.some.inj hX
    rw [Nat.add_assoc, add_plain]
    exact (Classical.choose_spec (each j) hj).1 i v hv
end
end Go.Proofs.YtmcocepjdhpecabGreatDoor
namespace Go.Proofs.YtmcocepjdhpecabGreatDoor
open Go.RowKit
open S2 (BK Put)

/-- how many packets of a kind have an identifier -/
def sentR (l : List Pkt) (k n : Int) : Nat := (l.filter (fun p => decide (p.kind = k) && decide (p.id = n))).length
theorem sentR_add (l : List Pkt) (p : Pkt) (k n : Int) : sentR (l ++ [p]) k n = sentR l k n + (if p.kind = k ∧ p.id = n then 1 else 0) := by
  unfold sentR
  rw [List.filter_append, List.length_append]
  congr 1
  by_cases h1 : p.kind = k <;> by_cases h2 : p.id = n <;> simp [h1, h2]
theorem sentR_le (l : List Pkt) (k n : Int) : sentR l k n ≤ l.length := List.length_filter_le _ _

/-- the packet of an operation (its kind, its identifier or the place of an item) -/
def opId (F : List Fl) (s : Int) : Int := if s < 0 ∧ -1 - s < F.length then (F.getD (-1 - s).toNat Fl.zero).id else s
def pk2 (k n : Int) : Pkt := { Pkt.zero with kind := k, id := n }
def opPk (F : List Fl) (f : Fl) : Pkt := pk2 f.id (opId F f.st)
theorem opCells : (Tryz.prog.info? 36).map (·.size) = some 11 := by kernel_rfl

set_option maxRecDepth 20000 in
set_option maxHeartbeats 4000000 in
theorem packet_any (L : Int) (A : Option Addr) (c : Nat) (xs : List FE) (A2 : Option Addr) (c2 : Nat) (X : List Int) (l : Int) (o : FE) (w : World) (hw : FI w w.heap.size A xs) (hn : xs.length ≤ 100000) (hs : -9223372036854775808 ≤ o.f.st) :
    Calls Tryz.prog 11 #[wv L A c xs A2 c2 X l, fV o] w fun e w' => e = .returned (pkV (opPk (xs.map FE.f) o.f) PA.zero) ∧ Below w.heap.size w w' := by
  have HW := Lib.hid hw
  obtain ⟨P, hP⟩ : ∃ P, opPk (xs.map FE.f) o.f = P := ⟨_, rfl⟩
  rw [hP]
  have HPK : Hid (∀ n, opId (xs.map FE.f) o.f.st = n → pk2 o.f.id n = P) := Lib.hid (fun n h => by rw [← hP, ← h]; rfl)
  clear hw hP
  unfold fV
  go_enter Tryz.func11, Tryz.ntmps11
  go_upto_region 1 with fail
  refine name_world (C := fun w1 => Code.wp _ _ _ _ w1) (((w.alloc (.cells (wcs L A c xs A2 c2 X l).toArray 28)).alloc (.cells (gF o).toArray 36)).alloc (.cells zeroPk.toArray 42)) ?_
  intro w1 hw1
  obtain ⟨hB0, t1, t2, t3⟩ := three hw1
  have T_w1 : Hid (BK 28 w1 w.heap.size (wcs L A c xs A2 c2 X l)) := Lib.hid t1
  have O_w1 : Hid (BK 36 w1 (w.heap.size + 1) (gF o)) := Lib.hid t2
  have K_w1 : Hid (BK 42 w1 (w.heap.size + 1 + 1) zeroPk) := Lib.hid t3
  have B_w1 := Lib.hid hB0
  have D_w1 := Lib.hid (HW.out.step hB0)
  have d0 := O_w1.out.cell 0 rfl
  have d1 := O_w1.out.cell 1 rfl
  have f1 := T_w1.out.cell 1 rfl
  clear hw1 t1 t2 t3 hB0
  by_cases h1 : o.f.st < 0
  rotate_left
  · have q1 : decide (o.f.st < 0) = false := decide_eq_false h1
    have HF := Lib.hid (HPK.out o.f.st (by unfold opId; rw [if_neg (fun h => h1 h.1)]))
    clear h1
    go_wp2_with first
      | (refine S2.wpList_store_all (by rfl) 42 (.tmp 4) (.tmp 32) rfl rfl (w.heap.size + 1 + 1) rfl (pkC (pk2 o.f.id o.f.st) PA.zero) rfl 42 zeroPk K_w1.out pktSize rfl (pkOnes _ _) ?_; intro w2 hM hP; have M2 := Lib.hid hM; have B2 := Lib.hid (hP.below B_w1.out (by omega)); clear hM hP)
    rw [← HF.out]
    exact bodyPost_ret (v := pkV (pk2 o.f.id o.f.st) PA.zero) (S2.res_cell rfl _ _ (w.heap.size + 1 + 1) 42 (pkC (pk2 o.f.id o.f.st) PA.zero) _ rfl M2.out Tryz.underlying42 rfl pktSize) rfl ⟨rfl, B2.out⟩
  have q1 : decide (o.f.st < 0) = true := decide_eq_true h1
  obtain ⟨i, hi⟩ : ∃ i : Nat, -1 - o.f.st = i := ⟨(-1 - o.f.st).toNat, by omega⟩
  have e1 : wrap64 (-1 - o.f.st) = (i : Int) := by rw [hi]; exact wrap64_id _ (by omega) (by omega)
  have e2 : IntKind.i64.wrap (-1 - o.f.st) = (i : Int) := by rw [IntKind.wrap_i64]; omega
  by_cases h2 : i < xs.length
  rotate_left
  · have q2 : decide ((i : Int) < (xs.length : Int)) = false := decide_eq_false (by omega)
    have q2' : decide (i < xs.length) = false := decide_eq_false h2
    have HF := Lib.hid (HPK.out o.f.st (by unfold opId; rw [if_neg (fun h => by have := h.2; rw [List.length_map] at this; omega)]))
    clear h1 h2 hi
    go_wp2_with first
      | (refine S2.wpList_store_all (by rfl) 42 (.tmp 4) (.tmp 32) rfl rfl (w.heap.size + 1 + 1) rfl (pkC (pk2 o.f.id o.f.st) PA.zero) rfl 42 zeroPk K_w1.out pktSize rfl (pkOnes _ _) ?_; intro w2 hM hP; have M2 := Lib.hid hM; have B2 := Lib.hid (hP.below B_w1.out (by omega)); clear hM hP)
    rw [← HF.out]
    exact bodyPost_ret (v := pkV (pk2 o.f.id o.f.st) PA.zero) (S2.res_cell rfl _ _ (w.heap.size + 1 + 1) 42 (pkC (pk2 o.f.id o.f.st) PA.zero) _ rfl M2.out Tryz.underlying42 rfl pktSize) rfl ⟨rfl, B2.out⟩
  have q2 : decide ((i : Int) < (xs.length : Int)) = true := decide_eq_true (by omega)
  have q2' : decide (i < xs.length) = true := decide_eq_true h2
  obtain ⟨x, hx⟩ : ∃ x, xs[i]? = some x := ⟨_, List.getElem?_eq_getElem h2⟩
  have HF : Hid ((pk2 o.f.id x.f.id) = P) := Lib.hid (HPK.out x.f.id (by
    unfold opId
    rw [if_pos ⟨h1, by rw [List.length_map]; omega⟩, hi, Int.toNat_natCast, List.getD_eq_getElem?_getD, List.getElem?_map, hx]
    rfl))
  obtain ⟨b, k, hA, hbB, hc, _⟩ := D_w1.out.at_ hx
  have HBL : Hid (b < w.heap.size) := Lib.hid (by
    obtain ⟨b2, k2, hA2, hb2, _⟩ := HW.out.at_ hx
    rw [hA] at hA2
    simp only [Option.some.injEq, Addr.mk.injEq, and_true] at hA2
    omega)
  have C_w1 : Hid (∀ j v, (gF x)[j]? = some v → w1.cell? ⟨b, k + i * 11 + j, none⟩ = some v) := Lib.hid hc
  subst hA
  have j1 : (0 : Int) ≤ (i : Int) := by omega
  have j2 : (i : Int) < (xs.length : Int) := by omega
  have hli : i ≤ 100000 := by omega
  clear hx hc hbB h1 h2 hi
  go_upto_region 2 with fail
  clear d0 d1 f1 D_w1
  obtain ⟨h1, hh1⟩ : ∃ h1, h1 = World.drew w1 := ⟨_, rfl⟩
  have hbD : Below w1.heap.size w1 h1 := by rw [hh1]; exact (Below.refl _ _).drew
  have T_h1 : Hid (BK 28 h1 w.heap.size (wcs L (some ⟨b, k, none⟩) c xs A2 c2 X l)) := Lib.hid (BK.step T_w1.out hbD)
  have O_h1 : Hid (BK 36 h1 (w.heap.size + 1) (gF o)) := Lib.hid (BK.step O_w1.out hbD)
  have K_h1 : Hid (BK 42 h1 (w.heap.size + 1 + 1) zeroPk) := Lib.hid (BK.step K_w1.out hbD)
  have B_h1 : Hid (Below w.heap.size w h1) := Lib.hid (stepB B_w1.out hbD)
  have C_h1 : Hid (∀ j v, (gF x)[j]? = some v → h1.cell? ⟨b, k + i * 11 + j, none⟩ = some v) := Lib.hid (cells_stepG C_w1.out hbD)
  clear T_w1 O_w1 K_w1 B_w1 C_w1
  have hbd : (fun w' => BK 28 w' w.heap.size (wcs L (some ⟨b, k, none⟩) c xs A2 c2 X l) ∧ BK 36 w' (w.heap.size + 1) (gF o) ∧ ∀ j v, (gF x)[j]? = some v → w'.cell? ⟨b, k + i * 11 + j, none⟩ = some v) (World.drew w1) := by rw [← hh1]; exact ⟨T_h1.out, O_h1.out, C_h1.out⟩
  have hSD : (fun w' => BK 28 w' w.heap.size (wcs L (some ⟨b, k, none⟩) c xs A2 c2 X l) ∧ BK 36 w' (w.heap.size + 1) (gF o) ∧ ∀ j v, (gF x)[j]? = some v → w'.cell? ⟨b, k + i * 11 + j, none⟩ = some v) h1 := ⟨T_h1.out, O_h1.out, C_h1.out⟩
  have HWD := Lib.hid hh1
  clear hh1 hbD
  refine wp_region_held_drew (S := fun w' => BK 28 w' w.heap.size (wcs L (some ⟨b, k, none⟩) c xs A2 c2 X l) ∧ BK 36 w' (w.heap.size + 1) (gF o) ∧ ∀ j v, (gF x)[j]? = some v → w'.cell? ⟨b, k + i * 11 + j, none⟩ = some v) (by kernel_rfl) hbd (fun hHeld => ?_)
  rw [← HWD.out]
  clear hHeld
  have hHeld := hSD
  clear hSD hbd HWD
  refine wpAnyH_take (i := 0) (v := .pointer (some ⟨w.heap.size + 1, 0, none⟩)) (get_ops _ _ _ rfl) (by kernel_rfl) (by kernel_rfl) (by kernel_rfl) (fun _ _ _ h => h) (Or.inl ⟨by rfl, fun wS hSw => by (try dsimp only at hSw); go_simp⟩) hHeld ?_
  try simp only [Act.put, List.setIfInBounds_toArray, List.set_cons_zero, List.set_cons_succ]
  refine wpAnyH_take (i := 1) (v := .int .i64 o.f.id) (get_ops _ _ _ rfl) (by kernel_rfl) (by kernel_rfl) (by kernel_rfl) (fun _ _ _ h => h) (Or.inl ⟨by rfl, fun wS hSw => by (try dsimp only at hSw); have cS : wS.cell? ⟨w.heap.size + 1, 0, none⟩ = some (.int .i64 o.f.id) := hSw.2.1.cell 0 rfl; clear hSw; go_simp⟩) hHeld ?_
  try simp only [Act.put, List.setIfInBounds_toArray, List.set_cons_zero, List.set_cons_succ]
  refine wpAnyH_take (i := 2) (v := .pointer (some ⟨w.heap.size, 1, none⟩)) (get_ops _ _ _ rfl) (by kernel_rfl) (by kernel_rfl) (by kernel_rfl) (fun _ _ _ h => h) (Or.inl ⟨by rfl, fun wS hSw => by (try dsimp only at hSw); go_simp⟩) hHeld ?_
  try simp only [Act.put, List.setIfInBounds_toArray, List.set_cons_zero, List.set_cons_succ]
  refine wpAnyH_take (i := 3) (v := .slice (some ⟨b, k, none⟩) xs.length c) (get_ops _ _ _ rfl) (by kernel_rfl) (by kernel_rfl) (by kernel_rfl) (fun _ _ _ h => h) (Or.inl ⟨by rfl, fun wS hSw => by (try dsimp only at hSw); have cS : wS.cell? ⟨w.heap.size, 1, none⟩ = some (.slice (some ⟨b, k, none⟩) xs.length c) := hSw.1.cell 1 rfl; clear hSw; go_simp⟩) hHeld ?_
  try simp only [Act.put, List.setIfInBounds_toArray, List.set_cons_zero, List.set_cons_succ]
  refine wpAnyH_take (i := 4) (v := .pointer (some ⟨w.heap.size + 1, 1, none⟩)) (get_ops _ _ _ rfl) (by kernel_rfl) (by kernel_rfl) (by kernel_rfl) (fun _ _ _ h => h) (Or.inl ⟨by rfl, fun wS hSw => by (try dsimp only at hSw); go_simp⟩) hHeld ?_
  try simp only [Act.put, List.setIfInBounds_toArray, List.set_cons_zero, List.set_cons_succ]
  refine wpAnyH_take (i := 5) (v := .int .i64 o.f.st) (get_ops _ _ _ rfl) (by kernel_rfl) (by kernel_rfl) (by kernel_rfl) (fun _ _ _ h => h) (Or.inl ⟨by rfl, fun wS hSw => by (try dsimp only at hSw); have cS : wS.cell? ⟨w.heap.size + 1, 1, none⟩ = some (.int .i64 o.f.st) := hSw.2.1.cell 1 rfl; clear hSw; go_simp⟩) hHeld ?_
  try simp only [Act.put, List.setIfInBounds_toArray, List.set_cons_zero, List.set_cons_succ]
  refine wpAnyH_take (i := 6) (v := .int .i64 (i : Int)) (get_ops _ _ _ rfl) (by kernel_rfl) (by kernel_rfl) (by kernel_rfl) (fun _ _ _ h => h) (Or.inl ⟨by rfl, fun wS hSw => by (try dsimp only at hSw); go_simp⟩) hHeld ?_
  try simp only [Act.put, List.setIfInBounds_toArray, List.set_cons_zero, List.set_cons_succ]
  refine wpAnyH_take (i := 7) (v := .pointer (some ⟨b, k + i * 11, none⟩)) (get_ops _ _ _ rfl) (by kernel_rfl) (by kernel_rfl) (by kernel_rfl) (fun _ _ _ h => h) (Or.inl ⟨by rfl, fun wS hSw => by (try dsimp only at hSw); go_simp⟩) hHeld ?_
  try simp only [Act.put, List.setIfInBounds_toArray, List.set_cons_zero, List.set_cons_succ]
  refine wpAnyH_take (i := 8) (v := .pointer (some ⟨b, k + i * 11, none⟩)) (get_ops _ _ _ rfl) (by kernel_rfl) (by kernel_rfl) (by kernel_rfl) (fun _ _ _ h => h) (Or.inl ⟨by rfl, fun wS hSw => by (try dsimp only at hSw); go_simp⟩) hHeld ?_
  try simp only [Act.put, List.setIfInBounds_toArray, List.set_cons_zero, List.set_cons_succ]
  refine wpAnyH_take (i := 9) (v := .int .i64 x.f.id) (get_ops _ _ _ rfl) (by kernel_rfl) (by kernel_rfl) (by kernel_rfl) (fun _ _ _ h => h) (Or.inl ⟨by rfl, fun wS hSw => by (try dsimp only at hSw); have cS : wS.cell? ⟨b, k + i * 11, none⟩ = some (.int .i64 x.f.id) := hSw.2.2 0 _ rfl; clear hSw; go_simp⟩) hHeld ?_
  try simp only [Act.put, List.setIfInBounds_toArray, List.set_cons_zero, List.set_cons_succ]
  refine wpAnyH_take (i := 10) (v := pkV (pk2 o.f.id x.f.id) PA.zero) (get_ops _ _ _ rfl) (by kernel_rfl) (by kernel_rfl) (by kernel_rfl) (fun _ _ _ h => h) (Or.inl ⟨by rfl, fun wS hSw => by (try dsimp only at hSw); go_simp; rfl⟩) hHeld ?_
  try simp only [Act.put, List.setIfInBounds_toArray, List.set_cons_zero, List.set_cons_succ]
  refine wpAnyH_ready (rs := [11]) (by kernel_rfl) (by simp) ?_
  refine (AllReadyH.cons (get_ops _ _ _ rfl) (fun K hK => ?_) AllReadyH.nil)
  refine S2.wp_store_all 42 _ _ rfl rfl (w.heap.size + 1 + 1) (by go_simp) (pkC (pk2 o.f.id x.f.id) PA.zero) (by first | rfl | go_simp) 42 zeroPk K_h1.out pktSize rfl (pkOnes _ _) ?_
  intro h2 hM hP
  have K_h2 : Hid (BK 42 h2 (w.heap.size + 1 + 1) (pkC (pk2 o.f.id x.f.id) PA.zero)) := Lib.hid (hM)
  have T_h2 : Hid (BK 28 h2 w.heap.size (wcs L (some ⟨b, k, none⟩) c xs A2 c2 X l)) := Lib.hid (hP.other T_h1.out (by omega))
  have O_h2 : Hid (BK 36 h2 (w.heap.size + 1) (gF o)) := Lib.hid (hP.other O_h1.out (by omega))
  have B_h2 : Hid (Below w.heap.size w h2) := Lib.hid (hP.below B_h1.out (by omega))
  have C_h2 : Hid (∀ j v, (gF x)[j]? = some v → h2.cell? ⟨b, k + i * 11 + j, none⟩ = some v) := Lib.hid (fun j v hv => (hP.cell (p := ⟨b, k + i * 11 + j, none⟩) (by have := HBL.out; show b ≠ w.heap.size + 1 + 1; omega)).trans (C_h1.out j v hv))
  clear T_h1 O_h1 K_h1 B_h1 C_h1
  clear hM hP hHeld
  refine hK.out _ _ ⟨T_h2.out, O_h2.out, C_h2.out⟩ (fun hHeld => ?_)
  clear hK K
  try simp only [Act.put, List.setIfInBounds_toArray, List.set_cons_zero, List.set_cons_succ]
  refine wpAnyH_done (by kernel_rfl) ?_ _
  go_wp2_with fail
  rw [← HF.out]
  exact bodyPost_ret (v := pkV (pk2 o.f.id x.f.id) PA.zero) (S2.res_cell rfl _ _ (w.heap.size + 1 + 1) 42 (pkC (pk2 o.f.id x.f.id) PA.zero) _ rfl K_h2.out Tryz.underlying42 rfl pktSize) rfl ⟨rfl, B_h2.out⟩
end Go.Proofs.YtmcocepjdhpecabGreatDoor
namespace Go.Proofs.YtmcocepjdhpecabGreatDoor
open Go.RowKit
open S2 (BK Put)

set_option maxRecDepth 20000 in
set_option maxHeartbeats 1000000 in
theorem rnew_any (n : Int) (w : World) : Calls Tryz.prog 6 #[.int .i64 n] w fun e w' => e = .returned (wv (limR n) none 0 [] none 0 [] 0) ∧ Below w.heap.size w w' := by
  by_cases h1 : n < 0
  · have q1 : decide (n < 0) = true := decide_eq_true h1
    rw [show limR n = 0 by unfold limR; rw [if_pos h1]]
    clear h1
    go_enter Tryz.func6, Tryz.ntmps6
    go_wp2_with fail
    exact bodyPost_ret (v := wv 0 none 0 [] none 0 [] 0) (S2.res_cell rfl _ _ w.heap.size 28 (wcs 0 none 0 [] none 0 [] 0) _ rfl (BK.new w _ _) Tryz.underlying28 rfl winSize) rfl ⟨rfl, S2.below_new w _⟩
  have q1 : decide (n < 0) = false := decide_eq_false h1
  by_cases h2 : 32 < n
  · have q2 : decide (32 < n) = true := decide_eq_true h2
    rw [show limR n = 32 by unfold limR; rw [if_neg h1, if_pos h2]]
    clear h1 h2
    go_enter Tryz.func6, Tryz.ntmps6
    go_wp2_with fail
    exact bodyPost_ret (v := wv 32 none 0 [] none 0 [] 0) (S2.res_cell rfl _ _ w.heap.size 28 (wcs 32 none 0 [] none 0 [] 0) _ rfl (BK.new w _ _) Tryz.underlying28 rfl winSize) rfl ⟨rfl, S2.below_new w _⟩
  · have q2 : decide (32 < n) = false := decide_eq_false h2
    rw [show limR n = n by unfold limR; rw [if_neg h1, if_neg h2]]
    clear h1 h2
    go_enter Tryz.func6, Tryz.ntmps6
    go_wp2_with fail
    exact bodyPost_ret (v := wv n none 0 [] none 0 [] 0) (S2.res_cell rfl _ _ w.heap.size 28 (wcs n none 0 [] none 0 [] 0) _ rfl (BK.new w _ _) Tryz.underlying28 rfl winSize) rfl ⟨rfl, S2.below_new w _⟩

set_option maxRecDepth 20000 in
set_option maxHeartbeats 1000000 in
theorem rwsame0_any (r : Int) (w : World) : Calls Tryz.prog 5 #[wv r none 0 [] none 0 [] 0, wv r none 0 [] none 0 [] 0] w fun e w' => e = .returned (.bool true) ∧ Below w.heap.size w w' := by
  have HI := Lib.hid (fun w1 => S2.rSame_any none none 0 0 [] [] 0 0 w1 (CL.nil _ _ _) (CL.nil _ _ _) (by simp) (by simp))
  rw [decide_eq_true rfl] at HI
  have q : (r != r) = false := by simp
  go_enter Tryz.func5, Tryz.ntmps5
  go_upto_region 1 with fail
  refine name_world (C := fun w1 => Code.wp _ _ _ _ w1) ((w.alloc (.cells (wcs r none 0 [] none 0 [] 0).toArray 28)).alloc (.cells (wcs r none 0 [] none 0 [] 0).toArray 28)) ?_
  intro w1 hw1
  obtain ⟨t1, t2, hs0, hB0⟩ := S2.two_laid (v1 := wcs r none 0 [] none 0 [] 0) (v2 := wcs r none 0 [] none 0 [] 0) hw1
  have T1 := Lib.hid t1
  have T2 := Lib.hid t2
  have HB := Lib.hid hB0
  have d0 := t1.cell 0 rfl
  have e0 := t2.cell 0 rfl
  have d1 := t1.cell 1 rfl
  have e1 := t2.cell 1 rfl
  clear hw1 t1 t2 hs0 hB0
  go_wp2_with first
    | (refine wpList_load_v (by rfl) 26 _ rfl ⟨w.heap.size, 2, none⟩ rfl (S2.pv none 0 [] 0) (bk_pool (c := 0) (xs := []) (A := none) (L := r) T1.out) ?_)
    | (refine wpList_load_v (by rfl) 26 _ rfl ⟨w.heap.size + 1, 2, none⟩ rfl (S2.pv none 0 [] 0) (bk_pool (c := 0) (xs := []) (A := none) (L := r) T2.out) ?_)
  refine (HI.out w1).mono ?_
  rintro e w2 ⟨rfl, hb⟩
  have HB2 := Lib.hid (stepB HB.out hb)
  have f1 := (T1.out.step hb).cell 1 rfl
  have g1 := (T2.out.step hb).cell 1 rfl
  clear hb d0 e0 d1 e1 T1 T2 HI
  go_wp2_with fail
  go_loopg [5] 0 (fun g v wr => v = .int .i64 0 ∧ wr = w2)
  case atStart => exact ⟨rfl, rfl⟩
  case round =>
    obtain ⟨rfl, rfl⟩ := hrel
    go_wp2
    go_ret
    exact ⟨rfl, HB2.out⟩
end Go.Proofs.YtmcocepjdhpecabGreatDoor
namespace Go.Proofs.YtmcocepjdhpecabGreatDoor
open Go.Joins Go.ChangeShapes Go.WideShapes Go.ChangeAt Go.WideMaps Go.WideElems Go.RowKit Go.Deep

theorem cellsSub : Tryz.prog.cellsOf 96 = 3 := by kernel_rfl
theorem cellsSubs : Tryz.prog.cellsOf 39 = 1 := by kernel_rfl
theorem cellsStrs : Tryz.prog.cellsOf 40 = 1 := by kernel_rfl
theorem cellsInts : Tryz.prog.cellsOf 24 = 1 := by kernel_rfl
theorem cellsWill : Tryz.prog.cellsOf 38 = 11 := by kernel_rfl
theorem cellsPkt : Tryz.prog.cellsOf 42 = 34 := by kernel_rfl
section
variable {H : Type} {enc : TypeId × Value → H} {W : World}
set_option maxRecDepth 100000 in
/-- the cells of one subscription -/
theorem open_sub1 {fuel : Nat} {cs : List Value} {x : DataW H × List MemPlace} (hf : DataW.trod enc Tryz.prog W 0 (fun _ => true) true fuel 96 cs = some x) : ∃ X : SB, cs = gS X := by
  obtain ⟨ys, n, _, _, hl, hyl, hfld⟩ := DataW.trod_struct Tryz.underlying96 hf
  rw [cellsSub] at hl
  match cs, hl with
  | [c0, c1, c2], _ =>
    match ys, hyl with
    | [y0, y1, y2], _ =>
      have g0 := hfld 0 _ rfl
      have g1 := hfld 1 _ rfl
      have g2 := hfld 2 _ rfl
      simp [cellsStr, cellsI64, cellsBool] at g0 g1 g2
      obtain ⟨s0, e0, _⟩ := DataW.trod_string Tryz.underlying9 (show DataW.trod _ _ _ _ _ _ _ 9 [c0] = some y0 from g0)
      obtain ⟨n1, e1, _, _⟩ := DataW.trod_int Tryz.underlying3 (show DataW.trod _ _ _ _ _ _ _ 3 [c1] = some y1 from g1)
      obtain ⟨b2, e2, _⟩ := DataW.trod_bool Tryz.underlying4 (show DataW.trod _ _ _ _ _ _ _ 4 [c2] = some y2 from g2)
      simp only [List.cons.injEq, and_true] at e0 e1 e2
      subst e0 e1 e2
      exact ⟨(s0, n1, b2), rfl⟩
set_option maxRecDepth 100000 in
theorem open_subs {fuel : Nat} {v : Value} {x : DataW H × List MemPlace} (hf : DataW.trod enc Tryz.prog W 0 (fun _ => true) true fuel 39 [v] = some x) :
    ∃ (A : Option Addr) (c : Nat) (Xs : List SB), v = .slice A Xs.length c ∧ BL W W.heap.size A Xs := by
  rcases open_slice Tryz.underlying39 hf with ⟨hcs, _⟩ | ⟨a, len, cap, m, n, D, Pl, hcs, _, hl, _, hmm, _, hi⟩
  · simp at hcs
    subst hcs
    exact ⟨none, 0, [], rfl, GL.nil _ _ _⟩
  · simp at hcs
    subst hcs
    simp only [if_true] at hmm
    have each : ∀ i : Nat, ∃ X : SB, i < len → ∀ j u, (gS X)[j]? = some u → W.cell? (a.add (i * 3 + j)) = some u := fun i => by
      by_cases h : i < len
      · obtain ⟨cs', hc, ht⟩ := hi i (by omega)
        rw [cellsSub] at hc
        obtain ⟨X, rfl⟩ := open_sub1 ht
        obtain ⟨_, _, hat⟩ := World.cells?_some hc
        refine ⟨X, fun _ j u hj => ?_⟩
        have hj3 : j < 3 := (List.getElem?_eq_some_iff.1 hj).1
        rw [← Go.Deep.add_add, hat j hj3, hj]
      · exact ⟨(⟨#[]⟩, 0, false), fun h' => absurd h' h⟩
    refine ⟨some a, cap, (List.range len).map fun i => Classical.choose (each i), by simp, fun h0 => ?_⟩
    simp at h0
    obtain ⟨b, o, rfl, hb⟩ := plain_addr (show W.cell? (a.add 0) = some _ from Classical.choose_spec (each 0) (by omega) 0 _ rfl)
    refine ⟨b, o, rfl, hb, fun j X i v hX hv => ?_⟩
    rw [List.getElem?_map] at hX
    have hj : j < len := by
      rcases Nat.lt_or_ge j len with h | h
      · exact h
      · rw [List.getElem?_eq_none (by simpa using h)] at hX; cases hX
    rw [List.getElem?_range hj] at hX
    obtain rfl := Option.some.inj hX
    rw [Nat.add_assoc, add_plain]
    exact Classical.choose_spec (each j) hj i v hv
set_option maxRecDepth 100000 in
theorem open_strs {fuel : Nat} {v : Value} {x : DataW H × List MemPlace} (hf : DataW.trod enc Tryz.prog W 0 (fun _ => true) true fuel 40 [v] = some x) :
    ∃ (A : Option Addr) (c : Nat) (Xs : List ByteArray), v = .slice A Xs.length c ∧ SL W W.heap.size A Xs := by
  rcases open_strings Tryz.underlying40 Tryz.underlying9 cellsStr hf with ⟨hcs, _⟩ | ⟨a, len, cap, ss, hcs, _, hl, _, hz, _, hcell, _⟩
  · simp at hcs
    subst hcs
    exact ⟨none, 0, [], rfl, CL.nil _ _ _⟩
  · simp at hcs
    subst hcs
    simp only [if_true] at hz
    refine ⟨some a, cap, ss.take len, by simp; omega, fun h0 => ?_⟩
    rw [List.length_take] at h0
    obtain ⟨b, o, rfl, hb⟩ := plain_addr (hcell 0 (by omega))
    refine ⟨b, o, rfl, hb, fun j X hX => ?_⟩
    have hj : j < len := by have := (List.getElem?_eq_some_iff.1 hX).1; simp at this; omega
    rw [List.getElem?_take_of_lt hj] at hX
    rw [add_plain, hcell j (by omega), List.getD_eq_getElem?_getD, hX]
    rfl
set_option maxRecDepth 100000 in
theorem open_nums {fuel : Nat} {v : Value} {x : DataW H × List MemPlace} (hf : DataW.trod enc Tryz.prog W 0 (fun _ => true) true fuel 24 [v] = some x) :
    ∃ (A : Option Addr) (c : Nat) (Xs : List Int), v = .slice A Xs.length c ∧ IL W W.heap.size A Xs := by
  rcases open_ints Tryz.underlying24 Tryz.underlying3 cellsI64 hf with ⟨hcs, _⟩ | ⟨a, len, cap, zs, hcs, _, hl, _, hz, _, hcell, _⟩
  · simp at hcs
    subst hcs
    exact ⟨none, 0, [], rfl, CL.nil _ _ _⟩
  · simp at hcs
    subst hcs
    simp only [if_true] at hz
    refine ⟨some a, cap, zs.take len, by simp; omega, fun h0 => ?_⟩
    rw [List.length_take] at h0
    obtain ⟨b, o, rfl, hb⟩ := plain_addr (hcell 0 (by omega))
    refine ⟨b, o, rfl, hb, fun j X hX => ?_⟩
    have hj : j < len := by have := (List.getElem?_eq_some_iff.1 hX).1; simp at this; omega
    rw [List.getElem?_take_of_lt hj] at hX
    rw [add_plain, hcell j (by omega), List.getD_eq_getElem?_getD, hX]
    rfl
set_option maxRecDepth 100000 in
theorem open_msgc {fuel : Nat} {cs : List Value} {x : DataW H × List MemPlace} (hf : DataW.trod enc Tryz.prog W 0 (fun _ => true) true fuel 34 cs = some x) :
    ∃ (m : Msg) (A : Option Addr) (c : Nat), cs = msgC m A c ∧ PL W W.heap.size A m.props := by
  obtain ⟨ys, n, _, _, hl, hyl, hfld⟩ := DataW.trod_struct Tryz.underlying34 hf
  rw [cellsMsg] at hl
  match cs, hl with
  | [c0, c1, c2, c3, c4, c5, c6, c7, c8], _ =>
    match ys, hyl with
    | [y0, y1, y2, y3, y4, y5, y6, y7, y8], _ =>
      have g0 := hfld 0 _ rfl
      have g1 := hfld 1 _ rfl
      have g2 := hfld 2 _ rfl
      have g3 := hfld 3 _ rfl
      have g4 := hfld 4 _ rfl
      have g5 := hfld 5 _ rfl
      have g6 := hfld 6 _ rfl
      have g7 := hfld 7 _ rfl
      have g8 := hfld 8 _ rfl
      simp [cellsStr, cellsI64, cellsBool, cellsProps] at g0 g1 g2 g3 g4 g5 g6 g7 g8
      obtain ⟨v0, e0, _⟩ := DataW.trod_string Tryz.underlying9 (show DataW.trod enc Tryz.prog W 0 (fun _ => true) true n 9 [c0] = some y0 from g0)
      obtain ⟨v1, e1, _⟩ := DataW.trod_string Tryz.underlying9 (show DataW.trod enc Tryz.prog W 0 (fun _ => true) true n 9 [c1] = some y1 from g1)
      obtain ⟨v2, e2, _, _⟩ := DataW.trod_int Tryz.underlying3 (show DataW.trod enc Tryz.prog W 0 (fun _ => true) true n 3 [c2] = some y2 from g2)
      obtain ⟨v3, e3, _⟩ := DataW.trod_bool Tryz.underlying4 (show DataW.trod enc Tryz.prog W 0 (fun _ => true) true n 4 [c3] = some y3 from g3)
      obtain ⟨v4, e4, _, _⟩ := DataW.trod_int Tryz.underlying3 (show DataW.trod enc Tryz.prog W 0 (fun _ => true) true n 3 [c4] = some y4 from g4)
      obtain ⟨v5, e5, _, _⟩ := DataW.trod_int Tryz.underlying3 (show DataW.trod enc Tryz.prog W 0 (fun _ => true) true n 3 [c5] = some y5 from g5)
      obtain ⟨v6, e6, _⟩ := DataW.trod_string Tryz.underlying9 (show DataW.trod enc Tryz.prog W 0 (fun _ => true) true n 9 [c6] = some y6 from g6)
      obtain ⟨v7, e7, _, _⟩ := DataW.trod_int Tryz.underlying3 (show DataW.trod enc Tryz.prog W 0 (fun _ => true) true n 3 [c7] = some y7 from g7)
      obtain ⟨A8, p8, X8, e8, h8⟩ := open_props' (show DataW.trod enc Tryz.prog W 0 (fun _ => true) true n 32 [c8] = some y8 from g8)
      simp only [List.cons.injEq, and_true] at e0 e1 e2 e3 e4 e5 e6 e7
      subst e0 e1 e2 e3 e4 e5 e6 e7 e8
      exact ⟨⟨v0, v1, v2, v3, v4, v5, v6, v7, X8⟩, A8, p8, rfl, h8⟩
set_option maxRecDepth 100000 in
theorem open_willc {fuel : Nat} {cs : List Value} {x : DataW H × List MemPlace} (hf : DataW.trod enc Tryz.prog W 0 (fun _ => true) true fuel 38 cs = some x) :
    ∃ (s : Bool) (d : Int) (m : Msg) (A : Option Addr) (c : Nat), cs = [.bool s, .int .i64 d] ++ msgC m A c ∧ PL W W.heap.size A m.props := by
  obtain ⟨ys, n, _, _, hl, hyl, hfld⟩ := DataW.trod_struct Tryz.underlying38 hf
  rw [cellsWill] at hl
  match cs, hl with
  | [c0, c1, c2, c3, c4, c5, c6, c7, c8, c9, c10], _ =>
    match ys, hyl with
    | [y0, y1, y2], _ =>
      have g0 := hfld 0 _ rfl
      have g1 := hfld 1 _ rfl
      have g2 := hfld 2 _ rfl
      simp [cellsI64, cellsBool, cellsMsg] at g0 g1 g2
      obtain ⟨v0, e0, _⟩ := DataW.trod_bool Tryz.underlying4 (show DataW.trod enc Tryz.prog W 0 (fun _ => true) true n 4 [c0] = some y0 from g0)
      obtain ⟨v1, e1, _, _⟩ := DataW.trod_int Tryz.underlying3 (show DataW.trod enc Tryz.prog W 0 (fun _ => true) true n 3 [c1] = some y1 from g1)
      obtain ⟨m, A, c, e2, h2⟩ := open_msgc (show DataW.trod enc Tryz.prog W 0 (fun _ => true) true n 34 [c2, c3, c4, c5, c6, c7, c8, c9, c10] = some y2 from g2)
      simp only [List.cons.injEq, and_true] at e0 e1
      subst e0 e1
      exact ⟨v0, v1, m, A, c, by rw [← e2]; rfl, h2⟩
set_option maxRecDepth 100000 in
set_option maxHeartbeats 4000000 in
theorem open_pkt {r : Reach} {b0 : Nat} {v : Value} {d : DataW H} {p : List MemPlace} (hv : Value.okWide Tryz.prog W r b0 42 v)
    (h : DataW.Trod enc Tryz.prog W 0 (fun _ => true) true 42 v d p) : ∃ (q : Pkt) (a : PA), v = pkV q a ∧ PIn W q a := by
  obtain ⟨cs, rfl, hsz⟩ := okWide_struct Tryz.underlying42 hv
  obtain ⟨fuel, hf⟩ := h
  obtain ⟨l⟩ := cs
  have hl : l.length = 34 := by have := hsz.trans cellsPkt; simpa using this
  · skip
    obtain ⟨c0, l0, q0⟩ := List.exists_cons_of_length_pos (l := l) (by omega)
    subst q0
    have hl0 : l0.length = 33 := by simpa using hl
    clear hl
    obtain ⟨c1, l1, q1⟩ := List.exists_cons_of_length_pos (l := l0) (by omega)
    subst q1
    have hl1 : l1.length = 32 := by simpa using hl0
    clear hl0
    obtain ⟨c2, l2, q2⟩ := List.exists_cons_of_length_pos (l := l1) (by omega)
    subst q2
    have hl2 : l2.length = 31 := by simpa using hl1
    clear hl1
    obtain ⟨c3, l3, q3⟩ := List.exists_cons_of_length_pos (l := l2) (by omega)
    subst q3
    have hl3 : l3.length = 30 := by simpa using hl2
    clear hl2
    obtain ⟨c4, l4, q4⟩ := List.exists_cons_of_length_pos (l := l3) (by omega)
    subst q4
    have hl4 : l4.length = 29 := by simpa using hl3
    clear hl3
    obtain ⟨c5, l5, q5⟩ := List.exists_cons_of_length_pos (l := l4) (by omega)
    subst q5
    have hl5 : l5.length = 28 := by simpa using hl4
    clear hl4
    obtain ⟨c6, l6, q6⟩ := List.exists_cons_of_length_pos (l := l5) (by omega)
    subst q6
    have hl6 : l6.length = 27 := by simpa using hl5
    clear hl5
    obtain ⟨c7, l7, q7⟩ := List.exists_cons_of_length_pos (l := l6) (by omega)
    subst q7
    have hl7 : l7.length = 26 := by simpa using hl6
    clear hl6
    obtain ⟨c8, l8, q8⟩ := List.exists_cons_of_length_pos (l := l7) (by omega)
    subst q8
    have hl8 : l8.length = 25 := by simpa using hl7
    clear hl7
    obtain ⟨c9, l9, q9⟩ := List.exists_cons_of_length_pos (l := l8) (by omega)
    subst q9
    have hl9 : l9.length = 24 := by simpa using hl8
    clear hl8
    obtain ⟨c10, l10, q10⟩ := List.exists_cons_of_length_pos (l := l9) (by omega)
    subst q10
    have hl10 : l10.length = 23 := by simpa using hl9
    clear hl9
    obtain ⟨c11, l11, q11⟩ := List.exists_cons_of_length_pos (l := l10) (by omega)
    subst q11
    have hl11 : l11.length = 22 := by simpa using hl10
    clear hl10
    obtain ⟨c12, l12, q12⟩ := List.exists_cons_of_length_pos (l := l11) (by omega)
    subst q12
    have hl12 : l12.length = 21 := by simpa using hl11
    clear hl11
    obtain ⟨c13, l13, q13⟩ := List.exists_cons_of_length_pos (l := l12) (by omega)
    subst q13
    have hl13 : l13.length = 20 := by simpa using hl12
    clear hl12
    obtain ⟨c14, l14, q14⟩ := List.exists_cons_of_length_pos (l := l13) (by omega)
    subst q14
    have hl14 : l14.length = 19 := by simpa using hl13
    clear hl13
    obtain ⟨c15, l15, q15⟩ := List.exists_cons_of_length_pos (l := l14) (by omega)
    subst q15
    have hl15 : l15.length = 18 := by simpa using hl14
    clear hl14
    obtain ⟨c16, l16, q16⟩ := List.exists_cons_of_length_pos (l := l15) (by omega)
    subst q16
    have hl16 : l16.length = 17 := by simpa using hl15
    clear hl15
    obtain ⟨c17, l17, q17⟩ := List.exists_cons_of_length_pos (l := l16) (by omega)
    subst q17
    have hl17 : l17.length = 16 := by simpa using hl16
    clear hl16
    obtain ⟨c18, l18, q18⟩ := List.exists_cons_of_length_pos (l := l17) (by omega)
    subst q18
    have hl18 : l18.length = 15 := by simpa using hl17
    clear hl17
    obtain ⟨c19, l19, q19⟩ := List.exists_cons_of_length_pos (l := l18) (by omega)
    subst q19
    have hl19 : l19.length = 14 := by simpa using hl18
    clear hl18
    obtain ⟨c20, l20, q20⟩ := List.exists_cons_of_length_pos (l := l19) (by omega)
    subst q20
    have hl20 : l20.length = 13 := by simpa using hl19
    clear hl19
    obtain ⟨c21, l21, q21⟩ := List.exists_cons_of_length_pos (l := l20) (by omega)
    subst q21
    have hl21 : l21.length = 12 := by simpa using hl20
    clear hl20
    obtain ⟨c22, l22, q22⟩ := List.exists_cons_of_length_pos (l := l21) (by omega)
    subst q22
    have hl22 : l22.length = 11 := by simpa using hl21
    clear hl21
    obtain ⟨c23, l23, q23⟩ := List.exists_cons_of_length_pos (l := l22) (by omega)
    subst q23
    have hl23 : l23.length = 10 := by simpa using hl22
    clear hl22
    obtain ⟨c24, l24, q24⟩ := List.exists_cons_of_length_pos (l := l23) (by omega)
    subst q24
    have hl24 : l24.length = 9 := by simpa using hl23
    clear hl23
    obtain ⟨c25, l25, q25⟩ := List.exists_cons_of_length_pos (l := l24) (by omega)
    subst q25
    have hl25 : l25.length = 8 := by simpa using hl24
    clear hl24
    obtain ⟨c26, l26, q26⟩ := List.exists_cons_of_length_pos (l := l25) (by omega)
    subst q26
    have hl26 : l26.length = 7 := by simpa using hl25
    clear hl25
    obtain ⟨c27, l27, q27⟩ := List.exists_cons_of_length_pos (l := l26) (by omega)
    subst q27
    have hl27 : l27.length = 6 := by simpa using hl26
    clear hl26
    obtain ⟨c28, l28, q28⟩ := List.exists_cons_of_length_pos (l := l27) (by omega)
    subst q28
    have hl28 : l28.length = 5 := by simpa using hl27
    clear hl27
    obtain ⟨c29, l29, q29⟩ := List.exists_cons_of_length_pos (l := l28) (by omega)
    subst q29
    have hl29 : l29.length = 4 := by simpa using hl28
    clear hl28
    obtain ⟨c30, l30, q30⟩ := List.exists_cons_of_length_pos (l := l29) (by omega)
    subst q30
    have hl30 : l30.length = 3 := by simpa using hl29
    clear hl29
    obtain ⟨c31, l31, q31⟩ := List.exists_cons_of_length_pos (l := l30) (by omega)
    subst q31
    have hl31 : l31.length = 2 := by simpa using hl30
    clear hl30
    obtain ⟨c32, l32, q32⟩ := List.exists_cons_of_length_pos (l := l31) (by omega)
    subst q32
    have hl32 : l32.length = 1 := by simpa using hl31
    clear hl31
    obtain ⟨c33, l33, q33⟩ := List.exists_cons_of_length_pos (l := l32) (by omega)
    subst q33
    have hl33 : l33.length = 0 := by simpa using hl32
    clear hl32
    have q34 := List.eq_nil_of_length_eq_zero hl33
    subst q34
    obtain ⟨ys, n, _, _, _, hyl, hfld⟩ := DataW.trod_struct Tryz.underlying42 hf
    match ys, hyl with
    | [y0, y1, y2, y3, y4, y5, y6, y7, y8, y9, y10, y11, y12, y13, y14, y15], _ =>
      have g0 := hfld 0 _ rfl
      have g1 := hfld 1 _ rfl
      have g2 := hfld 2 _ rfl
      have g3 := hfld 3 _ rfl
      have g4 := hfld 4 _ rfl
      have g5 := hfld 5 _ rfl
      have g6 := hfld 6 _ rfl
      have g7 := hfld 7 _ rfl
      have g8 := hfld 8 _ rfl
      have g9 := hfld 9 _ rfl
      have g10 := hfld 10 _ rfl
      have g11 := hfld 11 _ rfl
      have g12 := hfld 12 _ rfl
      have g13 := hfld 13 _ rfl
      have g14 := hfld 14 _ rfl
      have g15 := hfld 15 _ rfl
      simp [Value.cells, cellsStr, cellsI64, cellsBool, cellsMsg, cellsWill, cellsSubs, cellsStrs, cellsInts] at g0 g1 g2 g3 g4 g5 g6 g7 g8 g9 g10 g11 g12 g13 g14 g15
      obtain ⟨v0, e0, _, _⟩ := DataW.trod_int Tryz.underlying3 (show DataW.trod enc Tryz.prog W 0 (fun _ => true) true n 3 [c0] = some y0 from g0)
      obtain ⟨v1, e1, _, _⟩ := DataW.trod_int Tryz.underlying3 (show DataW.trod enc Tryz.prog W 0 (fun _ => true) true n 3 [c1] = some y1 from g1)
      obtain ⟨v2, e2, _⟩ := DataW.trod_bool Tryz.underlying4 (show DataW.trod enc Tryz.prog W 0 (fun _ => true) true n 4 [c2] = some y2 from g2)
      obtain ⟨m3, A3, p3, e3, h3⟩ := open_msgc (show DataW.trod enc Tryz.prog W 0 (fun _ => true) true n 34 [c3, c4, c5, c6, c7, c8, c9, c10, c11] = some y3 from g3)
      obtain ⟨v4, e4, _⟩ := DataW.trod_string Tryz.underlying9 (show DataW.trod enc Tryz.prog W 0 (fun _ => true) true n 9 [c12] = some y4 from g4)
      obtain ⟨v5, e5, _⟩ := DataW.trod_string Tryz.underlying9 (show DataW.trod enc Tryz.prog W 0 (fun _ => true) true n 9 [c13] = some y5 from g5)
      obtain ⟨v6, e6, _⟩ := DataW.trod_bool Tryz.underlying4 (show DataW.trod enc Tryz.prog W 0 (fun _ => true) true n 4 [c14] = some y6 from g6)
      obtain ⟨v7, e7, _, _⟩ := DataW.trod_int Tryz.underlying3 (show DataW.trod enc Tryz.prog W 0 (fun _ => true) true n 3 [c15] = some y7 from g7)
      obtain ⟨v8, e8, _, _⟩ := DataW.trod_int Tryz.underlying3 (show DataW.trod enc Tryz.prog W 0 (fun _ => true) true n 3 [c16] = some y8 from g8)
      obtain ⟨v9, e9, _, _⟩ := DataW.trod_int Tryz.underlying3 (show DataW.trod enc Tryz.prog W 0 (fun _ => true) true n 3 [c17] = some y9 from g9)
      obtain ⟨s10, d10, m10, A10, p10, e10, h10⟩ := open_willc (show DataW.trod enc Tryz.prog W 0 (fun _ => true) true n 38 [c18, c19, c20, c21, c22, c23, c24, c25, c26, c27, c28] = some y10 from g10)
      obtain ⟨v11, e11, _⟩ := DataW.trod_bool Tryz.underlying4 (show DataW.trod enc Tryz.prog W 0 (fun _ => true) true n 4 [c29] = some y11 from g11)
      obtain ⟨v12, e12, _, _⟩ := DataW.trod_int Tryz.underlying3 (show DataW.trod enc Tryz.prog W 0 (fun _ => true) true n 3 [c30] = some y12 from g12)
      obtain ⟨A13, p13, X13, e13, h13⟩ := open_subs (show DataW.trod enc Tryz.prog W 0 (fun _ => true) true n 39 [c31] = some y13 from g13)
      obtain ⟨A14, p14, X14, e14, h14⟩ := open_strs (show DataW.trod enc Tryz.prog W 0 (fun _ => true) true n 40 [c32] = some y14 from g14)
      obtain ⟨A15, p15, X15, e15, h15⟩ := open_nums (show DataW.trod enc Tryz.prog W 0 (fun _ => true) true n 24 [c33] = some y15 from g15)
      simp only [msgC, List.cons_append, List.nil_append, List.cons.injEq, and_true] at e0 e1 e2 e3 e4 e5 e6 e7 e8 e9 e10 e11 e12
      obtain ⟨f1, f2, f3, f4, f5, f6, f7, f8, f9⟩ := e3
      obtain ⟨k1, k2, k3, k4, k5, k6, k7, k8, k9, k10, k11⟩ := e10
      subst e0 e1 e2 e4 e5 e6 e7 e8 e9 e11 e12 e13 e14 e15 f1 f2 f3 f4 f5 f6 f7 f8 f9 k1 k2 k3 k4 k5 k6 k7 k8 k9 k10 k11
      exact ⟨⟨v0, v1, v2, m3, v4, v5, v6, v7, v8, v9, s10, d10, m10, v11, v12, X13, X14, X15⟩, ⟨A3, p3, A10, p10, A13, p13, A14, p14, A15, p15⟩, rfl, ⟨h3, h10, h13, h14, h15⟩⟩
end

end Go.Proofs.YtmcocepjdhpecabGreatDoor
namespace Go.Proofs.YtmcocepjdhpecabGreatDoor
open Go.RowKit
open S2 (BK Put)

theorem handle_cases (W : PW) (k n : Int) : ((handleR W k n).1 = (0, [], [], 0) ∨ (handleR W k n).2.2 = 0) ∧ ((handleR W k n).2.1 = [] ∨ (handleR W k n).2.1 = [relP n]) := by
  unfold handleR
  by_cases h1 : k ≠ 4 ∧ k ≠ 5 ∧ k ≠ 7
  · rw [if_pos h1]; exact ⟨Or.inl rfl, Or.inl rfl⟩
  rw [if_neg h1]
  by_cases h2 : mayR W.2.1 (posF W.2.1 n) k = false
  · rw [if_pos h2]; exact ⟨Or.inl rfl, Or.inl rfl⟩
  rw [if_neg h2]
  by_cases h3 : k = 5
  · rw [if_pos h3]; exact ⟨Or.inr rfl, Or.inr rfl⟩
  · rw [if_neg h3]; exact ⟨Or.inr rfl, Or.inl rfl⟩
theorem vw_small {W : PW} (h : VW W) : W.2.1.length ≤ 32 ∧ (∀ x ∈ W.2.1, x.m.props.length ≤ 8) ∧ W.2.2.1.length ≤ 32 := ⟨h.len, fun x hx => checkR_props (h.its x hx).1, Nat.le_trans h.few h.len⟩
theorem handle_small {W : PW} {k n : Int} (h : VW W) : ((handleR W k n).1.2.1.length ≤ 32 ∧ (∀ x ∈ (handleR W k n).1.2.1, x.m.props.length ≤ 8) ∧ (handleR W k n).1.2.2.1.length ≤ 32) ∧ (handleR W k n).2.1.length ≤ 1 ∧ ∀ z ∈ (handleR W k n).2.1, z.msg.props = [] := by
  obtain ⟨h1, h2⟩ := handle_cases W k n
  refine ⟨?_, ?_⟩
  · rcases h1 with h1 | h1
    · rw [h1]; exact ⟨Nat.zero_le _, fun x hx => (by cases hx), Nat.zero_le _⟩
    · exact vw_small (vw_handle h h1)
  · rcases h2 with h2 | h2
    · rw [h2]; exact ⟨Nat.zero_le _, fun x hx => (by cases hx)⟩
    · rw [h2]; exact ⟨Nat.le_refl _, fun z hz => by rw [List.mem_singleton] at hz; rw [hz]; rfl⟩
theorem vw_ids {L : Int} {xs : List FE} {X : List Int} {l : Int} (h : VW (L, xs.map FE.f, X, l)) : ∀ x ∈ xs, -9223372036854775808 ≤ x.f.id ∧ x.f.id ≤ 9223372036854775807 := fun x hx => by
  have h1 := h.ids x.f (List.mem_map_of_mem hx)
  have h2 := S2.up_mem (S2.ck_ok.1 h.ck).2.1 _ h1
  omega

end Go.Proofs.YtmcocepjdhpecabGreatDoor
namespace Go.Proofs.YtmcocepjdhpecabGreatDoor
open Go.RowKit
open S2 (BK Put)

theorem off_newW {B g : Nat} {A : Option Addr} {xs : List FE} {A2 : Option Addr} {X : List Int} (h : NewL B A ∧ (∀ y ∈ xs, NewL B y.a) ∧ NewN B A2 X.length) (hg : g < B) : OffW g A xs A2 X :=
  ⟨fun _ b o e => by have := h.1 b o e; omega, fun x hx _ b o e => by have := h.2.1 x hx b o e; omega, fun b o e hn => by have := h.2.2 hn b o e; omega⟩
theorem pl_putR {w w' : World} {g : Nat} {A : Option Addr} {xs : List PR} (h : PL w w.heap.size A xs) (hp : Put g w w') (hne : Away g A xs.length) : PL w' w'.heap.size A xs := by rw [hp.size]; exact h.putA hp hne
theorem bk_none {T : TypeId} {w : World} {g : Nat} {vs : List Value} (h : BK T w g vs) {j : Nat} (hj : vs.length ≤ j) : w.cell? ⟨g, j, none⟩ = none := by
  unfold S2.BK at h
  simp [World.cell?, h]
  omega
/-- packets without properties stay where a variable of fewer cells is stored -/
theorem ks_putR {T : TypeId} {w w' : World} {g : Nat} {vs : List Value} {A : Option Addr} {ks : List (Pkt × PA)} (h : KS w w.heap.size A ks) (hp : Put g w w') (hg : BK T w g vs) (hl : vs.length < 34) (hz : ∀ z ∈ ks, z.1.msg.props = []) : KS w' w'.heap.size A ks := by
  rw [hp.size]
  refine ⟨fun hn => ?_, fun x hx => ⟨by rw [hz x hx]; exact GL.nil _ _ _, (h.2 x hx).2⟩⟩
  obtain ⟨b, o, e, hb, hc⟩ := h.1 hn
  refine ⟨b, o, e, hb, fun j x i v hx hv => (hp.cell (p := ⟨b, o + j * 34 + i, none⟩) (fun hbg => ?_)).trans (hc j x i v hx hv)⟩
  have hbg' : b = g := hbg
  obtain ⟨x0, hx0⟩ : ∃ x0, ks[0]? = some x0 := ⟨_, List.getElem?_eq_getElem hn⟩
  have h33 : ∃ v0, (gK x0)[33]? = some v0 := ⟨_, List.getElem?_eq_getElem (by show 33 < 34; decide)⟩
  obtain ⟨v0, hv0⟩ := h33
  have h1 := hc 0 x0 33 v0 hx0 hv0
  rw [hbg', bk_none hg (by omega)] at h1
  cases h1
theorem start_okR {W : PW} {m : Msg} (h : VW W) (h0 : (startR W m).2.2 = 0) : VW (startR W m).1 ∧ (startR W m).1.1 = W.1 := by
  obtain ⟨L, F, X, l⟩ := W
  unfold startR at h0 ⊢
  dsimp only at h0 ⊢
  by_cases h1 : m.level = 0
  · rw [if_pos h1] at h0; simp at h0
  rw [if_neg h1] at h0 ⊢
  by_cases h2 : leftR L F.length = 0
  · rw [if_pos h2] at h0; simp at h0
  rw [if_neg h2] at h0 ⊢
  by_cases h3 : checkR m = 0
  · rw [if_neg (by simpa using h3)]
    exact ⟨vw_start h h1 h2 h3, rfl⟩
  · rw [if_pos h3] at h0
    dsimp only at h0
    omega
theorem handle_lim {W : PW} {k n : Int} (h0 : (handleR W k n).2.2 = 0) : (handleR W k n).1.1 = W.1 := by
  obtain ⟨L, F, X, l⟩ := W
  unfold handleR at h0 ⊢
  dsimp only at h0 ⊢
  by_cases h1 : k ≠ 4 ∧ k ≠ 5 ∧ k ≠ 7
  · rw [if_pos h1] at h0; simp at h0
  rw [if_neg h1] at h0 ⊢
  by_cases h2 : mayR F (posF F n) k = false
  · rw [if_pos h2] at h0; simp at h0
  rw [if_neg h2]
  by_cases h3 : k = 5
  · rw [if_pos h3]; unfold relR; rfl
  · rw [if_neg h3]
    unfold remR
    dsimp only
    split <;> rfl
theorem vw_new (n : Int) : VW (limR n, [], [], 0) := by
  refine ⟨?_, Nat.zero_le _, rfl, List.Pairwise.nil, fun x hx => (by cases hx), fun x hx => (by cases hx), Nat.le_refl _⟩
  show 0 ≤ limR n ∧ limR n ≤ 32
  unfold limR
  split
  · omega
  · split <;> omega
theorem vw_factsR {L : Int} {xs : List FE} {X : List Int} {l : Int} (h : VW (L, xs.map FE.f, X, l)) : (0 ≤ L ∧ L ≤ 32) ∧ xs.length ≤ 32 ∧ S2.ckI X l = 0 ∧ X.length ≤ xs.length ∧ (∀ x ∈ xs, x.f.m.props.length ≤ 100000) ∧ (∀ x ∈ xs, -9223372036854775808 ≤ x.f.id ∧ x.f.id ≤ 9223372036854775807) ∧ (∀ x ∈ X, -9223372036854775808 ≤ x ∧ x ≤ 9223372036854775807) := by
  have hn := h.len
  have hf := h.few
  dsimp only at hn hf
  rw [List.length_map] at hn hf
  have hX : ∀ x ∈ X, -9223372036854775808 ≤ x ∧ x ≤ 9223372036854775807 := fun x hx => by
    have h2 := S2.up_mem (S2.ck_ok.1 h.ck).2.1 _ hx
    omega
  refine ⟨h.lim, hn, h.ck, hf, fun x hx => ?_, fun x hx => hX _ (h.ids x.f (List.mem_map_of_mem hx)), hX⟩
  have := checkR_props (h.its x.f (List.mem_map_of_mem hx)).1
  omega
theorem wcheck_vw (L : Int) (A : Option Addr) (c : Nat) (xs : List FE) (A2 : Option Addr) (c2 : Nat) (X : List Int) (l : Int) (hv : VW (L, xs.map FE.f, X, l)) (w : World) (hok : S1.Okw w) (hw : WOk w A c xs A2 c2 X) :
    Calls Tryz.prog 14 #[wv L A c xs A2 c2 X l] w fun e w' => e = .returned (.int .i64 0) ∧ Below w.heap.size w w' := by
  obtain ⟨v1, v2, v3, v4, v5, v6, v7⟩ := vw_factsR hv
  have h := wcheck_any L A c xs A2 c2 X l w hok hw (by omega) (by omega) v6 v7
  rw [win_iff.2 hv] at h
  exact h
def BareR (q : Pkt) : Prop := q.wmsg.props = [] ∧ q.subs = [] ∧ q.filters = [] ∧ q.codes = []
theorem start_smallR {W : PW} {m : Msg} (h : VW W) :
    (startR W m).1.2.1.length ≤ 33 ∧ (∀ x ∈ (startR W m).1.2.1, x.m.props.length ≤ 8) ∧ (startR W m).1.2.2.1.length ≤ 33 ∧ BareR (startR W m).2.1 ∧ (startR W m).2.1.msg.props.length ≤ 8 := by
  obtain ⟨L, F, X, l⟩ := W
  have h1 := h.len
  have h2 := h.its
  have h3 := h.few
  dsimp only at h1 h2 h3
  have hz : (([] : List Fl)).length ≤ 33 ∧ (∀ x ∈ ([] : List Fl), x.m.props.length ≤ 8) ∧ ([] : List Int).length ≤ 33 ∧ BareR Pkt.zero ∧ Pkt.zero.msg.props.length ≤ 8 := ⟨by decide, fun x hx => (by cases hx), by decide, ⟨rfl, rfl, rfl, rfl⟩, by decide⟩
  unfold startR
  dsimp only
  by_cases g1 : m.level = 0
  · rw [if_pos g1]; exact hz
  rw [if_neg g1]
  by_cases g2 : leftR L F.length = 0
  · rw [if_pos g2]; exact hz
  rw [if_neg g2]
  by_cases g3 : checkR m = 0
  · rw [if_neg (by simpa using g3)]
    refine ⟨by simp; omega, fun x hx => ?_, by dsimp only; rw [S2.ins_len]; omega, ⟨rfl, rfl, rfl, rfl⟩, checkR_props g3⟩
    rcases List.mem_append.1 hx with h | h
    · exact checkR_props (h2 x h).1
    · rw [List.mem_singleton] at h; rw [h]; exact checkR_props g3
  · rw [if_pos g3]; exact hz
theorem psameR {q : Pkt} {a a' : Option Addr} {c c' : Nat} (h : BareR q) (hl : q.msg.props.length ≤ 8) (w : World) (h1 : PL w w.heap.size a q.msg.props) (h2 : PL w w.heap.size a' q.msg.props) :
    Calls Tryz.prog 9 #[pkV q (pubA a c), pkV q (pubA a' c')] w fun e w' => e = .returned (.bool true) ∧ Below w.heap.size w w' := by
  obtain ⟨g1, g2, g3, g4⟩ := h
  have hp : ∀ b d, PL w w.heap.size b q.msg.props → PIn w q (pubA b d) := fun b d hb => ⟨hb, by rw [g1]; exact GL.nil _ _ _, by rw [g2]; exact GL.nil _ _ _, by rw [g3]; exact CL.nil _ _ _, by rw [g4]; exact CL.nil _ _ _⟩
  have hs : PSz q := ⟨by omega, by rw [g1]; simp, by rw [g2]; simp, by rw [g3]; simp, by rw [g4]; simp⟩
  have := rSameP_any q q (pubA a c) (pubA a' c') w (hp a c h1) (hp a' c' h2) hs hs
  rw [sameP_refl] at this
  exact this
theorem load_opR {w : World} {b o : Nat} {x : FE} (hc : ∀ i v, (gF x)[i]? = some v → w.cell? ⟨b, o + i, none⟩ = some v) : (loadVar 36 ⟨b, o, none⟩).run Tryz.prog w = .ok (fV x) w :=
  run_load_cells w b o (gF x) 36 _ hc Tryz.underlying36 rfl opCells
/-- what holds between two operations -/
structure InvR (W w : World) (gT : Nat) (n L : Int) (A : Option Addr) (c : Nat) (xs : List FE) (A2 : Option Addr) (c2 : Nat) (X : List Int) (l : Int) : Prop where
  t : BK 28 w gT (wcs L A c xs A2 c2 X l)
  b : Below W.heap.size W w
  o : WOk w A c xs A2 c2 X
  v : VW (L, xs.map FE.f, X, l)
  f : OffW gT A xs A2 X
  g : W.heap.size ≤ gT
  n : L = limR n

set_option maxRecDepth 50000 in
set_option maxHeartbeats 16000000 in
theorem inflightRuns_walk (n : Int) (Ao : Option Addr) (co : Nat) (os : List FE) (w : World) (hok : S1.Okw w) (ho : FI w w.heap.size Ao os) (hs : ∀ o ∈ os, -9223372036854775808 ≤ o.f.st ∧ o.f.m.topic.size ≤ 9223372036854775807 ∧ o.f.m.frm.size ≤ 9223372036854775807 ∧ ∀ y ∈ o.f.m.props, y.1.size ≤ 9223372036854775807) :
    Calls Tryz.prog 3 #[.int .i64 n, .slice Ao os.length co] w fun e w' => e = .returned (.bool true) ∧ Below w.heap.size w w' := by
  have HOK := Lib.hid hok
  have HO := Lib.hid ho
  have HS := Lib.hid hs
  have HAW := Lib.hid (fun w1 h => awake14_any w1 h)
  clear hok ho hs
  go_enter Tryz.func3, Tryz.ntmps3
  go_wp2_with fail
  refine (new_any n _).mono ?_
  rintro e w1 ⟨rfl, hb⟩
  have B_w1 : Hid (Below w.heap.size w w1) := Lib.hid hb
  have Z_w1 : Hid (w.heap.size ≤ w1.heap.size) := Lib.hid hb.size
  clear hb
  go_upto_region 2 with first
    | (refine S2.wpList_store_all (by rfl) 28 (.tmp 5) (.tmp 16) rfl rfl (w1.heap.size) rfl (wcs (limR n) none 0 [] none 0 [] 0) rfl 28 (wcs 0 none 0 [] none 0 [] 0) (BK.new w1 _ _) winSize rfl (ones rfl) ?_; intro s1 hM hP; have B_s1 : Hid (Below w.heap.size w s1) := Lib.hid (stepB B_w1.out (hP.below (S2.below_new w1 _) (Nat.le_refl _))); have T_s1 : Hid (BK 28 s1 (w1.heap.size) (wcs (limR n) none 0 [] none 0 [] 0)) := Lib.hid hM; clear hM hP B_w1)
  generalize w1.heap.size = gT at *
  obtain ⟨q1, hq1⟩ : ∃ q1, q1 = World.drew s1 := ⟨_, rfl⟩
  have hbD : Below s1.heap.size s1 q1 := by rw [hq1]; exact (Below.refl _ _).drew
  have B_q1 : Hid (Below w.heap.size w q1) := Lib.hid (stepB B_s1.out hbD)
  have T_q1 : Hid (BK 28 q1 gT (wcs (limR n) none 0 [] none 0 [] 0)) := Lib.hid (T_s1.out.step hbD)
  clear B_s1 T_s1
  have hbd : (fun w' => BK 28 w' gT (wcs (limR n) none 0 [] none 0 [] 0)) (World.drew s1) := by rw [← hq1]; exact T_q1.out
  have hSD : (fun w' => BK 28 w' gT (wcs (limR n) none 0 [] none 0 [] 0)) q1 := T_q1.out
  have HWD := Lib.hid hq1
  clear hq1 hbD
  refine wp_region_held_drew (S := fun w' => BK 28 w' gT (wcs (limR n) none 0 [] none 0 [] 0)) (by kernel_rfl) hbd (fun hHeld => ?_)
  rw [← HWD.out]
  clear hHeld
  have hHeld := hSD
  clear hSD hbd HWD
  refine wpAnyH_take (i := 0) (v := wv (limR n) none 0 [] none 0 [] 0) (get_ops _ _ _ rfl) (by kernel_rfl) (by kernel_rfl) (by kernel_rfl) (fun _ _ _ h => h) (Or.inl ⟨by rfl, fun wS hSw => by (try dsimp only at hSw); exact exec_load 28 _ rfl ⟨gT, 0, none⟩ (by go_simp) _ (S2.run_load_all hSw Tryz.underlying28 rfl winSize)⟩) hHeld ?_
  try simp only [Act.put, List.setIfInBounds_toArray, List.set_cons_zero, List.set_cons_succ]
  refine wpAnyH_take (i := 1) (v := .int .i64 n) (get_ops _ _ _ rfl) (by kernel_rfl) (by kernel_rfl) (by kernel_rfl) (fun _ _ _ h => h) (Or.inl ⟨by rfl, fun wS hSw => by (try dsimp only at hSw); go_simp⟩) hHeld ?_
  try simp only [Act.put, List.setIfInBounds_toArray, List.set_cons_zero, List.set_cons_succ]
  refine wpAnyH_ready (rs := [2]) (by kernel_rfl) (by simp) ?_
  refine (AllReadyH.cons (get_ops _ _ _ rfl) (fun K hK => ?_) AllReadyH.nil)
  go_simp
  refine (rnew_any n q1).mono ?_
  rintro e q2 ⟨rfl, hb⟩
  have B_q2 : Hid (Below w.heap.size w q2) := Lib.hid (stepB B_q1.out hb)
  have T_q2 : Hid (BK 28 q2 gT (wcs (limR n) none 0 [] none 0 [] 0)) := Lib.hid (T_q1.out.step hb)
  clear B_q1 T_q1
  clear hHeld hb
  go_wp2_with fail
  refine hK.out _ _ T_q2.out (fun hHeld => ?_)
  clear hK K
  try simp only [Act.put, List.setIfInBounds_toArray, List.set_cons_zero, List.set_cons_succ]
  refine wpAnyH_ready (rs := [3]) (by kernel_rfl) (by simp) ?_
  refine (AllReadyH.cons (get_ops _ _ _ rfl) (fun K hK => ?_) AllReadyH.nil)
  go_simp
  refine (rwsame0_any (limR n) q2).mono ?_
  rintro e q3 ⟨rfl, hb⟩
  have B_q3 : Hid (Below w.heap.size w q3) := Lib.hid (stepB B_q2.out hb)
  have T_q3 : Hid (BK 28 q3 gT (wcs (limR n) none 0 [] none 0 [] 0)) := Lib.hid (T_q2.out.step hb)
  clear B_q2 T_q2
  clear hHeld hb
  go_wp2_with fail
  refine hK.out _ _ T_q3.out (fun hHeld => ?_)
  clear hK K
  try simp only [Act.put, List.setIfInBounds_toArray, List.set_cons_zero, List.set_cons_succ]
  refine wpAnyH_take (i := 4) (v := .bool false) (get_ops _ _ _ rfl) (by kernel_rfl) (by kernel_rfl) (by kernel_rfl) (fun _ _ _ h => h) (Or.inl ⟨by rfl, fun wS hSw => by (try dsimp only at hSw); go_simp⟩) hHeld ?_
  try simp only [Act.put, List.setIfInBounds_toArray, List.set_cons_zero, List.set_cons_succ]
  refine wpAnyH_done (by kernel_rfl) ?_ _
  go_wp2_with fail
  go_loopg [6] 60 (fun g v wr => ∃ (k : Nat) (L : Int) (A : Option Addr) (c : Nat) (xs : List FE) (A2 : Option Addr) (c2 : Nat) (X : List Int) (l : Int), k + g = 60 ∧ v = .int .i64 k ∧ InvR w wr gT n L A c xs A2 c2 X l)
  case atStart => exact ⟨0, limR n, none, 0, [], none, 0, [], 0, by omega, rfl, ⟨T_q3.out, B_q3.out, ⟨FI.nil _ _ _, Nat.le_refl _, CL.nil _ _ _, Nat.le_refl _⟩, vw_new n, OffW.nil _, Z_w1.out, rfl⟩⟩
  case round =>
    clear T_q3 B_q3
    obtain ⟨k, L, A, c, xs, A2, c2, X, l, hkg, rfl, hinv⟩ := hrel
    have HK := Lib.hid hkg
    have HI := Lib.hid hinv
    clear hinv
    cases gk with
    | zero =>
      obtain rfl : k = 60 := by omega
      clear hkg
      have e2 : decide (((60 : Nat) : Int) < 60) = false := by decide
      by_cases hlen : 60 < os.length
      · have e1 : decide (((60 : Nat) : Int) < (os.length : Int)) = true := decide_eq_true (by omega)
        have e1' : decide (60 < os.length) = true := decide_eq_true hlen
        have e1s : decide ((60 : Int) < (os.length : Int)) = true := decide_eq_true (by omega)
        clear hlen
        go_wp2_with fail
        refine (HAW.out wr (HOK.out.step HI.out.b)).mono ?_
        rintro e w9 ⟨rfl, hb⟩
        have B_w9 := Lib.hid (stepB HI.out.b hb)
        clear hb
        go_wp2
        go_ret
        exact ⟨rfl, B_w9.out⟩
      · have e1 : decide (((60 : Nat) : Int) < (os.length : Int)) = false := decide_eq_false (by omega)
        have e1' : decide (60 < os.length) = false := decide_eq_false hlen
        have e1s : decide ((60 : Int) < (os.length : Int)) = false := decide_eq_false (by omega)
        clear hlen
        go_wp2_with fail
        refine (HAW.out wr (HOK.out.step HI.out.b)).mono ?_
        rintro e w9 ⟨rfl, hb⟩
        have B_w9 := Lib.hid (stepB HI.out.b hb)
        clear hb
        go_wp2
        go_ret
        exact ⟨rfl, B_w9.out⟩
    | succ g =>
      have e2 : decide ((k : Int) < 60) = true := decide_eq_true (by omega)
      have hk60 : k < 60 := by omega
      by_cases hlen : k < os.length
      rotate_left
      · have e1 : decide ((k : Int) < (os.length : Int)) = false := decide_eq_false (by omega)
        have e1' : decide (k < os.length) = false := decide_eq_false hlen
        clear hlen hkg
        go_wp2_with fail
        refine (HAW.out wr (HOK.out.step HI.out.b)).mono ?_
        rintro e w9 ⟨rfl, hb⟩
        have B_w9 := Lib.hid (stepB HI.out.b hb)
        clear hb
        go_wp2
        go_ret
        exact ⟨rfl, B_w9.out⟩
      have e1 : decide ((k : Int) < (os.length : Int)) = true := decide_eq_true (by omega)
      have e1' : decide (k < os.length) = true := decide_eq_true hlen
      obtain ⟨o, ho⟩ : ∃ o, os[k]? = some o := ⟨_, List.getElem?_eq_getElem hlen⟩
      obtain ⟨hso, hsz⟩ := HS.out o (List.mem_of_getElem? ho)
      obtain ⟨v1, v2, v3, v4, v5, v6, v7⟩ := vw_factsR HI.out.v
      obtain ⟨b, q, hA3, hbB, hc, hpl⟩ := HO.out.at_ ho
      have HBL := Lib.hid hbB
      have HC := Lib.hid hc
      have HPL := Lib.hid hpl
      have HBW : Hid (∀ w9, Below wr.heap.size wr w9 → Below w.heap.size w w9) := Lib.hid (fun w9 h => stepB HI.out.b h)
      have HOF : Hid (∀ g, (g = gT ∨ wr.heap.size ≤ g) → OffW g A xs A2 X) := Lib.hid (fun g hg => hg.elim (fun h => h ▸ HI.out.f) (fun h => HI.out.o.offW h))
      have HAO : Hid (∀ g, w.heap.size ≤ g → Away g o.a o.f.m.props.length) := Lib.hid (fun g hg hn b o e => by have := HPL.out.lt hn b o e; omega)
      have HGT : Hid (w.heap.size ≤ gT ∧ gT < wr.heap.size) := Lib.hid ⟨HI.out.g, HI.out.t.lt⟩
      have j1 : (0 : Int) ≤ (k : Int) := by omega
      have j2 : (k : Int) < (os.length : Int) := by omega
      have c0 := hc 0 _ rfl
      rw [Nat.add_zero] at c0
      subst hA3
      clear hc hpl ho hlen hkg
      go_upto_region 8 with fail
      refine name_world (C := fun w1 => Code.wp _ _ _ _ w1) ((wr.alloc (.cells (wcs 0 none 0 [] none 0 [] 0).toArray 28)).alloc (.cells (wcs 0 none 0 [] none 0 [] 0).toArray 28)) ?_
      intro w2 hw2
      obtain ⟨t1, t2, hs0, hB0⟩ := S2.two_laid (v1 := wcs 0 none 0 [] none 0 [] 0) (v2 := wcs 0 none 0 [] none 0 [] 0) hw2
      have V_w2 : Hid (BK 28 w2 wr.heap.size (wcs 0 none 0 [] none 0 [] 0)) := Lib.hid t1
      have U_w2 : Hid (BK 28 w2 (wr.heap.size + 1) (wcs 0 none 0 [] none 0 [] 0)) := Lib.hid t2
      have D_w2 : Hid (Below wr.heap.size wr w2) := Lib.hid hB0
      have HGW : Hid (wr.heap.size + 1 < w2.heap.size) := Lib.hid t2.lt
      replace c0 : w2.cell? ⟨b, q + k * 11, none⟩ = some (.int .i64 o.f.id) := ((HBW.out _ hB0).cell (p := ⟨b, q + k * 11, none⟩) hbB).trans c0
      clear hw2 t1 t2 hs0 hB0 hbB
      have hvw := HI.out.v
      by_cases hk : o.f.id = 0
      · have q0 : (o.f.id == 0) = true := by simp [hk]
        have HST := Lib.hid (fun w1 h1 h2 h3 => start_any L A c xs A2 c2 X l o.f.m o.a o.c w1 h1 h2 h3 v1.1 v1.2 v2 v5 v3 v4)
        have HRS := Lib.hid (fun w1 h1 h2 => rstarto_any L A c xs A2 c2 X l o.f.m o.a o.c w1 h1 h2 hsz v1.1 v1.2 v2 v3 v4)
        have HSM := Lib.hid (start_smallR (m := o.f.m) hvw)
        obtain ⟨r, hr⟩ : ∃ r, startR (L, xs.map FE.f, X, l) o.f.m = r := ⟨_, rfl⟩
        have HKE : Hid (r.2.2 = 0 → VW r.1 ∧ r.1.1 = L) := Lib.hid (fun h => by rw [← hr] at h ⊢; exact start_okR hvw h)
        rw [hr] at HST HRS HSM
        obtain ⟨⟨rL, rF, rX, rl⟩, rp, rz⟩ := r
        dsimp only [RetS, RetTo] at HST HRS HKE HSM
        clear hr hk hso hsz v1 v2 v3 v4 v5 v6 v7 hvw
        go_upto_region 11 with fail
        refine name_world (C := fun w1 => Code.wp _ _ _ _ w1) ((w2.alloc (.cells zeroPk.toArray 42)).alloc (.cells zeroPk.toArray 42)) ?_
        intro w3 hw3
        obtain ⟨t1, t2, hs0, hB0⟩ := S2.two_laid (v1 := zeroPk) (v2 := zeroPk) hw3
        have P_w3 : Hid (BK 42 w3 w2.heap.size zeroPk) := Lib.hid t1
        have Q_w3 : Hid (BK 42 w3 (w2.heap.size + 1) zeroPk) := Lib.hid t2
        have G_w3 : Hid (w2.heap.size + 1 < w3.heap.size) := Lib.hid t2.lt
        have V_w3 := Lib.hid (V_w2.out.step hB0)
        have U_w3 := Lib.hid (U_w2.out.step hB0)
        have D_w3 := Lib.hid (stepB D_w2.out hB0)
        clear hw3 t1 t2 hs0 hB0 V_w2 U_w2 D_w2 c0 e1 e1' e2 q0
        obtain ⟨x1, hx1⟩ : ∃ x1, x1 = World.drew w3 := ⟨_, rfl⟩
        have hbD : Below w3.heap.size w3 x1 := by rw [hx1]; exact (Below.refl _ _).drew
        have D_x1 : Hid (Below wr.heap.size wr x1) := Lib.hid (stepB D_w3.out hbD)
        have V_x1 : Hid (BK 28 x1 wr.heap.size (wcs 0 none 0 [] none 0 [] 0)) := Lib.hid (V_w3.out.step hbD)
        have U_x1 : Hid (BK 28 x1 (wr.heap.size + 1) (wcs 0 none 0 [] none 0 [] 0)) := Lib.hid (U_w3.out.step hbD)
        have P_x1 : Hid (BK 42 x1 w2.heap.size zeroPk) := Lib.hid (P_w3.out.step hbD)
        have Q_x1 : Hid (BK 42 x1 (w2.heap.size + 1) zeroPk) := Lib.hid (Q_w3.out.step hbD)
        have G_x1 : Hid (w2.heap.size + 1 < x1.heap.size) := Lib.hid (Nat.lt_of_lt_of_le G_w3.out hbD.size)
        clear D_w3 V_w3 U_w3 P_w3 Q_w3 G_w3
        have hbd : (fun w' => Below wr.heap.size wr w') (World.drew w3) := by rw [← hx1]; exact D_x1.out
        have hSD : (fun w' => Below wr.heap.size wr w') x1 := D_x1.out
        have HWD := Lib.hid hx1
        clear hx1 hbD
        refine wp_region_held_drew (S := fun w' => Below wr.heap.size wr w') (by kernel_rfl) hbd (fun hHeld => ?_)
        rw [← HWD.out]
        clear hHeld
        have hHeld := hSD
        clear hSD hbd HWD
        refine wpAnyH_take (i := 0) (v := wv L A c xs A2 c2 X l) (get_ops _ _ _ rfl) (by kernel_rfl) (by kernel_rfl) (by kernel_rfl) (fun _ _ _ h => h) (Or.inl ⟨by rfl, fun wS hSw => by (try dsimp only at hSw); exact exec_load 28 _ rfl ⟨gT, 0, none⟩ (by go_simp) _ (S2.run_load_all (HI.out.t.step hSw) Tryz.underlying28 rfl winSize)⟩) hHeld ?_
        try simp only [Act.put, List.setIfInBounds_toArray, List.set_cons_zero, List.set_cons_succ]
        refine wpAnyH_take (i := 1) (v := .slice (some ⟨b, q, none⟩) os.length co) (get_ops _ _ _ rfl) (by kernel_rfl) (by kernel_rfl) (by kernel_rfl) (fun _ _ _ h => h) (Or.inl ⟨by rfl, fun wS hSw => by (try dsimp only at hSw); go_simp⟩) hHeld ?_
        try simp only [Act.put, List.setIfInBounds_toArray, List.set_cons_zero, List.set_cons_succ]
        refine wpAnyH_take (i := 2) (v := .int .i64 (k : Int)) (get_ops _ _ _ rfl) (by kernel_rfl) (by kernel_rfl) (by kernel_rfl) (fun _ _ _ h => h) (Or.inl ⟨by rfl, fun wS hSw => by (try dsimp only at hSw); go_simp⟩) hHeld ?_
        try simp only [Act.put, List.setIfInBounds_toArray, List.set_cons_zero, List.set_cons_succ]
        refine wpAnyH_take (i := 3) (v := .pointer (some ⟨b, q + k * 11, none⟩)) (get_ops _ _ _ rfl) (by kernel_rfl) (by kernel_rfl) (by kernel_rfl) (fun _ _ _ h => h) (Or.inl ⟨by rfl, fun wS hSw => by (try dsimp only at hSw); go_simp⟩) hHeld ?_
        try simp only [Act.put, List.setIfInBounds_toArray, List.set_cons_zero, List.set_cons_succ]
        refine wpAnyH_take (i := 4) (v := .pointer (some ⟨b, q + k * 11 + 2, none⟩)) (get_ops _ _ _ rfl) (by kernel_rfl) (by kernel_rfl) (by kernel_rfl) (fun _ _ _ h => h) (Or.inl ⟨by rfl, fun wS hSw => by (try dsimp only at hSw); go_simp⟩) hHeld ?_
        try simp only [Act.put, List.setIfInBounds_toArray, List.set_cons_zero, List.set_cons_succ]
        refine wpAnyH_take (i := 5) (v := msgV o.f.m o.a o.c) (get_ops _ _ _ rfl) (by kernel_rfl) (by kernel_rfl) (by kernel_rfl) (fun _ _ _ h => h) (Or.inl ⟨by rfl, fun wS hSw => by (try dsimp only at hSw); exact exec_load 34 _ rfl ⟨b, q + k * 11 + 2, none⟩ (by go_simp) _ (load_item_msg (fun j v hv => ((HBW.out _ hSw).cell (p := ⟨b, q + k * 11 + j, none⟩) HBL.out).trans (HC.out j v hv)))⟩) hHeld ?_
        try simp only [Act.put, List.setIfInBounds_toArray, List.set_cons_zero, List.set_cons_succ]
        refine wpAnyH_ready (rs := [6]) (by kernel_rfl) (by simp) ?_
        refine (AllReadyH.cons (get_ops _ _ _ rfl) (fun K hK => ?_) AllReadyH.nil)
        have GO := G_x1
        go_simp
        refine (HST.out x1 (HOK.out.step (HBW.out _ D_x1.out)) (HI.out.o.step D_x1.out) (GL.step HPL.out (HBW.out _ D_x1.out))).mono ?_
        rintro e x2 ⟨A9, c9, ys, B9, d9, a3, c3, rfl, hys, hwk, hnew, hpl, hnl, hb⟩
        have D_x2 : Hid (Below wr.heap.size wr x2) := Lib.hid (stepB D_x1.out hb)
        have V_x2 : Hid (BK 28 x2 wr.heap.size (wcs 0 none 0 [] none 0 [] 0)) := Lib.hid (V_x1.out.step hb)
        have U_x2 : Hid (BK 28 x2 (wr.heap.size + 1) (wcs 0 none 0 [] none 0 [] 0)) := Lib.hid (U_x1.out.step hb)
        have P_x2 : Hid (BK 42 x2 w2.heap.size zeroPk) := Lib.hid (P_x1.out.step hb)
        have Q_x2 : Hid (BK 42 x2 (w2.heap.size + 1) zeroPk) := Lib.hid (Q_x1.out.step hb)
        have G_x2 : Hid (w2.heap.size + 1 < x2.heap.size) := Lib.hid (Nat.lt_of_lt_of_le G_x1.out hb.size)
        clear D_x1 V_x1 U_x1 P_x1 Q_x1 G_x1
        have HYS := Lib.hid hys
        have HFN : Hid (∀ g, g ≤ w2.heap.size + 1 → OffW g A9 ys B9 rX) := Lib.hid (fun g hg => off_newW hnew (by have := GO.out; omega))
        have HAM : Hid (∀ g, g ≤ w2.heap.size + 1 → Away g a3 rp.msg.props.length) := Lib.hid (fun g hg _ b o e => by have := hnl b o e; have := GO.out; omega)
        have N_x2 : Hid (WOk x2 A9 c9 ys B9 d9 rX) := Lib.hid (hwk)
        have M_x2 : Hid (PL x2 x2.heap.size a3 rp.msg.props) := Lib.hid (hpl)
        clear hys hwk hnew hpl hnl GO
        clear hHeld hb
        go_wp2_with fail
        refine hK.out _ _ D_x2.out (fun hHeld => ?_)
        clear hK K
        try simp only [Act.put, List.setIfInBounds_toArray, List.set_cons_zero, List.set_cons_succ]
        refine wpAnyH_take (i := 7) (v := .tuple #[wv rL A9 c9 ys B9 d9 rX rl, pkV rp (pubA a3 c3), .int .i64 rz]) (get_ops _ _ _ rfl) (by kernel_rfl) (by kernel_rfl) (by kernel_rfl) (fun _ _ _ h => h) (Or.inl ⟨by rfl, fun wS hSw => by (try dsimp only at hSw); go_simp⟩) hHeld ?_
        try simp only [Act.put, List.setIfInBounds_toArray, List.set_cons_zero, List.set_cons_succ]
        refine wpAnyH_take (i := 8) (v := wv rL A9 c9 ys B9 d9 rX rl) (get_ops _ _ _ rfl) (by kernel_rfl) (by kernel_rfl) (by kernel_rfl) (fun _ _ _ h => h) (Or.inl ⟨by rfl, fun wS hSw => by (try dsimp only at hSw); go_simp⟩) hHeld ?_
        try simp only [Act.put, List.setIfInBounds_toArray, List.set_cons_zero, List.set_cons_succ]
        refine wpAnyH_take (i := 9) (v := pkV rp (pubA a3 c3)) (get_ops _ _ _ rfl) (by kernel_rfl) (by kernel_rfl) (by kernel_rfl) (fun _ _ _ h => h) (Or.inl ⟨by rfl, fun wS hSw => by (try dsimp only at hSw); go_simp⟩) hHeld ?_
        try simp only [Act.put, List.setIfInBounds_toArray, List.set_cons_zero, List.set_cons_succ]
        refine wpAnyH_take (i := 10) (v := .int .i64 rz) (get_ops _ _ _ rfl) (by kernel_rfl) (by kernel_rfl) (by kernel_rfl) (fun _ _ _ h => h) (Or.inl ⟨by rfl, fun wS hSw => by (try dsimp only at hSw); go_simp⟩) hHeld ?_
        try simp only [Act.put, List.setIfInBounds_toArray, List.set_cons_zero, List.set_cons_succ]
        refine wpAnyH_ready (rs := [11]) (by kernel_rfl) (by simp) ?_
        refine (AllReadyH.cons (get_ops _ _ _ rfl) (fun K hK => ?_) AllReadyH.nil)
        have VO := V_x2.out
        refine S2.wp_store_all 28 _ _ rfl rfl (wr.heap.size) (by go_simp) (wcs rL A9 c9 ys B9 d9 rX rl) (by first | rfl | go_simp) 28 (wcs 0 none 0 [] none 0 [] 0) VO winSize rfl (ones rfl) ?_
        intro x3 hM hP
        have V_x3 : Hid (BK 28 x3 (wr.heap.size) (wcs rL A9 c9 ys B9 d9 rX rl)) := Lib.hid (hM)
        have D_x3 : Hid (Below wr.heap.size wr x3) := Lib.hid (hP.below D_x2.out (by have := HGW.out; omega))
        have U_x3 : Hid (BK 28 x3 (wr.heap.size + 1) (wcs 0 none 0 [] none 0 [] 0)) := Lib.hid (hP.other U_x2.out (by have := HGW.out; omega))
        have P_x3 : Hid (BK 42 x3 w2.heap.size zeroPk) := Lib.hid (hP.other P_x2.out (by have := HGW.out; omega))
        have Q_x3 : Hid (BK 42 x3 (w2.heap.size + 1) zeroPk) := Lib.hid (hP.other Q_x2.out (by have := HGW.out; omega))
        have G_x3 : Hid (w2.heap.size + 1 < x3.heap.size) := Lib.hid ((by rw [hP.size]; exact G_x2.out))
        have N_x3 : Hid (WOk x3 A9 c9 ys B9 d9 rX) := Lib.hid (wok_putW N_x2.out hP (HFN.out _ (by have := HGW.out; omega)))
        have M_x3 : Hid (PL x3 x3.heap.size a3 rp.msg.props) := Lib.hid (pl_putR M_x2.out hP (HAM.out _ (by have := HGW.out; omega)))
        clear D_x2 V_x2 U_x2 P_x2 Q_x2 G_x2 N_x2 M_x2
        clear hM hP hHeld VO
        refine hK.out _ _ D_x3.out (fun hHeld => ?_)
        clear hK K
        try simp only [Act.put, List.setIfInBounds_toArray, List.set_cons_zero, List.set_cons_succ]
        refine wpAnyH_ready (rs := [12]) (by kernel_rfl) (by simp) ?_
        refine (AllReadyH.cons (get_ops _ _ _ rfl) (fun K hK => ?_) AllReadyH.nil)
        have VO := P_x3.out
        refine S2.wp_store_all 42 _ _ rfl rfl (w2.heap.size) (by go_simp) (pkC rp (pubA a3 c3)) (by first | rfl | go_simp) 42 zeroPk VO pktSize rfl (pkOnes _ _) ?_
        intro x4 hM hP
        have P_x4 : Hid (BK 42 x4 (w2.heap.size) (pkC rp (pubA a3 c3))) := Lib.hid (hM)
        have D_x4 : Hid (Below wr.heap.size wr x4) := Lib.hid (hP.below D_x3.out (by have := HGW.out; omega))
        have V_x4 : Hid (BK 28 x4 (wr.heap.size) (wcs rL A9 c9 ys B9 d9 rX rl)) := Lib.hid (hP.other V_x3.out (by have := HGW.out; omega))
        have U_x4 : Hid (BK 28 x4 (wr.heap.size + 1) (wcs 0 none 0 [] none 0 [] 0)) := Lib.hid (hP.other U_x3.out (by have := HGW.out; omega))
        have Q_x4 : Hid (BK 42 x4 (w2.heap.size + 1) zeroPk) := Lib.hid (hP.other Q_x3.out (by have := HGW.out; omega))
        have G_x4 : Hid (w2.heap.size + 1 < x4.heap.size) := Lib.hid ((by rw [hP.size]; exact G_x3.out))
        have N_x4 : Hid (WOk x4 A9 c9 ys B9 d9 rX) := Lib.hid (wok_putW N_x3.out hP (HFN.out _ (by have := HGW.out; omega)))
        have M_x4 : Hid (PL x4 x4.heap.size a3 rp.msg.props) := Lib.hid (pl_putR M_x3.out hP (HAM.out _ (by have := HGW.out; omega)))
        clear D_x3 V_x3 U_x3 P_x3 Q_x3 G_x3 N_x3 M_x3
        clear hM hP hHeld VO
        refine hK.out _ _ D_x4.out (fun hHeld => ?_)
        clear hK K
        try simp only [Act.put, List.setIfInBounds_toArray, List.set_cons_zero, List.set_cons_succ]
        refine wpAnyH_take (i := 13) (v := .int .i64 rz) (get_ops _ _ _ rfl) (by kernel_rfl) (by kernel_rfl) (by kernel_rfl) (fun _ _ _ h => h) (Or.inl ⟨by rfl, fun wS hSw => by (try dsimp only at hSw); go_simp⟩) hHeld ?_
        try simp only [Act.put, List.setIfInBounds_toArray, List.set_cons_zero, List.set_cons_succ]
        refine wpAnyH_done (by kernel_rfl) ?_ _
        clear HST
        go_upto_region 12 with fail
        obtain ⟨x5, hx5⟩ : ∃ x5, x5 = World.drew x4 := ⟨_, rfl⟩
        have hbD : Below x4.heap.size x4 x5 := by rw [hx5]; exact (Below.refl _ _).drew
        have D_x5 : Hid (Below wr.heap.size wr x5) := Lib.hid (stepB D_x4.out hbD)
        have V_x5 : Hid (BK 28 x5 (wr.heap.size) (wcs rL A9 c9 ys B9 d9 rX rl)) := Lib.hid (V_x4.out.step hbD)
        have U_x5 : Hid (BK 28 x5 (wr.heap.size + 1) (wcs 0 none 0 [] none 0 [] 0)) := Lib.hid (U_x4.out.step hbD)
        have P_x5 : Hid (BK 42 x5 (w2.heap.size) (pkC rp (pubA a3 c3))) := Lib.hid (P_x4.out.step hbD)
        have Q_x5 : Hid (BK 42 x5 (w2.heap.size + 1) zeroPk) := Lib.hid (Q_x4.out.step hbD)
        have G_x5 : Hid (w2.heap.size + 1 < x5.heap.size) := Lib.hid (Nat.lt_of_lt_of_le G_x4.out hbD.size)
        have N_x5 : Hid (WOk x5 A9 c9 ys B9 d9 rX) := Lib.hid (WOk.step N_x4.out hbD)
        have M_x5 : Hid (PL x5 x5.heap.size a3 rp.msg.props) := Lib.hid (GL.step M_x4.out hbD)
        clear D_x4 V_x4 U_x4 P_x4 Q_x4 G_x4 N_x4 M_x4
        have hbd : (fun w' => Below wr.heap.size wr w') (World.drew x4) := by rw [← hx5]; exact D_x5.out
        have hSD : (fun w' => Below wr.heap.size wr w') x5 := D_x5.out
        have HWD := Lib.hid hx5
        clear hx5 hbD
        refine wp_region_held_drew (S := fun w' => Below wr.heap.size wr w') (by kernel_rfl) hbd (fun hHeld => ?_)
        rw [← HWD.out]
        clear hHeld
        have hHeld := hSD
        clear hSD hbd HWD
        refine wpAnyH_take (i := 0) (v := wv L A c xs A2 c2 X l) (get_ops _ _ _ rfl) (by kernel_rfl) (by kernel_rfl) (by kernel_rfl) (fun _ _ _ h => h) (Or.inl ⟨by rfl, fun wS hSw => by (try dsimp only at hSw); exact exec_load 28 _ rfl ⟨gT, 0, none⟩ (by go_simp) _ (S2.run_load_all (HI.out.t.step hSw) Tryz.underlying28 rfl winSize)⟩) hHeld ?_
        try simp only [Act.put, List.setIfInBounds_toArray, List.set_cons_zero, List.set_cons_succ]
        refine wpAnyH_take (i := 1) (v := .slice (some ⟨b, q, none⟩) os.length co) (get_ops _ _ _ rfl) (by kernel_rfl) (by kernel_rfl) (by kernel_rfl) (fun _ _ _ h => h) (Or.inl ⟨by rfl, fun wS hSw => by (try dsimp only at hSw); go_simp⟩) hHeld ?_
        try simp only [Act.put, List.setIfInBounds_toArray, List.set_cons_zero, List.set_cons_succ]
        refine wpAnyH_take (i := 2) (v := .int .i64 (k : Int)) (get_ops _ _ _ rfl) (by kernel_rfl) (by kernel_rfl) (by kernel_rfl) (fun _ _ _ h => h) (Or.inl ⟨by rfl, fun wS hSw => by (try dsimp only at hSw); go_simp⟩) hHeld ?_
        try simp only [Act.put, List.setIfInBounds_toArray, List.set_cons_zero, List.set_cons_succ]
        refine wpAnyH_take (i := 3) (v := .pointer (some ⟨b, q + k * 11, none⟩)) (get_ops _ _ _ rfl) (by kernel_rfl) (by kernel_rfl) (by kernel_rfl) (fun _ _ _ h => h) (Or.inl ⟨by rfl, fun wS hSw => by (try dsimp only at hSw); go_simp⟩) hHeld ?_
        try simp only [Act.put, List.setIfInBounds_toArray, List.set_cons_zero, List.set_cons_succ]
        refine wpAnyH_take (i := 4) (v := .pointer (some ⟨b, q + k * 11 + 2, none⟩)) (get_ops _ _ _ rfl) (by kernel_rfl) (by kernel_rfl) (by kernel_rfl) (fun _ _ _ h => h) (Or.inl ⟨by rfl, fun wS hSw => by (try dsimp only at hSw); go_simp⟩) hHeld ?_
        try simp only [Act.put, List.setIfInBounds_toArray, List.set_cons_zero, List.set_cons_succ]
        refine wpAnyH_take (i := 5) (v := msgV o.f.m o.a o.c) (get_ops _ _ _ rfl) (by kernel_rfl) (by kernel_rfl) (by kernel_rfl) (fun _ _ _ h => h) (Or.inl ⟨by rfl, fun wS hSw => by (try dsimp only at hSw); exact exec_load 34 _ rfl ⟨b, q + k * 11 + 2, none⟩ (by go_simp) _ (load_item_msg (fun j v hv => ((HBW.out _ hSw).cell (p := ⟨b, q + k * 11 + j, none⟩) HBL.out).trans (HC.out j v hv)))⟩) hHeld ?_
        try simp only [Act.put, List.setIfInBounds_toArray, List.set_cons_zero, List.set_cons_succ]
        refine wpAnyH_ready (rs := [6]) (by kernel_rfl) (by simp) ?_
        refine (AllReadyH.cons (get_ops _ _ _ rfl) (fun K hK => ?_) AllReadyH.nil)
        have GO := G_x5
        go_simp
        refine (HRS.out x5 (HI.out.o.step D_x5.out) (GL.step HPL.out (HBW.out _ D_x5.out))).mono ?_
        rintro e x6 ⟨A6, c6, zs, B6, d6, a6, c7, rfl, hzs, hwk, hpl, hb, hof⟩
        have D_x6 : Hid (Below wr.heap.size wr x6) := Lib.hid (stepB D_x5.out hb)
        have V_x6 : Hid (BK 28 x6 (wr.heap.size) (wcs rL A9 c9 ys B9 d9 rX rl)) := Lib.hid (V_x5.out.step hb)
        have U_x6 : Hid (BK 28 x6 (wr.heap.size + 1) (wcs 0 none 0 [] none 0 [] 0)) := Lib.hid (U_x5.out.step hb)
        have P_x6 : Hid (BK 42 x6 (w2.heap.size) (pkC rp (pubA a3 c3))) := Lib.hid (P_x5.out.step hb)
        have Q_x6 : Hid (BK 42 x6 (w2.heap.size + 1) zeroPk) := Lib.hid (Q_x5.out.step hb)
        have G_x6 : Hid (w2.heap.size + 1 < x6.heap.size) := Lib.hid (Nat.lt_of_lt_of_le G_x5.out hb.size)
        have N_x6 : Hid (WOk x6 A9 c9 ys B9 d9 rX) := Lib.hid (WOk.step N_x5.out hb)
        have M_x6 : Hid (PL x6 x6.heap.size a3 rp.msg.props) := Lib.hid (GL.step M_x5.out hb)
        clear D_x5 V_x5 U_x5 P_x5 Q_x5 G_x5 N_x5 M_x5
        have HZS := Lib.hid hzs
        have HFW : Hid (∀ g, wr.heap.size ≤ g → g ≤ w2.heap.size + 1 → OffW g A6 zs B6 rX) := Lib.hid (fun g h1 h2 => (hof g (by have := GO.out; omega) (HOF.out g (Or.inr h1)) (HAO.out g (by have := HGT.out; omega))).1)
        have HAR : Hid (∀ g, wr.heap.size ≤ g → g ≤ w2.heap.size + 1 → Away g a6 rp.msg.props.length) := Lib.hid (fun g h1 h2 => (hof g (by have := GO.out; omega) (HOF.out g (Or.inr h1)) (HAO.out g (by have := HGT.out; omega))).2)
        have W_x6 : Hid (WOk x6 A6 c6 zs B6 d6 rX) := Lib.hid (hwk)
        have R_x6 : Hid (PL x6 x6.heap.size a6 rp.msg.props) := Lib.hid (hpl)
        clear hzs hwk hpl hof GO
        clear hHeld hb
        go_wp2_with fail
        refine hK.out _ _ D_x6.out (fun hHeld => ?_)
        clear hK K
        try simp only [Act.put, List.setIfInBounds_toArray, List.set_cons_zero, List.set_cons_succ]
        refine wpAnyH_take (i := 7) (v := .tuple #[wv rL A6 c6 zs B6 d6 rX rl, pkV rp (pubA a6 c7), .int .i64 rz]) (get_ops _ _ _ rfl) (by kernel_rfl) (by kernel_rfl) (by kernel_rfl) (fun _ _ _ h => h) (Or.inl ⟨by rfl, fun wS hSw => by (try dsimp only at hSw); go_simp⟩) hHeld ?_
        try simp only [Act.put, List.setIfInBounds_toArray, List.set_cons_zero, List.set_cons_succ]
        refine wpAnyH_take (i := 8) (v := wv rL A6 c6 zs B6 d6 rX rl) (get_ops _ _ _ rfl) (by kernel_rfl) (by kernel_rfl) (by kernel_rfl) (fun _ _ _ h => h) (Or.inl ⟨by rfl, fun wS hSw => by (try dsimp only at hSw); go_simp⟩) hHeld ?_
        try simp only [Act.put, List.setIfInBounds_toArray, List.set_cons_zero, List.set_cons_succ]
        refine wpAnyH_take (i := 9) (v := pkV rp (pubA a6 c7)) (get_ops _ _ _ rfl) (by kernel_rfl) (by kernel_rfl) (by kernel_rfl) (fun _ _ _ h => h) (Or.inl ⟨by rfl, fun wS hSw => by (try dsimp only at hSw); go_simp⟩) hHeld ?_
        try simp only [Act.put, List.setIfInBounds_toArray, List.set_cons_zero, List.set_cons_succ]
        refine wpAnyH_take (i := 10) (v := .int .i64 rz) (get_ops _ _ _ rfl) (by kernel_rfl) (by kernel_rfl) (by kernel_rfl) (fun _ _ _ h => h) (Or.inl ⟨by rfl, fun wS hSw => by (try dsimp only at hSw); go_simp⟩) hHeld ?_
        try simp only [Act.put, List.setIfInBounds_toArray, List.set_cons_zero, List.set_cons_succ]
        refine wpAnyH_ready (rs := [11]) (by kernel_rfl) (by simp) ?_
        refine (AllReadyH.cons (get_ops _ _ _ rfl) (fun K hK => ?_) AllReadyH.nil)
        have VO := U_x6.out
        refine S2.wp_store_all 28 _ _ rfl rfl (wr.heap.size + 1) (by go_simp) (wcs rL A6 c6 zs B6 d6 rX rl) (by first | rfl | go_simp) 28 (wcs 0 none 0 [] none 0 [] 0) VO winSize rfl (ones rfl) ?_
        intro x7 hM hP
        have U_x7 : Hid (BK 28 x7 (wr.heap.size + 1) (wcs rL A6 c6 zs B6 d6 rX rl)) := Lib.hid (hM)
        have D_x7 : Hid (Below wr.heap.size wr x7) := Lib.hid (hP.below D_x6.out (by have := HGW.out; omega))
        have V_x7 : Hid (BK 28 x7 (wr.heap.size) (wcs rL A9 c9 ys B9 d9 rX rl)) := Lib.hid (hP.other V_x6.out (by have := HGW.out; omega))
        have P_x7 : Hid (BK 42 x7 (w2.heap.size) (pkC rp (pubA a3 c3))) := Lib.hid (hP.other P_x6.out (by have := HGW.out; omega))
        have Q_x7 : Hid (BK 42 x7 (w2.heap.size + 1) zeroPk) := Lib.hid (hP.other Q_x6.out (by have := HGW.out; omega))
        have G_x7 : Hid (w2.heap.size + 1 < x7.heap.size) := Lib.hid ((by rw [hP.size]; exact G_x6.out))
        have N_x7 : Hid (WOk x7 A9 c9 ys B9 d9 rX) := Lib.hid (wok_putW N_x6.out hP (HFN.out _ (by have := HGW.out; omega)))
        have M_x7 : Hid (PL x7 x7.heap.size a3 rp.msg.props) := Lib.hid (pl_putR M_x6.out hP (HAM.out _ (by have := HGW.out; omega)))
        have W_x7 : Hid (WOk x7 A6 c6 zs B6 d6 rX) := Lib.hid (wok_putW W_x6.out hP (HFW.out _ (by have := HGW.out; omega) (by have := HGW.out; omega)))
        have R_x7 : Hid (PL x7 x7.heap.size a6 rp.msg.props) := Lib.hid (pl_putR R_x6.out hP (HAR.out _ (by have := HGW.out; omega) (by have := HGW.out; omega)))
        clear D_x6 V_x6 U_x6 P_x6 Q_x6 G_x6 N_x6 M_x6 W_x6 R_x6
        clear hM hP hHeld VO
        refine hK.out _ _ D_x7.out (fun hHeld => ?_)
        clear hK K
        try simp only [Act.put, List.setIfInBounds_toArray, List.set_cons_zero, List.set_cons_succ]
        refine wpAnyH_ready (rs := [12]) (by kernel_rfl) (by simp) ?_
        refine (AllReadyH.cons (get_ops _ _ _ rfl) (fun K hK => ?_) AllReadyH.nil)
        have VO := Q_x7.out
        refine S2.wp_store_all 42 _ _ rfl rfl (w2.heap.size + 1) (by go_simp) (pkC rp (pubA a6 c7)) (by first | rfl | go_simp) 42 zeroPk VO pktSize rfl (pkOnes _ _) ?_
        intro x8 hM hP
        have Q_x8 : Hid (BK 42 x8 (w2.heap.size + 1) (pkC rp (pubA a6 c7))) := Lib.hid (hM)
        have D_x8 : Hid (Below wr.heap.size wr x8) := Lib.hid (hP.below D_x7.out (by have := HGW.out; omega))
        have V_x8 : Hid (BK 28 x8 (wr.heap.size) (wcs rL A9 c9 ys B9 d9 rX rl)) := Lib.hid (hP.other V_x7.out (by have := HGW.out; omega))
        have U_x8 : Hid (BK 28 x8 (wr.heap.size + 1) (wcs rL A6 c6 zs B6 d6 rX rl)) := Lib.hid (hP.other U_x7.out (by have := HGW.out; omega))
        have P_x8 : Hid (BK 42 x8 (w2.heap.size) (pkC rp (pubA a3 c3))) := Lib.hid (hP.other P_x7.out (by have := HGW.out; omega))
        have G_x8 : Hid (w2.heap.size + 1 < x8.heap.size) := Lib.hid ((by rw [hP.size]; exact G_x7.out))
        have N_x8 : Hid (WOk x8 A9 c9 ys B9 d9 rX) := Lib.hid (wok_putW N_x7.out hP (HFN.out _ (by have := HGW.out; omega)))
        have M_x8 : Hid (PL x8 x8.heap.size a3 rp.msg.props) := Lib.hid (pl_putR M_x7.out hP (HAM.out _ (by have := HGW.out; omega)))
        have W_x8 : Hid (WOk x8 A6 c6 zs B6 d6 rX) := Lib.hid (wok_putW W_x7.out hP (HFW.out _ (by have := HGW.out; omega) (by have := HGW.out; omega)))
        have R_x8 : Hid (PL x8 x8.heap.size a6 rp.msg.props) := Lib.hid (pl_putR R_x7.out hP (HAR.out _ (by have := HGW.out; omega) (by have := HGW.out; omega)))
        clear D_x7 V_x7 U_x7 P_x7 Q_x7 G_x7 N_x7 M_x7 W_x7 R_x7
        clear hM hP hHeld VO
        refine hK.out _ _ D_x8.out (fun hHeld => ?_)
        clear hK K
        try simp only [Act.put, List.setIfInBounds_toArray, List.set_cons_zero, List.set_cons_succ]
        refine wpAnyH_take (i := 13) (v := .int .i64 rz) (get_ops _ _ _ rfl) (by kernel_rfl) (by kernel_rfl) (by kernel_rfl) (fun _ _ _ h => h) (Or.inl ⟨by rfl, fun wS hSw => by (try dsimp only at hSw); go_simp⟩) hHeld ?_
        try simp only [Act.put, List.setIfInBounds_toArray, List.set_cons_zero, List.set_cons_succ]
        refine wpAnyH_done (by kernel_rfl) ?_ _
        clear HRS
        have HS1 := Lib.hid (fun w1 h1 h2 => rwsame_any rL A9 c9 ys B9 d9 rX rl A6 c6 zs B6 d6 w1 h1 h2 (HYS.out.trans HZS.out.symm) (by have h9 := HSM.out.1; rw [← HYS.out, List.length_map] at h9; omega) (fun x hx => by have := HSM.out.2.1 x.f (by rw [← HYS.out]; exact List.mem_map_of_mem hx); omega) (by have := HSM.out.2.2.1; omega))
        have HS2 := Lib.hid (fun w1 h1 h2 => psameR (c := c3) (c' := c7) (a := a3) (a' := a6) HSM.out.2.2.2.1 HSM.out.2.2.2.2 w1 h1 h2)
        unfold pkV at HS2
        have qn : (rz != rz) = false := by simp
        go_wp2_with first
          | (refine wpList_load_v (by rfl) 42 (.tmp 11) rfl ⟨w2.heap.size, 0, none⟩ rfl (.agg (pkC rp (pubA a3 c3)).toArray) (S2.run_load_all P_x8.out Tryz.underlying42 rfl pktSize) ?_)
          | (refine wpList_load_v (by rfl) 42 (.tmp 12) rfl ⟨(w2.heap.size + 1), 0, none⟩ rfl (.agg (pkC rp (pubA a6 c7)).toArray) (S2.run_load_all Q_x8.out Tryz.underlying42 rfl pktSize) ?_)
        refine (HS2.out x8 M_x8.out R_x8.out).mono ?_
        rintro e t1 ⟨rfl, hb⟩
        have D_t1 : Hid (Below wr.heap.size wr t1) := Lib.hid (stepB D_x8.out hb)
        have V_t1 : Hid (BK 28 t1 (wr.heap.size) (wcs rL A9 c9 ys B9 d9 rX rl)) := Lib.hid (V_x8.out.step hb)
        have U_t1 : Hid (BK 28 t1 (wr.heap.size + 1) (wcs rL A6 c6 zs B6 d6 rX rl)) := Lib.hid (U_x8.out.step hb)
        have P_t1 : Hid (BK 42 t1 (w2.heap.size) (pkC rp (pubA a3 c3))) := Lib.hid (P_x8.out.step hb)
        have Q_t1 : Hid (BK 42 t1 (w2.heap.size + 1) (pkC rp (pubA a6 c7))) := Lib.hid (Q_x8.out.step hb)
        have G_t1 : Hid (w2.heap.size + 1 < t1.heap.size) := Lib.hid (Nat.lt_of_lt_of_le G_x8.out hb.size)
        have N_t1 : Hid (WOk t1 A9 c9 ys B9 d9 rX) := Lib.hid (WOk.step N_x8.out hb)
        have M_t1 : Hid (PL t1 t1.heap.size a3 rp.msg.props) := Lib.hid (GL.step M_x8.out hb)
        have W_t1 : Hid (WOk t1 A6 c6 zs B6 d6 rX) := Lib.hid (WOk.step W_x8.out hb)
        have R_t1 : Hid (PL t1 t1.heap.size a6 rp.msg.props) := Lib.hid (GL.step R_x8.out hb)
        clear D_x8 V_x8 U_x8 P_x8 Q_x8 G_x8 N_x8 M_x8 W_x8 R_x8
        clear hb
        clear P_t1 Q_t1 M_t1 R_t1 G_t1
        clear HS2
        go_wp2_with first
          | (refine wpList_load_v (by rfl) 28 (.tmp 7) rfl ⟨wr.heap.size, 0, none⟩ rfl (wv rL A9 c9 ys B9 d9 rX rl) (S2.run_load_all V_t1.out Tryz.underlying28 rfl winSize) ?_)
          | (refine wpList_load_v (by rfl) 28 (.tmp 8) rfl ⟨(wr.heap.size + 1), 0, none⟩ rfl (wv rL A6 c6 zs B6 d6 rX rl) (S2.run_load_all U_t1.out Tryz.underlying28 rfl winSize) ?_)
        refine (HS1.out t1 N_t1.out W_t1.out).mono ?_
        rintro e t2 ⟨rfl, hb⟩
        have D_t2 : Hid (Below wr.heap.size wr t2) := Lib.hid (stepB D_t1.out hb)
        have V_t2 : Hid (BK 28 t2 (wr.heap.size) (wcs rL A9 c9 ys B9 d9 rX rl)) := Lib.hid (V_t1.out.step hb)
        have U_t2 : Hid (BK 28 t2 (wr.heap.size + 1) (wcs rL A6 c6 zs B6 d6 rX rl)) := Lib.hid (U_t1.out.step hb)
        have N_t2 : Hid (WOk t2 A9 c9 ys B9 d9 rX) := Lib.hid (WOk.step N_t1.out hb)
        have W_t2 : Hid (WOk t2 A6 c6 zs B6 d6 rX) := Lib.hid (WOk.step W_t1.out hb)
        clear D_t1 V_t1 U_t1 N_t1 W_t1
        clear hb
        by_cases hz : rz = 0
        · have qz : (rz == 0) = true := by simp [hz]
          have B_t2 : Hid (Below w.heap.size w t2) := Lib.hid (HBW.out _ D_t2.out)
          obtain ⟨hv9, hl9⟩ := HKE.out hz
          have HV9 : Hid (VW (rL, ys.map FE.f, rX, rl)) := Lib.hid (by rw [HYS.out]; exact hv9)
          have HL9 : Hid (rL = limR n) := Lib.hid (hl9.trans HI.out.n)
          have HO9 : Hid (OffW gT A9 ys B9 rX) := Lib.hid (HFN.out _ (by have := HGT.out; have := HGW.out; omega))
          clear hz hv9 hl9
          have T_t2 : Hid (BK 28 t2 gT (wcs L A c xs A2 c2 X l)) := Lib.hid (HI.out.t.step D_t2.out)
          go_upto_region 24 with first
            | (refine wpList_load_v (by rfl) 28 (.tmp 7) rfl ⟨wr.heap.size, 0, none⟩ rfl (wv rL A9 c9 ys B9 d9 rX rl) (S2.run_load_all V_t2.out Tryz.underlying28 rfl winSize) ?_)
            | (refine S2.wpList_store_all (by rfl) 28 (.tmp 5) (.tmp 103) rfl rfl (gT) rfl (wcs rL A9 c9 ys B9 d9 rX rl) rfl 28 (wcs L A c xs A2 c2 X l) T_t2.out winSize rfl (ones rfl) ?_; intro tz1 hM hP; have T_tz1 : Hid (BK 28 tz1 (gT) (wcs rL A9 c9 ys B9 d9 rX rl)) := Lib.hid hM; have N_tz1 : Hid (WOk tz1 A9 c9 ys B9 d9 rX) := Lib.hid (wok_putW N_t2.out hP HO9.out); have B_tz1 : Hid (Below w.heap.size w tz1) := Lib.hid (hP.below B_t2.out HGT.out.1); clear hM hP D_t2 N_t2 V_t2 B_t2 T_t2)
          have HNW : Hid (∀ w1, Calls Tryz.prog 6 #[.int .i64 n] w1 fun e w' => e = .returned (wv rL none 0 [] none 0 [] 0) ∧ Below w1.heap.size w1 w') := Lib.hid (fun w1 => by have := rnew_any n w1; rw [← HL9.out] at this; exact this)
          have HCK := Lib.hid (fun w1 h1 h2 => wcheck_vw rL A9 c9 ys B9 d9 rX rl HV9.out w1 h1 h2)
          clear qz
          obtain ⟨tzu1, htzu1⟩ : ∃ tzu1, tzu1 = World.drew tz1 := ⟨_, rfl⟩
          have hbD : Below tz1.heap.size tz1 tzu1 := by rw [htzu1]; exact (Below.refl _ _).drew
          have N_tzu1 : Hid (WOk tzu1 A9 c9 ys B9 d9 rX) := Lib.hid (WOk.step N_tz1.out hbD)
          have B_tzu1 : Hid (Below w.heap.size w tzu1) := Lib.hid (stepB B_tz1.out hbD)
          have T_tzu1 : Hid (BK 28 tzu1 (gT) (wcs rL A9 c9 ys B9 d9 rX rl)) := Lib.hid (T_tz1.out.step hbD)
          clear N_tz1 B_tz1 T_tz1
          have hbd : (fun w' => BK 28 w' (gT) (wcs rL A9 c9 ys B9 d9 rX rl)) (World.drew tz1) := by rw [← htzu1]; exact T_tzu1.out
          have hSD : (fun w' => BK 28 w' (gT) (wcs rL A9 c9 ys B9 d9 rX rl)) tzu1 := T_tzu1.out
          have HWD := Lib.hid htzu1
          clear htzu1 hbD
          refine wp_region_held_drew (S := fun w' => BK 28 w' (gT) (wcs rL A9 c9 ys B9 d9 rX rl)) (by kernel_rfl) hbd (fun hHeld => ?_)
          rw [← HWD.out]
          clear hHeld
          have hHeld := hSD
          clear hSD hbd HWD
          refine wpAnyH_take (i := 0) (v := wv rL A9 c9 ys B9 d9 rX rl) (get_ops _ _ _ rfl) (by kernel_rfl) (by kernel_rfl) (by kernel_rfl) (fun _ _ _ h => h) (Or.inl ⟨by rfl, fun wS hSw => by (try dsimp only at hSw); exact exec_load 28 _ rfl ⟨gT, 0, none⟩ (by go_simp) _ (S2.run_load_all hSw Tryz.underlying28 rfl winSize)⟩) hHeld ?_
          try simp only [Act.put, List.setIfInBounds_toArray, List.set_cons_zero, List.set_cons_succ]
          refine wpAnyH_ready (rs := [1]) (by kernel_rfl) (by simp) ?_
          refine (AllReadyH.cons (get_ops _ _ _ rfl) (fun K hK => ?_) AllReadyH.nil)
          go_simp
          refine (HCK.out tzu1 (HOK.out.step B_tzu1.out) N_tzu1.out).mono ?_
          rintro e tzu2 ⟨rfl, hb⟩
          have N_tzu2 : Hid (WOk tzu2 A9 c9 ys B9 d9 rX) := Lib.hid (WOk.step N_tzu1.out hb)
          have B_tzu2 : Hid (Below w.heap.size w tzu2) := Lib.hid (stepB B_tzu1.out hb)
          have T_tzu2 : Hid (BK 28 tzu2 (gT) (wcs rL A9 c9 ys B9 d9 rX rl)) := Lib.hid (T_tzu1.out.step hb)
          clear N_tzu1 B_tzu1 T_tzu1
          clear hHeld hb
          go_wp2_with fail
          refine hK.out _ _ T_tzu2.out (fun hHeld => ?_)
          clear hK K
          try simp only [Act.put, List.setIfInBounds_toArray, List.set_cons_zero, List.set_cons_succ]
          refine wpAnyH_take (i := 2) (v := .bool false) (get_ops _ _ _ rfl) (by kernel_rfl) (by kernel_rfl) (by kernel_rfl) (fun _ _ _ h => h) (Or.inl ⟨by rfl, fun wS hSw => by (try dsimp only at hSw); go_simp⟩) hHeld ?_
          try simp only [Act.put, List.setIfInBounds_toArray, List.set_cons_zero, List.set_cons_succ]
          refine wpAnyH_take (i := 3) (v := .bool false) (get_ops _ _ _ rfl) (by kernel_rfl) (by kernel_rfl) (by kernel_rfl) (fun _ _ _ h => h) (Or.inl ⟨by rfl, fun wS hSw => by (try dsimp only at hSw); go_simp⟩) hHeld ?_
          try simp only [Act.put, List.setIfInBounds_toArray, List.set_cons_zero, List.set_cons_succ]
          refine wpAnyH_take (i := 4) (v := .pointer (some ⟨gT, 0, none⟩)) (get_ops _ _ _ rfl) (by kernel_rfl) (by kernel_rfl) (by kernel_rfl) (fun _ _ _ h => h) (Or.inl ⟨by rfl, fun wS hSw => by (try dsimp only at hSw); go_simp⟩) hHeld ?_
          try simp only [Act.put, List.setIfInBounds_toArray, List.set_cons_zero, List.set_cons_succ]
          refine wpAnyH_take (i := 5) (v := .int .i64 rL) (get_ops _ _ _ rfl) (by kernel_rfl) (by kernel_rfl) (by kernel_rfl) (fun _ _ _ h => h) (Or.inl ⟨by rfl, fun wS hSw => by (try dsimp only at hSw); have cS : wS.cell? ⟨gT, 0, none⟩ = some (.int .i64 rL) := hSw.cell 0 rfl; clear hSw; go_simp⟩) hHeld ?_
          try simp only [Act.put, List.setIfInBounds_toArray, List.set_cons_zero, List.set_cons_succ]
          refine wpAnyH_take (i := 6) (v := .int .i64 n) (get_ops _ _ _ rfl) (by kernel_rfl) (by kernel_rfl) (by kernel_rfl) (fun _ _ _ h => h) (Or.inl ⟨by rfl, fun wS hSw => by (try dsimp only at hSw); go_simp⟩) hHeld ?_
          try simp only [Act.put, List.setIfInBounds_toArray, List.set_cons_zero, List.set_cons_succ]
          refine wpAnyH_ready (rs := [7]) (by kernel_rfl) (by simp) ?_
          refine (AllReadyH.cons (get_ops _ _ _ rfl) (fun K hK => ?_) AllReadyH.nil)
          go_simp
          refine (HNW.out tzu2).mono ?_
          rintro e tzu3 ⟨rfl, hb⟩
          have N_tzu3 : Hid (WOk tzu3 A9 c9 ys B9 d9 rX) := Lib.hid (WOk.step N_tzu2.out hb)
          have B_tzu3 : Hid (Below w.heap.size w tzu3) := Lib.hid (stepB B_tzu2.out hb)
          have T_tzu3 : Hid (BK 28 tzu3 (gT) (wcs rL A9 c9 ys B9 d9 rX rl)) := Lib.hid (T_tzu2.out.step hb)
          clear N_tzu2 B_tzu2 T_tzu2
          clear hHeld hb
          go_wp2_with fail
          refine hK.out _ _ T_tzu3.out (fun hHeld => ?_)
          clear hK K
          try simp only [Act.put, List.setIfInBounds_toArray, List.set_cons_zero, List.set_cons_succ]
          refine wpAnyH_take (i := 8) (v := .int .i64 rL) (get_ops _ _ _ rfl) (by kernel_rfl) (by kernel_rfl) (by kernel_rfl) (fun _ _ _ h => h) (Or.inl ⟨by rfl, fun wS hSw => by (try dsimp only at hSw); have hfd : ∀ w9 : World, (Instr.field 28 (wv rL none 0 [] none 0 [] 0) 0).run Tryz.prog w9 = .ok (.int .i64 rL) w9 := (fun _ => by kernel_rfl); go_simp⟩) hHeld ?_
          try simp only [Act.put, List.setIfInBounds_toArray, List.set_cons_zero, List.set_cons_succ]
          refine wpAnyH_take (i := 9) (v := .bool false) (get_ops _ _ _ rfl) (by kernel_rfl) (by kernel_rfl) (by kernel_rfl) (fun _ _ _ h => h) (Or.inl ⟨by rfl, fun wS hSw => by (try dsimp only at hSw); go_simp⟩) hHeld ?_
          try simp only [Act.put, List.setIfInBounds_toArray, List.set_cons_zero, List.set_cons_succ]
          refine wpAnyH_take (i := 10) (v := .bool false) (get_ops _ _ _ rfl) (by kernel_rfl) (by kernel_rfl) (by kernel_rfl) (fun _ _ _ h => h) (Or.inl ⟨by rfl, fun wS hSw => by (try dsimp only at hSw); go_simp⟩) hHeld ?_
          try simp only [Act.put, List.setIfInBounds_toArray, List.set_cons_zero, List.set_cons_succ]
          refine wpAnyH_done (by kernel_rfl) ?_ _
          go_wp2_with fail
          go_roundg g
          case measure => omega
          case rel => exact ⟨k + 1, rL, A9, c9, ys, B9, d9, rX, rl, by have := HK.out; omega, by go_num, ⟨T_tzu3.out, B_tzu3.out, N_tzu3.out, HV9.out, HO9.out, HGT.out.1, HL9.out⟩⟩
        · have qz : (rz == 0) = false := by simp [hz]
          have B_t2 : Hid (Below w.heap.size w t2) := Lib.hid (HBW.out _ D_t2.out)
          have HV9 := Lib.hid HI.out.v
          have HL9 : Hid (L = limR n) := Lib.hid HI.out.n
          clear hz
          have T_t2 : Hid (BK 28 t2 gT (wcs L A c xs A2 c2 X l)) := Lib.hid (HI.out.t.step D_t2.out)
          clear N_t2 V_t2
          have N_t2 : Hid (WOk t2 A c xs A2 c2 X) := Lib.hid (HI.out.o.step D_t2.out)
          clear D_t2
          go_upto_region 24 with fail
          have HNW : Hid (∀ w1, Calls Tryz.prog 6 #[.int .i64 n] w1 fun e w' => e = .returned (wv L none 0 [] none 0 [] 0) ∧ Below w1.heap.size w1 w') := Lib.hid (fun w1 => by have := rnew_any n w1; rw [← HL9.out] at this; exact this)
          have HCK := Lib.hid (fun w1 h1 h2 => wcheck_vw L A c xs A2 c2 X l HV9.out w1 h1 h2)
          clear qz
          obtain ⟨tyu1, htyu1⟩ : ∃ tyu1, tyu1 = World.drew t2 := ⟨_, rfl⟩
          have hbD : Below t2.heap.size t2 tyu1 := by rw [htyu1]; exact (Below.refl _ _).drew
          have B_tyu1 : Hid (Below w.heap.size w tyu1) := Lib.hid (stepB B_t2.out hbD)
          have T_tyu1 : Hid (BK 28 tyu1 gT (wcs L A c xs A2 c2 X l)) := Lib.hid (T_t2.out.step hbD)
          have N_tyu1 : Hid (WOk tyu1 A c xs A2 c2 X) := Lib.hid (WOk.step N_t2.out hbD)
          clear B_t2 T_t2 N_t2
          have hbd : (fun w' => BK 28 w' gT (wcs L A c xs A2 c2 X l)) (World.drew t2) := by rw [← htyu1]; exact T_tyu1.out
          have hSD : (fun w' => BK 28 w' gT (wcs L A c xs A2 c2 X l)) tyu1 := T_tyu1.out
          have HWD := Lib.hid htyu1
          clear htyu1 hbD
          refine wp_region_held_drew (S := fun w' => BK 28 w' gT (wcs L A c xs A2 c2 X l)) (by kernel_rfl) hbd (fun hHeld => ?_)
          rw [← HWD.out]
          clear hHeld
          have hHeld := hSD
          clear hSD hbd HWD
          refine wpAnyH_take (i := 0) (v := wv L A c xs A2 c2 X l) (get_ops _ _ _ rfl) (by kernel_rfl) (by kernel_rfl) (by kernel_rfl) (fun _ _ _ h => h) (Or.inl ⟨by rfl, fun wS hSw => by (try dsimp only at hSw); exact exec_load 28 _ rfl ⟨gT, 0, none⟩ (by go_simp) _ (S2.run_load_all hSw Tryz.underlying28 rfl winSize)⟩) hHeld ?_
          try simp only [Act.put, List.setIfInBounds_toArray, List.set_cons_zero, List.set_cons_succ]
          refine wpAnyH_ready (rs := [1]) (by kernel_rfl) (by simp) ?_
          refine (AllReadyH.cons (get_ops _ _ _ rfl) (fun K hK => ?_) AllReadyH.nil)
          go_simp
          refine (HCK.out tyu1 (HOK.out.step B_tyu1.out) N_tyu1.out).mono ?_
          rintro e tyu2 ⟨rfl, hb⟩
          have B_tyu2 : Hid (Below w.heap.size w tyu2) := Lib.hid (stepB B_tyu1.out hb)
          have T_tyu2 : Hid (BK 28 tyu2 gT (wcs L A c xs A2 c2 X l)) := Lib.hid (T_tyu1.out.step hb)
          have N_tyu2 : Hid (WOk tyu2 A c xs A2 c2 X) := Lib.hid (WOk.step N_tyu1.out hb)
          clear B_tyu1 T_tyu1 N_tyu1
          clear hHeld hb
          go_wp2_with fail
          refine hK.out _ _ T_tyu2.out (fun hHeld => ?_)
          clear hK K
          try simp only [Act.put, List.setIfInBounds_toArray, List.set_cons_zero, List.set_cons_succ]
          refine wpAnyH_take (i := 2) (v := .bool false) (get_ops _ _ _ rfl) (by kernel_rfl) (by kernel_rfl) (by kernel_rfl) (fun _ _ _ h => h) (Or.inl ⟨by rfl, fun wS hSw => by (try dsimp only at hSw); go_simp⟩) hHeld ?_
          try simp only [Act.put, List.setIfInBounds_toArray, List.set_cons_zero, List.set_cons_succ]
          refine wpAnyH_take (i := 3) (v := .bool false) (get_ops _ _ _ rfl) (by kernel_rfl) (by kernel_rfl) (by kernel_rfl) (fun _ _ _ h => h) (Or.inl ⟨by rfl, fun wS hSw => by (try dsimp only at hSw); go_simp⟩) hHeld ?_
          try simp only [Act.put, List.setIfInBounds_toArray, List.set_cons_zero, List.set_cons_succ]
          refine wpAnyH_take (i := 4) (v := .pointer (some ⟨gT, 0, none⟩)) (get_ops _ _ _ rfl) (by kernel_rfl) (by kernel_rfl) (by kernel_rfl) (fun _ _ _ h => h) (Or.inl ⟨by rfl, fun wS hSw => by (try dsimp only at hSw); go_simp⟩) hHeld ?_
          try simp only [Act.put, List.setIfInBounds_toArray, List.set_cons_zero, List.set_cons_succ]
          refine wpAnyH_take (i := 5) (v := .int .i64 L) (get_ops _ _ _ rfl) (by kernel_rfl) (by kernel_rfl) (by kernel_rfl) (fun _ _ _ h => h) (Or.inl ⟨by rfl, fun wS hSw => by (try dsimp only at hSw); have cS : wS.cell? ⟨gT, 0, none⟩ = some (.int .i64 L) := hSw.cell 0 rfl; clear hSw; go_simp⟩) hHeld ?_
          try simp only [Act.put, List.setIfInBounds_toArray, List.set_cons_zero, List.set_cons_succ]
          refine wpAnyH_take (i := 6) (v := .int .i64 n) (get_ops _ _ _ rfl) (by kernel_rfl) (by kernel_rfl) (by kernel_rfl) (fun _ _ _ h => h) (Or.inl ⟨by rfl, fun wS hSw => by (try dsimp only at hSw); go_simp⟩) hHeld ?_
          try simp only [Act.put, List.setIfInBounds_toArray, List.set_cons_zero, List.set_cons_succ]
          refine wpAnyH_ready (rs := [7]) (by kernel_rfl) (by simp) ?_
          refine (AllReadyH.cons (get_ops _ _ _ rfl) (fun K hK => ?_) AllReadyH.nil)
          go_simp
          refine (HNW.out tyu2).mono ?_
          rintro e tyu3 ⟨rfl, hb⟩
          have B_tyu3 : Hid (Below w.heap.size w tyu3) := Lib.hid (stepB B_tyu2.out hb)
          have T_tyu3 : Hid (BK 28 tyu3 gT (wcs L A c xs A2 c2 X l)) := Lib.hid (T_tyu2.out.step hb)
          have N_tyu3 : Hid (WOk tyu3 A c xs A2 c2 X) := Lib.hid (WOk.step N_tyu2.out hb)
          clear B_tyu2 T_tyu2 N_tyu2
          clear hHeld hb
          go_wp2_with fail
          refine hK.out _ _ T_tyu3.out (fun hHeld => ?_)
          clear hK K
          try simp only [Act.put, List.setIfInBounds_toArray, List.set_cons_zero, List.set_cons_succ]
          refine wpAnyH_take (i := 8) (v := .int .i64 L) (get_ops _ _ _ rfl) (by kernel_rfl) (by kernel_rfl) (by kernel_rfl) (fun _ _ _ h => h) (Or.inl ⟨by rfl, fun wS hSw => by (try dsimp only at hSw); have hfd : ∀ w9 : World, (Instr.field 28 (wv L none 0 [] none 0 [] 0) 0).run Tryz.prog w9 = .ok (.int .i64 L) w9 := (fun _ => by kernel_rfl); go_simp⟩) hHeld ?_
          try simp only [Act.put, List.setIfInBounds_toArray, List.set_cons_zero, List.set_cons_succ]
          refine wpAnyH_take (i := 9) (v := .bool false) (get_ops _ _ _ rfl) (by kernel_rfl) (by kernel_rfl) (by kernel_rfl) (fun _ _ _ h => h) (Or.inl ⟨by rfl, fun wS hSw => by (try dsimp only at hSw); go_simp⟩) hHeld ?_
          try simp only [Act.put, List.setIfInBounds_toArray, List.set_cons_zero, List.set_cons_succ]
          refine wpAnyH_take (i := 10) (v := .bool false) (get_ops _ _ _ rfl) (by kernel_rfl) (by kernel_rfl) (by kernel_rfl) (fun _ _ _ h => h) (Or.inl ⟨by rfl, fun wS hSw => by (try dsimp only at hSw); go_simp⟩) hHeld ?_
          try simp only [Act.put, List.setIfInBounds_toArray, List.set_cons_zero, List.set_cons_succ]
          refine wpAnyH_done (by kernel_rfl) ?_ _
          go_wp2_with fail
          go_roundg g
          case measure => omega
          case rel => exact ⟨k + 1, L, A, c, xs, A2, c2, X, l, by have := HK.out; omega, by go_num, ⟨T_tyu3.out, B_tyu3.out, N_tyu3.out, HV9.out, HI.out.f, HGT.out.1, HL9.out⟩⟩
      · have q0 : (o.f.id == 0) = false := by simp [hk]
        have HPC := Lib.hid (fun w1 h => packet_any L A c xs A2 c2 X l o w1 h (by omega) hso)
        obtain ⟨P, hP⟩ : ∃ P, opPk (xs.map FE.f) o.f = P := ⟨_, rfl⟩
        rw [hP] at HPC
        have HHA := Lib.hid (fun w1 h => handle_any L A c xs A2 c2 X l P PA.zero w1 h (by omega) v5 v3 v6)
        have HRS := Lib.hid (fun w1 h => rHandleo_any L A c xs A2 c2 X l P PA.zero w1 h (by omega) (by omega) (fun x hx => hvw.its x.f (List.mem_map_of_mem hx)))
        have HSM := Lib.hid (handle_small (k := P.kind) (n := P.id) hvw)
        obtain ⟨r, hr⟩ : ∃ r, handleR (L, xs.map FE.f, X, l) P.kind P.id = r := ⟨_, rfl⟩
        have HKE : Hid (r.2.2 = 0 → VW r.1 ∧ r.1.1 = L) := Lib.hid (fun h => by rw [← hr] at h ⊢; exact ⟨vw_handle hvw h, handle_lim h⟩)
        rw [hr] at HHA HRS HSM
        obtain ⟨⟨rL, rF, rX, rl⟩, rp, rz⟩ := r
        dsimp only [RetH, RetHo] at HHA HRS HKE HSM
        have G_w2 : Hid (wr.heap.size + 1 < w2.heap.size) := HGW
        clear hr hP hk hso hsz v1 v2 v3 v4 v5 v6 v7 hvw HAO
        go_upto_region 16 with fail
        clear c0 e1 e1' e2 q0
        obtain ⟨h1, hh1⟩ : ∃ h1, h1 = World.drew w2 := ⟨_, rfl⟩
        have hbD : Below w2.heap.size w2 h1 := by rw [hh1]; exact (Below.refl _ _).drew
        have D_h1 : Hid (Below wr.heap.size wr h1) := Lib.hid (stepB D_w2.out hbD)
        have V_h1 : Hid (BK 28 h1 wr.heap.size (wcs 0 none 0 [] none 0 [] 0)) := Lib.hid (V_w2.out.step hbD)
        have U_h1 : Hid (BK 28 h1 (wr.heap.size + 1) (wcs 0 none 0 [] none 0 [] 0)) := Lib.hid (U_w2.out.step hbD)
        have G_h1 : Hid (wr.heap.size + 1 < h1.heap.size) := Lib.hid (Nat.lt_of_lt_of_le G_w2.out hbD.size)
        clear D_w2 V_w2 U_w2 G_w2
        have hbd : (fun w' => Below wr.heap.size wr w') (World.drew w2) := by rw [← hh1]; exact D_h1.out
        have hSD : (fun w' => Below wr.heap.size wr w') h1 := D_h1.out
        have HWD := Lib.hid hh1
        clear hh1 hbD
        refine wp_region_held_drew (S := fun w' => Below wr.heap.size wr w') (by kernel_rfl) hbd (fun hHeld => ?_)
        rw [← HWD.out]
        clear hHeld
        have hHeld := hSD
        clear hSD hbd HWD
        refine wpAnyH_take (i := 0) (v := wv L A c xs A2 c2 X l) (get_ops _ _ _ rfl) (by kernel_rfl) (by kernel_rfl) (by kernel_rfl) (fun _ _ _ h => h) (Or.inl ⟨by rfl, fun wS hSw => by (try dsimp only at hSw); exact exec_load 28 _ rfl ⟨gT, 0, none⟩ (by go_simp) _ (S2.run_load_all (HI.out.t.step hSw) Tryz.underlying28 rfl winSize)⟩) hHeld ?_
        try simp only [Act.put, List.setIfInBounds_toArray, List.set_cons_zero, List.set_cons_succ]
        refine wpAnyH_take (i := 1) (v := wv L A c xs A2 c2 X l) (get_ops _ _ _ rfl) (by kernel_rfl) (by kernel_rfl) (by kernel_rfl) (fun _ _ _ h => h) (Or.inl ⟨by rfl, fun wS hSw => by (try dsimp only at hSw); exact exec_load 28 _ rfl ⟨gT, 0, none⟩ (by go_simp) _ (S2.run_load_all (HI.out.t.step hSw) Tryz.underlying28 rfl winSize)⟩) hHeld ?_
        try simp only [Act.put, List.setIfInBounds_toArray, List.set_cons_zero, List.set_cons_succ]
        refine wpAnyH_take (i := 2) (v := .slice (some ⟨b, q, none⟩) os.length co) (get_ops _ _ _ rfl) (by kernel_rfl) (by kernel_rfl) (by kernel_rfl) (fun _ _ _ h => h) (Or.inl ⟨by rfl, fun wS hSw => by (try dsimp only at hSw); go_simp⟩) hHeld ?_
        try simp only [Act.put, List.setIfInBounds_toArray, List.set_cons_zero, List.set_cons_succ]
        refine wpAnyH_take (i := 3) (v := .int .i64 (k : Int)) (get_ops _ _ _ rfl) (by kernel_rfl) (by kernel_rfl) (by kernel_rfl) (fun _ _ _ h => h) (Or.inl ⟨by rfl, fun wS hSw => by (try dsimp only at hSw); go_simp⟩) hHeld ?_
        try simp only [Act.put, List.setIfInBounds_toArray, List.set_cons_zero, List.set_cons_succ]
        refine wpAnyH_take (i := 4) (v := .pointer (some ⟨b, q + k * 11, none⟩)) (get_ops _ _ _ rfl) (by kernel_rfl) (by kernel_rfl) (by kernel_rfl) (fun _ _ _ h => h) (Or.inl ⟨by rfl, fun wS hSw => by (try dsimp only at hSw); go_simp⟩) hHeld ?_
        try simp only [Act.put, List.setIfInBounds_toArray, List.set_cons_zero, List.set_cons_succ]
        refine wpAnyH_take (i := 5) (v := fV o) (get_ops _ _ _ rfl) (by kernel_rfl) (by kernel_rfl) (by kernel_rfl) (fun _ _ _ h => h) (Or.inl ⟨by rfl, fun wS hSw => by (try dsimp only at hSw); exact exec_load 36 _ rfl ⟨b, q + k * 11, none⟩ (by go_simp) _ (load_opR (fun j v hv => ((HBW.out _ hSw).cell (p := ⟨b, q + k * 11 + j, none⟩) HBL.out).trans (HC.out j v hv)))⟩) hHeld ?_
        try simp only [Act.put, List.setIfInBounds_toArray, List.set_cons_zero, List.set_cons_succ]
        refine wpAnyH_ready (rs := [6]) (by kernel_rfl) (by simp) ?_
        refine (AllReadyH.cons (get_ops _ _ _ rfl) (fun K hK => ?_) AllReadyH.nil)
        go_simp
        refine (HPC.out h1 (HI.out.o.step D_h1.out).1).mono ?_
        rintro e h2 ⟨rfl, hb⟩
        have D_h2 : Hid (Below wr.heap.size wr h2) := Lib.hid (stepB D_h1.out hb)
        have V_h2 : Hid (BK 28 h2 wr.heap.size (wcs 0 none 0 [] none 0 [] 0)) := Lib.hid (V_h1.out.step hb)
        have U_h2 : Hid (BK 28 h2 (wr.heap.size + 1) (wcs 0 none 0 [] none 0 [] 0)) := Lib.hid (U_h1.out.step hb)
        have G_h2 : Hid (wr.heap.size + 1 < h2.heap.size) := Lib.hid (Nat.lt_of_lt_of_le G_h1.out hb.size)
        clear D_h1 V_h1 U_h1 G_h1
        clear hHeld hb
        go_wp2_with fail
        refine hK.out _ _ D_h2.out (fun hHeld => ?_)
        clear hK K
        try simp only [Act.put, List.setIfInBounds_toArray, List.set_cons_zero, List.set_cons_succ]
        refine wpAnyH_ready (rs := [7]) (by kernel_rfl) (by simp) ?_
        refine (AllReadyH.cons (get_ops _ _ _ rfl) (fun K hK => ?_) AllReadyH.nil)
        have GO := G_h2
        go_simp
        refine (HHA.out h2 (HI.out.o.step D_h2.out)).mono ?_
        rintro e h3 ⟨A9, c9, ys, B9, d9, A4, c4, ks, rfl, hys, hwk, hnew, hks, hkk, hb⟩
        have D_h3 : Hid (Below wr.heap.size wr h3) := Lib.hid (stepB D_h2.out hb)
        have V_h3 : Hid (BK 28 h3 wr.heap.size (wcs 0 none 0 [] none 0 [] 0)) := Lib.hid (V_h2.out.step hb)
        have U_h3 : Hid (BK 28 h3 (wr.heap.size + 1) (wcs 0 none 0 [] none 0 [] 0)) := Lib.hid (U_h2.out.step hb)
        have G_h3 : Hid (wr.heap.size + 1 < h3.heap.size) := Lib.hid (Nat.lt_of_lt_of_le G_h2.out hb.size)
        clear D_h2 V_h2 U_h2 G_h2
        have HYS := Lib.hid hys
        have HKS := Lib.hid hks
        have HKZ : Hid (∀ z ∈ ks, z.1.msg.props = []) := Lib.hid (fun z hz => HSM.out.2.2 z.1 (by rw [← show List.map Prod.fst ks = rp from hks]; exact List.mem_map_of_mem hz))
        have HFN : Hid (∀ g, g ≤ wr.heap.size + 1 → OffW g A9 ys B9 rX) := Lib.hid (fun g hg => off_newW hnew (by have := GO.out; omega))
        have N_h3 : Hid (WOk h3 A9 c9 ys B9 d9 rX) := Lib.hid (hwk)
        have K_h3 : Hid (KS h3 h3.heap.size A4 ks) := Lib.hid (hkk)
        clear hys hwk hnew hks hkk GO
        clear hHeld hb
        go_wp2_with fail
        refine hK.out _ _ D_h3.out (fun hHeld => ?_)
        clear hK K
        try simp only [Act.put, List.setIfInBounds_toArray, List.set_cons_zero, List.set_cons_succ]
        refine wpAnyH_take (i := 8) (v := .tuple #[wv rL A9 c9 ys B9 d9 rX rl, .slice A4 ks.length c4, .int .i64 rz]) (get_ops _ _ _ rfl) (by kernel_rfl) (by kernel_rfl) (by kernel_rfl) (fun _ _ _ h => h) (Or.inl ⟨by rfl, fun wS hSw => by (try dsimp only at hSw); go_simp⟩) hHeld ?_
        try simp only [Act.put, List.setIfInBounds_toArray, List.set_cons_zero, List.set_cons_succ]
        refine wpAnyH_take (i := 9) (v := wv rL A9 c9 ys B9 d9 rX rl) (get_ops _ _ _ rfl) (by kernel_rfl) (by kernel_rfl) (by kernel_rfl) (fun _ _ _ h => h) (Or.inl ⟨by rfl, fun wS hSw => by (try dsimp only at hSw); go_simp⟩) hHeld ?_
        try simp only [Act.put, List.setIfInBounds_toArray, List.set_cons_zero, List.set_cons_succ]
        refine wpAnyH_take (i := 10) (v := .slice A4 ks.length c4) (get_ops _ _ _ rfl) (by kernel_rfl) (by kernel_rfl) (by kernel_rfl) (fun _ _ _ h => h) (Or.inl ⟨by rfl, fun wS hSw => by (try dsimp only at hSw); go_simp⟩) hHeld ?_
        try simp only [Act.put, List.setIfInBounds_toArray, List.set_cons_zero, List.set_cons_succ]
        refine wpAnyH_take (i := 11) (v := .int .i64 rz) (get_ops _ _ _ rfl) (by kernel_rfl) (by kernel_rfl) (by kernel_rfl) (fun _ _ _ h => h) (Or.inl ⟨by rfl, fun wS hSw => by (try dsimp only at hSw); go_simp⟩) hHeld ?_
        try simp only [Act.put, List.setIfInBounds_toArray, List.set_cons_zero, List.set_cons_succ]
        refine wpAnyH_ready (rs := [12]) (by kernel_rfl) (by simp) ?_
        refine (AllReadyH.cons (get_ops _ _ _ rfl) (fun K hK => ?_) AllReadyH.nil)
        have VO := V_h3.out
        refine S2.wp_store_all 28 _ _ rfl rfl (wr.heap.size) (by go_simp) (wcs rL A9 c9 ys B9 d9 rX rl) (by first | rfl | go_simp) 28 (wcs 0 none 0 [] none 0 [] 0) VO winSize rfl (ones rfl) ?_
        intro h4 hM hP
        have V_h4 : Hid (BK 28 h4 (wr.heap.size) (wcs rL A9 c9 ys B9 d9 rX rl)) := Lib.hid (hM)
        have D_h4 : Hid (Below wr.heap.size wr h4) := Lib.hid (hP.below D_h3.out (by have := HGW.out; omega))
        have U_h4 : Hid (BK 28 h4 (wr.heap.size + 1) (wcs 0 none 0 [] none 0 [] 0)) := Lib.hid (hP.other U_h3.out (by have := HGW.out; omega))
        have G_h4 : Hid (wr.heap.size + 1 < h4.heap.size) := Lib.hid ((by rw [hP.size]; exact G_h3.out))
        have N_h4 : Hid (WOk h4 A9 c9 ys B9 d9 rX) := Lib.hid (wok_putW N_h3.out hP (HFN.out _ (by have := HGW.out; omega)))
        have K_h4 : Hid (KS h4 h4.heap.size A4 ks) := Lib.hid (ks_putR K_h3.out hP VO (by decide) HKZ.out)
        clear D_h3 V_h3 U_h3 G_h3 N_h3 K_h3
        clear hM hP hHeld VO
        refine hK.out _ _ D_h4.out (fun hHeld => ?_)
        clear hK K
        try simp only [Act.put, List.setIfInBounds_toArray, List.set_cons_zero, List.set_cons_succ]
        refine wpAnyH_take (i := 13) (v := .slice A4 ks.length c4) (get_ops _ _ _ rfl) (by kernel_rfl) (by kernel_rfl) (by kernel_rfl) (fun _ _ _ h => h) (Or.inl ⟨by rfl, fun wS hSw => by (try dsimp only at hSw); go_simp⟩) hHeld ?_
        try simp only [Act.put, List.setIfInBounds_toArray, List.set_cons_zero, List.set_cons_succ]
        refine wpAnyH_take (i := 14) (v := .int .i64 rz) (get_ops _ _ _ rfl) (by kernel_rfl) (by kernel_rfl) (by kernel_rfl) (fun _ _ _ h => h) (Or.inl ⟨by rfl, fun wS hSw => by (try dsimp only at hSw); go_simp⟩) hHeld ?_
        try simp only [Act.put, List.setIfInBounds_toArray, List.set_cons_zero, List.set_cons_succ]
        refine wpAnyH_done (by kernel_rfl) ?_ _
        clear HHA
        go_upto_region 17 with fail
        obtain ⟨h5, hh5⟩ : ∃ h5, h5 = World.drew h4 := ⟨_, rfl⟩
        have hbD : Below h4.heap.size h4 h5 := by rw [hh5]; exact (Below.refl _ _).drew
        have D_h5 : Hid (Below wr.heap.size wr h5) := Lib.hid (stepB D_h4.out hbD)
        have V_h5 : Hid (BK 28 h5 (wr.heap.size) (wcs rL A9 c9 ys B9 d9 rX rl)) := Lib.hid (V_h4.out.step hbD)
        have U_h5 : Hid (BK 28 h5 (wr.heap.size + 1) (wcs 0 none 0 [] none 0 [] 0)) := Lib.hid (U_h4.out.step hbD)
        have G_h5 : Hid (wr.heap.size + 1 < h5.heap.size) := Lib.hid (Nat.lt_of_lt_of_le G_h4.out hbD.size)
        have N_h5 : Hid (WOk h5 A9 c9 ys B9 d9 rX) := Lib.hid (WOk.step N_h4.out hbD)
        have K_h5 : Hid (KS h5 h5.heap.size A4 ks) := Lib.hid (KS.step K_h4.out hbD)
        clear D_h4 V_h4 U_h4 G_h4 N_h4 K_h4
        have hbd : (fun w' => Below wr.heap.size wr w') (World.drew h4) := by rw [← hh5]; exact D_h5.out
        have hSD : (fun w' => Below wr.heap.size wr w') h5 := D_h5.out
        have HWD := Lib.hid hh5
        clear hh5 hbD
        refine wp_region_held_drew (S := fun w' => Below wr.heap.size wr w') (by kernel_rfl) hbd (fun hHeld => ?_)
        rw [← HWD.out]
        clear hHeld
        have hHeld := hSD
        clear hSD hbd HWD
        refine wpAnyH_take (i := 0) (v := wv L A c xs A2 c2 X l) (get_ops _ _ _ rfl) (by kernel_rfl) (by kernel_rfl) (by kernel_rfl) (fun _ _ _ h => h) (Or.inl ⟨by rfl, fun wS hSw => by (try dsimp only at hSw); exact exec_load 28 _ rfl ⟨gT, 0, none⟩ (by go_simp) _ (S2.run_load_all (HI.out.t.step hSw) Tryz.underlying28 rfl winSize)⟩) hHeld ?_
        try simp only [Act.put, List.setIfInBounds_toArray, List.set_cons_zero, List.set_cons_succ]
        refine wpAnyH_take (i := 1) (v := wv L A c xs A2 c2 X l) (get_ops _ _ _ rfl) (by kernel_rfl) (by kernel_rfl) (by kernel_rfl) (fun _ _ _ h => h) (Or.inl ⟨by rfl, fun wS hSw => by (try dsimp only at hSw); exact exec_load 28 _ rfl ⟨gT, 0, none⟩ (by go_simp) _ (S2.run_load_all (HI.out.t.step hSw) Tryz.underlying28 rfl winSize)⟩) hHeld ?_
        try simp only [Act.put, List.setIfInBounds_toArray, List.set_cons_zero, List.set_cons_succ]
        refine wpAnyH_take (i := 2) (v := .slice (some ⟨b, q, none⟩) os.length co) (get_ops _ _ _ rfl) (by kernel_rfl) (by kernel_rfl) (by kernel_rfl) (fun _ _ _ h => h) (Or.inl ⟨by rfl, fun wS hSw => by (try dsimp only at hSw); go_simp⟩) hHeld ?_
        try simp only [Act.put, List.setIfInBounds_toArray, List.set_cons_zero, List.set_cons_succ]
        refine wpAnyH_take (i := 3) (v := .int .i64 (k : Int)) (get_ops _ _ _ rfl) (by kernel_rfl) (by kernel_rfl) (by kernel_rfl) (fun _ _ _ h => h) (Or.inl ⟨by rfl, fun wS hSw => by (try dsimp only at hSw); go_simp⟩) hHeld ?_
        try simp only [Act.put, List.setIfInBounds_toArray, List.set_cons_zero, List.set_cons_succ]
        refine wpAnyH_take (i := 4) (v := .pointer (some ⟨b, q + k * 11, none⟩)) (get_ops _ _ _ rfl) (by kernel_rfl) (by kernel_rfl) (by kernel_rfl) (fun _ _ _ h => h) (Or.inl ⟨by rfl, fun wS hSw => by (try dsimp only at hSw); go_simp⟩) hHeld ?_
        try simp only [Act.put, List.setIfInBounds_toArray, List.set_cons_zero, List.set_cons_succ]
        refine wpAnyH_take (i := 5) (v := fV o) (get_ops _ _ _ rfl) (by kernel_rfl) (by kernel_rfl) (by kernel_rfl) (fun _ _ _ h => h) (Or.inl ⟨by rfl, fun wS hSw => by (try dsimp only at hSw); exact exec_load 36 _ rfl ⟨b, q + k * 11, none⟩ (by go_simp) _ (load_opR (fun j v hv => ((HBW.out _ hSw).cell (p := ⟨b, q + k * 11 + j, none⟩) HBL.out).trans (HC.out j v hv)))⟩) hHeld ?_
        try simp only [Act.put, List.setIfInBounds_toArray, List.set_cons_zero, List.set_cons_succ]
        refine wpAnyH_ready (rs := [6]) (by kernel_rfl) (by simp) ?_
        refine (AllReadyH.cons (get_ops _ _ _ rfl) (fun K hK => ?_) AllReadyH.nil)
        go_simp
        refine (HPC.out h5 (HI.out.o.step D_h5.out).1).mono ?_
        rintro e h6 ⟨rfl, hb⟩
        have D_h6 : Hid (Below wr.heap.size wr h6) := Lib.hid (stepB D_h5.out hb)
        have V_h6 : Hid (BK 28 h6 (wr.heap.size) (wcs rL A9 c9 ys B9 d9 rX rl)) := Lib.hid (V_h5.out.step hb)
        have U_h6 : Hid (BK 28 h6 (wr.heap.size + 1) (wcs 0 none 0 [] none 0 [] 0)) := Lib.hid (U_h5.out.step hb)
        have G_h6 : Hid (wr.heap.size + 1 < h6.heap.size) := Lib.hid (Nat.lt_of_lt_of_le G_h5.out hb.size)
        have N_h6 : Hid (WOk h6 A9 c9 ys B9 d9 rX) := Lib.hid (WOk.step N_h5.out hb)
        have K_h6 : Hid (KS h6 h6.heap.size A4 ks) := Lib.hid (KS.step K_h5.out hb)
        clear D_h5 V_h5 U_h5 G_h5 N_h5 K_h5
        clear hHeld hb
        go_wp2_with fail
        refine hK.out _ _ D_h6.out (fun hHeld => ?_)
        clear hK K
        try simp only [Act.put, List.setIfInBounds_toArray, List.set_cons_zero, List.set_cons_succ]
        refine wpAnyH_ready (rs := [7]) (by kernel_rfl) (by simp) ?_
        refine (AllReadyH.cons (get_ops _ _ _ rfl) (fun K hK => ?_) AllReadyH.nil)
        have GO := G_h6
        go_simp
        refine (HRS.out h6 (HI.out.o.step D_h6.out)).mono ?_
        rintro e h7 ⟨A6, c6, zs, B6, d6, A5, c5, ls, rfl, hzs, hwk, hls, hkk, hb, hof⟩
        have D_h7 : Hid (Below wr.heap.size wr h7) := Lib.hid (stepB D_h6.out hb)
        have V_h7 : Hid (BK 28 h7 (wr.heap.size) (wcs rL A9 c9 ys B9 d9 rX rl)) := Lib.hid (V_h6.out.step hb)
        have U_h7 : Hid (BK 28 h7 (wr.heap.size + 1) (wcs 0 none 0 [] none 0 [] 0)) := Lib.hid (U_h6.out.step hb)
        have G_h7 : Hid (wr.heap.size + 1 < h7.heap.size) := Lib.hid (Nat.lt_of_lt_of_le G_h6.out hb.size)
        have N_h7 : Hid (WOk h7 A9 c9 ys B9 d9 rX) := Lib.hid (WOk.step N_h6.out hb)
        have K_h7 : Hid (KS h7 h7.heap.size A4 ks) := Lib.hid (KS.step K_h6.out hb)
        clear D_h6 V_h6 U_h6 G_h6 N_h6 K_h6
        have HZS := Lib.hid hzs
        have HLS := Lib.hid hls
        have HLZ : Hid (∀ z ∈ ls, z.1.msg.props = []) := Lib.hid (fun z hz => HSM.out.2.2 z.1 (by rw [← show List.map Prod.fst ls = rp from hls]; exact List.mem_map_of_mem hz))
        have HFW : Hid (∀ g, wr.heap.size ≤ g → g ≤ wr.heap.size + 1 → OffW g A6 zs B6 rX) := Lib.hid (fun g h1 h2 => hof g (by have := GO.out; omega) (HOF.out g (Or.inr h1)))
        have W_h7 : Hid (WOk h7 A6 c6 zs B6 d6 rX) := Lib.hid (hwk)
        have R_h7 : Hid (KS h7 h7.heap.size A5 ls) := Lib.hid (hkk)
        clear hzs hls hwk hkk hof GO
        clear hHeld hb
        go_wp2_with fail
        refine hK.out _ _ D_h7.out (fun hHeld => ?_)
        clear hK K
        try simp only [Act.put, List.setIfInBounds_toArray, List.set_cons_zero, List.set_cons_succ]
        refine wpAnyH_take (i := 8) (v := .tuple #[wv rL A6 c6 zs B6 d6 rX rl, .slice A5 ls.length c5, .int .i64 rz]) (get_ops _ _ _ rfl) (by kernel_rfl) (by kernel_rfl) (by kernel_rfl) (fun _ _ _ h => h) (Or.inl ⟨by rfl, fun wS hSw => by (try dsimp only at hSw); go_simp⟩) hHeld ?_
        try simp only [Act.put, List.setIfInBounds_toArray, List.set_cons_zero, List.set_cons_succ]
        refine wpAnyH_take (i := 9) (v := wv rL A6 c6 zs B6 d6 rX rl) (get_ops _ _ _ rfl) (by kernel_rfl) (by kernel_rfl) (by kernel_rfl) (fun _ _ _ h => h) (Or.inl ⟨by rfl, fun wS hSw => by (try dsimp only at hSw); go_simp⟩) hHeld ?_
        try simp only [Act.put, List.setIfInBounds_toArray, List.set_cons_zero, List.set_cons_succ]
        refine wpAnyH_take (i := 10) (v := .slice A5 ls.length c5) (get_ops _ _ _ rfl) (by kernel_rfl) (by kernel_rfl) (by kernel_rfl) (fun _ _ _ h => h) (Or.inl ⟨by rfl, fun wS hSw => by (try dsimp only at hSw); go_simp⟩) hHeld ?_
        try simp only [Act.put, List.setIfInBounds_toArray, List.set_cons_zero, List.set_cons_succ]
        refine wpAnyH_take (i := 11) (v := .int .i64 rz) (get_ops _ _ _ rfl) (by kernel_rfl) (by kernel_rfl) (by kernel_rfl) (fun _ _ _ h => h) (Or.inl ⟨by rfl, fun wS hSw => by (try dsimp only at hSw); go_simp⟩) hHeld ?_
        try simp only [Act.put, List.setIfInBounds_toArray, List.set_cons_zero, List.set_cons_succ]
        refine wpAnyH_ready (rs := [12]) (by kernel_rfl) (by simp) ?_
        refine (AllReadyH.cons (get_ops _ _ _ rfl) (fun K hK => ?_) AllReadyH.nil)
        have VO := U_h7.out
        refine S2.wp_store_all 28 _ _ rfl rfl (wr.heap.size + 1) (by go_simp) (wcs rL A6 c6 zs B6 d6 rX rl) (by first | rfl | go_simp) 28 (wcs 0 none 0 [] none 0 [] 0) VO winSize rfl (ones rfl) ?_
        intro h8 hM hP
        have U_h8 : Hid (BK 28 h8 (wr.heap.size + 1) (wcs rL A6 c6 zs B6 d6 rX rl)) := Lib.hid (hM)
        have D_h8 : Hid (Below wr.heap.size wr h8) := Lib.hid (hP.below D_h7.out (by have := HGW.out; omega))
        have V_h8 : Hid (BK 28 h8 (wr.heap.size) (wcs rL A9 c9 ys B9 d9 rX rl)) := Lib.hid (hP.other V_h7.out (by have := HGW.out; omega))
        have G_h8 : Hid (wr.heap.size + 1 < h8.heap.size) := Lib.hid ((by rw [hP.size]; exact G_h7.out))
        have N_h8 : Hid (WOk h8 A9 c9 ys B9 d9 rX) := Lib.hid (wok_putW N_h7.out hP (HFN.out _ (by have := HGW.out; omega)))
        have K_h8 : Hid (KS h8 h8.heap.size A4 ks) := Lib.hid (ks_putR K_h7.out hP VO (by decide) HKZ.out)
        have W_h8 : Hid (WOk h8 A6 c6 zs B6 d6 rX) := Lib.hid (wok_putW W_h7.out hP (HFW.out _ (by have := HGW.out; omega) (by have := HGW.out; omega)))
        have R_h8 : Hid (KS h8 h8.heap.size A5 ls) := Lib.hid (ks_putR R_h7.out hP VO (by decide) HLZ.out)
        clear D_h7 V_h7 U_h7 G_h7 N_h7 K_h7 W_h7 R_h7
        clear hM hP hHeld VO
        refine hK.out _ _ D_h8.out (fun hHeld => ?_)
        clear hK K
        try simp only [Act.put, List.setIfInBounds_toArray, List.set_cons_zero, List.set_cons_succ]
        refine wpAnyH_take (i := 13) (v := .slice A5 ls.length c5) (get_ops _ _ _ rfl) (by kernel_rfl) (by kernel_rfl) (by kernel_rfl) (fun _ _ _ h => h) (Or.inl ⟨by rfl, fun wS hSw => by (try dsimp only at hSw); go_simp⟩) hHeld ?_
        try simp only [Act.put, List.setIfInBounds_toArray, List.set_cons_zero, List.set_cons_succ]
        refine wpAnyH_take (i := 14) (v := .int .i64 rz) (get_ops _ _ _ rfl) (by kernel_rfl) (by kernel_rfl) (by kernel_rfl) (fun _ _ _ h => h) (Or.inl ⟨by rfl, fun wS hSw => by (try dsimp only at hSw); go_simp⟩) hHeld ?_
        try simp only [Act.put, List.setIfInBounds_toArray, List.set_cons_zero, List.set_cons_succ]
        refine wpAnyH_done (by kernel_rfl) ?_ _
        clear HRS HPC
        have HS1 := Lib.hid (fun w1 h1 h2 => rwsame_any rL A9 c9 ys B9 d9 rX rl A6 c6 zs B6 d6 w1 h1 h2 (HYS.out.trans HZS.out.symm) (by have h9 := HSM.out.1.1; rw [← HYS.out, List.length_map] at h9; omega) (fun x hx => by have := HSM.out.1.2.1 x.f (by rw [← HYS.out]; exact List.mem_map_of_mem hx); omega) (by have := HSM.out.1.2.2; omega))
        have HS2 : Hid (∀ w1, KS w1 w1.heap.size A4 ks → KS w1 w1.heap.size A5 ls → Calls Tryz.prog 13 #[.slice A4 ks.length c4, .slice A5 ls.length c5] w1 fun e w' => e = .returned (.bool true) ∧ Below w1.heap.size w1 w') := Lib.hid (fun w1 h1 h2 => by
            have hl : ls.length = ks.length := by have := congrArg List.length (HKS.out.trans HLS.out.symm); simpa using this.symm
            rw [hl]
            exact packets_any A4 c4 ks A5 c5 ls ks.length w1 h1 h2 (HKS.out.trans HLS.out.symm) rfl (by have h9 := HSM.out.2.1; rw [← HKS.out, List.length_map] at h9; omega) (fun z hz => by rw [HSM.out.2.2 z.1 (by rw [← HKS.out]; exact List.mem_map_of_mem hz)]; exact Nat.zero_le _))
        have qn : (rz != rz) = false := by simp
        go_wp2_with fail
        refine (HS2.out h8 K_h8.out R_h8.out).mono ?_
        rintro e p1 ⟨rfl, hb⟩
        have D_p1 : Hid (Below wr.heap.size wr p1) := Lib.hid (stepB D_h8.out hb)
        have V_p1 : Hid (BK 28 p1 (wr.heap.size) (wcs rL A9 c9 ys B9 d9 rX rl)) := Lib.hid (V_h8.out.step hb)
        have U_p1 : Hid (BK 28 p1 (wr.heap.size + 1) (wcs rL A6 c6 zs B6 d6 rX rl)) := Lib.hid (U_h8.out.step hb)
        have G_p1 : Hid (wr.heap.size + 1 < p1.heap.size) := Lib.hid (Nat.lt_of_lt_of_le G_h8.out hb.size)
        have N_p1 : Hid (WOk p1 A9 c9 ys B9 d9 rX) := Lib.hid (WOk.step N_h8.out hb)
        have K_p1 : Hid (KS p1 p1.heap.size A4 ks) := Lib.hid (KS.step K_h8.out hb)
        have W_p1 : Hid (WOk p1 A6 c6 zs B6 d6 rX) := Lib.hid (WOk.step W_h8.out hb)
        have R_p1 : Hid (KS p1 p1.heap.size A5 ls) := Lib.hid (KS.step R_h8.out hb)
        clear D_h8 V_h8 U_h8 G_h8 N_h8 K_h8 W_h8 R_h8
        clear hb
        clear K_p1 R_p1 G_p1
        clear HS2
        go_wp2_with first
          | (refine wpList_load_v (by rfl) 28 (.tmp 7) rfl ⟨wr.heap.size, 0, none⟩ rfl (wv rL A9 c9 ys B9 d9 rX rl) (S2.run_load_all V_p1.out Tryz.underlying28 rfl winSize) ?_)
          | (refine wpList_load_v (by rfl) 28 (.tmp 8) rfl ⟨(wr.heap.size + 1), 0, none⟩ rfl (wv rL A6 c6 zs B6 d6 rX rl) (S2.run_load_all U_p1.out Tryz.underlying28 rfl winSize) ?_)
        refine (HS1.out p1 N_p1.out W_p1.out).mono ?_
        rintro e p2 ⟨rfl, hb⟩
        have D_p2 : Hid (Below wr.heap.size wr p2) := Lib.hid (stepB D_p1.out hb)
        have V_p2 : Hid (BK 28 p2 (wr.heap.size) (wcs rL A9 c9 ys B9 d9 rX rl)) := Lib.hid (V_p1.out.step hb)
        have U_p2 : Hid (BK 28 p2 (wr.heap.size + 1) (wcs rL A6 c6 zs B6 d6 rX rl)) := Lib.hid (U_p1.out.step hb)
        have N_p2 : Hid (WOk p2 A9 c9 ys B9 d9 rX) := Lib.hid (WOk.step N_p1.out hb)
        have W_p2 : Hid (WOk p2 A6 c6 zs B6 d6 rX) := Lib.hid (WOk.step W_p1.out hb)
        clear D_p1 V_p1 U_p1 N_p1 W_p1
        clear hb
        by_cases hz : rz = 0
        · have qz : (rz == 0) = true := by simp [hz]
          have B_p2 : Hid (Below w.heap.size w p2) := Lib.hid (HBW.out _ D_p2.out)
          obtain ⟨hv9, hl9⟩ := HKE.out hz
          have HV9 : Hid (VW (rL, ys.map FE.f, rX, rl)) := Lib.hid (by rw [HYS.out]; exact hv9)
          have HL9 : Hid (rL = limR n) := Lib.hid (hl9.trans HI.out.n)
          have HO9 : Hid (OffW gT A9 ys B9 rX) := Lib.hid (HFN.out _ (by have := HGT.out; have := HGW.out; omega))
          clear hz hv9 hl9
          have T_p2 : Hid (BK 28 p2 gT (wcs L A c xs A2 c2 X l)) := Lib.hid (HI.out.t.step D_p2.out)
          go_upto_region 24 with first
            | (refine wpList_load_v (by rfl) 28 (.tmp 7) rfl ⟨wr.heap.size, 0, none⟩ rfl (wv rL A9 c9 ys B9 d9 rX rl) (S2.run_load_all V_p2.out Tryz.underlying28 rfl winSize) ?_)
            | (refine S2.wpList_store_all (by rfl) 28 (.tmp 5) (.tmp 103) rfl rfl (gT) rfl (wcs rL A9 c9 ys B9 d9 rX rl) rfl 28 (wcs L A c xs A2 c2 X l) T_p2.out winSize rfl (ones rfl) ?_; intro pz1 hM hP; have T_pz1 : Hid (BK 28 pz1 (gT) (wcs rL A9 c9 ys B9 d9 rX rl)) := Lib.hid hM; have N_pz1 : Hid (WOk pz1 A9 c9 ys B9 d9 rX) := Lib.hid (wok_putW N_p2.out hP HO9.out); have B_pz1 : Hid (Below w.heap.size w pz1) := Lib.hid (hP.below B_p2.out HGT.out.1); clear hM hP D_p2 N_p2 V_p2 B_p2 T_p2)
          have HNW : Hid (∀ w1, Calls Tryz.prog 6 #[.int .i64 n] w1 fun e w' => e = .returned (wv rL none 0 [] none 0 [] 0) ∧ Below w1.heap.size w1 w') := Lib.hid (fun w1 => by have := rnew_any n w1; rw [← HL9.out] at this; exact this)
          have HCK := Lib.hid (fun w1 h1 h2 => wcheck_vw rL A9 c9 ys B9 d9 rX rl HV9.out w1 h1 h2)
          clear qz
          obtain ⟨pzu1, hpzu1⟩ : ∃ pzu1, pzu1 = World.drew pz1 := ⟨_, rfl⟩
          have hbD : Below pz1.heap.size pz1 pzu1 := by rw [hpzu1]; exact (Below.refl _ _).drew
          have N_pzu1 : Hid (WOk pzu1 A9 c9 ys B9 d9 rX) := Lib.hid (WOk.step N_pz1.out hbD)
          have B_pzu1 : Hid (Below w.heap.size w pzu1) := Lib.hid (stepB B_pz1.out hbD)
          have T_pzu1 : Hid (BK 28 pzu1 (gT) (wcs rL A9 c9 ys B9 d9 rX rl)) := Lib.hid (T_pz1.out.step hbD)
          clear N_pz1 B_pz1 T_pz1
          have hbd : (fun w' => BK 28 w' (gT) (wcs rL A9 c9 ys B9 d9 rX rl)) (World.drew pz1) := by rw [← hpzu1]; exact T_pzu1.out
          have hSD : (fun w' => BK 28 w' (gT) (wcs rL A9 c9 ys B9 d9 rX rl)) pzu1 := T_pzu1.out
          have HWD := Lib.hid hpzu1
          clear hpzu1 hbD
          refine wp_region_held_drew (S := fun w' => BK 28 w' (gT) (wcs rL A9 c9 ys B9 d9 rX rl)) (by kernel_rfl) hbd (fun hHeld => ?_)
          rw [← HWD.out]
          clear hHeld
          have hHeld := hSD
          clear hSD hbd HWD
          refine wpAnyH_take (i := 0) (v := wv rL A9 c9 ys B9 d9 rX rl) (get_ops _ _ _ rfl) (by kernel_rfl) (by kernel_rfl) (by kernel_rfl) (fun _ _ _ h => h) (Or.inl ⟨by rfl, fun wS hSw => by (try dsimp only at hSw); exact exec_load 28 _ rfl ⟨gT, 0, none⟩ (by go_simp) _ (S2.run_load_all hSw Tryz.underlying28 rfl winSize)⟩) hHeld ?_
          try simp only [Act.put, List.setIfInBounds_toArray, List.set_cons_zero, List.set_cons_succ]
          refine wpAnyH_ready (rs := [1]) (by kernel_rfl) (by simp) ?_
          refine (AllReadyH.cons (get_ops _ _ _ rfl) (fun K hK => ?_) AllReadyH.nil)
          go_simp
          refine (HCK.out pzu1 (HOK.out.step B_pzu1.out) N_pzu1.out).mono ?_
          rintro e pzu2 ⟨rfl, hb⟩
          have N_pzu2 : Hid (WOk pzu2 A9 c9 ys B9 d9 rX) := Lib.hid (WOk.step N_pzu1.out hb)
          have B_pzu2 : Hid (Below w.heap.size w pzu2) := Lib.hid (stepB B_pzu1.out hb)
          have T_pzu2 : Hid (BK 28 pzu2 (gT) (wcs rL A9 c9 ys B9 d9 rX rl)) := Lib.hid (T_pzu1.out.step hb)
          clear N_pzu1 B_pzu1 T_pzu1
          clear hHeld hb
          go_wp2_with fail
          refine hK.out _ _ T_pzu2.out (fun hHeld => ?_)
          clear hK K
          try simp only [Act.put, List.setIfInBounds_toArray, List.set_cons_zero, List.set_cons_succ]
          refine wpAnyH_take (i := 2) (v := .bool false) (get_ops _ _ _ rfl) (by kernel_rfl) (by kernel_rfl) (by kernel_rfl) (fun _ _ _ h => h) (Or.inl ⟨by rfl, fun wS hSw => by (try dsimp only at hSw); go_simp⟩) hHeld ?_
          try simp only [Act.put, List.setIfInBounds_toArray, List.set_cons_zero, List.set_cons_succ]
          refine wpAnyH_take (i := 3) (v := .bool false) (get_ops _ _ _ rfl) (by kernel_rfl) (by kernel_rfl) (by kernel_rfl) (fun _ _ _ h => h) (Or.inl ⟨by rfl, fun wS hSw => by (try dsimp only at hSw); go_simp⟩) hHeld ?_
          try simp only [Act.put, List.setIfInBounds_toArray, List.set_cons_zero, List.set_cons_succ]
          refine wpAnyH_take (i := 4) (v := .pointer (some ⟨gT, 0, none⟩)) (get_ops _ _ _ rfl) (by kernel_rfl) (by kernel_rfl) (by kernel_rfl) (fun _ _ _ h => h) (Or.inl ⟨by rfl, fun wS hSw => by (try dsimp only at hSw); go_simp⟩) hHeld ?_
          try simp only [Act.put, List.setIfInBounds_toArray, List.set_cons_zero, List.set_cons_succ]
          refine wpAnyH_take (i := 5) (v := .int .i64 rL) (get_ops _ _ _ rfl) (by kernel_rfl) (by kernel_rfl) (by kernel_rfl) (fun _ _ _ h => h) (Or.inl ⟨by rfl, fun wS hSw => by (try dsimp only at hSw); have cS : wS.cell? ⟨gT, 0, none⟩ = some (.int .i64 rL) := hSw.cell 0 rfl; clear hSw; go_simp⟩) hHeld ?_
          try simp only [Act.put, List.setIfInBounds_toArray, List.set_cons_zero, List.set_cons_succ]
          refine wpAnyH_take (i := 6) (v := .int .i64 n) (get_ops _ _ _ rfl) (by kernel_rfl) (by kernel_rfl) (by kernel_rfl) (fun _ _ _ h => h) (Or.inl ⟨by rfl, fun wS hSw => by (try dsimp only at hSw); go_simp⟩) hHeld ?_
          try simp only [Act.put, List.setIfInBounds_toArray, List.set_cons_zero, List.set_cons_succ]
          refine wpAnyH_ready (rs := [7]) (by kernel_rfl) (by simp) ?_
          refine (AllReadyH.cons (get_ops _ _ _ rfl) (fun K hK => ?_) AllReadyH.nil)
          go_simp
          refine (HNW.out pzu2).mono ?_
          rintro e pzu3 ⟨rfl, hb⟩
          have N_pzu3 : Hid (WOk pzu3 A9 c9 ys B9 d9 rX) := Lib.hid (WOk.step N_pzu2.out hb)
          have B_pzu3 : Hid (Below w.heap.size w pzu3) := Lib.hid (stepB B_pzu2.out hb)
          have T_pzu3 : Hid (BK 28 pzu3 (gT) (wcs rL A9 c9 ys B9 d9 rX rl)) := Lib.hid (T_pzu2.out.step hb)
          clear N_pzu2 B_pzu2 T_pzu2
          clear hHeld hb
          go_wp2_with fail
          refine hK.out _ _ T_pzu3.out (fun hHeld => ?_)
          clear hK K
          try simp only [Act.put, List.setIfInBounds_toArray, List.set_cons_zero, List.set_cons_succ]
          refine wpAnyH_take (i := 8) (v := .int .i64 rL) (get_ops _ _ _ rfl) (by kernel_rfl) (by kernel_rfl) (by kernel_rfl) (fun _ _ _ h => h) (Or.inl ⟨by rfl, fun wS hSw => by (try dsimp only at hSw); have hfd : ∀ w9 : World, (Instr.field 28 (wv rL none 0 [] none 0 [] 0) 0).run Tryz.prog w9 = .ok (.int .i64 rL) w9 := (fun _ => by kernel_rfl); go_simp⟩) hHeld ?_
          try simp only [Act.put, List.setIfInBounds_toArray, List.set_cons_zero, List.set_cons_succ]
          refine wpAnyH_take (i := 9) (v := .bool false) (get_ops _ _ _ rfl) (by kernel_rfl) (by kernel_rfl) (by kernel_rfl) (fun _ _ _ h => h) (Or.inl ⟨by rfl, fun wS hSw => by (try dsimp only at hSw); go_simp⟩) hHeld ?_
          try simp only [Act.put, List.setIfInBounds_toArray, List.set_cons_zero, List.set_cons_succ]
          refine wpAnyH_take (i := 10) (v := .bool false) (get_ops _ _ _ rfl) (by kernel_rfl) (by kernel_rfl) (by kernel_rfl) (fun _ _ _ h => h) (Or.inl ⟨by rfl, fun wS hSw => by (try dsimp only at hSw); go_simp⟩) hHeld ?_
          try simp only [Act.put, List.setIfInBounds_toArray, List.set_cons_zero, List.set_cons_succ]
          refine wpAnyH_done (by kernel_rfl) ?_ _
          go_wp2_with fail
          go_roundg g
          case measure => omega
          case rel => exact ⟨k + 1, rL, A9, c9, ys, B9, d9, rX, rl, by have := HK.out; omega, by go_num, ⟨T_pzu3.out, B_pzu3.out, N_pzu3.out, HV9.out, HO9.out, HGT.out.1, HL9.out⟩⟩
        · have qz : (rz == 0) = false := by simp [hz]
          have B_p2 : Hid (Below w.heap.size w p2) := Lib.hid (HBW.out _ D_p2.out)
          have HV9 := Lib.hid HI.out.v
          have HL9 : Hid (L = limR n) := Lib.hid HI.out.n
          clear hz
          have T_p2 : Hid (BK 28 p2 gT (wcs L A c xs A2 c2 X l)) := Lib.hid (HI.out.t.step D_p2.out)
          clear N_p2 V_p2
          have N_p2 : Hid (WOk p2 A c xs A2 c2 X) := Lib.hid (HI.out.o.step D_p2.out)
          clear D_p2
          go_upto_region 24 with fail
          have HNW : Hid (∀ w1, Calls Tryz.prog 6 #[.int .i64 n] w1 fun e w' => e = .returned (wv L none 0 [] none 0 [] 0) ∧ Below w1.heap.size w1 w') := Lib.hid (fun w1 => by have := rnew_any n w1; rw [← HL9.out] at this; exact this)
          have HCK := Lib.hid (fun w1 h1 h2 => wcheck_vw L A c xs A2 c2 X l HV9.out w1 h1 h2)
          clear qz
          obtain ⟨pyu1, hpyu1⟩ : ∃ pyu1, pyu1 = World.drew p2 := ⟨_, rfl⟩
          have hbD : Below p2.heap.size p2 pyu1 := by rw [hpyu1]; exact (Below.refl _ _).drew
          have B_pyu1 : Hid (Below w.heap.size w pyu1) := Lib.hid (stepB B_p2.out hbD)
          have T_pyu1 : Hid (BK 28 pyu1 gT (wcs L A c xs A2 c2 X l)) := Lib.hid (T_p2.out.step hbD)
          have N_pyu1 : Hid (WOk pyu1 A c xs A2 c2 X) := Lib.hid (WOk.step N_p2.out hbD)
          clear B_p2 T_p2 N_p2
          have hbd : (fun w' => BK 28 w' gT (wcs L A c xs A2 c2 X l)) (World.drew p2) := by rw [← hpyu1]; exact T_pyu1.out
          have hSD : (fun w' => BK 28 w' gT (wcs L A c xs A2 c2 X l)) pyu1 := T_pyu1.out
          have HWD := Lib.hid hpyu1
          clear hpyu1 hbD
          refine wp_region_held_drew (S := fun w' => BK 28 w' gT (wcs L A c xs A2 c2 X l)) (by kernel_rfl) hbd (fun hHeld => ?_)
          rw [← HWD.out]
          clear hHeld
          have hHeld := hSD
          clear hSD hbd HWD
          refine wpAnyH_take (i := 0) (v := wv L A c xs A2 c2 X l) (get_ops _ _ _ rfl) (by kernel_rfl) (by kernel_rfl) (by kernel_rfl) (fun _ _ _ h => h) (Or.inl ⟨by rfl, fun wS hSw => by (try dsimp only at hSw); exact exec_load 28 _ rfl ⟨gT, 0, none⟩ (by go_simp) _ (S2.run_load_all hSw Tryz.underlying28 rfl winSize)⟩) hHeld ?_
          try simp only [Act.put, List.setIfInBounds_toArray, List.set_cons_zero, List.set_cons_succ]
          refine wpAnyH_ready (rs := [1]) (by kernel_rfl) (by simp) ?_
          refine (AllReadyH.cons (get_ops _ _ _ rfl) (fun K hK => ?_) AllReadyH.nil)
          go_simp
          refine (HCK.out pyu1 (HOK.out.step B_pyu1.out) N_pyu1.out).mono ?_
          rintro e pyu2 ⟨rfl, hb⟩
          have B_pyu2 : Hid (Below w.heap.size w pyu2) := Lib.hid (stepB B_pyu1.out hb)
          have T_pyu2 : Hid (BK 28 pyu2 gT (wcs L A c xs A2 c2 X l)) := Lib.hid (T_pyu1.out.step hb)
          have N_pyu2 : Hid (WOk pyu2 A c xs A2 c2 X) := Lib.hid (WOk.step N_pyu1.out hb)
          clear B_pyu1 T_pyu1 N_pyu1
          clear hHeld hb
          go_wp2_with fail
          refine hK.out _ _ T_pyu2.out (fun hHeld => ?_)
          clear hK K
          try simp only [Act.put, List.setIfInBounds_toArray, List.set_cons_zero, List.set_cons_succ]
          refine wpAnyH_take (i := 2) (v := .bool false) (get_ops _ _ _ rfl) (by kernel_rfl) (by kernel_rfl) (by kernel_rfl) (fun _ _ _ h => h) (Or.inl ⟨by rfl, fun wS hSw => by (try dsimp only at hSw); go_simp⟩) hHeld ?_
          try simp only [Act.put, List.setIfInBounds_toArray, List.set_cons_zero, List.set_cons_succ]
          refine wpAnyH_take (i := 3) (v := .bool false) (get_ops _ _ _ rfl) (by kernel_rfl) (by kernel_rfl) (by kernel_rfl) (fun _ _ _ h => h) (Or.inl ⟨by rfl, fun wS hSw => by (try dsimp only at hSw); go_simp⟩) hHeld ?_
          try simp only [Act.put, List.setIfInBounds_toArray, List.set_cons_zero, List.set_cons_succ]
          refine wpAnyH_take (i := 4) (v := .pointer (some ⟨gT, 0, none⟩)) (get_ops _ _ _ rfl) (by kernel_rfl) (by kernel_rfl) (by kernel_rfl) (fun _ _ _ h => h) (Or.inl ⟨by rfl, fun wS hSw => by (try dsimp only at hSw); go_simp⟩) hHeld ?_
          try simp only [Act.put, List.setIfInBounds_toArray, List.set_cons_zero, List.set_cons_succ]
          refine wpAnyH_take (i := 5) (v := .int .i64 L) (get_ops _ _ _ rfl) (by kernel_rfl) (by kernel_rfl) (by kernel_rfl) (fun _ _ _ h => h) (Or.inl ⟨by rfl, fun wS hSw => by (try dsimp only at hSw); have cS : wS.cell? ⟨gT, 0, none⟩ = some (.int .i64 L) := hSw.cell 0 rfl; clear hSw; go_simp⟩) hHeld ?_
          try simp only [Act.put, List.setIfInBounds_toArray, List.set_cons_zero, List.set_cons_succ]
          refine wpAnyH_take (i := 6) (v := .int .i64 n) (get_ops _ _ _ rfl) (by kernel_rfl) (by kernel_rfl) (by kernel_rfl) (fun _ _ _ h => h) (Or.inl ⟨by rfl, fun wS hSw => by (try dsimp only at hSw); go_simp⟩) hHeld ?_
          try simp only [Act.put, List.setIfInBounds_toArray, List.set_cons_zero, List.set_cons_succ]
          refine wpAnyH_ready (rs := [7]) (by kernel_rfl) (by simp) ?_
          refine (AllReadyH.cons (get_ops _ _ _ rfl) (fun K hK => ?_) AllReadyH.nil)
          go_simp
          refine (HNW.out pyu2).mono ?_
          rintro e pyu3 ⟨rfl, hb⟩
          have B_pyu3 : Hid (Below w.heap.size w pyu3) := Lib.hid (stepB B_pyu2.out hb)
          have T_pyu3 : Hid (BK 28 pyu3 gT (wcs L A c xs A2 c2 X l)) := Lib.hid (T_pyu2.out.step hb)
          have N_pyu3 : Hid (WOk pyu3 A c xs A2 c2 X) := Lib.hid (WOk.step N_pyu2.out hb)
          clear B_pyu2 T_pyu2 N_pyu2
          clear hHeld hb
          go_wp2_with fail
          refine hK.out _ _ T_pyu3.out (fun hHeld => ?_)
          clear hK K
          try simp only [Act.put, List.setIfInBounds_toArray, List.set_cons_zero, List.set_cons_succ]
          refine wpAnyH_take (i := 8) (v := .int .i64 L) (get_ops _ _ _ rfl) (by kernel_rfl) (by kernel_rfl) (by kernel_rfl) (fun _ _ _ h => h) (Or.inl ⟨by rfl, fun wS hSw => by (try dsimp only at hSw); have hfd : ∀ w9 : World, (Instr.field 28 (wv L none 0 [] none 0 [] 0) 0).run Tryz.prog w9 = .ok (.int .i64 L) w9 := (fun _ => by kernel_rfl); go_simp⟩) hHeld ?_
          try simp only [Act.put, List.setIfInBounds_toArray, List.set_cons_zero, List.set_cons_succ]
          refine wpAnyH_take (i := 9) (v := .bool false) (get_ops _ _ _ rfl) (by kernel_rfl) (by kernel_rfl) (by kernel_rfl) (fun _ _ _ h => h) (Or.inl ⟨by rfl, fun wS hSw => by (try dsimp only at hSw); go_simp⟩) hHeld ?_
          try simp only [Act.put, List.setIfInBounds_toArray, List.set_cons_zero, List.set_cons_succ]
          refine wpAnyH_take (i := 10) (v := .bool false) (get_ops _ _ _ rfl) (by kernel_rfl) (by kernel_rfl) (by kernel_rfl) (fun _ _ _ h => h) (Or.inl ⟨by rfl, fun wS hSw => by (try dsimp only at hSw); go_simp⟩) hHeld ?_
          try simp only [Act.put, List.setIfInBounds_toArray, List.set_cons_zero, List.set_cons_succ]
          refine wpAnyH_done (by kernel_rfl) ?_ _
          go_wp2_with fail
          go_roundg g
          case measure => omega
          case rel => exact ⟨k + 1, L, A, c, xs, A2, c2, X, l, by have := HK.out; omega, by go_num, ⟨T_pyu3.out, B_pyu3.out, N_pyu3.out, HV9.out, HI.out.f, HGT.out.1, HL9.out⟩⟩
end Go.Proofs.YtmcocepjdhpecabGreatDoor
namespace Go.Proofs.YtmcocepjdhpecabGreatDoor.inflightRuns
open Go.ChangeShapes Go.WideShapes Go.ChangeAt Go.WideMaps Go.WideElems Go.RowKit
open Go.ChangeMaps (open_string shut_string)

theorem own : ownKnob Tryz.prog.godebug = none := by kernel_rfl
theorem okw {W : World} (h : W.ShapedOpen Tryz.prog) : S1.Okw W := Tryz.laysM219.s1_3 W h

set_option maxRecDepth 100000 in
theorem contract (H : Type) (enc : TypeId × Value → H) (W : World) (base : Nat) (args : Array Value) (ds gs : List (DataW H)) (before : List MemPlace)
    (hval : ∀ (j : Nat) t v, Tryz.f3.params[j]? = some t → args[j]? = some v → Value.okWide Tryz.prog W .any base t v)
    (hW : DataW.Whole enc Tryz.prog Tryz.f3.params.toList Rows.inflightRunsSpec.vars false W args.toList ds gs before)
    (hsz : (DataW.weightsEach Tryz.prog (Tryz.f3.params.toList ++ (OpenSpec.ofChange Rows.inflightRunsSpec).bare.plain.varTypes Tryz.prog) (ds ++ gs)).all (· ≤ reachBytes) = true)
    (hsh : W.ShapedOpen Tryz.prog) :
    Calls Tryz.prog 3 args W fun e W' => ∃ v, e = .returned v ∧ Rows.inflightRunsSpec.post enc Tryz.prog Tryz.f3 false true false false W args v W' := by
  have hW' := hW
  obtain ⟨p, q, hA0, hV, rfl, hfz, hnd⟩ := hW
  have hA : DataW.TrodAll enc Tryz.prog W 0 (fun _ => true) true Tryz.f3.params.toList args.toList ds p := hA0
  rw [Tryz.params3] at hA hval
  obtain ⟨v0, vs0, d0, ds0, p0, q0, hargs, rfl, rfl, h0, r0⟩ := trodAll_cons hA
  obtain ⟨v1, vs1, d1, ds1, p1, q1, rfl, rfl, rfl, h1, r1⟩ := trodAll_cons r0
  obtain ⟨rfl, rfl, rfl⟩ := trodAll_nil r1
  obtain rfl : args = #[v0, v1] := by cases args; simp_all
  obtain ⟨rfl, rfl⟩ := trodVars_none hV
  obtain ⟨n0, rfl, rfl, rfl, wn0⟩ := open_int Tryz.underlying3 (hval 0 3 v0 rfl rfl) h0
  obtain ⟨a1, n1, c1, rfl⟩ := okWide_slice Tryz.underlying22 (hval 1 22 v1 rfl rfl)
  have h1k := h1
  obtain ⟨fu1, hf1⟩ := h1
  clear hA0
  simp only [List.append_nil] at hW'
  have hrb := reachBytes_lt
  have hlt : ∀ x ∈ p1, x.block < W.heap.size := fun x hx => by simpa using hW'.lt x (by simpa using hx)
  obtain ⟨A1, e1, X1, hE1, sl1, hc1, hN1, ho1⟩ := open_ops14 hf1
  simp only [Value.slice.injEq] at hE1
  obtain ⟨rfl, rfl, rfl⟩ := hE1
  refine (inflightRuns_walk n0 a1 c1 X1 W (okw hsh) sl1 ho1).mono fun e W' ⟨he, hb⟩ => ?_
  subst he
  have e1 : Rows.inflightRunsSpec.fn H ([.lit (.int .i64 n0), d1] ++ []) = { results := [.lit (.bool true)], args := [.lit (.int .i64 n0), d1] } := rfl
  refine ⟨_, rfl, _, _, _, [], p1, [], by simpa using hW', ?_, ?_, ?_, hb.frame _, fun h => by cases h⟩
  · exact trodAll_cons_mk (shut_bool Tryz.underlying4 _) trodAll_mk0
  · rw [e1]
    simpa using trodAll_cons_mk (shut_int Tryz.underlying3 wn0) (trodAll_cons_mk (Below.trod laidOutAll (by kernel_rfl) (of_decide_eq_true (by kernel_rfl)) h1k hb (fun x hx => hlt x (by simp [hx]))) (trodAll_mk0))
  · rfl

theorem laid_met (os : Os) : laidMet Tryz.prog Rows.inflightRunsRow.laid ((World.laidAll Tryz.prog os Rows.inflightRunsRow.laid).forCall (fun _ _ => 0) ⟨#[], #[.int .i64 0, .slice none 0 0], []⟩).memory :=
  laidMet_laidAll _ (by kernel_rfl) (by kernel_rfl)
theorem reads (os : Os) {H : Type} (enc : TypeId × Value → H) : ∃ places, DataW.whole enc Tryz.prog ((World.laidAll Tryz.prog os Rows.inflightRunsRow.laid).forCall (fun _ _ => 0) ⟨#[], #[.int .i64 0, .slice none 0 0], []⟩).memory Tryz.f3.params.toList Rows.inflightRunsSpec.vars false #[Value.int .i64 0, Value.slice none 0 0].toList 8 = some ([.lit (.int .i64 0), .nil], [], places) :=
  ⟨[], by kernel_rfl⟩

set_option maxRecDepth 100000 in
theorem lifted (os : Os) (started : os.Started) (H : Type) (enc : TypeId × Value → H) (F : Stop.Interp) :
    ReturnsInHanded {} Tryz.checked os 3 .any ((OpenSpec.ofChange Rows.inflightRunsSpec).preRow enc Tryz.prog Tryz.f3 Rows.inflightRunsRow.domain false Rows.inflightRunsRow.laid) (((OpenSpec.ofChange Rows.inflightRunsSpec).at F).post enc Tryz.prog Tryz.f3 false true false false) := by
  obtain ⟨places, hx⟩ := reads os enc
  refine returnsInHanded_of_row (C := Tryz.checked) (s := (OpenSpec.ofChange Rows.inflightRunsSpec)) own started (by kernel_rfl) Tryz.func3
    (witness_row_at (enc := enc) (C := Tryz.checked) false (World.laidAll Tryz.prog os Rows.inflightRunsRow.laid) #[.int .i64 0, .slice none 0 0] (World.laidAll_os _ _ _) (by kernel_rfl) (by kernel_rfl) (by kernel_rfl)
      (OpenSpec.preRow_of_cond 8 hx (by kernel_rfl) (fun k hk => by cases hk) (by kernel_rfl) (laid_met os))) ?_
  intro W base args ds gs before hval hW _ _ hsz _ hsh _
  exact contract H enc W base args ds gs before hval hW hsz hsh

theorem said : Rows.InflightRunsSaid :=
  OpenClaim.holds_of_cond 3 Tryz.f3 rfl rfl rfl rfl rfl rfl rfl ⟨rfl, rfl, rfl, rfl, rfl⟩ rfl rfl rfl rfl rfl (by kernel_rfl) Tryz.func3 (by kernel_rfl)
    (of_decide_eq_true (by kernel_rfl)) (by unfold Func.isWrapper; first | (rw [if_pos (by decide +kernel)]; kernel_rfl) | (rw [if_neg (by decide +kernel)]; exact ⟨rfl, rfl⟩))
    (fun os started H enc _ F => by rw [OpenClaim.pre_eq_preRow]; exact lifted os started H enc F)

theorem plain (f : FuncId) (fn : Func) (hf : Tryz.pinned.checked.prog.funcNamed "broker/brokerlaw14.InflightRuns" = some f) (hfn : Tryz.pinned.checked.prog.funcs[f]? = some fn) :
    false = Tryz.pinned.checked.prog.looks [] ∧ ∀ (j : Nat) t, fn.params[j]? = some t → Tryz.pinned.checked.prog.wantsStandIn t = false := by
  obtain rfl : f = 3 := Option.some.inj ((show Tryz.prog.funcNamed "broker/brokerlaw14.InflightRuns" = some 3 by kernel_rfl).symm.trans hf) |>.symm
  obtain rfl : fn = Tryz.f3 := (Option.some.inj (Tryz.func3.symm.trans hfn)).symm
  refine ⟨by kernel_rfl, fun j t ht => ?_⟩
  rw [Tryz.params3] at ht
  have hm : t ∈ [3, 22] := by simpa using Array.mem_of_getElem? ht
  simp only [List.mem_cons, List.not_mem_nil, or_false] at hm
  rcases hm with rfl | rfl
  · exact (show Tryz.prog.wantsStandIn 3 = false by kernel_rfl)
  · exact (show Tryz.prog.wantsStandIn 22 = false by kernel_rfl)

theorem card : Rows.InflightRunsCardSaid :=
  Claim7.holds_tied_plain_at .later [] _ _ _ _ said (fun _ h => by cases h) (by kernel_rfl) (fun _ h => by cases h) inflightRuns_row_tie rfl ⟨rfl, rfl⟩ (by kernel_rfl) rfl plain (by kernel_rfl)
end Go.Proofs.YtmcocepjdhpecabGreatDoor.inflightRuns
