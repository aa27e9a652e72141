/-
  A list of properties that came in, opened for the walks. Conditions: it reads as data.
  A message that came in by value, and bytes that came in, opened for the walks. Conditions: it reads as data.
  A window that came in by value, opened with the sizes of its texts and lists. Conditions: it reads as data.
  Operations of brokerlaw14, and a message, that came in, opened. Conditions: they read as data.
  InflightTells answers true, walked: Messages, Left and Resend of the program and of the specification answer alike for every valid window. Conditions: the window reads as data; the library's bound on short texts holds a number.
  InflightStarts answers true, walked. Conditions: the window and the message read as data; the library's bound on short texts holds a number.
  PROVED: InflightStarts answers true for every text (each of its 2 arguments).
  Conditions: those that the row prints (the tables of package unicode/utf8 read as the program's text lays them; each argument has at most 2^47 bytes). The tie of the tables is given, over a pruned copy of the project.
-/
import Derived.Test.YtjpikgphfhjilaaGreatDoorMsg
import Derived.ProofKit
import Derived.OpenShut
import Derived.SliceStrings
import Derived.SizedLaws
import Derived.Deep.SlicePairs
import Derived.Lib.SmallJoins
import Derived.Test.YtjpikgphfhjilaaGreatDoorWi
import Derived.Deep.Slices
import Derived.Test.YtjpikgphfhjilaaGreatDoorVl
import Derived.Test.YtjpikgphfhjilaaGreatDoorVp
import Derived.Test.YtjpikgphfhjilaaGreatDoorVw
import Derived.Test.YtjpikgphfhjilaaGreatDoorVq
import Derived.Test.YtjpikgphfhjilaaGreatDoorCards
import Derived.Test.YtjpikgphfhjilaaGreatDoorTie
import Derived.Deep.DeepHandedRow
import Derived.Lib.LaidTab
import Derived.Lay
import Derived.LaidOnce
import Derived.Carry
import Derived.SevenTiedAt
namespace Go.Proofs.YtjpikgphfhjilaaGreatDoor
open Go.ChangeShapes Go.WideShapes Go.ChangeAt Go.WideMaps Go.WideElems Go.RowKit

theorem laidOutAll : laidOutB Tryz.prog = true := by kernel_rfl
theorem cellsStr : Tryz.prog.cellsOf 9 = 1 := by kernel_rfl
theorem cellsProp : Tryz.prog.cellsOf 86 = 2 := by kernel_rfl
theorem bytesProp : Tryz.prog.bytesOf 86 = 32 := by kernel_rfl
/-- cells behind an address that holds something -/
theorem plain_addr {w : World} {a : Addr} {v : Value} (h : w.cell? (a.add 0) = some v) : ∃ b o, a = ⟨b, o, none⟩ ∧ b < w.heap.size := by
  obtain ⟨b, off, spot⟩ := a
  have hspot : spot = none := by simpa [Addr.add] using World.cell?_spot h
  subst hspot
  refine ⟨b, off, rfl, ?_⟩
  rcases Nat.lt_or_ge b w.heap.size with h' | h'
  · exact h'
  · have : w.heap[b]? = none := Array.getElem?_eq_none h'
    simp [World.cell?, Addr.add, this] at h
theorem add_plain (b o j : Nat) : (⟨b, o + j, none⟩ : Addr) = (⟨b, o, none⟩ : Addr).add j := by
  unfold Addr.add
  split
  · next h => subst h; rfl
  · rfl
/-- a value's text -/
def strV : Value → ByteArray
  | .string s => s
  | _ => ⟨#[]⟩
theorem open_props {H : Type} {enc : TypeId × Value → H} {W : World} {a0 : Option Addr} {len cap fuel : Nat} {x : DataW H × List MemPlace}
    (hf : DataW.trod enc Tryz.prog W 0 (fun _ => true) true fuel 28 [.slice a0 len cap] = some x) :
    ∃ Xs : List PR, Xs.length = len ∧ PL W W.heap.size a0 Xs ∧ len ≤ cap ∧ (len = 0 ∨ ∃ elems spare, x.1 = .slice elems spare ∧ elems.length = len) := by
  rcases Go.Deep.open_slice_pairs Tryz.underlying28 Tryz.underlying86 cellsProp rfl rfl cellsStr cellsStr hf with ⟨hcs, hx⟩ | ⟨a, len', cap', m, n, V0, V1, D0, D1, P0, P1, hcs, _, hl, hm, hmm, hx, hi⟩
  · simp at hcs
    obtain ⟨rfl, rfl, rfl⟩ := hcs
    exact ⟨[], rfl, GL.nil _ _ _, Nat.le_refl _, Or.inl rfl⟩
  · simp at hcs
    obtain ⟨rfl, rfl, rfl⟩ := hcs
    subst hx
    simp only [if_true] at hmm
    refine ⟨(List.range len).map fun i => (strV (V0 i), strV (V1 i)), by simp, fun h0 => ?_, hl, Or.inr ⟨_, _, rfl, by simp⟩⟩
    simp at h0
    obtain ⟨b, o, rfl, hb⟩ := plain_addr (hi 0 (by omega)).1
    refine ⟨b, o, rfl, hb, fun j X i v hX hv => ?_⟩
    rw [List.getElem?_map] at hX
    have hj : j < len := by
      rcases Nat.lt_or_ge j len with h | h
      · exact h
      · rw [List.getElem?_eq_none (by simpa using h)] at hX; cases hX
    rw [List.getElem?_range hj] at hX
    obtain rfl := Option.some.inj hX
    obtain ⟨h1, h2, h3, h4⟩ := hi j (by omega)
    obtain ⟨s0, e0, _⟩ := DataW.trod_string Tryz.underlying9 h3
    obtain ⟨s1, e1, _⟩ := DataW.trod_string Tryz.underlying9 h4
    simp at e0 e1
    rw [e0] at h1
    rw [e1] at h2
    match i, hv with
    | 0, hv =>
      simp [gP, strV, e0] at hv
      rw [Nat.add_zero, add_plain, h1, hv]
    | 1, hv =>
      simp [gP, strV, e1] at hv
      rw [Nat.add_assoc, add_plain, h2, hv]
theorem props_small {H : Type} {ts : List TypeId} {ds : List (DataW H)} (h : (DataW.weightsEach Tryz.prog ts ds).all (· ≤ reachBytes) = true) {j : Nat} (ht : ts[j]? = some 28) {d : DataW H} (hd : ds[j]? = some d)
    {n : Nat} (hs : n = 0 ∨ ∃ elems spare, d = .slice elems spare ∧ elems.length = n) : n ≤ 4398046511104 := by
  rcases hs with h0 | ⟨elems, spare, rfl, rfl⟩
  · omega
  · have hr := reachBytes_lt
    have := sized_slice h ht hd Tryz.underlying28
    rw [bytesProp] at this
    omega

end Go.Proofs.YtjpikgphfhjilaaGreatDoor
namespace Go.Proofs.YtjpikgphfhjilaaGreatDoor
open Go.Joins Go.ChangeShapes Go.WideShapes Go.ChangeAt Go.WideMaps Go.WideElems Go.RowKit Go.Deep

theorem cellsMsg : Tryz.prog.cellsOf 30 = 9 := by kernel_rfl
theorem cellsI64 : Tryz.prog.cellsOf 3 = 1 := by kernel_rfl
theorem cellsBool : Tryz.prog.cellsOf 4 = 1 := by kernel_rfl
theorem cellsProps : Tryz.prog.cellsOf 28 = 1 := by kernel_rfl
theorem wf64 {n : Int} (h : (Lit.int .i64 n).wf = true) : -9223372036854775808 ≤ n ∧ n ≤ 9223372036854775807 := by
  have h1 : IntKind.i64.min = -9223372036854775808 := rfl
  have h2 : IntKind.i64.max = 9223372036854775807 := rfl
  simp only [Lit.wf, Bool.and_eq_true, decide_eq_true_eq] at h
  omega
set_option maxRecDepth 100000 in
theorem open_props' {H : Type} {enc : TypeId × Value → H} {W : World} {v : Value} {fuel : Nat} {x : DataW H × List MemPlace}
    (hf : DataW.trod enc Tryz.prog W 0 (fun _ => true) true fuel 28 [v] = some x) :
    ∃ (A : Option Addr) (c : Nat) (Xs : List PR), v = .slice A Xs.length c ∧ PL W W.heap.size A Xs := by
  have h2 := hf
  rcases Go.Deep.open_slice_pairs Tryz.underlying28 Tryz.underlying86 cellsProp rfl rfl cellsStr cellsStr h2 with ⟨hcs, _⟩ | ⟨a, len, cap, m, n, V0, V1, D0, D1, P0, P1, hcs, _⟩
  · simp at hcs
    subst hcs
    exact ⟨none, 0, [], rfl, GL.nil _ _ _⟩
  · simp at hcs
    subst hcs
    obtain ⟨Xs, rfl, hp, _⟩ := open_props hf
    exact ⟨_, _, Xs, rfl, hp⟩
set_option maxRecDepth 100000 in
theorem open_msg {H : Type} {enc : TypeId × Value → H} {W : World} {r : Reach} {b0 : Nat} {v : Value} {d : DataW H} {p : List MemPlace} (hv : Value.okWide Tryz.prog W r b0 30 v)
    (h : DataW.Trod enc Tryz.prog W 0 (fun _ => true) true 30 v d p) : ∃ (m : Msg) (A : Option Addr) (c : Nat), v = msgV m A c ∧ m.fits ∧ PL W W.heap.size A m.props := by
  obtain ⟨cs, rfl, hsz⟩ := okWide_struct Tryz.underlying30 hv
  obtain ⟨fuel, hf⟩ := h
  obtain ⟨l⟩ := cs
  have hl : l.length = 9 := by have := hsz.trans cellsMsg; simpa using this
  match l, hl with
  | [c0, c1, c2, c3, c4, c5, c6, c7, c8], _ =>
    obtain ⟨ys, n, _, _, _, hyl, hfld⟩ := DataW.trod_struct Tryz.underlying30 hf
    match ys, hyl with
    | [y0, y1, y2, y3, y4, y5, y6, y7, y8], _ =>
      have g0 := hfld 0 _ rfl
      have g1 := hfld 1 _ rfl
      have g2 := hfld 2 _ rfl
      have g3 := hfld 3 _ rfl
      have g4 := hfld 4 _ rfl
      have g5 := hfld 5 _ rfl
      have g6 := hfld 6 _ rfl
      have g7 := hfld 7 _ rfl
      have g8 := hfld 8 _ rfl
      simp [Value.cells, cellsStr, cellsI64, cellsBool, cellsProps] at g0 g1 g2 g3 g4 g5 g6 g7 g8
      obtain ⟨s0, e0, _⟩ := DataW.trod_string Tryz.underlying9 (show DataW.trod _ _ _ _ _ _ _ 9 [c0] = some y0 from g0)
      obtain ⟨s1, e1, _⟩ := DataW.trod_string Tryz.underlying9 (show DataW.trod _ _ _ _ _ _ _ 9 [c1] = some y1 from g1)
      obtain ⟨n2, e2, _, w2⟩ := DataW.trod_int Tryz.underlying3 (show DataW.trod _ _ _ _ _ _ _ 3 [c2] = some y2 from g2)
      obtain ⟨b3, e3, _⟩ := DataW.trod_bool Tryz.underlying4 (show DataW.trod _ _ _ _ _ _ _ 4 [c3] = some y3 from g3)
      obtain ⟨n4, e4, _, w4⟩ := DataW.trod_int Tryz.underlying3 (show DataW.trod _ _ _ _ _ _ _ 3 [c4] = some y4 from g4)
      obtain ⟨n5, e5, _, w5⟩ := DataW.trod_int Tryz.underlying3 (show DataW.trod _ _ _ _ _ _ _ 3 [c5] = some y5 from g5)
      obtain ⟨s6, e6, _⟩ := DataW.trod_string Tryz.underlying9 (show DataW.trod _ _ _ _ _ _ _ 9 [c6] = some y6 from g6)
      obtain ⟨n7, e7, _, w7⟩ := DataW.trod_int Tryz.underlying3 (show DataW.trod _ _ _ _ _ _ _ 3 [c7] = some y7 from g7)
      obtain ⟨A, c, Xs, e8, hp⟩ := open_props' (show DataW.trod enc Tryz.prog W 0 (fun _ => true) true n 28 [c8] = some y8 from g8)
      simp only [List.cons.injEq, and_true] at e0 e1 e2 e3 e4 e5 e6 e7
      subst e0 e1 e2 e3 e4 e5 e6 e7 e8
      exact ⟨⟨s0, s1, n2, b3, n4, n5, s6, n7, Xs⟩, A, c, rfl, ⟨wf64 w2, wf64 w4, wf64 w5, wf64 w7⟩, hp⟩

/-! ### Bytes -/
theorem cellsU8 : Tryz.prog.cellsOf 5 = 1 := by kernel_rfl
theorem bytesU8 : Tryz.prog.bytesOf 5 = 1 := by kernel_rfl
theorem u8_wf {n : Int} (h : (Lit.int .u8 n).wf = true) : 0 ≤ n ∧ n < 256 := by
  have h1 : IntKind.u8.min = 0 := rfl
  have h2 : IntKind.u8.max = 255 := rfl
  simp only [Lit.wf, Bool.and_eq_true, decide_eq_true_eq] at h
  omega
end Go.Proofs.YtjpikgphfhjilaaGreatDoor
namespace Go.Proofs.YtjpikgphfhjilaaGreatDoor
open Go.Joins Go.ChangeShapes Go.WideShapes Go.ChangeAt Go.WideMaps Go.WideElems Go.RowKit Go.Deep

theorem len_max {n : Nat} (h : n ≤ maxLen) : n ≤ 9223372036854775807 := by unfold maxLen at h; omega
theorem cellsFl : Tryz.prog.cellsOf 60 = 11 := by kernel_rfl
theorem cellsFls : Tryz.prog.cellsOf 22 = 1 := by kernel_rfl
theorem cellsIntsW : Tryz.prog.cellsOf 23 = 1 := by kernel_rfl
theorem cellsPool : Tryz.prog.cellsOf 25 = 2 := by kernel_rfl
theorem cellsWin : Tryz.prog.cellsOf 27 = 4 := by kernel_rfl
/-- texts of an item fit, and its identifier is an int -/
def FlOk (f : Fl) : Prop := (-9223372036854775808 ≤ f.id ∧ f.id ≤ 9223372036854775807) ∧ f.m.topic.size ≤ 9223372036854775807 ∧ f.m.frm.size ≤ 9223372036854775807 ∧ ∀ y ∈ f.m.props, y.1.size ≤ 9223372036854775807
section
variable {H : Type} {enc : TypeId × Value → H} {W : World}
theorem open_propsW {a0 : Option Addr} {len cap fuel : Nat} {x : DataW H × List MemPlace}
    (hf : DataW.trod enc Tryz.prog W 0 (fun _ => true) true fuel 28 [.slice a0 len cap] = some x) :
    ∃ Xs : List PR, Xs.length = len ∧ PL W W.heap.size a0 Xs ∧ ∀ x ∈ Xs, x.1.size ≤ 9223372036854775807 := by
  rcases Go.Deep.open_slice_pairs Tryz.underlying28 Tryz.underlying86 cellsProp rfl rfl cellsStr cellsStr hf with ⟨hcs, hx⟩ | ⟨a, len', cap', m, n, V0, V1, D0, D1, P0, P1, hcs, _, hl, hm, hmm, hx, hi⟩
  · simp at hcs
    obtain ⟨rfl, rfl, rfl⟩ := hcs
    exact ⟨[], rfl, GL.nil _ _ _, fun _ h => by cases h⟩
  · simp at hcs
    obtain ⟨rfl, rfl, rfl⟩ := hcs
    subst hx
    simp only [if_true] at hmm
    refine ⟨(List.range len).map fun i => (strV (V0 i), strV (V1 i)), by simp, fun h0 => ?_, fun X hX => ?_⟩
    rotate_left
    · obtain ⟨i, hi', rfl⟩ := List.mem_map.1 hX
      have hj := List.mem_range.1 hi'
      obtain ⟨_, _, h3, _⟩ := hi i (by omega)
      obtain ⟨s0, e0, _, z0⟩ := DataW.trod_string Tryz.underlying9 h3
      simp at e0
      show (strV (V0 i)).size ≤ _
      rw [e0]
      exact len_max z0
    simp at h0
    obtain ⟨b, o, rfl, hb⟩ := plain_addr (hi 0 (by omega)).1
    refine ⟨b, o, rfl, hb, fun j X i v hX hv => ?_⟩
    rw [List.getElem?_map] at hX
    have hj : j < len := by
      rcases Nat.lt_or_ge j len with h | h
      · exact h
      · rw [List.getElem?_eq_none (by simpa using h)] at hX; cases hX
    rw [List.getElem?_range hj] at hX
    obtain rfl := Option.some.inj hX
    obtain ⟨h1, h2, h3, h4⟩ := hi j (by omega)
    obtain ⟨s0, e0, _⟩ := DataW.trod_string Tryz.underlying9 h3
    obtain ⟨s1, e1, _⟩ := DataW.trod_string Tryz.underlying9 h4
    simp at e0 e1
    rw [e0] at h1
    rw [e1] at h2
    match i, hv with
    | 0, hv =>
      simp [gP, strV, e0] at hv
      rw [Nat.add_zero, add_plain, h1, hv]
    | 1, hv =>
      simp [gP, strV, e1] at hv
      rw [Nat.add_assoc, add_plain, h2, hv]
set_option maxRecDepth 100000 in
theorem open_propsW' {v : Value} {fuel : Nat} {x : DataW H × List MemPlace}
    (hf : DataW.trod enc Tryz.prog W 0 (fun _ => true) true fuel 28 [v] = some x) :
    ∃ (A : Option Addr) (c : Nat) (Xs : List PR), v = .slice A Xs.length c ∧ PL W W.heap.size A Xs ∧ ∀ x ∈ Xs, x.1.size ≤ 9223372036854775807 := by
  have h2 := hf
  rcases Go.Deep.open_slice_pairs Tryz.underlying28 Tryz.underlying86 cellsProp rfl rfl cellsStr cellsStr h2 with ⟨hcs, _⟩ | ⟨a, len, cap, m, n, V0, V1, D0, D1, P0, P1, hcs, _⟩
  · simp at hcs
    subst hcs
    exact ⟨none, 0, [], rfl, GL.nil _ _ _, fun _ h => by cases h⟩
  · simp at hcs
    subst hcs
    obtain ⟨Xs, rfl, hp, hz⟩ := open_propsW hf
    exact ⟨_, _, Xs, rfl, hp, hz⟩
set_option maxRecDepth 100000 in
theorem open_msgcW {fuel : Nat} {cs : List Value} {x : DataW H × List MemPlace} (hf : DataW.trod enc Tryz.prog W 0 (fun _ => true) true fuel 30 cs = some x) :
    ∃ (m : Msg) (A : Option Addr) (c : Nat), cs = msgC m A c ∧ PL W W.heap.size A m.props ∧ (m.topic.size ≤ 9223372036854775807 ∧ m.frm.size ≤ 9223372036854775807 ∧ ∀ y ∈ m.props, y.1.size ≤ 9223372036854775807) := by
  obtain ⟨ys, n, _, _, hl, hyl, hfld⟩ := DataW.trod_struct Tryz.underlying30 hf
  rw [cellsMsg] at hl
  match cs, hl with
  | [c0, c1, c2, c3, c4, c5, c6, c7, c8], _ =>
    match ys, hyl with
    | [y0, y1, y2, y3, y4, y5, y6, y7, y8], _ =>
      have g0 := hfld 0 _ rfl
      have g1 := hfld 1 _ rfl
      have g2 := hfld 2 _ rfl
      have g3 := hfld 3 _ rfl
      have g4 := hfld 4 _ rfl
      have g5 := hfld 5 _ rfl
      have g6 := hfld 6 _ rfl
      have g7 := hfld 7 _ rfl
      have g8 := hfld 8 _ rfl
      simp [cellsStr, cellsI64, cellsBool, cellsProps] at g0 g1 g2 g3 g4 g5 g6 g7 g8
      obtain ⟨v0, e0, _, z0⟩ := DataW.trod_string Tryz.underlying9 (show DataW.trod enc Tryz.prog W 0 (fun _ => true) true n 9 [c0] = some y0 from g0)
      obtain ⟨v1, e1, _⟩ := DataW.trod_string Tryz.underlying9 (show DataW.trod enc Tryz.prog W 0 (fun _ => true) true n 9 [c1] = some y1 from g1)
      obtain ⟨v2, e2, _, _⟩ := DataW.trod_int Tryz.underlying3 (show DataW.trod enc Tryz.prog W 0 (fun _ => true) true n 3 [c2] = some y2 from g2)
      obtain ⟨v3, e3, _⟩ := DataW.trod_bool Tryz.underlying4 (show DataW.trod enc Tryz.prog W 0 (fun _ => true) true n 4 [c3] = some y3 from g3)
      obtain ⟨v4, e4, _, _⟩ := DataW.trod_int Tryz.underlying3 (show DataW.trod enc Tryz.prog W 0 (fun _ => true) true n 3 [c4] = some y4 from g4)
      obtain ⟨v5, e5, _, _⟩ := DataW.trod_int Tryz.underlying3 (show DataW.trod enc Tryz.prog W 0 (fun _ => true) true n 3 [c5] = some y5 from g5)
      obtain ⟨v6, e6, _, z6⟩ := DataW.trod_string Tryz.underlying9 (show DataW.trod enc Tryz.prog W 0 (fun _ => true) true n 9 [c6] = some y6 from g6)
      obtain ⟨v7, e7, _, _⟩ := DataW.trod_int Tryz.underlying3 (show DataW.trod enc Tryz.prog W 0 (fun _ => true) true n 3 [c7] = some y7 from g7)
      obtain ⟨A8, p8, X8, e8, h8, z8⟩ := open_propsW' (show DataW.trod enc Tryz.prog W 0 (fun _ => true) true n 28 [c8] = some y8 from g8)
      simp only [List.cons.injEq, and_true] at e0 e1 e2 e3 e4 e5 e6 e7
      subst e0 e1 e2 e3 e4 e5 e6 e7 e8
      exact ⟨⟨v0, v1, v2, v3, v4, v5, v6, v7, X8⟩, A8, p8, rfl, h8, len_max z0, len_max z6, z8⟩
set_option maxRecDepth 100000 in
theorem open_flc {fuel : Nat} {cs : List Value} {x : DataW H × List MemPlace} (hf : DataW.trod enc Tryz.prog W 0 (fun _ => true) true fuel 60 cs = some x) :
    ∃ X : FE, cs = gF X ∧ PL W W.heap.size X.a X.f.m.props ∧ FlOk X.f := by
  obtain ⟨ys, n, _, _, hl, hyl, hfld⟩ := DataW.trod_struct Tryz.underlying60 hf
  rw [cellsFl] at hl
  match cs, hl with
  | [c0, c1, c2, c3, c4, c5, c6, c7, c8, c9, c10], _ =>
    match ys, hyl with
    | [y0, y1, y2], _ =>
      have g0 := hfld 0 _ rfl
      have g1 := hfld 1 _ rfl
      have g2 := hfld 2 _ rfl
      simp [cellsI64, cellsMsg] at g0 g1 g2
      obtain ⟨v0, e0, _, w0⟩ := DataW.trod_int Tryz.underlying3 (show DataW.trod enc Tryz.prog W 0 (fun _ => true) true n 3 [c0] = some y0 from g0)
      obtain ⟨v1, e1, _, _⟩ := DataW.trod_int Tryz.underlying3 (show DataW.trod enc Tryz.prog W 0 (fun _ => true) true n 3 [c1] = some y1 from g1)
      obtain ⟨m, A, c, e2, h2, z2⟩ := open_msgcW (show DataW.trod enc Tryz.prog W 0 (fun _ => true) true n 30 [c2, c3, c4, c5, c6, c7, c8, c9, c10] = some y2 from g2)
      simp only [List.cons.injEq, and_true] at e0 e1
      subst e0 e1
      exact ⟨⟨⟨v0, v1, m⟩, A, c⟩, by show [Value.int .i64 v0, Value.int .i64 v1] ++ [c2, c3, c4, c5, c6, c7, c8, c9, c10] = _; rw [e2]; rfl, h2, wf64 w0, z2⟩
set_option maxRecDepth 100000 in
theorem open_fls {fuel : Nat} {v : Value} {x : DataW H × List MemPlace} (hf : DataW.trod enc Tryz.prog W 0 (fun _ => true) true fuel 22 [v] = some x) :
    ∃ (A : Option Addr) (c : Nat) (Xs : List FE), v = .slice A Xs.length c ∧ FI W W.heap.size A Xs ∧ Xs.length ≤ c ∧ Xs.length ≤ 9223372036854775807 ∧ ∀ X ∈ Xs, FlOk X.f := by
  rcases open_slice Tryz.underlying22 hf with ⟨hcs, _⟩ | ⟨a, len, cap, m, n, D, Pl, hcs, _, hl, hmx, hmm, _, hi⟩
  · simp at hcs
    subst hcs
    exact ⟨none, 0, [], rfl, FI.nil _ _ _, Nat.le_refl _, by simp, fun _ h => by cases h⟩
  · simp at hcs
    subst hcs
    simp only [if_true] at hmm
    have each : ∀ i : Nat, ∃ X : FE, i < len → (∀ j u, (gF X)[j]? = some u → W.cell? (a.add (i * 11 + j)) = some u) ∧ PL W W.heap.size X.a X.f.m.props ∧ FlOk X.f := fun i => by
      by_cases h : i < len
      · obtain ⟨cs', hc, ht⟩ := hi i (by omega)
        rw [cellsFl] at hc
        obtain ⟨X, rfl, hp, hk⟩ := open_flc ht
        obtain ⟨_, _, hat⟩ := World.cells?_some hc
        refine ⟨X, fun _ => ⟨fun j u hj => ?_, hp, hk⟩⟩
        have hj3 : j < 11 := (List.getElem?_eq_some_iff.1 hj).1
        rw [← Go.Deep.add_add, hat j hj3, hj]
      · exact ⟨FE.zero, fun h' => absurd h' h⟩
    refine ⟨some a, cap, (List.range len).map fun i => Classical.choose (each i), by simp, ⟨fun h0 => ?_, fun X hX => ?_⟩, by simpa using hl, by simp; have := len_max hmx; omega, fun X hX => ?_⟩
    rotate_left
    · obtain ⟨i, hi', rfl⟩ := List.mem_map.1 hX
      exact (Classical.choose_spec (each i) (List.mem_range.1 hi')).2.1
    · obtain ⟨i, hi', rfl⟩ := List.mem_map.1 hX
      exact (Classical.choose_spec (each i) (List.mem_range.1 hi')).2.2
    simp at h0
    obtain ⟨b, o, rfl, hb⟩ := plain_addr (show W.cell? (a.add 0) = some _ from (Classical.choose_spec (each 0) (by omega)).1 0 _ rfl)
    refine ⟨b, o, rfl, hb, fun j X i v hX hv => ?_⟩
    rw [List.getElem?_map] at hX
    have hj : j < len := by
      rcases Nat.lt_or_ge j len with h | h
      · exact h
      · rw [List.getElem?_eq_none (by simpa using h)] at hX; cases hX
    rw [List.getElem?_range hj] at hX
    obtain rfl := Option.some.inj hX
    rw [Nat.add_assoc, add_plain]
    exact (Classical.choose_spec (each j) hj).1 i v hv
set_option maxRecDepth 100000 in
theorem open_numsW {v : Value} {fuel : Nat} {x : DataW H × List MemPlace}
    (hf : DataW.trod enc Tryz.prog W 0 (fun _ => true) true fuel 23 [v] = some x) :
    ∃ (A : Option Addr) (c : Nat) (X : List Int), v = .slice A X.length c ∧ S2.IL W W.heap.size A X ∧ X.length ≤ c ∧ X.length ≤ 9223372036854775807 ∧ ∀ x ∈ X, -9223372036854775808 ≤ x ∧ x ≤ 9223372036854775807 := by
  rcases open_ints Tryz.underlying23 Tryz.underlying3 cellsI64 hf with ⟨hcs, hx⟩ | ⟨a, len', cap', zs, hcs, _, hl, hm, hz, hx, hcell, hwf⟩
  · simp at hcs
    subst hcs
    exact ⟨none, 0, [], rfl, CL.nil _ _ _, Nat.le_refl _, by simp, fun x h => by cases h⟩
  · simp at hcs
    subst hcs
    simp only [if_true] at hz
    have hlen : (zs.take len').length = len' := by rw [List.length_take]; omega
    have hmm : cap' ≤ 9223372036854775807 := by unfold maxLen at hm; omega
    refine ⟨some a, cap', zs.take len', by rw [hlen], fun h0 => ?_, by omega, by omega, fun x hx => wf64 (hwf x (List.mem_of_mem_take hx))⟩
    rw [hlen] at h0
    obtain ⟨b, o, rfl, hb⟩ := plain_addr (hcell 0 (by omega))
    refine ⟨b, o, rfl, hb, fun j X hX => ?_⟩
    have hj : j < len' := by have := (List.getElem?_eq_some_iff.1 hX).1; omega
    rw [List.getElem?_take_of_lt hj] at hX
    rw [add_plain, hcell j (by omega), List.getD_eq_getElem?_getD, hX]
    rfl
set_option maxRecDepth 100000 in
theorem open_poolc {fuel : Nat} {cs : List Value} {x : DataW H × List MemPlace} (hf : DataW.trod enc Tryz.prog W 0 (fun _ => true) true fuel 25 cs = some x) :
    ∃ (A : Option Addr) (c : Nat) (X : List Int) (l : Int), cs = [.slice A X.length c, .int .i64 l] ∧ S2.IL W W.heap.size A X ∧ X.length ≤ c ∧ X.length ≤ 9223372036854775807 ∧ ∀ x ∈ X, -9223372036854775808 ≤ x ∧ x ≤ 9223372036854775807 := by
  obtain ⟨ys, n, _, _, hl, hyl, hfld⟩ := DataW.trod_struct Tryz.underlying25 hf
  rw [cellsPool] at hl
  match cs, hl with
  | [c0, c1], _ =>
    match ys, hyl with
    | [y0, y1], _ =>
      have g0 := hfld 0 _ rfl
      have g1 := hfld 1 _ rfl
      simp [cellsI64, cellsIntsW] at g0 g1
      obtain ⟨A, c, X, e0, h1, h2, h3, h4⟩ := open_numsW (show DataW.trod enc Tryz.prog W 0 (fun _ => true) true n 23 [c0] = some y0 from g0)
      obtain ⟨l, e1, _, _⟩ := DataW.trod_int Tryz.underlying3 (show DataW.trod enc Tryz.prog W 0 (fun _ => true) true n 3 [c1] = some y1 from g1)
      simp only [List.cons.injEq, and_true] at e1
      subst e0 e1
      exact ⟨A, c, X, l, rfl, h1, h2, h3, h4⟩
set_option maxRecDepth 100000 in
theorem open_win {r : Reach} {b0 : Nat} {v : Value} {d : DataW H} {p : List MemPlace} (hv : Value.okWide Tryz.prog W r b0 27 v)
    (h : DataW.Trod enc Tryz.prog W 0 (fun _ => true) true 27 v d p) : ∃ (L : Int) (A : Option Addr) (c : Nat) (xs : List FE) (A2 : Option Addr) (c2 : Nat) (X : List Int) (l : Int),
      v = wv L A c xs A2 c2 X l ∧ WOk W A c xs A2 c2 X ∧ X.length ≤ 9223372036854775807 ∧ xs.length ≤ 9223372036854775807 ∧ (∀ x ∈ xs, FlOk x.f) ∧ ∀ x ∈ X, -9223372036854775808 ≤ x ∧ x ≤ 9223372036854775807 := by
  obtain ⟨cs, rfl, hsz⟩ := okWide_struct Tryz.underlying27 hv
  obtain ⟨fuel, hf⟩ := h
  obtain ⟨l⟩ := cs
  have hl : l.length = 4 := by have := hsz.trans cellsWin; simpa using this
  match l, hl with
  | [c0, c1, c2, c3], _ =>
    obtain ⟨ys, n, _, _, _, hyl, hfld⟩ := DataW.trod_struct Tryz.underlying27 hf
    match ys, hyl with
    | [y0, y1, y2], _ =>
      have g0 := hfld 0 _ rfl
      have g1 := hfld 1 _ rfl
      have g2 := hfld 2 _ rfl
      simp [Value.cells, cellsI64, cellsFls, cellsPool] at g0 g1 g2
      obtain ⟨L, e0, _, _⟩ := DataW.trod_int Tryz.underlying3 (show DataW.trod _ _ _ _ _ _ _ 3 [c0] = some y0 from g0)
      obtain ⟨A, c, xs, e1, h1, h2, h3, h4⟩ := open_fls (show DataW.trod enc Tryz.prog W 0 (fun _ => true) true n 22 [c1] = some y1 from g1)
      obtain ⟨A2, c2', X, l2, e2, k1, k2, k3, k4⟩ := open_poolc (show DataW.trod enc Tryz.prog W 0 (fun _ => true) true n 25 [c2, c3] = some y2 from g2)
      simp only [List.cons.injEq, and_true] at e0 e2
      obtain ⟨e2, e3⟩ := e2
      subst e0 e1 e2 e3
      exact ⟨L, A, c, xs, A2, c2', X, l2, rfl, ⟨h1, h2, k1, k2⟩, k3, h3, h4, k4⟩
end
end Go.Proofs.YtjpikgphfhjilaaGreatDoor
namespace Go.Proofs.YtjpikgphfhjilaaGreatDoor
open Go.Joins Go.ChangeShapes Go.WideShapes Go.ChangeAt Go.WideMaps Go.WideElems Go.RowKit Go.Deep

theorem cellsMsgO : Tryz.prog.cellsOf 30 = 9 := by kernel_rfl
/-- the identifier of an operation, which lies in the place of an entry's state, is an int -/
def OpOk (f : Fl) : Prop := -9223372036854775808 ≤ f.st
section
variable {H : Type} {enc : TypeId × Value → H} {W : World}
set_option maxRecDepth 100000 in
theorem open_msgO {r : Reach} {b0 : Nat} {v : Value} {d : DataW H} {p : List MemPlace} (hv : Value.okWide Tryz.prog W r b0 30 v)
    (h : DataW.Trod enc Tryz.prog W 0 (fun _ => true) true 30 v d p) : ∃ (m : Msg) (A : Option Addr) (c : Nat), v = .agg (msgC m A c).toArray ∧ PL W W.heap.size A m.props ∧ (m.topic.size ≤ 9223372036854775807 ∧ m.frm.size ≤ 9223372036854775807 ∧ ∀ y ∈ m.props, y.1.size ≤ 9223372036854775807) := by
  obtain ⟨cs, rfl, hsz⟩ := okWide_struct Tryz.underlying30 hv
  obtain ⟨fuel, hf⟩ := h
  obtain ⟨l⟩ := cs
  obtain ⟨m, A, c, rfl, h1, h2⟩ := open_msgcW hf
  exact ⟨m, A, c, rfl, h1, h2⟩
end
end Go.Proofs.YtjpikgphfhjilaaGreatDoor
namespace Go.Proofs.YtjpikgphfhjilaaGreatDoor
open Go.RowKit
open S2 (BK Put)

theorem items_all {F : List Fl} {X : List Int} : ∀ (r : List Fl) (i : Nat), itemsR F X i r = 0 → ∀ x ∈ r, checkR x.m = 0
  | [], _, _ => fun x hx => by cases hx
  | y :: r, i, h => fun x hx => by
    have he : itemsR F X i (y :: r) = if itemR F X i y ≠ 0 then itemR F X i y else itemsR F X (i + 1) r := rfl
    rw [he] at h
    by_cases h0 : itemR F X i y = 0
    · rw [if_neg (by simpa using h0)] at h
      rcases List.mem_cons.1 hx with rfl | hx
      · have hc := item_cases h0
        by_cases hin : x.id ∈ X
        · have h2 := hc.2 hin
          by_cases hp : posF F x.id < i
          · have := h2.1 hp; omega
          · by_cases hk : checkR x.m = 0
            · exact hk
            · have := (h2.2 hp).1 hk; omega
        · have := hc.1 hin; omega
      · exact items_all r (i + 1) h x hx
    · rw [if_pos h0] at h
      exact absurd h h0
/-- what a valid window is -/
theorem win_ok {L : Int} {F : List Fl} {X : List Int} {l : Int} (h : winR (L, F, X, l) = 0) : (0 ≤ L ∧ L ≤ 32) ∧ F.length ≤ 32 ∧ S2.ckI X l = 0 ∧ (∀ x ∈ F, checkR x.m = 0) ∧ X.length ≤ F.length := by
  have hc := win_cases h
  by_cases h1 : L < 0 ∨ 32 < L
  · have := hc.1 h1; omega
  have h2 := hc.2 h1
  by_cases h3 : S2.ckI X l = 0
  rotate_left
  · have := h2.1 h3; omega
  have h4 := h2.2 h3
  by_cases h5 : 32 < F.length
  · have := h4.1 h5; omega
  have h6 := h4.2 h5
  by_cases h7 : itemsR F X 0 F = 0
  rotate_left
  · have := h6.1 h7; omega
  have h8 := h6.2 h7
  by_cases h9 : F.length < X.length
  · have := h8.1 h9; omega
  exact ⟨by omega, by omega, h3, items_all F 0 h7, by omega⟩

end Go.Proofs.YtjpikgphfhjilaaGreatDoor
namespace Go.Proofs.YtjpikgphfhjilaaGreatDoor
open Go.RowKit
open S2 (BK Put)

def OffS (g : Nat) (A : Option Addr) (xs : List FE) (A2 : Option Addr) (X : List Int) : Prop := (0 < xs.length → ∀ b o, A = some ⟨b, o, none⟩ → b ≠ g) ∧ (∀ x ∈ xs, Away g x.a x.f.m.props.length) ∧ (0 < X.length → ∀ b o, A2 = some ⟨b, o, none⟩ → b ≠ g)
theorem wok_putS {w w' : World} {g : Nat} {A : Option Addr} {c : Nat} {xs : List FE} {A2 : Option Addr} {c2 : Nat} {X : List Int} (h : WOk w A c xs A2 c2 X) (hp : Put g w w') (ho : OffS g A xs A2 X) : WOk w' A c xs A2 c2 X := by
  refine ⟨?_, h.2.1, ILput h.2.2.1 hp ho.2.2, h.2.2.2⟩
  rw [hp.size]
  exact ⟨fun hn => by
    obtain ⟨b, o, e, hb, hc⟩ := h.1.1 hn
    exact ⟨b, o, e, hb, fun j x i v hx hv => (hp.cell (p := ⟨b, o + j * 11 + i, none⟩) (ho.1 hn b o e)).trans (hc j x i v hx hv)⟩, fun x hx => (h.1.2 x hx).putA hp (ho.2.1 x hx)⟩
theorem offS {w : World} {g : Nat} {A : Option Addr} {c : Nat} {xs : List FE} {A2 : Option Addr} {c2 : Nat} {X : List Int} (h : WOk w A c xs A2 c2 X) (hg : w.heap.size ≤ g) : OffS g A xs A2 X :=
  ⟨fun hn b o e => by
    obtain ⟨b', o', e', hb, _⟩ := h.1.1 hn
    rw [e] at e'
    simp only [Option.some.injEq, Addr.mk.injEq, and_true] at e'
    omega, fun x hx hn b o e => by have := (h.1.2 x hx).lt hn b o e; omega, fun hn b o e => by have := S2.IL.lt h.2.2.1 b o e hn; omega⟩
theorem awayS {w : World} {g : Nat} {A : Option Addr} {xs : List PR} (h : PL w w.heap.size A xs) (hg : w.heap.size ≤ g) : Away g A xs.length := fun hn b o e => by have := h.lt hn b o e; omega
theorem pl_putS {w w' : World} {g : Nat} {A : Option Addr} {xs : List PR} (h : PL w w.heap.size A xs) (hp : Put g w w') (hne : Away g A xs.length) : PL w' w'.heap.size A xs := by rw [hp.size]; exact h.putA hp hne
theorem zwnewS (w : World) : BK 39 ((w.alloc (.cells (wcs 0 none 0 [] none 0 [] 0).toArray 27)).alloc (.cells zeroPk.toArray 39)) (w.heap.size + 1) zeroPk := by
  have h := BK.new (w.alloc (.cells (wcs 0 none 0 [] none 0 [] 0).toArray 27)) 39 zeroPk
  rw [show (w.alloc (.cells (wcs 0 none 0 [] none 0 [] 0).toArray 27)).heap.size = w.heap.size + 1 by simp] at h
  exact h
def BareK (q : Pkt) : Prop := q.wmsg.props = [] ∧ q.subs = [] ∧ q.filters = [] ∧ q.codes = []
theorem start_small {W : PW} {m : Msg} (h1 : W.2.1.length ≤ 32) (h2 : ∀ x ∈ W.2.1, checkR x.m = 0) (h3 : W.2.2.1.length ≤ 32) :
    (startR W m).1.2.1.length ≤ 33 ∧ (∀ x ∈ (startR W m).1.2.1, x.m.props.length ≤ 8) ∧ (startR W m).1.2.2.1.length ≤ 33 ∧ BareK (startR W m).2.1 ∧ (startR W m).2.1.msg.props.length ≤ 8 := by
  obtain ⟨L, F, X, l⟩ := W
  dsimp only at h1 h2 h3
  have hz : (([] : List Fl)).length ≤ 33 ∧ (∀ x ∈ ([] : List Fl), x.m.props.length ≤ 8) ∧ ([] : List Int).length ≤ 33 ∧ BareK Pkt.zero ∧ Pkt.zero.msg.props.length ≤ 8 := ⟨by decide, fun x hx => (by cases hx), by decide, ⟨rfl, rfl, rfl, rfl⟩, by decide⟩
  unfold startR
  dsimp only
  by_cases g1 : m.level = 0
  · rw [if_pos g1]; exact hz
  rw [if_neg g1]
  by_cases g2 : leftR L F.length = 0
  · rw [if_pos g2]; exact hz
  rw [if_neg g2]
  by_cases g3 : checkR m = 0
  · rw [if_neg (by simpa using g3)]
    refine ⟨by simp; omega, fun x hx => ?_, by dsimp only; rw [S2.ins_len]; omega, ⟨rfl, rfl, rfl, rfl⟩, checkR_props g3⟩
    rcases List.mem_append.1 hx with h | h
    · exact checkR_props (h2 x h)
    · rw [List.mem_singleton] at h; rw [h]; exact checkR_props g3
  · rw [if_pos g3]; exact hz
theorem psameK {q : Pkt} {a a' : Option Addr} {c c' : Nat} (h : BareK q) (hl : q.msg.props.length ≤ 8) (w : World) (h1 : PL w w.heap.size a q.msg.props) (h2 : PL w w.heap.size a' q.msg.props) :
    Calls Tryz.prog 9 #[pkV q (pubA a c), pkV q (pubA a' c')] w fun e w' => e = .returned (.bool true) ∧ Below w.heap.size w w' := by
  obtain ⟨g1, g2, g3, g4⟩ := h
  have hp : ∀ b d, PL w w.heap.size b q.msg.props → PIn w q (pubA b d) := fun b d hb => ⟨hb, by rw [g1]; exact GL.nil _ _ _, by rw [g2]; exact GL.nil _ _ _, by rw [g3]; exact CL.nil _ _ _, by rw [g4]; exact CL.nil _ _ _⟩
  have hs : PSz q := ⟨by omega, by rw [g1]; simp, by rw [g2]; simp, by rw [g3]; simp, by rw [g4]; simp⟩
  have := rSameP_any q q (pubA a c) (pubA a' c') w (hp a c h1) (hp a' c' h2) hs hs
  rw [sameP_refl] at this
  exact this

set_option maxRecDepth 50000 in
set_option maxHeartbeats 16000000 in
theorem inflightStarts_walk (L : Int) (A : Option Addr) (c : Nat) (xs : List FE) (A2 : Option Addr) (c2 : Nat) (X : List Int) (l : Int) (m : Msg) (am : Option Addr) (cm : Nat) (w : World) (hok : S1.Okw w) (hw : WOk w A c xs A2 c2 X) (hXl : X.length ≤ 9223372036854775807) (hnl : xs.length ≤ 9223372036854775807)
    (ht : ∀ x ∈ xs, x.f.m.topic.size ≤ 9223372036854775807 ∧ x.f.m.frm.size ≤ 9223372036854775807 ∧ ∀ y ∈ x.f.m.props, y.1.size ≤ 9223372036854775807)
    (hm : PL w w.heap.size am m.props) (hmt : m.topic.size ≤ 9223372036854775807 ∧ m.frm.size ≤ 9223372036854775807 ∧ ∀ y ∈ m.props, y.1.size ≤ 9223372036854775807) :
    Calls Tryz.prog 3 #[wv L A c xs A2 c2 X l, .agg (msgC m am cm).toArray] w fun e w' => e = .returned (.bool true) ∧ Below w.heap.size w w' := by
  have HC2 : Hid (∀ w1, WOk w1 A c xs A2 c2 X → Calls Tryz.prog 4 #[wv L A c xs A2 c2 X l] w1 fun e w' => e = .returned (.int .i64 (winR (L, xs.map FE.f, X, l))) ∧ Below w1.heap.size w1 w') := Lib.hid (fun w1 h => rwcheck_any L A c xs A2 c2 X l w1 h hXl hnl ht)
  have HA := Lib.hid (fun w1 ho => awake14_any w1 ho)
  have HWK := Lib.hid hw
  have HOK := Lib.hid hok
  have HPL := Lib.hid hm
  have HMT := Lib.hid hmt
  clear hok hw hXl hnl ht hm hmt
  by_cases hz : winR (L, xs.map FE.f, X, l) = 0
  case neg =>
    have q1 : (winR (L, xs.map FE.f, X, l) != 0) = true := by simp [hz]
    generalize winR (L, xs.map FE.f, X, l) = z at HC2 q1
    clear hz
    go_enter Tryz.func3, Tryz.ntmps3
    go_upto_region 1 with fail
    refine name_world (C := fun w1 => Code.wp _ _ _ _ w1) ((w.alloc (.cells (wcs L A c xs A2 c2 X l).toArray 27)).alloc (.cells (msgC m am cm).toArray 30)) ?_
    intro w1 hw1
    obtain ⟨hB0, t1, t2⟩ := two hw1
    have T_w1 : Hid (BK 27 w1 w.heap.size (wcs L A c xs A2 c2 X l)) := Lib.hid t1
    have K_w1 : Hid (BK 30 w1 (w.heap.size + 1) (msgC m am cm)) := Lib.hid t2
    have B_w1 : Hid (Below w.heap.size w w1) := Lib.hid hB0
    clear hw1 t1 t2 hB0
    go_wp2_with first
      | (refine wpList_load_v (by rfl) 27 (.tmp 2) rfl ⟨w.heap.size, 0, none⟩ rfl (wv L A c xs A2 c2 X l) (S2.run_load_all T_w1.out Tryz.underlying27 rfl winSize) ?_)
    refine (HC2.out w1 (HWK.out.step B_w1.out)).mono ?_
    rintro e v1 ⟨rfl, hb⟩
    have T_v1 : Hid (BK 27 v1 w.heap.size (wcs L A c xs A2 c2 X l)) := Lib.hid (T_w1.out.step hb)
    have K_v1 : Hid (BK 30 v1 (w.heap.size + 1) (msgC m am cm)) := Lib.hid (K_w1.out.step hb)
    have B_v1 : Hid (Below w.heap.size w v1) := Lib.hid (stepB B_w1.out hb)
    clear T_w1 K_w1 B_w1
    clear hb
    go_wp2_with fail
    refine (HA.out v1 (HOK.out.step B_v1.out)).mono ?_
    rintro e v2 ⟨rfl, hb⟩
    have T_v2 : Hid (BK 27 v2 w.heap.size (wcs L A c xs A2 c2 X l)) := Lib.hid (T_v1.out.step hb)
    have K_v2 : Hid (BK 30 v2 (w.heap.size + 1) (msgC m am cm)) := Lib.hid (K_v1.out.step hb)
    have B_v2 : Hid (Below w.heap.size w v2) := Lib.hid (stepB B_v1.out hb)
    clear T_v1 K_v1 B_v1
    clear hb
    go_wp2_with fail
    go_ret
    exact ⟨rfl, B_v2.out⟩
  obtain ⟨v1, v2, v3, v4, v5⟩ := win_ok hz
  have HX5 := Lib.hid v4
  rw [List.length_map] at v2 v5
  obtain ⟨r, hr⟩ : ∃ r, startR (L, xs.map FE.f, X, l) m = r := ⟨_, rfl⟩
  have HSM := Lib.hid (start_small (W := (L, xs.map FE.f, X, l)) (m := m) (by rw [List.length_map]; exact v2) v4 (by show X.length ≤ 32; omega))
  have HPS := Lib.hid (fun w1 h0 h1 h2 => start_any L A c xs A2 c2 X l m am cm w1 h0 h1 h2 v1.1 v1.2 v2 (fun x hx => by have := checkR_props (v4 x.f (List.mem_map_of_mem hx)); omega) v3 v5)
  have HRS := Lib.hid (fun w1 h1 h2 => rstart_any L A c xs A2 c2 X l m am cm w1 h1 h2 HMT.out v1.1 v1.2 v2 v3 v5)
  rw [hr] at HRS HPS HSM
  rw [hz] at HC2
  have q1 : ((0 : Int) != 0) = false := rfl
  have q2 : (r.2.2 == r.2.2) = true := by simp
  clear hz hr v1 v2 v3 v4 v5 HMT HX5
  obtain ⟨⟨rL, rF, rX, rl⟩, rp, rz⟩ := r
  dsimp only [RetS, RetT] at HPS HRS HSM q2
  unfold msgV at HRS HPS
  go_enter Tryz.func3, Tryz.ntmps3
  go_upto_region 1 with fail
  refine name_world (C := fun w1 => Code.wp _ _ _ _ w1) ((w.alloc (.cells (wcs L A c xs A2 c2 X l).toArray 27)).alloc (.cells (msgC m am cm).toArray 30)) ?_
  intro w1 hw1
  obtain ⟨hB0, t1, t2⟩ := two hw1
  have T_w1 : Hid (BK 27 w1 w.heap.size (wcs L A c xs A2 c2 X l)) := Lib.hid t1
  have K_w1 : Hid (BK 30 w1 (w.heap.size + 1) (msgC m am cm)) := Lib.hid t2
  have B_w1 : Hid (Below w.heap.size w w1) := Lib.hid hB0
  clear hw1 t1 t2 hB0
  go_wp2_with first
    | (refine wpList_load_v (by rfl) 27 (.tmp 2) rfl ⟨w.heap.size, 0, none⟩ rfl (wv L A c xs A2 c2 X l) (S2.run_load_all T_w1.out Tryz.underlying27 rfl winSize) ?_)
  refine (HC2.out w1 (HWK.out.step B_w1.out)).mono ?_
  rintro e v1 ⟨rfl, hb⟩
  have T_v1 : Hid (BK 27 v1 w.heap.size (wcs L A c xs A2 c2 X l)) := Lib.hid (T_w1.out.step hb)
  have K_v1 : Hid (BK 30 v1 (w.heap.size + 1) (msgC m am cm)) := Lib.hid (K_w1.out.step hb)
  have B_v1 : Hid (Below w.heap.size w v1) := Lib.hid (stepB B_w1.out hb)
  clear T_w1 K_w1 B_w1
  clear hb
  clear HC2
  go_wp2_with first
    | (refine wpList_load_v (by rfl) 27 (.tmp 2) rfl ⟨w.heap.size, 0, none⟩ rfl (wv L A c xs A2 c2 X l) (S2.run_load_all T_v1.out Tryz.underlying27 rfl winSize) ?_)
    | (refine wpList_load_v (by rfl) 30 (.tmp 3) rfl ⟨(w.heap.size + 1), 0, none⟩ rfl (.agg (msgC m am cm).toArray) (S2.run_load_all K_v1.out Tryz.underlying30 rfl msgSize) ?_)
  refine (HPS.out v1 (HOK.out.step B_v1.out) (HWK.out.step B_v1.out) (GL.step HPL.out B_v1.out)).mono ?_
  rintro e v2 ⟨A3, c3, ys, A4, c4, a5, c5, rfl, hys, hwk, _, hpl, _, hb⟩
  have T_v2 : Hid (BK 27 v2 w.heap.size (wcs L A c xs A2 c2 X l)) := Lib.hid (T_v1.out.step hb)
  have K_v2 : Hid (BK 30 v2 (w.heap.size + 1) (msgC m am cm)) := Lib.hid (K_v1.out.step hb)
  have B_v2 : Hid (Below w.heap.size w v2) := Lib.hid (stepB B_v1.out hb)
  clear T_v1 K_v1 B_v1
  clear hb
  have O_v2 : Hid (WOk v2 A3 c3 ys A4 c4 rX) := Lib.hid (hwk)
  have P_v2 : Hid (PL v2 v2.heap.size a5 rp.msg.props) := Lib.hid (hpl)
  have HYS := Lib.hid hys
  clear hys hwk hpl HPS
  have ZaT : Hid (w.heap.size < v2.heap.size) := Lib.hid T_v2.out.lt
  have ZaK : Hid ((w.heap.size + 1) < v2.heap.size) := Lib.hid K_v2.out.lt
  have ZaB : Hid (w.heap.size ≤ v2.heap.size) := Lib.hid B_v2.out.size
  have ZaO : Hid (∀ g, v2.heap.size ≤ g → OffS g A3 ys A4 rX) := Lib.hid (fun g hg => offS O_v2.out hg)
  have ZaP : Hid (∀ g, v2.heap.size ≤ g → Away g a5 rp.msg.props.length) := Lib.hid (fun g hg => awayS P_v2.out hg)
  go_wp2_with first
    | (refine S2.wpList_store_all (by rfl) 27 (.tmp 5) (.tmp 19) rfl rfl (v2.heap.size) rfl (wcs rL A3 c3 ys A4 c4 rX rl) rfl 27 (wcs 0 none 0 [] none 0 [] 0) (BK.alloc (BK.new v2 _ _) _) winSize rfl (ones rfl) ?_; intro v3 hM hP; have hb : Below v2.heap.size v2 v3 := hP.below (stepB (S2.below_new v2 _) (S2.below_new _ _)) (Nat.le_refl _); have T_v3 : Hid (BK 27 v3 w.heap.size (wcs L A c xs A2 c2 X l)) := Lib.hid (T_v2.out.step hb); have K_v3 : Hid (BK 30 v3 (w.heap.size + 1) (msgC m am cm)) := Lib.hid (K_v2.out.step hb); have B_v3 : Hid (Below w.heap.size w v3) := Lib.hid (stepB B_v2.out hb); have O_v3 : Hid (WOk v3 A3 c3 ys A4 c4 rX) := Lib.hid (WOk.step O_v2.out hb); have P_v3 : Hid (PL v3 v3.heap.size a5 rp.msg.props) := Lib.hid (GL.step P_v2.out hb); have V_v3 : Hid (BK 27 v3 (v2.heap.size) (wcs rL A3 c3 ys A4 c4 rX rl)) := Lib.hid hM; have Q_v3 : Hid (BK 39 v3 (v2.heap.size + 1) zeroPk) := Lib.hid (hP.other (zwnewS v2) (by omega)); clear hM hP hb T_v2 K_v2 B_v2 O_v2 P_v2)
    | (refine S2.wpList_store_all (by rfl) 39 (.tmp 6) (.tmp 20) rfl rfl ((v2.heap.size + 1)) rfl (pkC rp (pubA a5 c5)) rfl 39 zeroPk Q_v3.out pktSize rfl (ones rfl) ?_; intro v4 hM hP; have Q_v4 : Hid (BK 39 v4 ((v2.heap.size + 1)) (pkC rp (pubA a5 c5))) := Lib.hid hM; have T_v4 : Hid (BK 27 v4 w.heap.size (wcs L A c xs A2 c2 X l)) := Lib.hid (hP.other T_v3.out (by have := ZaT.out; omega)); have K_v4 : Hid (BK 30 v4 (w.heap.size + 1) (msgC m am cm)) := Lib.hid (hP.other K_v3.out (by have := ZaK.out; omega)); have B_v4 : Hid (Below w.heap.size w v4) := Lib.hid (hP.below B_v3.out (by have := ZaB.out; omega)); have O_v4 : Hid (WOk v4 A3 c3 ys A4 c4 rX) := Lib.hid (wok_putS O_v3.out hP (ZaO.out _ (by omega))); have P_v4 : Hid (PL v4 v4.heap.size a5 rp.msg.props) := Lib.hid (pl_putS P_v3.out hP (ZaP.out _ (by omega))); have V_v4 : Hid (BK 27 v4 (v2.heap.size) (wcs rL A3 c3 ys A4 c4 rX rl)) := Lib.hid (hP.other V_v3.out (by omega)); clear hM hP T_v3 K_v3 B_v3 O_v3 P_v3 V_v3 Q_v3)
    | (refine wpList_load_v (by rfl) 27 (.tmp 2) rfl ⟨w.heap.size, 0, none⟩ rfl (wv L A c xs A2 c2 X l) (S2.run_load_all T_v4.out Tryz.underlying27 rfl winSize) ?_)
    | (refine wpList_load_v (by rfl) 30 (.tmp 3) rfl ⟨(w.heap.size + 1), 0, none⟩ rfl (.agg (msgC m am cm).toArray) (S2.run_load_all K_v4.out Tryz.underlying30 rfl msgSize) ?_)
  refine (HRS.out v4 (HWK.out.step B_v4.out) (GL.step HPL.out B_v4.out)).mono ?_
  rintro e v5 ⟨A6, c6, zs, A7, c7, a8, c8, rfl, hzs, hwk, hpl, hb⟩
  have T_v5 : Hid (BK 27 v5 w.heap.size (wcs L A c xs A2 c2 X l)) := Lib.hid (T_v4.out.step hb)
  have K_v5 : Hid (BK 30 v5 (w.heap.size + 1) (msgC m am cm)) := Lib.hid (K_v4.out.step hb)
  have B_v5 : Hid (Below w.heap.size w v5) := Lib.hid (stepB B_v4.out hb)
  have O_v5 : Hid (WOk v5 A3 c3 ys A4 c4 rX) := Lib.hid (WOk.step O_v4.out hb)
  have P_v5 : Hid (PL v5 v5.heap.size a5 rp.msg.props) := Lib.hid (GL.step P_v4.out hb)
  have V_v5 : Hid (BK 27 v5 (v2.heap.size) (wcs rL A3 c3 ys A4 c4 rX rl)) := Lib.hid (V_v4.out.step hb)
  have Q_v5 : Hid (BK 39 v5 ((v2.heap.size + 1)) (pkC rp (pubA a5 c5))) := Lib.hid (Q_v4.out.step hb)
  clear T_v4 K_v4 B_v4 O_v4 P_v4 V_v4 Q_v4
  clear hb
  have U_v5 : Hid (WOk v5 A6 c6 zs A7 c7 rX) := Lib.hid (hwk)
  have R_v5 : Hid (PL v5 v5.heap.size a8 rp.msg.props) := Lib.hid (hpl)
  have HZS := Lib.hid hzs
  clear hzs hwk hpl HRS
  have ZbT : Hid (w.heap.size < v5.heap.size) := Lib.hid T_v5.out.lt
  have ZbK : Hid ((w.heap.size + 1) < v5.heap.size) := Lib.hid K_v5.out.lt
  have ZbB : Hid (w.heap.size ≤ v5.heap.size) := Lib.hid B_v5.out.size
  have ZbV : Hid ((v2.heap.size) < v5.heap.size) := Lib.hid V_v5.out.lt
  have ZbQ : Hid (((v2.heap.size + 1)) < v5.heap.size) := Lib.hid Q_v5.out.lt
  have ZbO : Hid (∀ g, v5.heap.size ≤ g → OffS g A3 ys A4 rX) := Lib.hid (fun g hg => offS O_v5.out hg)
  have ZbP : Hid (∀ g, v5.heap.size ≤ g → Away g a5 rp.msg.props.length) := Lib.hid (fun g hg => awayS P_v5.out hg)
  have ZbU : Hid (∀ g, v5.heap.size ≤ g → OffS g A6 zs A7 rX) := Lib.hid (fun g hg => offS U_v5.out hg)
  have ZbR : Hid (∀ g, v5.heap.size ≤ g → Away g a8 rp.msg.props.length) := Lib.hid (fun g hg => awayS R_v5.out hg)
  go_wp2_with first
    | (refine S2.wpList_store_all (by rfl) 27 (.tmp 8) (.tmp 26) rfl rfl (v5.heap.size) rfl (wcs rL A6 c6 zs A7 c7 rX rl) rfl 27 (wcs 0 none 0 [] none 0 [] 0) (BK.alloc (BK.new v5 _ _) _) winSize rfl (ones rfl) ?_; intro v6 hM hP; have hb : Below v5.heap.size v5 v6 := hP.below (stepB (S2.below_new v5 _) (S2.below_new _ _)) (Nat.le_refl _); have T_v6 : Hid (BK 27 v6 w.heap.size (wcs L A c xs A2 c2 X l)) := Lib.hid (T_v5.out.step hb); have K_v6 : Hid (BK 30 v6 (w.heap.size + 1) (msgC m am cm)) := Lib.hid (K_v5.out.step hb); have B_v6 : Hid (Below w.heap.size w v6) := Lib.hid (stepB B_v5.out hb); have O_v6 : Hid (WOk v6 A3 c3 ys A4 c4 rX) := Lib.hid (WOk.step O_v5.out hb); have P_v6 : Hid (PL v6 v6.heap.size a5 rp.msg.props) := Lib.hid (GL.step P_v5.out hb); have V_v6 : Hid (BK 27 v6 (v2.heap.size) (wcs rL A3 c3 ys A4 c4 rX rl)) := Lib.hid (V_v5.out.step hb); have Q_v6 : Hid (BK 39 v6 ((v2.heap.size + 1)) (pkC rp (pubA a5 c5))) := Lib.hid (Q_v5.out.step hb); have U_v6 : Hid (WOk v6 A6 c6 zs A7 c7 rX) := Lib.hid (WOk.step U_v5.out hb); have R_v6 : Hid (PL v6 v6.heap.size a8 rp.msg.props) := Lib.hid (GL.step R_v5.out hb); have W_v6 : Hid (BK 27 v6 (v5.heap.size) (wcs rL A6 c6 zs A7 c7 rX rl)) := Lib.hid hM; have X_v6 : Hid (BK 39 v6 (v5.heap.size + 1) zeroPk) := Lib.hid (hP.other (zwnewS v5) (by omega)); clear hM hP hb T_v5 K_v5 B_v5 O_v5 P_v5 V_v5 Q_v5 U_v5 R_v5)
    | (refine S2.wpList_store_all (by rfl) 39 (.tmp 9) (.tmp 27) rfl rfl ((v5.heap.size + 1)) rfl (pkC rp (pubA a8 c8)) rfl 39 zeroPk X_v6.out pktSize rfl (ones rfl) ?_; intro v7 hM hP; have X_v7 : Hid (BK 39 v7 ((v5.heap.size + 1)) (pkC rp (pubA a8 c8))) := Lib.hid hM; have T_v7 : Hid (BK 27 v7 w.heap.size (wcs L A c xs A2 c2 X l)) := Lib.hid (hP.other T_v6.out (by have := ZbT.out; omega)); have K_v7 : Hid (BK 30 v7 (w.heap.size + 1) (msgC m am cm)) := Lib.hid (hP.other K_v6.out (by have := ZbK.out; omega)); have B_v7 : Hid (Below w.heap.size w v7) := Lib.hid (hP.below B_v6.out (by have := ZbB.out; omega)); have O_v7 : Hid (WOk v7 A3 c3 ys A4 c4 rX) := Lib.hid (wok_putS O_v6.out hP (ZbO.out _ (by omega))); have P_v7 : Hid (PL v7 v7.heap.size a5 rp.msg.props) := Lib.hid (pl_putS P_v6.out hP (ZbP.out _ (by omega))); have V_v7 : Hid (BK 27 v7 (v2.heap.size) (wcs rL A3 c3 ys A4 c4 rX rl)) := Lib.hid (hP.other V_v6.out (by have := ZbV.out; omega)); have Q_v7 : Hid (BK 39 v7 ((v2.heap.size + 1)) (pkC rp (pubA a5 c5))) := Lib.hid (hP.other Q_v6.out (by have := ZbQ.out; omega)); have U_v7 : Hid (WOk v7 A6 c6 zs A7 c7 rX) := Lib.hid (wok_putS U_v6.out hP (ZbU.out _ (by omega))); have R_v7 : Hid (PL v7 v7.heap.size a8 rp.msg.props) := Lib.hid (pl_putS R_v6.out hP (ZbR.out _ (by omega))); have W_v7 : Hid (BK 27 v7 (v5.heap.size) (wcs rL A6 c6 zs A7 c7 rX rl)) := Lib.hid (hP.other W_v6.out (by omega)); clear hM hP T_v6 K_v6 B_v6 O_v6 P_v6 V_v6 Q_v6 U_v6 R_v6 W_v6 X_v6)
  refine (HA.out v7 (HOK.out.step B_v7.out)).mono ?_
  rintro e v8 ⟨rfl, hb⟩
  have T_v8 : Hid (BK 27 v8 w.heap.size (wcs L A c xs A2 c2 X l)) := Lib.hid (T_v7.out.step hb)
  have K_v8 : Hid (BK 30 v8 (w.heap.size + 1) (msgC m am cm)) := Lib.hid (K_v7.out.step hb)
  have B_v8 : Hid (Below w.heap.size w v8) := Lib.hid (stepB B_v7.out hb)
  have O_v8 : Hid (WOk v8 A3 c3 ys A4 c4 rX) := Lib.hid (WOk.step O_v7.out hb)
  have P_v8 : Hid (PL v8 v8.heap.size a5 rp.msg.props) := Lib.hid (GL.step P_v7.out hb)
  have V_v8 : Hid (BK 27 v8 (v2.heap.size) (wcs rL A3 c3 ys A4 c4 rX rl)) := Lib.hid (V_v7.out.step hb)
  have Q_v8 : Hid (BK 39 v8 ((v2.heap.size + 1)) (pkC rp (pubA a5 c5))) := Lib.hid (Q_v7.out.step hb)
  have U_v8 : Hid (WOk v8 A6 c6 zs A7 c7 rX) := Lib.hid (WOk.step U_v7.out hb)
  have R_v8 : Hid (PL v8 v8.heap.size a8 rp.msg.props) := Lib.hid (GL.step R_v7.out hb)
  have W_v8 : Hid (BK 27 v8 (v5.heap.size) (wcs rL A6 c6 zs A7 c7 rX rl)) := Lib.hid (W_v7.out.step hb)
  have X_v8 : Hid (BK 39 v8 ((v5.heap.size + 1)) (pkC rp (pubA a8 c8))) := Lib.hid (X_v7.out.step hb)
  clear T_v7 K_v7 B_v7 O_v7 P_v7 V_v7 Q_v7 U_v7 R_v7 W_v7 X_v7
  clear hb
  have HS1 := Lib.hid (fun w1 h1 h2 => rwsame_any rL A3 c3 ys A4 c4 rX rl A6 c6 zs A7 c7 w1 h1 h2 (HYS.out.trans HZS.out.symm) (by have h9 := HSM.out.1; rw [← HYS.out, List.length_map] at h9; omega) (fun x hx => by have := HSM.out.2.1 x.f (by rw [← HYS.out]; exact List.mem_map_of_mem hx); omega) (by have := HSM.out.2.2.1; omega))
  have HS2 := Lib.hid (fun w1 h1 h2 => psameK (c := c5) (c' := c8) (a := a5) (a' := a8) HSM.out.2.2.2.1 HSM.out.2.2.2.2 w1 h1 h2)
  unfold pkV at HS2
  go_wp2_with first
    | (refine wpList_load_v (by rfl) 27 (.tmp 5) rfl ⟨v2.heap.size, 0, none⟩ rfl (wv rL A3 c3 ys A4 c4 rX rl) (S2.run_load_all V_v8.out Tryz.underlying27 rfl winSize) ?_)
    | (refine wpList_load_v (by rfl) 27 (.tmp 8) rfl ⟨v5.heap.size, 0, none⟩ rfl (wv rL A6 c6 zs A7 c7 rX rl) (S2.run_load_all W_v8.out Tryz.underlying27 rfl winSize) ?_)
  refine (HS1.out v8 O_v8.out U_v8.out).mono ?_
  rintro e v9 ⟨rfl, hb⟩
  have T_v9 : Hid (BK 27 v9 w.heap.size (wcs L A c xs A2 c2 X l)) := Lib.hid (T_v8.out.step hb)
  have K_v9 : Hid (BK 30 v9 (w.heap.size + 1) (msgC m am cm)) := Lib.hid (K_v8.out.step hb)
  have B_v9 : Hid (Below w.heap.size w v9) := Lib.hid (stepB B_v8.out hb)
  have O_v9 : Hid (WOk v9 A3 c3 ys A4 c4 rX) := Lib.hid (WOk.step O_v8.out hb)
  have P_v9 : Hid (PL v9 v9.heap.size a5 rp.msg.props) := Lib.hid (GL.step P_v8.out hb)
  have V_v9 : Hid (BK 27 v9 (v2.heap.size) (wcs rL A3 c3 ys A4 c4 rX rl)) := Lib.hid (V_v8.out.step hb)
  have Q_v9 : Hid (BK 39 v9 ((v2.heap.size + 1)) (pkC rp (pubA a5 c5))) := Lib.hid (Q_v8.out.step hb)
  have U_v9 : Hid (WOk v9 A6 c6 zs A7 c7 rX) := Lib.hid (WOk.step U_v8.out hb)
  have R_v9 : Hid (PL v9 v9.heap.size a8 rp.msg.props) := Lib.hid (GL.step R_v8.out hb)
  have W_v9 : Hid (BK 27 v9 (v5.heap.size) (wcs rL A6 c6 zs A7 c7 rX rl)) := Lib.hid (W_v8.out.step hb)
  have X_v9 : Hid (BK 39 v9 ((v5.heap.size + 1)) (pkC rp (pubA a8 c8))) := Lib.hid (X_v8.out.step hb)
  clear T_v8 K_v8 B_v8 O_v8 P_v8 V_v8 Q_v8 U_v8 R_v8 W_v8 X_v8
  clear hb
  go_wp2_with first
    | (refine wpList_load_v (by rfl) 39 (.tmp 6) rfl ⟨(v2.heap.size + 1), 0, none⟩ rfl (.agg (pkC rp (pubA a5 c5)).toArray) (S2.run_load_all Q_v9.out Tryz.underlying39 rfl pktSize) ?_)
    | (refine wpList_load_v (by rfl) 39 (.tmp 9) rfl ⟨(v5.heap.size + 1), 0, none⟩ rfl (.agg (pkC rp (pubA a8 c8)).toArray) (S2.run_load_all X_v9.out Tryz.underlying39 rfl pktSize) ?_)
  refine (HS2.out v9 P_v9.out R_v9.out).mono ?_
  rintro e v10 ⟨rfl, hb⟩
  have T_v10 : Hid (BK 27 v10 w.heap.size (wcs L A c xs A2 c2 X l)) := Lib.hid (T_v9.out.step hb)
  have K_v10 : Hid (BK 30 v10 (w.heap.size + 1) (msgC m am cm)) := Lib.hid (K_v9.out.step hb)
  have B_v10 : Hid (Below w.heap.size w v10) := Lib.hid (stepB B_v9.out hb)
  have O_v10 : Hid (WOk v10 A3 c3 ys A4 c4 rX) := Lib.hid (WOk.step O_v9.out hb)
  have P_v10 : Hid (PL v10 v10.heap.size a5 rp.msg.props) := Lib.hid (GL.step P_v9.out hb)
  have V_v10 : Hid (BK 27 v10 (v2.heap.size) (wcs rL A3 c3 ys A4 c4 rX rl)) := Lib.hid (V_v9.out.step hb)
  have Q_v10 : Hid (BK 39 v10 ((v2.heap.size + 1)) (pkC rp (pubA a5 c5))) := Lib.hid (Q_v9.out.step hb)
  have U_v10 : Hid (WOk v10 A6 c6 zs A7 c7 rX) := Lib.hid (WOk.step U_v9.out hb)
  have R_v10 : Hid (PL v10 v10.heap.size a8 rp.msg.props) := Lib.hid (GL.step R_v9.out hb)
  have W_v10 : Hid (BK 27 v10 (v5.heap.size) (wcs rL A6 c6 zs A7 c7 rX rl)) := Lib.hid (W_v9.out.step hb)
  have X_v10 : Hid (BK 39 v10 ((v5.heap.size + 1)) (pkC rp (pubA a8 c8))) := Lib.hid (X_v9.out.step hb)
  clear T_v9 K_v9 B_v9 O_v9 P_v9 V_v9 Q_v9 U_v9 R_v9 W_v9 X_v9
  clear hb
  go_wp2_with fail
  go_ret
  exact ⟨rfl, B_v10.out⟩
end Go.Proofs.YtjpikgphfhjilaaGreatDoor
namespace Go.Proofs.YtjpikgphfhjilaaGreatDoor.inflightStarts
open Go.ChangeShapes Go.WideShapes Go.ChangeAt Go.WideMaps Go.WideElems Go.RowKit
open Go.ChangeMaps (open_string shut_string)

theorem own : ownKnob Tryz.prog.godebug = none := by kernel_rfl
theorem okw {W : World} (h : W.ShapedOpen Tryz.prog) : S1.Okw W := Tryz.laysM219.s1_3 W h

set_option maxRecDepth 100000 in
theorem contract (H : Type) (enc : TypeId × Value → H) (W : World) (base : Nat) (args : Array Value) (ds gs : List (DataW H)) (before : List MemPlace)
    (hval : ∀ (j : Nat) t v, Tryz.f3.params[j]? = some t → args[j]? = some v → Value.okWide Tryz.prog W .any base t v)
    (hW : DataW.Whole enc Tryz.prog Tryz.f3.params.toList Rows.inflightStartsSpec.vars false W args.toList ds gs before)
    (hsz : (DataW.weightsEach Tryz.prog (Tryz.f3.params.toList ++ (OpenSpec.ofChange Rows.inflightStartsSpec).bare.plain.varTypes Tryz.prog) (ds ++ gs)).all (· ≤ reachBytes) = true)
    (hsh : W.ShapedOpen Tryz.prog) :
    Calls Tryz.prog 3 args W fun e W' => ∃ v, e = .returned v ∧ Rows.inflightStartsSpec.post enc Tryz.prog Tryz.f3 false true false false W args v W' := by
  have hW' := hW
  obtain ⟨p, q, hA0, hV, rfl, hfz, hnd⟩ := hW
  have hA : DataW.TrodAll enc Tryz.prog W 0 (fun _ => true) true Tryz.f3.params.toList args.toList ds p := hA0
  rw [Tryz.params3] at hA hval
  obtain ⟨v0, vs0, d0, ds0, p0, q0, hargs, rfl, rfl, h0, r0⟩ := trodAll_cons hA
  obtain ⟨v1, vs1, d1, ds1, p1, q1, rfl, rfl, rfl, h1, r1⟩ := trodAll_cons r0
  obtain ⟨rfl, rfl, rfl⟩ := trodAll_nil r1
  obtain rfl : args = #[v0, v1] := by cases args; simp_all
  obtain ⟨rfl, rfl⟩ := trodVars_none hV
  have h0k := h0
  obtain ⟨L0, A0, c0, xs0, B0, e0, X0, l0, rfl, ok0, hXl0, hnl0, fo0, hXb0⟩ := open_win (hval 0 27 v0 rfl rfl) h0
  have h1k := h1
  obtain ⟨m1, a1, c1, rfl, sl1, ms1⟩ := open_msgO (hval 1 30 v1 rfl rfl) h1
  clear hA0
  simp only [List.append_nil] at hW'
  have hrb := reachBytes_lt
  have hlt : ∀ x ∈ p0 ++ p1, x.block < W.heap.size := fun x hx => by simpa using hW'.lt x (by simpa using hx)
  refine (inflightStarts_walk L0 A0 c0 xs0 B0 e0 X0 l0 m1 a1 c1 W (okw hsh) ok0 hXl0 hnl0 (fun x hx => (fo0 x hx).2) sl1 ms1).mono fun e W' ⟨he, hb⟩ => ?_
  subst he
  have e1 : Rows.inflightStartsSpec.fn H ([d0, d1] ++ []) = { results := [.lit (.bool true)], args := [d0, d1] } := rfl
  refine ⟨_, rfl, _, _, _, [], p0 ++ p1, [], by simpa using hW', ?_, ?_, ?_, hb.frame _, fun h => by cases h⟩
  · exact trodAll_cons_mk (shut_bool Tryz.underlying4 _) trodAll_mk0
  · rw [e1]
    simpa using trodAll_cons_mk (Below.trod laidOutAll (by kernel_rfl) (of_decide_eq_true (by kernel_rfl)) h0k hb (fun x hx => hlt x (by simp [hx]))) (trodAll_cons_mk (Below.trod laidOutAll (by kernel_rfl) (of_decide_eq_true (by kernel_rfl)) h1k hb (fun x hx => hlt x (by simp [hx]))) (trodAll_mk0))
  · rfl

theorem laid_met (os : Os) : laidMet Tryz.prog Rows.inflightStartsRow.laid ((World.laidAll Tryz.prog os Rows.inflightStartsRow.laid).forCall (fun _ _ => 0) ⟨#[], #[.agg #[.int .i64 0, .slice none 0 0, .slice none 0 0, .int .i64 0], .agg #[.string ByteArray.empty, .string ByteArray.empty, .int .i64 0, .bool false, .int .i64 0, .int .i64 0, .string ByteArray.empty, .int .i64 0, .slice none 0 0]], []⟩).memory :=
  laidMet_laidAll _ (by kernel_rfl) (by kernel_rfl)
theorem reads (os : Os) {H : Type} (enc : TypeId × Value → H) : ∃ places, DataW.whole enc Tryz.prog ((World.laidAll Tryz.prog os Rows.inflightStartsRow.laid).forCall (fun _ _ => 0) ⟨#[], #[.agg #[.int .i64 0, .slice none 0 0, .slice none 0 0, .int .i64 0], .agg #[.string ByteArray.empty, .string ByteArray.empty, .int .i64 0, .bool false, .int .i64 0, .int .i64 0, .string ByteArray.empty, .int .i64 0, .slice none 0 0]], []⟩).memory Tryz.f3.params.toList Rows.inflightStartsSpec.vars false #[Value.agg #[.int .i64 0, .slice none 0 0, .slice none 0 0, .int .i64 0], Value.agg #[.string ByteArray.empty, .string ByteArray.empty, .int .i64 0, .bool false, .int .i64 0, .int .i64 0, .string ByteArray.empty, .int .i64 0, .slice none 0 0]].toList 8 = some ([.agg [.lit (.int .i64 0), .nil, .agg [.nil, .lit (.int .i64 0)]], .agg [.lit (.string []), .lit (.string []), .lit (.int .i64 0), .lit (.bool false), .lit (.int .i64 0), .lit (.int .i64 0), .lit (.string []), .lit (.int .i64 0), .nil]], [], places) :=
  ⟨[], by kernel_rfl⟩

set_option maxRecDepth 100000 in
theorem lifted (os : Os) (started : os.Started) (H : Type) (enc : TypeId × Value → H) (F : Stop.Interp) :
    ReturnsInHanded {} Tryz.checked os 3 .any ((OpenSpec.ofChange Rows.inflightStartsSpec).preRow enc Tryz.prog Tryz.f3 Rows.inflightStartsRow.domain false Rows.inflightStartsRow.laid) (((OpenSpec.ofChange Rows.inflightStartsSpec).at F).post enc Tryz.prog Tryz.f3 false true false false) := by
  obtain ⟨places, hx⟩ := reads os enc
  refine returnsInHanded_of_row (C := Tryz.checked) (s := (OpenSpec.ofChange Rows.inflightStartsSpec)) own started (by kernel_rfl) Tryz.func3
    (witness_row_at (enc := enc) (C := Tryz.checked) false (World.laidAll Tryz.prog os Rows.inflightStartsRow.laid) #[.agg #[.int .i64 0, .slice none 0 0, .slice none 0 0, .int .i64 0], .agg #[.string ByteArray.empty, .string ByteArray.empty, .int .i64 0, .bool false, .int .i64 0, .int .i64 0, .string ByteArray.empty, .int .i64 0, .slice none 0 0]] (World.laidAll_os _ _ _) (by kernel_rfl) (by kernel_rfl) (by kernel_rfl)
      (OpenSpec.preRow_of_cond 8 hx (by kernel_rfl) (fun k hk => by cases hk) (by kernel_rfl) (laid_met os))) ?_
  intro W base args ds gs before hval hW _ _ hsz _ hsh _
  exact contract H enc W base args ds gs before hval hW hsz hsh

theorem said : Rows.InflightStartsSaid :=
  OpenClaim.holds_of_cond 3 Tryz.f3 rfl rfl rfl rfl rfl rfl rfl ⟨rfl, rfl, rfl, rfl, rfl⟩ rfl rfl rfl rfl rfl (by kernel_rfl) Tryz.func3 (by kernel_rfl)
    (of_decide_eq_true (by kernel_rfl)) (by unfold Func.isWrapper; first | (rw [if_pos (by decide +kernel)]; kernel_rfl) | (rw [if_neg (by decide +kernel)]; exact ⟨rfl, rfl⟩))
    (fun os started H enc _ F => by rw [OpenClaim.pre_eq_preRow]; exact lifted os started H enc F)

theorem plain (f : FuncId) (fn : Func) (hf : Tryz.pinned.checked.prog.funcNamed "broker/brokerlaw14.InflightStarts" = some f) (hfn : Tryz.pinned.checked.prog.funcs[f]? = some fn) :
    false = Tryz.pinned.checked.prog.looks [] ∧ ∀ (j : Nat) t, fn.params[j]? = some t → Tryz.pinned.checked.prog.wantsStandIn t = false := by
  obtain rfl : f = 3 := Option.some.inj ((show Tryz.prog.funcNamed "broker/brokerlaw14.InflightStarts" = some 3 by kernel_rfl).symm.trans hf) |>.symm
  obtain rfl : fn = Tryz.f3 := (Option.some.inj (Tryz.func3.symm.trans hfn)).symm
  refine ⟨by kernel_rfl, fun j t ht => ?_⟩
  rw [Tryz.params3] at ht
  have hm : t ∈ [27, 30] := by simpa using Array.mem_of_getElem? ht
  simp only [List.mem_cons, List.not_mem_nil, or_false] at hm
  rcases hm with rfl | rfl
  · exact (show Tryz.prog.wantsStandIn 27 = false by kernel_rfl)
  · exact (show Tryz.prog.wantsStandIn 30 = false by kernel_rfl)

theorem card : Rows.InflightStartsCardSaid :=
  Claim7.holds_tied_plain_at .later [] _ _ _ _ said (fun _ h => by cases h) (by kernel_rfl) (fun _ h => by cases h) inflightStarts_row_tie rfl ⟨rfl, rfl⟩ (by kernel_rfl) rfl plain (by kernel_rfl)
end Go.Proofs.YtjpikgphfhjilaaGreatDoor.inflightStarts
