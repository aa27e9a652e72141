/-
  A list of properties that came in, opened for the walks. Conditions: it reads as data.
  A message that came in by value, and bytes that came in, opened for the walks. Conditions: it reads as data.
  A window that came in by value, opened with the sizes of its texts and lists. Conditions: it reads as data.
  Operations of brokerlaw14, and a message, that came in, opened. Conditions: they read as data.
  InflightOnce answers true, walked. Conditions: the window, the message and the operations read as data; the library's bound on short texts holds a number.
  PROVED: InflightOnce answers true for every text (each of its 4 arguments).
  Conditions: those that the row prints (the tables of package unicode/utf8 read as the program's text lays them; each argument has at most 2^47 bytes). The tie of the tables is given, over a pruned copy of the project.
-/
import Derived.Test.YtomlideijhejfaaDoorMsg
import Derived.ProofKit
import Derived.OpenShut
import Derived.SliceStrings
import Derived.SizedLaws
import Derived.Deep.SlicePairs
import Derived.Lib.SmallJoins
import Derived.Test.YtomlideijhejfaaDoorWi
import Derived.Deep.Slices
import Derived.Test.YtomlideijhejfaaDoorVy
import Derived.Test.YtomlideijhejfaaDoorVq
import Derived.Test.YtomlideijhejfaaDoorVw
import Derived.Test.YtomlideijhejfaaDoorVl
import Derived.Test.YtomlideijhejfaaDoorCards
import Derived.Test.YtomlideijhejfaaDoorTie
import Derived.Deep.DeepHandedRow
import Derived.Lib.LaidTab
import Derived.Lay
import Derived.LaidOnce
import Derived.Carry
import Derived.SevenTiedAt
namespace Go.Proofs.YtomlideijhejfaaDoor
open Go.ChangeShapes Go.WideShapes Go.ChangeAt Go.WideMaps Go.WideElems Go.RowKit

theorem laidOutAll : laidOutB Tryd.prog = true := by kernel_rfl
theorem cellsStr : Tryd.prog.cellsOf 9 = 1 := by kernel_rfl
theorem cellsProp : Tryd.prog.cellsOf 107 = 2 := by kernel_rfl
theorem bytesProp : Tryd.prog.bytesOf 107 = 32 := by kernel_rfl
/-- cells behind an address that holds something -/
theorem plain_addr {w : World} {a : Addr} {v : Value} (h : w.cell? (a.add 0) = some v) : ∃ b o, a = ⟨b, o, none⟩ ∧ b < w.heap.size := by
  obtain ⟨b, off, spot⟩ := a
  have hspot : spot = none := by simpa [Addr.add] using World.cell?_spot h
  subst hspot
  refine ⟨b, off, rfl, ?_⟩
  rcases Nat.lt_or_ge b w.heap.size with h' | h'
  · exact h'
  · have : w.heap[b]? = none := Array.getElem?_eq_none h'
    simp [World.cell?, Addr.add, this] at h
theorem add_plain (b o j : Nat) : (⟨b, o + j, none⟩ : Addr) = (⟨b, o, none⟩ : Addr).add j := by
  unfold Addr.add
  split
  · next h => subst h; rfl
  · rfl
/-- a value's text -/
def strV : Value → ByteArray
  | .string s => s
  | _ => ⟨#[]⟩
theorem open_props {H : Type} {enc : TypeId × Value → H} {W : World} {a0 : Option Addr} {len cap fuel : Nat} {x : DataW H × List MemPlace}
    (hf : DataW.trod enc Tryd.prog W 0 (fun _ => true) true fuel 28 [.slice a0 len cap] = some x) :
    ∃ Xs : List PR, Xs.length = len ∧ PL W W.heap.size a0 Xs ∧ len ≤ cap ∧ (len = 0 ∨ ∃ elems spare, x.1 = .slice elems spare ∧ elems.length = len) := by
  rcases Go.Deep.open_slice_pairs Tryd.underlying28 Tryd.underlying107 cellsProp rfl rfl cellsStr cellsStr hf with ⟨hcs, hx⟩ | ⟨a, len', cap', m, n, V0, V1, D0, D1, P0, P1, hcs, _, hl, hm, hmm, hx, hi⟩
  · simp at hcs
    obtain ⟨rfl, rfl, rfl⟩ := hcs
    exact ⟨[], rfl, GL.nil _ _ _, Nat.le_refl _, Or.inl rfl⟩
  · simp at hcs
    obtain ⟨rfl, rfl, rfl⟩ := hcs
    subst hx
    simp only [if_true] at hmm
    refine ⟨(List.range len).map fun i => (strV (V0 i), strV (V1 i)), by simp, fun h0 => ?_, hl, Or.inr ⟨_, _, rfl, by simp⟩⟩
    simp at h0
    obtain ⟨b, o, rfl, hb⟩ := plain_addr (hi 0 (by omega)).1
    refine ⟨b, o, rfl, hb, fun j X i v hX hv => ?_⟩
    rw [List.getElem?_map] at hX
    have hj : j < len := by
      rcases Nat.lt_or_ge j len with h | h
      · exact h
      · rw [List.getElem?_eq_none (by simpa using h)] at hX; cases hX
    rw [List.getElem?_range hj] at hX
    obtain rfl := Option.some.inj hX
    obtain ⟨h1, h2, h3, h4⟩ := hi j (by omega)
    obtain ⟨s0, e0, _⟩ := DataW.trod_string Tryd.underlying9 h3
    obtain ⟨s1, e1, _⟩ := DataW.trod_string Tryd.underlying9 h4
    simp at e0 e1
    rw [e0] at h1
    rw [e1] at h2
    match i, hv with
    | 0, hv =>
      simp [gP, strV, e0] at hv
      rw [Nat.add_zero, add_plain, h1, hv]
    | 1, hv =>
      simp [gP, strV, e1] at hv
      rw [Nat.add_assoc, add_plain, h2, hv]
theorem props_small {H : Type} {ts : List TypeId} {ds : List (DataW H)} (h : (DataW.weightsEach Tryd.prog ts ds).all (· ≤ reachBytes) = true) {j : Nat} (ht : ts[j]? = some 28) {d : DataW H} (hd : ds[j]? = some d)
    {n : Nat} (hs : n = 0 ∨ ∃ elems spare, d = .slice elems spare ∧ elems.length = n) : n ≤ 4398046511104 := by
  rcases hs with h0 | ⟨elems, spare, rfl, rfl⟩
  · omega
  · have hr := reachBytes_lt
    have := sized_slice h ht hd Tryd.underlying28
    rw [bytesProp] at this
    omega

end Go.Proofs.YtomlideijhejfaaDoor
namespace Go.Proofs.YtomlideijhejfaaDoor
open Go.Joins Go.ChangeShapes Go.WideShapes Go.ChangeAt Go.WideMaps Go.WideElems Go.RowKit Go.Deep

theorem cellsMsg : Tryd.prog.cellsOf 30 = 9 := by kernel_rfl
theorem cellsI64 : Tryd.prog.cellsOf 3 = 1 := by kernel_rfl
theorem cellsBool : Tryd.prog.cellsOf 4 = 1 := by kernel_rfl
theorem cellsProps : Tryd.prog.cellsOf 28 = 1 := by kernel_rfl
theorem wf64 {n : Int} (h : (Lit.int .i64 n).wf = true) : -9223372036854775808 ≤ n ∧ n ≤ 9223372036854775807 := by
  have h1 : IntKind.i64.min = -9223372036854775808 := rfl
  have h2 : IntKind.i64.max = 9223372036854775807 := rfl
  simp only [Lit.wf, Bool.and_eq_true, decide_eq_true_eq] at h
  omega
set_option maxRecDepth 100000 in
theorem open_props' {H : Type} {enc : TypeId × Value → H} {W : World} {v : Value} {fuel : Nat} {x : DataW H × List MemPlace}
    (hf : DataW.trod enc Tryd.prog W 0 (fun _ => true) true fuel 28 [v] = some x) :
    ∃ (A : Option Addr) (c : Nat) (Xs : List PR), v = .slice A Xs.length c ∧ PL W W.heap.size A Xs := by
  have h2 := hf
  rcases Go.Deep.open_slice_pairs Tryd.underlying28 Tryd.underlying107 cellsProp rfl rfl cellsStr cellsStr h2 with ⟨hcs, _⟩ | ⟨a, len, cap, m, n, V0, V1, D0, D1, P0, P1, hcs, _⟩
  · simp at hcs
    subst hcs
    exact ⟨none, 0, [], rfl, GL.nil _ _ _⟩
  · simp at hcs
    subst hcs
    obtain ⟨Xs, rfl, hp, _⟩ := open_props hf
    exact ⟨_, _, Xs, rfl, hp⟩
set_option maxRecDepth 100000 in
theorem open_msg {H : Type} {enc : TypeId × Value → H} {W : World} {r : Reach} {b0 : Nat} {v : Value} {d : DataW H} {p : List MemPlace} (hv : Value.okWide Tryd.prog W r b0 30 v)
    (h : DataW.Trod enc Tryd.prog W 0 (fun _ => true) true 30 v d p) : ∃ (m : Msg) (A : Option Addr) (c : Nat), v = msgV m A c ∧ m.fits ∧ PL W W.heap.size A m.props := by
  obtain ⟨cs, rfl, hsz⟩ := okWide_struct Tryd.underlying30 hv
  obtain ⟨fuel, hf⟩ := h
  obtain ⟨l⟩ := cs
  have hl : l.length = 9 := by have := hsz.trans cellsMsg; simpa using this
  match l, hl with
  | [c0, c1, c2, c3, c4, c5, c6, c7, c8], _ =>
    obtain ⟨ys, n, _, _, _, hyl, hfld⟩ := DataW.trod_struct Tryd.underlying30 hf
    match ys, hyl with
    | [y0, y1, y2, y3, y4, y5, y6, y7, y8], _ =>
      have g0 := hfld 0 _ rfl
      have g1 := hfld 1 _ rfl
      have g2 := hfld 2 _ rfl
      have g3 := hfld 3 _ rfl
      have g4 := hfld 4 _ rfl
      have g5 := hfld 5 _ rfl
      have g6 := hfld 6 _ rfl
      have g7 := hfld 7 _ rfl
      have g8 := hfld 8 _ rfl
      simp [Value.cells, cellsStr, cellsI64, cellsBool, cellsProps] at g0 g1 g2 g3 g4 g5 g6 g7 g8
      obtain ⟨s0, e0, _⟩ := DataW.trod_string Tryd.underlying9 (show DataW.trod _ _ _ _ _ _ _ 9 [c0] = some y0 from g0)
      obtain ⟨s1, e1, _⟩ := DataW.trod_string Tryd.underlying9 (show DataW.trod _ _ _ _ _ _ _ 9 [c1] = some y1 from g1)
      obtain ⟨n2, e2, _, w2⟩ := DataW.trod_int Tryd.underlying3 (show DataW.trod _ _ _ _ _ _ _ 3 [c2] = some y2 from g2)
      obtain ⟨b3, e3, _⟩ := DataW.trod_bool Tryd.underlying4 (show DataW.trod _ _ _ _ _ _ _ 4 [c3] = some y3 from g3)
      obtain ⟨n4, e4, _, w4⟩ := DataW.trod_int Tryd.underlying3 (show DataW.trod _ _ _ _ _ _ _ 3 [c4] = some y4 from g4)
      obtain ⟨n5, e5, _, w5⟩ := DataW.trod_int Tryd.underlying3 (show DataW.trod _ _ _ _ _ _ _ 3 [c5] = some y5 from g5)
      obtain ⟨s6, e6, _⟩ := DataW.trod_string Tryd.underlying9 (show DataW.trod _ _ _ _ _ _ _ 9 [c6] = some y6 from g6)
      obtain ⟨n7, e7, _, w7⟩ := DataW.trod_int Tryd.underlying3 (show DataW.trod _ _ _ _ _ _ _ 3 [c7] = some y7 from g7)
      obtain ⟨A, c, Xs, e8, hp⟩ := open_props' (show DataW.trod enc Tryd.prog W 0 (fun _ => true) true n 28 [c8] = some y8 from g8)
      simp only [List.cons.injEq, and_true] at e0 e1 e2 e3 e4 e5 e6 e7
      subst e0 e1 e2 e3 e4 e5 e6 e7 e8
      exact ⟨⟨s0, s1, n2, b3, n4, n5, s6, n7, Xs⟩, A, c, rfl, ⟨wf64 w2, wf64 w4, wf64 w5, wf64 w7⟩, hp⟩

/-! ### Bytes -/
theorem cellsU8 : Tryd.prog.cellsOf 5 = 1 := by kernel_rfl
theorem bytesU8 : Tryd.prog.bytesOf 5 = 1 := by kernel_rfl
theorem u8_wf {n : Int} (h : (Lit.int .u8 n).wf = true) : 0 ≤ n ∧ n < 256 := by
  have h1 : IntKind.u8.min = 0 := rfl
  have h2 : IntKind.u8.max = 255 := rfl
  simp only [Lit.wf, Bool.and_eq_true, decide_eq_true_eq] at h
  omega
end Go.Proofs.YtomlideijhejfaaDoor
namespace Go.Proofs.YtomlideijhejfaaDoor
open Go.Joins Go.ChangeShapes Go.WideShapes Go.ChangeAt Go.WideMaps Go.WideElems Go.RowKit Go.Deep

theorem len_max {n : Nat} (h : n ≤ maxLen) : n ≤ 9223372036854775807 := by unfold maxLen at h; omega
theorem cellsFl : Tryd.prog.cellsOf 71 = 11 := by kernel_rfl
theorem cellsFls : Tryd.prog.cellsOf 22 = 1 := by kernel_rfl
theorem cellsIntsW : Tryd.prog.cellsOf 23 = 1 := by kernel_rfl
theorem cellsPool : Tryd.prog.cellsOf 25 = 2 := by kernel_rfl
theorem cellsWin : Tryd.prog.cellsOf 27 = 4 := by kernel_rfl
/-- texts of an item fit, and its identifier is an int -/
def FlOk (f : Fl) : Prop := (-9223372036854775808 ≤ f.id ∧ f.id ≤ 9223372036854775807) ∧ f.m.topic.size ≤ 9223372036854775807 ∧ f.m.frm.size ≤ 9223372036854775807 ∧ ∀ y ∈ f.m.props, y.1.size ≤ 9223372036854775807
section
variable {H : Type} {enc : TypeId × Value → H} {W : World}
theorem open_propsW {a0 : Option Addr} {len cap fuel : Nat} {x : DataW H × List MemPlace}
    (hf : DataW.trod enc Tryd.prog W 0 (fun _ => true) true fuel 28 [.slice a0 len cap] = some x) :
    ∃ Xs : List PR, Xs.length = len ∧ PL W W.heap.size a0 Xs ∧ ∀ x ∈ Xs, x.1.size ≤ 9223372036854775807 := by
  rcases Go.Deep.open_slice_pairs Tryd.underlying28 Tryd.underlying107 cellsProp rfl rfl cellsStr cellsStr hf with ⟨hcs, hx⟩ | ⟨a, len', cap', m, n, V0, V1, D0, D1, P0, P1, hcs, _, hl, hm, hmm, hx, hi⟩
  · simp at hcs
    obtain ⟨rfl, rfl, rfl⟩ := hcs
    exact ⟨[], rfl, GL.nil _ _ _, fun _ h => by cases h⟩
  · simp at hcs
    obtain ⟨rfl, rfl, rfl⟩ := hcs
    subst hx
    simp only [if_true] at hmm
    refine ⟨(List.range len).map fun i => (strV (V0 i), strV (V1 i)), by simp, fun h0 => ?_, fun X hX => ?_⟩
    rotate_left
    · obtain ⟨i, hi', rfl⟩ := List.mem_map.1 hX
      have hj := List.mem_range.1 hi'
      obtain ⟨_, _, h3, _⟩ := hi i (by omega)
      obtain ⟨s0, e0, _, z0⟩ := DataW.trod_string Tryd.underlying9 h3
      simp at e0
      show (strV (V0 i)).size ≤ _
      rw [e0]
      exact len_max z0
    simp at h0
    obtain ⟨b, o, rfl, hb⟩ := plain_addr (hi 0 (by omega)).1
    refine ⟨b, o, rfl, hb, fun j X i v hX hv => ?_⟩
    rw [List.getElem?_map] at hX
    have hj : j < len := by
      rcases Nat.lt_or_ge j len with h | h
      · exact h
      · rw [List.getElem?_eq_none (by simpa using h)] at hX; cases hX
    rw [List.getElem?_range hj] at hX
    obtain rfl := Option.some.inj hX
    obtain ⟨h1, h2, h3, h4⟩ := hi j (by omega)
    obtain ⟨s0, e0, _⟩ := DataW.trod_string Tryd.underlying9 h3
    obtain ⟨s1, e1, _⟩ := DataW.trod_string Tryd.underlying9 h4
    simp at e0 e1
    rw [e0] at h1
    rw [e1] at h2
    match i, hv with
    | 0, hv =>
      simp [gP, strV, e0] at hv
      rw [Nat.add_zero, add_plain, h1, hv]
    | 1, hv =>
      simp [gP, strV, e1] at hv
      rw [Nat.add_assoc, add_plain, h2, hv]
set_option maxRecDepth 100000 in
theorem open_propsW' {v : Value} {fuel : Nat} {x : DataW H × List MemPlace}
    (hf : DataW.trod enc Tryd.prog W 0 (fun _ => true) true fuel 28 [v] = some x) :
    ∃ (A : Option Addr) (c : Nat) (Xs : List PR), v = .slice A Xs.length c ∧ PL W W.heap.size A Xs ∧ ∀ x ∈ Xs, x.1.size ≤ 9223372036854775807 := by
  have h2 := hf
  rcases Go.Deep.open_slice_pairs Tryd.underlying28 Tryd.underlying107 cellsProp rfl rfl cellsStr cellsStr h2 with ⟨hcs, _⟩ | ⟨a, len, cap, m, n, V0, V1, D0, D1, P0, P1, hcs, _⟩
  · simp at hcs
    subst hcs
    exact ⟨none, 0, [], rfl, GL.nil _ _ _, fun _ h => by cases h⟩
  · simp at hcs
    subst hcs
    obtain ⟨Xs, rfl, hp, hz⟩ := open_propsW hf
    exact ⟨_, _, Xs, rfl, hp, hz⟩
set_option maxRecDepth 100000 in
theorem open_msgcW {fuel : Nat} {cs : List Value} {x : DataW H × List MemPlace} (hf : DataW.trod enc Tryd.prog W 0 (fun _ => true) true fuel 30 cs = some x) :
    ∃ (m : Msg) (A : Option Addr) (c : Nat), cs = msgC m A c ∧ PL W W.heap.size A m.props ∧ (m.topic.size ≤ 9223372036854775807 ∧ m.frm.size ≤ 9223372036854775807 ∧ ∀ y ∈ m.props, y.1.size ≤ 9223372036854775807) := by
  obtain ⟨ys, n, _, _, hl, hyl, hfld⟩ := DataW.trod_struct Tryd.underlying30 hf
  rw [cellsMsg] at hl
  match cs, hl with
  | [c0, c1, c2, c3, c4, c5, c6, c7, c8], _ =>
    match ys, hyl with
    | [y0, y1, y2, y3, y4, y5, y6, y7, y8], _ =>
      have g0 := hfld 0 _ rfl
      have g1 := hfld 1 _ rfl
      have g2 := hfld 2 _ rfl
      have g3 := hfld 3 _ rfl
      have g4 := hfld 4 _ rfl
      have g5 := hfld 5 _ rfl
      have g6 := hfld 6 _ rfl
      have g7 := hfld 7 _ rfl
      have g8 := hfld 8 _ rfl
      simp [cellsStr, cellsI64, cellsBool, cellsProps] at g0 g1 g2 g3 g4 g5 g6 g7 g8
      obtain ⟨v0, e0, _, z0⟩ := DataW.trod_string Tryd.underlying9 (show DataW.trod enc Tryd.prog W 0 (fun _ => true) true n 9 [c0] = some y0 from g0)
      obtain ⟨v1, e1, _⟩ := DataW.trod_string Tryd.underlying9 (show DataW.trod enc Tryd.prog W 0 (fun _ => true) true n 9 [c1] = some y1 from g1)
      obtain ⟨v2, e2, _, _⟩ := DataW.trod_int Tryd.underlying3 (show DataW.trod enc Tryd.prog W 0 (fun _ => true) true n 3 [c2] = some y2 from g2)
      obtain ⟨v3, e3, _⟩ := DataW.trod_bool Tryd.underlying4 (show DataW.trod enc Tryd.prog W 0 (fun _ => true) true n 4 [c3] = some y3 from g3)
      obtain ⟨v4, e4, _, _⟩ := DataW.trod_int Tryd.underlying3 (show DataW.trod enc Tryd.prog W 0 (fun _ => true) true n 3 [c4] = some y4 from g4)
      obtain ⟨v5, e5, _, _⟩ := DataW.trod_int Tryd.underlying3 (show DataW.trod enc Tryd.prog W 0 (fun _ => true) true n 3 [c5] = some y5 from g5)
      obtain ⟨v6, e6, _, z6⟩ := DataW.trod_string Tryd.underlying9 (show DataW.trod enc Tryd.prog W 0 (fun _ => true) true n 9 [c6] = some y6 from g6)
      obtain ⟨v7, e7, _, _⟩ := DataW.trod_int Tryd.underlying3 (show DataW.trod enc Tryd.prog W 0 (fun _ => true) true n 3 [c7] = some y7 from g7)
      obtain ⟨A8, p8, X8, e8, h8, z8⟩ := open_propsW' (show DataW.trod enc Tryd.prog W 0 (fun _ => true) true n 28 [c8] = some y8 from g8)
      simp only [List.cons.injEq, and_true] at e0 e1 e2 e3 e4 e5 e6 e7
      subst e0 e1 e2 e3 e4 e5 e6 e7 e8
      exact ⟨⟨v0, v1, v2, v3, v4, v5, v6, v7, X8⟩, A8, p8, rfl, h8, len_max z0, len_max z6, z8⟩
set_option maxRecDepth 100000 in
theorem open_flc {fuel : Nat} {cs : List Value} {x : DataW H × List MemPlace} (hf : DataW.trod enc Tryd.prog W 0 (fun _ => true) true fuel 71 cs = some x) :
    ∃ X : FE, cs = gF X ∧ PL W W.heap.size X.a X.f.m.props ∧ FlOk X.f := by
  obtain ⟨ys, n, _, _, hl, hyl, hfld⟩ := DataW.trod_struct Tryd.underlying71 hf
  rw [cellsFl] at hl
  match cs, hl with
  | [c0, c1, c2, c3, c4, c5, c6, c7, c8, c9, c10], _ =>
    match ys, hyl with
    | [y0, y1, y2], _ =>
      have g0 := hfld 0 _ rfl
      have g1 := hfld 1 _ rfl
      have g2 := hfld 2 _ rfl
      simp [cellsI64, cellsMsg] at g0 g1 g2
      obtain ⟨v0, e0, _, w0⟩ := DataW.trod_int Tryd.underlying3 (show DataW.trod enc Tryd.prog W 0 (fun _ => true) true n 3 [c0] = some y0 from g0)
      obtain ⟨v1, e1, _, _⟩ := DataW.trod_int Tryd.underlying3 (show DataW.trod enc Tryd.prog W 0 (fun _ => true) true n 3 [c1] = some y1 from g1)
      obtain ⟨m, A, c, e2, h2, z2⟩ := open_msgcW (show DataW.trod enc Tryd.prog W 0 (fun _ => true) true n 30 [c2, c3, c4, c5, c6, c7, c8, c9, c10] = some y2 from g2)
      simp only [List.cons.injEq, and_true] at e0 e1
      subst e0 e1
      exact ⟨⟨⟨v0, v1, m⟩, A, c⟩, by show [Value.int .i64 v0, Value.int .i64 v1] ++ [c2, c3, c4, c5, c6, c7, c8, c9, c10] = _; rw [e2]; rfl, h2, wf64 w0, z2⟩
set_option maxRecDepth 100000 in
theorem open_fls {fuel : Nat} {v : Value} {x : DataW H × List MemPlace} (hf : DataW.trod enc Tryd.prog W 0 (fun _ => true) true fuel 22 [v] = some x) :
    ∃ (A : Option Addr) (c : Nat) (Xs : List FE), v = .slice A Xs.length c ∧ FI W W.heap.size A Xs ∧ Xs.length ≤ c ∧ Xs.length ≤ 9223372036854775807 ∧ ∀ X ∈ Xs, FlOk X.f := by
  rcases open_slice Tryd.underlying22 hf with ⟨hcs, _⟩ | ⟨a, len, cap, m, n, D, Pl, hcs, _, hl, hmx, hmm, _, hi⟩
  · simp at hcs
    subst hcs
    exact ⟨none, 0, [], rfl, FI.nil _ _ _, Nat.le_refl _, by simp, fun _ h => by cases h⟩
  · simp at hcs
    subst hcs
    simp only [if_true] at hmm
    have each : ∀ i : Nat, ∃ X : FE, i < len → (∀ j u, (gF X)[j]? = some u → W.cell? (a.add (i * 11 + j)) = some u) ∧ PL W W.heap.size X.a X.f.m.props ∧ FlOk X.f := fun i => by
      by_cases h : i < len
      · obtain ⟨cs', hc, ht⟩ := hi i (by omega)
        rw [cellsFl] at hc
        obtain ⟨X, rfl, hp, hk⟩ := open_flc ht
        obtain ⟨_, _, hat⟩ := World.cells?_some hc
        refine ⟨X, fun _ => ⟨fun j u hj => ?_, hp, hk⟩⟩
        have hj3 : j < 11 := (List.getElem?_eq_some_iff.1 hj).1
        rw [← Go.Deep.add_add, hat j hj3, hj]
      · exact ⟨FE.zero, fun h' => absurd h' h⟩
    refine ⟨some a, cap, (List.range len).map fun i => Classical.choose (each i), by simp, ⟨fun h0 => ?_, fun X hX => ?_⟩, by simpa using hl, by simp; have := len_max hmx; omega, fun X hX => ?_⟩
    rotate_left
    · obtain ⟨i, hi', rfl⟩ := List.mem_map.1 hX
      exact (Classical.choose_spec (each i) (List.mem_range.1 hi')).2.1
    · obtain ⟨i, hi', rfl⟩ := List.mem_map.1 hX
      exact (Classical.choose_spec (each i) (List.mem_range.1 hi')).2.2
    simp at h0
    obtain ⟨b, o, rfl, hb⟩ := plain_addr (show W.cell? (a.add 0) = some _ from (Classical.choose_spec (each 0) (by omega)).1 0 _ rfl)
    refine ⟨b, o, rfl, hb, fun j X i v hX hv => ?_⟩
    rw [List.getElem?_map] at hX
    have hj : j < len := by
      rcases Nat.lt_or_ge j len with h | h
      · exact h
      · rw [List.getElem?_eq_none (by simpa using h)] at hX; cases hX
    rw [List.getElem?_range hj] at hX
    obtain rfl := Option.some.inj hX
    rw [Nat.add_assoc, add_plain]
    exact (Classical.choose_spec (each j) hj).1 i v hv
set_option maxRecDepth 100000 in
theorem open_numsW {v : Value} {fuel : Nat} {x : DataW H × List MemPlace}
    (hf : DataW.trod enc Tryd.prog W 0 (fun _ => true) true fuel 23 [v] = some x) :
    ∃ (A : Option Addr) (c : Nat) (X : List Int), v = .slice A X.length c ∧ S2.IL W W.heap.size A X ∧ X.length ≤ c ∧ X.length ≤ 9223372036854775807 ∧ ∀ x ∈ X, -9223372036854775808 ≤ x ∧ x ≤ 9223372036854775807 := by
  rcases open_ints Tryd.underlying23 Tryd.underlying3 cellsI64 hf with ⟨hcs, hx⟩ | ⟨a, len', cap', zs, hcs, _, hl, hm, hz, hx, hcell, hwf⟩
  · simp at hcs
    subst hcs
    exact ⟨none, 0, [], rfl, CL.nil _ _ _, Nat.le_refl _, by simp, fun x h => by cases h⟩
  · simp at hcs
    subst hcs
    simp only [if_true] at hz
    have hlen : (zs.take len').length = len' := by rw [List.length_take]; omega
    have hmm : cap' ≤ 9223372036854775807 := by unfold maxLen at hm; omega
    refine ⟨some a, cap', zs.take len', by rw [hlen], fun h0 => ?_, by omega, by omega, fun x hx => wf64 (hwf x (List.mem_of_mem_take hx))⟩
    rw [hlen] at h0
    obtain ⟨b, o, rfl, hb⟩ := plain_addr (hcell 0 (by omega))
    refine ⟨b, o, rfl, hb, fun j X hX => ?_⟩
    have hj : j < len' := by have := (List.getElem?_eq_some_iff.1 hX).1; omega
    rw [List.getElem?_take_of_lt hj] at hX
    rw [add_plain, hcell j (by omega), List.getD_eq_getElem?_getD, hX]
    rfl
set_option maxRecDepth 100000 in
theorem open_poolc {fuel : Nat} {cs : List Value} {x : DataW H × List MemPlace} (hf : DataW.trod enc Tryd.prog W 0 (fun _ => true) true fuel 25 cs = some x) :
    ∃ (A : Option Addr) (c : Nat) (X : List Int) (l : Int), cs = [.slice A X.length c, .int .i64 l] ∧ S2.IL W W.heap.size A X ∧ X.length ≤ c ∧ X.length ≤ 9223372036854775807 ∧ ∀ x ∈ X, -9223372036854775808 ≤ x ∧ x ≤ 9223372036854775807 := by
  obtain ⟨ys, n, _, _, hl, hyl, hfld⟩ := DataW.trod_struct Tryd.underlying25 hf
  rw [cellsPool] at hl
  match cs, hl with
  | [c0, c1], _ =>
    match ys, hyl with
    | [y0, y1], _ =>
      have g0 := hfld 0 _ rfl
      have g1 := hfld 1 _ rfl
      simp [cellsI64, cellsIntsW] at g0 g1
      obtain ⟨A, c, X, e0, h1, h2, h3, h4⟩ := open_numsW (show DataW.trod enc Tryd.prog W 0 (fun _ => true) true n 23 [c0] = some y0 from g0)
      obtain ⟨l, e1, _, _⟩ := DataW.trod_int Tryd.underlying3 (show DataW.trod enc Tryd.prog W 0 (fun _ => true) true n 3 [c1] = some y1 from g1)
      simp only [List.cons.injEq, and_true] at e1
      subst e0 e1
      exact ⟨A, c, X, l, rfl, h1, h2, h3, h4⟩
set_option maxRecDepth 100000 in
theorem open_win {r : Reach} {b0 : Nat} {v : Value} {d : DataW H} {p : List MemPlace} (hv : Value.okWide Tryd.prog W r b0 27 v)
    (h : DataW.Trod enc Tryd.prog W 0 (fun _ => true) true 27 v d p) : ∃ (L : Int) (A : Option Addr) (c : Nat) (xs : List FE) (A2 : Option Addr) (c2 : Nat) (X : List Int) (l : Int),
      v = wv L A c xs A2 c2 X l ∧ WOk W A c xs A2 c2 X ∧ X.length ≤ 9223372036854775807 ∧ xs.length ≤ 9223372036854775807 ∧ (∀ x ∈ xs, FlOk x.f) ∧ ∀ x ∈ X, -9223372036854775808 ≤ x ∧ x ≤ 9223372036854775807 := by
  obtain ⟨cs, rfl, hsz⟩ := okWide_struct Tryd.underlying27 hv
  obtain ⟨fuel, hf⟩ := h
  obtain ⟨l⟩ := cs
  have hl : l.length = 4 := by have := hsz.trans cellsWin; simpa using this
  match l, hl with
  | [c0, c1, c2, c3], _ =>
    obtain ⟨ys, n, _, _, _, hyl, hfld⟩ := DataW.trod_struct Tryd.underlying27 hf
    match ys, hyl with
    | [y0, y1, y2], _ =>
      have g0 := hfld 0 _ rfl
      have g1 := hfld 1 _ rfl
      have g2 := hfld 2 _ rfl
      simp [Value.cells, cellsI64, cellsFls, cellsPool] at g0 g1 g2
      obtain ⟨L, e0, _, _⟩ := DataW.trod_int Tryd.underlying3 (show DataW.trod _ _ _ _ _ _ _ 3 [c0] = some y0 from g0)
      obtain ⟨A, c, xs, e1, h1, h2, h3, h4⟩ := open_fls (show DataW.trod enc Tryd.prog W 0 (fun _ => true) true n 22 [c1] = some y1 from g1)
      obtain ⟨A2, c2', X, l2, e2, k1, k2, k3, k4⟩ := open_poolc (show DataW.trod enc Tryd.prog W 0 (fun _ => true) true n 25 [c2, c3] = some y2 from g2)
      simp only [List.cons.injEq, and_true] at e0 e2
      obtain ⟨e2, e3⟩ := e2
      subst e0 e1 e2 e3
      exact ⟨L, A, c, xs, A2, c2', X, l2, rfl, ⟨h1, h2, k1, k2⟩, k3, h3, h4, k4⟩
end
end Go.Proofs.YtomlideijhejfaaDoor
namespace Go.Proofs.YtomlideijhejfaaDoor
open Go.Joins Go.ChangeShapes Go.WideShapes Go.ChangeAt Go.WideMaps Go.WideElems Go.RowKit Go.Deep

theorem cellsOp : Tryd.prog.cellsOf 77 = 11 := by kernel_rfl
theorem cellsOps : Tryd.prog.cellsOf 31 = 1 := by kernel_rfl
theorem cellsMsgO : Tryd.prog.cellsOf 30 = 9 := by kernel_rfl
/-- the identifier of an operation, which lies in the place of an entry's state, is an int -/
def OpOk (f : Fl) : Prop := -9223372036854775808 ≤ f.st
section
variable {H : Type} {enc : TypeId × Value → H} {W : World}
set_option maxRecDepth 100000 in
theorem open_opc {fuel : Nat} {cs : List Value} {x : DataW H × List MemPlace} (hf : DataW.trod enc Tryd.prog W 0 (fun _ => true) true fuel 77 cs = some x) :
    ∃ X : FE, cs = gF X ∧ PL W W.heap.size X.a X.f.m.props ∧ OpOk X.f := by
  obtain ⟨ys, n, _, _, hl, hyl, hfld⟩ := DataW.trod_struct Tryd.underlying77 hf
  rw [cellsOp] at hl
  match cs, hl with
  | [c0, c1, c2, c3, c4, c5, c6, c7, c8, c9, c10], _ =>
    match ys, hyl with
    | [y0, y1, y2], _ =>
      have g0 := hfld 0 _ rfl
      have g1 := hfld 1 _ rfl
      have g2 := hfld 2 _ rfl
      simp [cellsI64, cellsMsg] at g0 g1 g2
      obtain ⟨v0, e0, _, _⟩ := DataW.trod_int Tryd.underlying3 (show DataW.trod enc Tryd.prog W 0 (fun _ => true) true n 3 [c0] = some y0 from g0)
      obtain ⟨v1, e1, _, w1⟩ := DataW.trod_int Tryd.underlying3 (show DataW.trod enc Tryd.prog W 0 (fun _ => true) true n 3 [c1] = some y1 from g1)
      obtain ⟨m, A, c, e2, h2, _⟩ := open_msgcW (show DataW.trod enc Tryd.prog W 0 (fun _ => true) true n 30 [c2, c3, c4, c5, c6, c7, c8, c9, c10] = some y2 from g2)
      simp only [List.cons.injEq, and_true] at e0 e1
      subst e0 e1
      exact ⟨⟨⟨v0, v1, m⟩, A, c⟩, by show [Value.int .i64 v0, Value.int .i64 v1] ++ [c2, c3, c4, c5, c6, c7, c8, c9, c10] = _; rw [e2]; rfl, h2, (wf64 w1).1⟩
set_option maxRecDepth 100000 in
theorem open_ops14 {fuel : Nat} {v : Value} {x : DataW H × List MemPlace} (hf : DataW.trod enc Tryd.prog W 0 (fun _ => true) true fuel 31 [v] = some x) :
    ∃ (A : Option Addr) (c : Nat) (Xs : List FE), v = .slice A Xs.length c ∧ FI W W.heap.size A Xs ∧ Xs.length ≤ c ∧ Xs.length ≤ 9223372036854775807 ∧ ∀ X ∈ Xs, OpOk X.f := by
  rcases open_slice Tryd.underlying31 hf with ⟨hcs, _⟩ | ⟨a, len, cap, m, n, D, Pl, hcs, _, hl, hmx, hmm, _, hi⟩
  · simp at hcs
    subst hcs
    exact ⟨none, 0, [], rfl, FI.nil _ _ _, Nat.le_refl _, by simp, fun _ h => by cases h⟩
  · simp at hcs
    subst hcs
    simp only [if_true] at hmm
    have each : ∀ i : Nat, ∃ X : FE, i < len → (∀ j u, (gF X)[j]? = some u → W.cell? (a.add (i * 11 + j)) = some u) ∧ PL W W.heap.size X.a X.f.m.props ∧ OpOk X.f := fun i => by
      by_cases h : i < len
      · obtain ⟨cs', hc, ht⟩ := hi i (by omega)
        rw [cellsOp] at hc
        obtain ⟨X, rfl, hp, hk⟩ := open_opc ht
        obtain ⟨_, _, hat⟩ := World.cells?_some hc
        refine ⟨X, fun _ => ⟨fun j u hj => ?_, hp, hk⟩⟩
        have hj3 : j < 11 := (List.getElem?_eq_some_iff.1 hj).1
        rw [← Go.Deep.add_add, hat j hj3, hj]
      · exact ⟨FE.zero, fun h' => absurd h' h⟩
    refine ⟨some a, cap, (List.range len).map fun i => Classical.choose (each i), by simp, ⟨fun h0 => ?_, fun X hX => ?_⟩, by simpa using hl, by simp; have := len_max hmx; omega, fun X hX => ?_⟩
    rotate_left
    · obtain ⟨i, hi', rfl⟩ := List.mem_map.1 hX
      exact (Classical.choose_spec (each i) (List.mem_range.1 hi')).2.1
    · obtain ⟨i, hi', rfl⟩ := List.mem_map.1 hX
      exact (Classical.choose_spec (each i) (List.mem_range.1 hi')).2.2
    simp at h0
    obtain ⟨b, o, rfl, hb⟩ := plain_addr (show W.cell? (a.add 0) = some _ from (Classical.choose_spec (each 0) (by omega)).1 0 _ rfl)
    refine ⟨b, o, rfl, hb, fun j X i v hX hv => ?_⟩
    rw [List.getElem?_map] at hX
    have hj : j < len := by
      rcases Nat.lt_or_ge j len with h | h
      · exact h
      · rw [List.getElem?_eq_none (by simpa using h)] at hX; cases hX
    rw [List.getElem?_range hj] at hX
    obtain rfl := Option.some.inj hX
    rw [Nat.add_assoc, add_plain]
    exact (Classical.choose_spec (each j) hj).1 i v hv
set_option maxRecDepth 100000 in
theorem open_msgO {r : Reach} {b0 : Nat} {v : Value} {d : DataW H} {p : List MemPlace} (hv : Value.okWide Tryd.prog W r b0 30 v)
    (h : DataW.Trod enc Tryd.prog W 0 (fun _ => true) true 30 v d p) : ∃ (m : Msg) (A : Option Addr) (c : Nat), v = .agg (msgC m A c).toArray ∧ PL W W.heap.size A m.props ∧ (m.topic.size ≤ 9223372036854775807 ∧ m.frm.size ≤ 9223372036854775807 ∧ ∀ y ∈ m.props, y.1.size ≤ 9223372036854775807) := by
  obtain ⟨cs, rfl, hsz⟩ := okWide_struct Tryd.underlying30 hv
  obtain ⟨fuel, hf⟩ := h
  obtain ⟨l⟩ := cs
  obtain ⟨m, A, c, rfl, h1, h2⟩ := open_msgcW hf
  exact ⟨m, A, c, rfl, h1, h2⟩
end
end Go.Proofs.YtomlideijhejfaaDoor
namespace Go.Proofs.YtomlideijhejfaaDoor
open Go.RowKit
open S2 (BK Put)

theorem checkR_lev {m : Msg} (h : checkR m = 0) : 0 ≤ m.level ∧ m.level ≤ 2 := by
  unfold checkR at h
  repeat' split at h
  all_goals omega
theorem start_facts {W : PW} {m : Msg} (h : VW W) (h0 : (startR W m).2.2 = 0) : ∃ x0 : Fl, x0.m = m ∧ x0.st = 1 ∧ x0 ∈ (startR W m).1.2.1 ∧ VW (startR W m).1 ∧ (startR W m).2.1 = pubP x0 false ∧ (m.level = 1 ∨ m.level = 2) ∧ m.props.length ≤ 8 := by
  obtain ⟨L, F, X, l⟩ := W
  unfold startR at h0 ⊢
  dsimp only at h0 ⊢
  by_cases h1 : m.level = 0
  · rw [if_pos h1] at h0; simp at h0
  rw [if_neg h1] at h0 ⊢
  by_cases h2 : leftR L F.length = 0
  · rw [if_pos h2] at h0; simp at h0
  rw [if_neg h2] at h0 ⊢
  by_cases h3 : checkR m = 0
  · rw [if_neg (by simpa using h3)]
    have hlv := checkR_lev h3
    exact ⟨⟨S2.tkI X l, 1, m⟩, rfl, rfl, List.mem_append_right _ (List.mem_singleton.2 rfl), vw_start h h1 h2 h3, rfl, by omega, checkR_props h3⟩
  · rw [if_pos h3] at h0
    dsimp only at h0
    omega
theorem handle_ack {W : PW} {x : Fl} {k : Int} (h : VW W) (hx : x ∈ W.2.1) (hk : k = 4 ∨ k = 5 ∨ k = 7) (ha : awaitsR x k = true) :
    handleR W k x.id = if k = 5 then (relR W (posF W.2.1 x.id), [relP x.id], 0) else (remR W (posF W.2.1 x.id), [], 0) := by
  obtain ⟨j, hj⟩ := List.mem_iff_getElem?.1 hx
  unfold handleR
  rw [if_neg (by omega), if_neg (by rw [posF_nd h.nd hj, mayR_at hj, ha]; decide)]
/-- an acknowledgement -/
def ackQ (k n : Int) : Pkt := { Pkt.zero with kind := k, id := n }
theorem ack_any (k : Int) (L : Int) (A : Option Addr) (c : Nat) (xs : List FE) (A2 : Option Addr) (c2 : Nat) (X : List Int) (l : Int) (x0 : Fl) (hv : VW (L, xs.map FE.f, X, l)) (hx : x0 ∈ xs.map FE.f) (hk : k = 4 ∨ k = 5 ∨ k = 7) (ha : awaitsR x0 k = true) (w : World) (hw : WOk w A c xs A2 c2 X) :
    Calls Tryd.prog 15 #[wv L A c xs A2 c2 X l, .agg (pkC (ackQ k x0.id) PA.zero).toArray] w fun e w' => ∃ L' A' c' ys B' d' X' l' A3 c3, ∃ n3 : Nat, e = .returned (.tuple #[wv L' A' c' ys B' d' X' l', .slice A3 n3 c3, .int .i64 0]) ∧ VW (L', ys.map FE.f, X', l') ∧ (if k = 5 then { x0 with st := 2 } ∈ ys.map FE.f else ∀ y ∈ ys.map FE.f, y.id ≠ x0.id) ∧ WOk w' A' c' ys B' d' X' ∧ (∀ g, g < w.heap.size → OffG g A' ys B' X') ∧ Below w.heap.size w w' := by
  obtain ⟨v1, v2, v3, v4, v5, v6⟩ := hv.facts
  have h := handle_any L A c xs A2 c2 X l (ackQ k x0.id) PA.zero w hw (by omega) v5 v3 v6
  have h1 : handleR (L, xs.map FE.f, X, l) (ackQ k x0.id).kind (ackQ k x0.id).id = handleR (L, xs.map FE.f, X, l) k x0.id := rfl
  rw [h1] at h
  by_cases h5 : k = 5
  · have e0 : handleR (L, xs.map FE.f, X, l) k x0.id = (relR (L, xs.map FE.f, X, l) (posF (xs.map FE.f) x0.id), [relP x0.id], 0) := by rw [handle_ack hv hx hk ha, if_pos h5]
    have hv2 := vw_handle (k := k) (n := x0.id) hv (by rw [e0])
    rw [e0] at h hv2
    have hit := rel_item hv hx
    refine h.mono ?_
    rintro e w' ⟨A', c', ys, B', d', A3, c3, ks, rfl, hys, hok, hnew, hks, _, hb⟩
    exact ⟨_, A', c', ys, B', d', _, _, A3, c3, ks.length, rfl, by rw [hys]; exact hv2, by rw [if_pos h5, hys]; exact hit, hok, fun g hg => off_new hnew hg, hb⟩
  · have e0 : handleR (L, xs.map FE.f, X, l) k x0.id = (remR (L, xs.map FE.f, X, l) (posF (xs.map FE.f) x0.id), [], 0) := by rw [handle_ack hv hx hk ha, if_neg h5]
    have hv2 := vw_handle (k := k) (n := x0.id) hv (by rw [e0])
    rw [e0] at h hv2
    have hgo := gone_rem hv hx
    refine h.mono ?_
    rintro e w' ⟨A', c', ys, B', d', A3, c3, ks, rfl, hys, hok, hnew, hks, _, hb⟩
    exact ⟨_, A', c', ys, B', d', _, _, A3, c3, ks.length, rfl, by rw [hys]; exact hv2, by rw [if_neg h5, hys]; exact hgo, hok, fun g hg => off_new hnew hg, hb⟩
theorem begin_any (L : Int) (A : Option Addr) (c : Nat) (xs : List FE) (A2 : Option Addr) (c2 : Nat) (X : List Int) (l : Int) (m : Msg) (am : Option Addr) (cm : Nat) (hv : VW (L, xs.map FE.f, X, l)) (h0 : (startR (L, xs.map FE.f, X, l) m).2.2 = 0) (w : World) (hok : S1.Okw w) (hw : WOk w A c xs A2 c2 X) (hm : PL w w.heap.size am m.props) :
    Calls Tryd.prog 9 #[wv L A c xs A2 c2 X l, .agg (msgC m am cm).toArray] w fun e w' => ∃ (x0 : Fl) (L' : Int) (A' : Option Addr) (c' : Nat) (ys : List FE) (B' : Option Addr) (d' : Nat) (X' : List Int) (l' : Int) (a3 : Option Addr) (c3 : Nat), e = .returned (.tuple #[wv L' A' c' ys B' d' X' l', .agg (pkC (pubP x0 false) (pubA a3 c3)).toArray, .int .i64 0]) ∧ (x0.m = m ∧ x0.st = 1) ∧ VW (L', ys.map FE.f, X', l') ∧ x0 ∈ ys.map FE.f ∧ WOk w' A' c' ys B' d' X' ∧ (∀ g, g < w.heap.size → OffG g A' ys B' X') ∧ Below w.heap.size w w' := by
  obtain ⟨v1, v2, v3, v4, v5, v6⟩ := hv.facts
  obtain ⟨x0, g1, g2, g3, g4, g5, _, _⟩ := start_facts hv h0
  refine (start_any L A c xs A2 c2 X l m am cm w hok hw hm v1.1 v1.2 v2 v5 v3 v4).mono ?_
  rintro e w' ⟨A', c', ys, B', d', a3, c3, rfl, hys, hwk, hnew, _, _, hb⟩
  refine ⟨x0, _, A', c', ys, B', d', _, _, a3, c3, by rw [g5, h0]; rfl, ⟨g1, g2⟩, ?_, ?_, hwk, fun g hg => off_new hnew hg, hb⟩
  · rw [hys]; exact g4
  · rw [hys]; exact g3
theorem resend1_any (L : Int) (A : Option Addr) (c : Nat) (xs : List FE) (A2 : Option Addr) (c2 : Nat) (X : List Int) (l : Int) (hv : VW (L, xs.map FE.f, X, l)) (w : World) (hw : WOk w A c xs A2 c2 X) :
    Calls Tryd.prog 11 #[wv L A c xs A2 c2 X l] w fun e w' => ∃ D d ks, e = .returned (.slice D ks.length d) ∧ (ks.map Prod.fst = (xs.map FE.f).map againP ∧ ks.length ≤ 100000) ∧ KS w' w'.heap.size D ks ∧ Below w.heap.size w w' := by
  obtain ⟨v1, v2, v3, v4, v5, v6⟩ := hv.facts
  refine (resend_any L A c xs A2 c2 X l w hw.1 (by omega) v5).mono ?_
  rintro e w' ⟨D, d, ks, rfl, hks, hs, _, hb⟩
  have hl := congrArg List.length hks
  simp only [List.length_map] at hl
  exact ⟨D, d, ks, rfl, ⟨hks, by omega⟩, hs, hb⟩
theorem sent1_any (D : Option Addr) (d : Nat) (ks : List (Pkt × PA)) (F : List Fl) (kd n : Int) (v : Nat) (hk : ks.map Prod.fst = F.map againP) (hl : ks.length ≤ 100000) (hv : sentR (F.map againP) kd n = v) (w : World) (h1 : KS w w.heap.size D ks) :
    Calls Tryd.prog 13 #[.slice D ks.length d, .int .i64 kd, .int .i64 n] w fun e w' => e = .returned (.int .i64 (v : Int)) ∧ Below w.heap.size w w' := by
  refine (sent_any D d ks kd n w h1 hl).mono ?_
  rintro e w' ⟨rfl, rfl⟩
  exact ⟨by rw [hk, hv], Below.refl _ _⟩
theorem sent_is {L : Int} {F : List Fl} {X : List Int} {l : Int} {x : Fl} (k : Int) (h : VW (L, F, X, l)) (hx : x ∈ F) : sentR (F.map againP) k x.id = if kdP x = k then 1 else 0 := sent_nd k h.nd x hx
theorem load_pmsg {w : World} {b o : Nat} {y : Pkt × PA} {x : Fl} {m : Msg} {d : Bool} (hy : y.1 = pubP x d) (hm : x.m = m) (hc : ∀ j v, (gK y)[j]? = some v → w.cell? ⟨b, o + j, none⟩ = some v) : (loadVar 30 ⟨b, o + 3, none⟩).run Tryd.prog w = .ok (msgV m y.2.m y.2.mc) w :=
  run_load_cells w b (o + 3) (msgC m y.2.m y.2.mc) 30 _ (fun i v hv => by
    rw [Nat.add_assoc]
    refine hc (3 + i) v ?_
    obtain ⟨p, a⟩ := y
    dsimp only at hy hv ⊢
    subst hy hm
    have e : msgC x.m a.m a.mc = ((gK (pubP x d, a)).drop 3).take 9 := rfl
    rw [e, List.getElem?_take] at hv
    split at hv
    · rwa [List.getElem?_drop] at hv
    · cases hv) Tryd.underlying30 rfl msgSize
theorem msgc2 (m : Msg) (a : Option Addr) (c : Nat) : (msgC m a c)[2]? = some (.int .i64 m.level) := rfl
theorem zwnew (w : World) : BK 40 ((w.alloc (.cells (wcs 0 none 0 [] none 0 [] 0).toArray 27)).alloc (.cells zeroPk.toArray 40)) (w.heap.size + 1) zeroPk := by
  have h := BK.new (w.alloc (.cells (wcs 0 none 0 [] none 0 [] 0).toArray 27)) 40 zeroPk
  rw [show (w.alloc (.cells (wcs 0 none 0 [] none 0 [] 0).toArray 27)).heap.size = w.heap.size + 1 by simp] at h
  exact h
theorem zpk1 (w : World) : BK 40 (w.alloc (.cells zeroPk.toArray 40)) w.heap.size zeroPk := BK.new w _ _

set_option maxRecDepth 50000 in
set_option maxHeartbeats 32000000 in
theorem inflightOnce_walk (L : Int) (A : Option Addr) (c : Nat) (xs : List FE) (A2 : Option Addr) (c2 : Nat) (X : List Int) (l : Int) (m : Msg) (am : Option Addr) (cm : Nat) (Ap : Option Addr) (cp : Nat) (ps : List FE) (Aq : Option Addr) (cq : Nat) (qs : List FE) (w : World) (hok : S1.Okw w) (hw : WOk w A c xs A2 c2 X) (hXl : X.length ≤ 9223372036854775807) (hnl : xs.length ≤ 9223372036854775807)
    (ht : ∀ x ∈ xs, x.f.m.topic.size ≤ 9223372036854775807 ∧ x.f.m.frm.size ≤ 9223372036854775807 ∧ ∀ y ∈ x.f.m.props, y.1.size ≤ 9223372036854775807)
    (hm : PL w w.heap.size am m.props) (hmt : m.topic.size ≤ 9223372036854775807 ∧ m.frm.size ≤ 9223372036854775807 ∧ ∀ y ∈ m.props, y.1.size ≤ 9223372036854775807)
    (hp : FI w w.heap.size Ap ps) (hps : ∀ o ∈ ps, -9223372036854775808 ≤ o.f.st) (hq : FI w w.heap.size Aq qs) (hqs : ∀ o ∈ qs, -9223372036854775808 ≤ o.f.st) :
    Calls Tryd.prog 3 #[wv L A c xs A2 c2 X l, .agg (msgC m am cm).toArray, .slice Ap ps.length cp, .slice Aq qs.length cq] w fun e w' => e = .returned (.bool true) ∧ Below w.heap.size w w' := by
  have HC2 : Hid (∀ w1, WOk w1 A c xs A2 c2 X → Calls Tryd.prog 6 #[wv L A c xs A2 c2 X l] w1 fun e w' => e = .returned (.int .i64 (winR (L, xs.map FE.f, X, l))) ∧ Below w1.heap.size w1 w') := Lib.hid (fun w1 h => rwcheck_any L A c xs A2 c2 X l w1 h hXl hnl ht)
  have HA := Lib.hid (fun w1 ho => awake14_any w1 ho)
  have HWK := Lib.hid hw
  have HOK := Lib.hid hok
  have HPL := Lib.hid hm
  have HPS := Lib.hid hps
  have HQS := Lib.hid hqs
  have HFP := Lib.hid hp
  have HFQ := Lib.hid hq
  have HMT := Lib.hid hmt
  have HO0 := Lib.hid (fun g hg => hw.off (g := g) hg)
  clear hok hw hXl hnl ht hm hmt hp hps hq hqs
  by_cases hz : winR (L, xs.map FE.f, X, l) = 0
  case neg =>
    have q1 : (winR (L, xs.map FE.f, X, l) != 0) = true := by simp [hz]
    generalize winR (L, xs.map FE.f, X, l) = z at HC2 q1
    clear hz
    go_enter Tryd.func3, Tryd.ntmps3
    go_upto_region 1 with fail
    refine name_world (C := fun w1 => Code.wp _ _ _ _ w1) ((w.alloc (.cells (wcs L A c xs A2 c2 X l).toArray 27)).alloc (.cells (msgC m am cm).toArray 30)) ?_
    intro w1 hw1
    obtain ⟨hB0, t1, t2⟩ := two hw1
    have T_w1 : Hid (BK 27 w1 w.heap.size (wcs L A c xs A2 c2 X l)) := Lib.hid t1
    have K_w1 : Hid (BK 30 w1 (w.heap.size + 1) (msgC m am cm)) := Lib.hid t2
    have B_w1 : Hid (Below w.heap.size w w1) := Lib.hid hB0
    clear hw1 t1 t2 hB0
    go_wp2_with first
      | (refine wpList_load_v (by rfl) 27 (.tmp 4) rfl ⟨w.heap.size, 0, none⟩ rfl (wv L A c xs A2 c2 X l) (S2.run_load_all T_w1.out Tryd.underlying27 rfl winSize) ?_)
    refine (HC2.out w1 (HWK.out.step B_w1.out)).mono ?_
    rintro e v1 ⟨rfl, hb⟩
    have T_v1 : Hid (BK 27 v1 w.heap.size (wcs L A c xs A2 c2 X l)) := Lib.hid (T_w1.out.step hb)
    have K_v1 : Hid (BK 30 v1 (w.heap.size + 1) (msgC m am cm)) := Lib.hid (K_w1.out.step hb)
    have B_v1 : Hid (Below w.heap.size w v1) := Lib.hid (stepB B_w1.out hb)
    clear T_w1 K_w1 B_w1
    clear hb
    go_wp2_with fail
    refine (HA.out v1 (HOK.out.step B_v1.out)).mono ?_
    rintro e v2 ⟨rfl, hb⟩
    have T_v2 : Hid (BK 27 v2 w.heap.size (wcs L A c xs A2 c2 X l)) := Lib.hid (T_v1.out.step hb)
    have K_v2 : Hid (BK 30 v2 (w.heap.size + 1) (msgC m am cm)) := Lib.hid (K_v1.out.step hb)
    have B_v2 : Hid (Below w.heap.size w v2) := Lib.hid (stepB B_v1.out hb)
    clear T_v1 K_v1 B_v1
    clear hb
    go_wp2_with fail
    go_ret
    exact ⟨rfl, B_v2.out⟩
  have hv := win_iff.1 hz
  have HV := Lib.hid hv
  obtain ⟨v1, v2, v3, v4, v5, v6⟩ := hv.facts
  have HRS := Lib.hid (fun w1 h1 h2 => rstart_any L A c xs A2 c2 X l m am cm w1 h1 h2 HMT.out v1.1 v1.2 v2 v3 v4)
  obtain ⟨r, hr⟩ : ∃ r, startR (L, xs.map FE.f, X, l) m = r := ⟨_, rfl⟩
  have HST : Hid (r.2.2 = 0 → ∀ w1, S1.Okw w1 → WOk w1 A c xs A2 c2 X → PL w1 w1.heap.size am m.props → _) := Lib.hid (fun h0 => begin_any L A c xs A2 c2 X l m am cm hv (by rw [hr]; exact h0))
  have HFA : Hid (r.2.2 = 0 → (m.level = 1 ∨ m.level = 2) ∧ m.props.length ≤ 8) := Lib.hid (fun h0 => by
    obtain ⟨_, _, _, _, _, _, g6, g7⟩ := start_facts hv (m := m) (by rw [hr]; exact h0)
    exact ⟨g6, g7⟩)
  rw [hr] at HRS
  rw [hz] at HC2
  have q1 : ((0 : Int) != 0) = false := rfl
  clear hz hv hr v1 v2 v3 v4 v5 v6 HMT
  unfold msgV at HRS
  go_enter Tryd.func3, Tryd.ntmps3
  go_upto_region 1 with fail
  refine name_world (C := fun w1 => Code.wp _ _ _ _ w1) ((w.alloc (.cells (wcs L A c xs A2 c2 X l).toArray 27)).alloc (.cells (msgC m am cm).toArray 30)) ?_
  intro w1 hw1
  obtain ⟨hB0, t1, t2⟩ := two hw1
  have T_w1 : Hid (BK 27 w1 w.heap.size (wcs L A c xs A2 c2 X l)) := Lib.hid t1
  have K_w1 : Hid (BK 30 w1 (w.heap.size + 1) (msgC m am cm)) := Lib.hid t2
  have B_w1 : Hid (Below w.heap.size w w1) := Lib.hid hB0
  clear hw1 t1 t2 hB0
  go_wp2_with first
    | (refine wpList_load_v (by rfl) 27 (.tmp 4) rfl ⟨w.heap.size, 0, none⟩ rfl (wv L A c xs A2 c2 X l) (S2.run_load_all T_w1.out Tryd.underlying27 rfl winSize) ?_)
  refine (HC2.out w1 (HWK.out.step B_w1.out)).mono ?_
  rintro e v1 ⟨rfl, hb⟩
  have T_v1 : Hid (BK 27 v1 w.heap.size (wcs L A c xs A2 c2 X l)) := Lib.hid (T_w1.out.step hb)
  have K_v1 : Hid (BK 30 v1 (w.heap.size + 1) (msgC m am cm)) := Lib.hid (K_w1.out.step hb)
  have B_v1 : Hid (Below w.heap.size w v1) := Lib.hid (stepB B_w1.out hb)
  clear T_w1 K_w1 B_w1
  clear hb
  clear HC2
  go_wp2_with first
    | (refine wpList_load_v (by rfl) 27 (.tmp 4) rfl ⟨w.heap.size, 0, none⟩ rfl (wv L A c xs A2 c2 X l) (S2.run_load_all T_v1.out Tryd.underlying27 rfl winSize) ?_)
    | (refine wpList_load_v (by rfl) 30 (.tmp 5) rfl ⟨(w.heap.size + 1), 0, none⟩ rfl (.agg (msgC m am cm).toArray) (S2.run_load_all K_v1.out Tryd.underlying30 rfl msgSize) ?_)
  refine (HRS.out v1 (HWK.out.step B_v1.out) (GL.step HPL.out B_v1.out)).mono ?_
  rintro e v2 ⟨A3, c3, ys, A4, c4, a5, c5, rfl, _, _, _, hb⟩
  have T_v2 : Hid (BK 27 v2 w.heap.size (wcs L A c xs A2 c2 X l)) := Lib.hid (T_v1.out.step hb)
  have K_v2 : Hid (BK 30 v2 (w.heap.size + 1) (msgC m am cm)) := Lib.hid (K_v1.out.step hb)
  have B_v2 : Hid (Below w.heap.size w v2) := Lib.hid (stepB B_v1.out hb)
  clear T_v1 K_v1 B_v1
  clear hb
  clear HRS
  have ZaT : Hid (w.heap.size < v2.heap.size) := Lib.hid T_v2.out.lt
  have ZaK : Hid ((w.heap.size + 1) < v2.heap.size) := Lib.hid K_v2.out.lt
  have ZaB : Hid (w.heap.size ≤ v2.heap.size) := Lib.hid B_v2.out.size
  go_upto_region 4 with first
    | (refine S2.wpList_store_all (by rfl) 27 (.tmp 9) (.tmp 25) rfl rfl (v2.heap.size) rfl (wcs r.1.1 A3 c3 ys A4 c4 r.1.2.2.1 r.1.2.2.2) rfl 27 (wcs 0 none 0 [] none 0 [] 0) (BK.alloc (BK.new v2 _ _) _) winSize rfl (ones rfl) ?_; intro v3 hM hP; have hb : Below v2.heap.size v2 v3 := hP.below (stepB (S2.below_new v2 _) (S2.below_new _ _)) (Nat.le_refl _); have T_v3 : Hid (BK 27 v3 w.heap.size (wcs L A c xs A2 c2 X l)) := Lib.hid (T_v2.out.step hb); have K_v3 : Hid (BK 30 v3 (w.heap.size + 1) (msgC m am cm)) := Lib.hid (K_v2.out.step hb); have B_v3 : Hid (Below w.heap.size w v3) := Lib.hid (stepB B_v2.out hb); have V_v3 : Hid (BK 27 v3 (v2.heap.size) (wcs r.1.1 A3 c3 ys A4 c4 r.1.2.2.1 r.1.2.2.2)) := Lib.hid hM; have R_v3 : Hid (BK 40 v3 (v2.heap.size + 1) zeroPk) := Lib.hid (hP.other (zwnew v2) (by omega)); clear hM hP hb T_v2 K_v2 B_v2)
    | (refine S2.wpList_store_all (by rfl) 40 (.tmp 10) (.tmp 26) rfl rfl ((v2.heap.size + 1)) rfl (pkC r.2.1 (pubA a5 c5)) rfl 40 zeroPk R_v3.out pktSize rfl (ones rfl) ?_; intro v4 hM hP; have R_v4 : Hid (BK 40 v4 ((v2.heap.size + 1)) (pkC r.2.1 (pubA a5 c5))) := Lib.hid hM; have T_v4 : Hid (BK 27 v4 w.heap.size (wcs L A c xs A2 c2 X l)) := Lib.hid (hP.other T_v3.out (by have := ZaT.out; omega)); have K_v4 : Hid (BK 30 v4 (w.heap.size + 1) (msgC m am cm)) := Lib.hid (hP.other K_v3.out (by have := ZaK.out; omega)); have B_v4 : Hid (Below w.heap.size w v4) := Lib.hid (hP.below B_v3.out (by have := ZaB.out; omega)); have V_v4 : Hid (BK 27 v4 (v2.heap.size) (wcs r.1.1 A3 c3 ys A4 c4 r.1.2.2.1 r.1.2.2.2)) := Lib.hid (hP.other V_v3.out (by omega)); clear hM hP T_v3 K_v3 B_v3 V_v3 R_v3)
  by_cases hz : r.2.2 = 0
  case neg =>
    have q2 : (r.2.2 != 0) = true := by simp [hz]
    clear hz HST HFA
    go_wp2_with fail
    refine (HA.out v4 (HOK.out.step B_v4.out)).mono ?_
    rintro e v55 ⟨rfl, hb⟩
    have T_v55 : Hid (BK 27 v55 w.heap.size (wcs L A c xs A2 c2 X l)) := Lib.hid (T_v4.out.step hb)
    have K_v55 : Hid (BK 30 v55 (w.heap.size + 1) (msgC m am cm)) := Lib.hid (K_v4.out.step hb)
    have B_v55 : Hid (Below w.heap.size w v55) := Lib.hid (stepB B_v4.out hb)
    have V_v55 : Hid (BK 27 v55 (v2.heap.size) (wcs r.1.1 A3 c3 ys A4 c4 r.1.2.2.1 r.1.2.2.2)) := Lib.hid (V_v4.out.step hb)
    have R_v55 : Hid (BK 40 v55 ((v2.heap.size + 1)) (pkC r.2.1 (pubA a5 c5))) := Lib.hid (R_v4.out.step hb)
    clear T_v4 K_v4 B_v4 V_v4 R_v4
    clear hb
    go_wp2_with fail
    go_ret
    exact ⟨rfl, B_v55.out⟩
  have HBG := Lib.hid (HST.out hz)
  obtain ⟨hlev, hpl8⟩ := HFA.out hz
  have HLV := Lib.hid hlev
  have HPL8 := Lib.hid hpl8
  rw [hz]
  clear hz HST HFA hlev hpl8 V_v4 R_v4
  go_wp2_with first
    | (refine wpList_load_v (by rfl) 27 (.tmp 4) rfl ⟨w.heap.size, 0, none⟩ rfl (wv L A c xs A2 c2 X l) (S2.run_load_all T_v4.out Tryd.underlying27 rfl winSize) ?_)
    | (refine wpList_load_v (by rfl) 30 (.tmp 5) rfl ⟨(w.heap.size + 1), 0, none⟩ rfl (.agg (msgC m am cm).toArray) (S2.run_load_all K_v4.out Tryd.underlying30 rfl msgSize) ?_)
  have HZ1 : Hid (w.heap.size < v4.heap.size) := Lib.hid T_v4.out.lt
  refine (HBG.out v4 (HOK.out.step B_v4.out) (HWK.out.step B_v4.out) (GL.step HPL.out B_v4.out)).mono ?_
  rintro e v5 ⟨x0, L1, A1, d1, x1, B1, e1, X1, l1, a6, c6, rfl, hx0, hv1, hin1, hw1, hof1, hb⟩
  have T_v5 : Hid (BK 27 v5 w.heap.size (wcs L A c xs A2 c2 X l)) := Lib.hid (T_v4.out.step hb)
  have K_v5 : Hid (BK 30 v5 (w.heap.size + 1) (msgC m am cm)) := Lib.hid (K_v4.out.step hb)
  have B_v5 : Hid (Below w.heap.size w v5) := Lib.hid (stepB B_v4.out hb)
  clear T_v4 K_v4 B_v4
  clear hb
  have O_v5 : Hid (WOk v5 A1 d1 x1 B1 e1 X1) := Lib.hid (hw1)
  have HO1 : Hid (OffG w.heap.size A1 x1 B1 X1) := Lib.hid (hof1 _ (by have := HZ1.out; omega))
  have HV1 := Lib.hid hv1
  have HX1 := Lib.hid hin1
  have HMM := Lib.hid hx0.1
  have HS1 := Lib.hid hx0.2
  clear hx0 hv1 hin1 hw1 hof1 HBG
  have HG12 : Hid (w.heap.size + 1 < v5.heap.size) := Lib.hid K_v5.out.lt
  have HO12 : Hid (OffG v5.heap.size A1 x1 B1 X1) := Lib.hid (O_v5.out.off (Nat.le_refl _))
  go_wp2_with first
    | (refine S2.wpList_store_all (by rfl) 27 (.tmp 4) (.tmp 35) rfl rfl w.heap.size rfl (wcs L1 A1 d1 x1 B1 e1 X1 l1) rfl 27 (wcs L A c xs A2 c2 X l) (BK.alloc T_v5.out _) winSize rfl (ones rfl) ?_; intro hx hM hP; have T_hx : Hid (BK 27 hx w.heap.size (wcs L1 A1 d1 x1 B1 e1 X1 l1)) := Lib.hid hM; have K_hx : Hid (BK 30 hx (w.heap.size + 1) (msgC m am cm)) := Lib.hid (hP.other (BK.alloc K_v5.out _) (by omega)); have Z_hx : Hid (BK 40 hx v5.heap.size zeroPk) := Lib.hid (hP.other (zpk1 v5) (by have := HG12.out; omega)); have B_hx : Hid (Below w.heap.size w hx) := Lib.hid (hP.below (stepB B_v5.out (S2.below_new v5 _)) (Nat.le_refl _)); have O_hx := Lib.hid (wok_putA (O_v5.out.step (S2.below_new v5 _)) hP HO1.out); clear hM hP)
    | (refine S2.wpList_store_all (by rfl) 40 (.tmp 12) (.tmp 36) rfl rfl v5.heap.size rfl (pkC (pubP x0 false) (pubA a6 c6)) rfl 40 zeroPk Z_hx.out pktSize rfl (ones rfl) ?_; intro hz hM hP; have T_hz : Hid (BK 27 hz w.heap.size (wcs L1 A1 d1 x1 B1 e1 X1 l1)) := Lib.hid (hP.other T_hx.out (by have := HG12.out; omega)); have K_hz : Hid (BK 30 hz (w.heap.size + 1) (msgC m am cm)) := Lib.hid (hP.other K_hx.out (by have := HG12.out; omega)); have B_hz : Hid (Below w.heap.size w hz) := Lib.hid (hP.below B_hx.out (by have := HG12.out; omega)); have O_hz := Lib.hid (wok_putA O_hx.out hP HO12.out); have did : hz.cell? ⟨v5.heap.size, 1, none⟩ = some (.int .i64 x0.id) := hM.cell 1 (pk1 (pubP x0 false) (pubA a6 c6)); clear hM hP)
    | (refine wpList_load_v (by rfl) 27 (.tmp 4) rfl ⟨w.heap.size, 0, none⟩ rfl (wv L1 A1 d1 x1 B1 e1 X1 l1) (S2.run_load_all T_hz.out Tryd.underlying27 rfl winSize) ?_)
  go_wp2_with fail
  have HZ2 : Hid (w.heap.size < hz.heap.size) := Lib.hid T_hz.out.lt
  refine (others_any (fun g => g = w.heap.size) L1 A1 d1 x1 B1 e1 X1 l1 (x0).id Ap cp ps (x0) hz (HOK.out.step B_hz.out) O_hz.out HV1.out (HFP.out.step B_hz.out) HPS.out HX1.out rfl (fun g _ e => by rw [e]; exact HO1.out)).mono ?_
  rintro e v6 ⟨L2, A7, d2, x2, B2, e2, X2, l2, rfl, hv9, hx9, hw9, hb, hf9⟩
  have T_v6 : Hid (BK 27 v6 w.heap.size (wcs L1 A1 d1 x1 B1 e1 X1 l1)) := Lib.hid (T_hz.out.step hb)
  have K_v6 : Hid (BK 30 v6 (w.heap.size + 1) (msgC m am cm)) := Lib.hid (K_hz.out.step hb)
  have B_v6 : Hid (Below w.heap.size w v6) := Lib.hid (stepB B_hz.out hb)
  have O_v6 : Hid (WOk v6 A1 d1 x1 B1 e1 X1) := Lib.hid (WOk.step O_hz.out hb)
  clear T_hz K_hz B_hz O_hz
  clear hb
  have N_v6 : Hid (WOk v6 A7 d2 x2 B2 e2 X2) := Lib.hid (hw9)
  have HO2 : Hid (OffG w.heap.size A7 x2 B2 X2) := Lib.hid (hf9 _ (by have := HZ2.out; omega) rfl)
  have HV2 := Lib.hid hv9
  have HX2 := Lib.hid hx9
  clear hv9 hx9 hw9 hf9
  clear O_v6
  go_wp2_with first
    | (refine S2.wpList_store_all (by rfl) 27 (.tmp 4) (.tmp 45) rfl rfl (w.heap.size) rfl (wcs L2 A7 d2 x2 B2 e2 X2 l2) rfl 27 (wcs L1 A1 d1 x1 B1 e1 X1 l1) T_v6.out winSize rfl (ones rfl) ?_; intro v7 hM hP; have T_v7 : Hid (BK 27 v7 (w.heap.size) (wcs L2 A7 d2 x2 B2 e2 X2 l2)) := Lib.hid hM; have K_v7 : Hid (BK 30 v7 (w.heap.size + 1) (msgC m am cm)) := Lib.hid (hP.other K_v6.out (by have := ZaK.out; omega)); have B_v7 : Hid (Below w.heap.size w v7) := Lib.hid (hP.below B_v6.out (by have := ZaB.out; omega)); have O_v7 : Hid (WOk v7 A7 d2 x2 B2 e2 X2) := Lib.hid (wok_putA N_v6.out hP HO2.out); clear hM hP T_v6 K_v6 B_v6 N_v6)
    | (refine wpList_load_v (by rfl) 27 (.tmp 4) rfl ⟨w.heap.size, 0, none⟩ rfl (wv L2 A7 d2 x2 B2 e2 X2 l2) (S2.run_load_all T_v7.out Tryd.underlying27 rfl winSize) ?_)
  refine (resend1_any L2 A7 d2 x2 B2 e2 X2 l2 HV2.out v7 O_v7.out).mono ?_
  rintro e v8 ⟨Da, fa, ka, rfl, hk9, hs9, hb⟩
  have T_v8 : Hid (BK 27 v8 (w.heap.size) (wcs L2 A7 d2 x2 B2 e2 X2 l2)) := Lib.hid (T_v7.out.step hb)
  have K_v8 : Hid (BK 30 v8 (w.heap.size + 1) (msgC m am cm)) := Lib.hid (K_v7.out.step hb)
  have B_v8 : Hid (Below w.heap.size w v8) := Lib.hid (stepB B_v7.out hb)
  have O_v8 : Hid (WOk v8 A7 d2 x2 B2 e2 X2) := Lib.hid (WOk.step O_v7.out hb)
  clear T_v7 K_v7 B_v7 O_v7
  clear hb
  have S_v8 : Hid (KS v8 v8.heap.size Da ka) := Lib.hid (hs9)
  have HKa := Lib.hid hk9
  clear hs9 hk9
  have dt := T_v8.out.cell 1 rfl
  go_wp2_with fail
  refine (rat_any A7 d2 x2 x0.id v8 O_v8.out.1 (by have := HV2.out.len; simp only [List.length_map] at this; omega)).mono ?_
  rintro e v9 ⟨rfl, hb⟩
  clear dt
  have T_v9 : Hid (BK 27 v9 (w.heap.size) (wcs L2 A7 d2 x2 B2 e2 X2 l2)) := Lib.hid (T_v8.out.step hb)
  have K_v9 : Hid (BK 30 v9 (w.heap.size + 1) (msgC m am cm)) := Lib.hid (K_v8.out.step hb)
  have B_v9 : Hid (Below w.heap.size w v9) := Lib.hid (stepB B_v8.out hb)
  have O_v9 : Hid (WOk v9 A7 d2 x2 B2 e2 X2) := Lib.hid (WOk.step O_v8.out hb)
  have S_v9 : Hid (KS v9 v9.heap.size Da ka) := Lib.hid (KS.step S_v8.out hb)
  clear T_v8 K_v8 B_v8 O_v8 S_v8
  clear hb
  obtain ⟨i, hil, hat, hxi⟩ := at_in HV2.out HX2.out
  dsimp only at hil hat hxi
  rw [hat]
  have hlk : ka.length = x2.length := by have := congrArg List.length HKa.out.1; simpa using this
  rw [List.length_map] at hil
  have HS3 : Hid (∀ w1, KS w1 w1.heap.size Da ka → Calls Tryd.prog 13 #[.slice Da ka.length fa, .int .i64 3, .int .i64 x0.id] w1 fun e w' => e = .returned (.int .i64 1) ∧ Below w1.heap.size w1 w') := Lib.hid (fun w1 h => sent1_any Da fa ka (x2.map FE.f) 3 x0.id 1 HKa.out.1 HKa.out.2 (by rw [sent_is 3 HV2.out HX2.out, if_pos (by unfold kdP; rw [HS1.out]; decide)]) w1 h)
  have HS6 : Hid (∀ w1, KS w1 w1.heap.size Da ka → Calls Tryd.prog 13 #[.slice Da ka.length fa, .int .i64 6, .int .i64 x0.id] w1 fun e w' => e = .returned (.int .i64 0) ∧ Below w1.heap.size w1 w') := Lib.hid (fun w1 h => sent1_any Da fa ka (x2.map FE.f) 6 x0.id 0 HKa.out.1 HKa.out.2 (by rw [sent_is 6 HV2.out HX2.out, if_neg (by unfold kdP; rw [HS1.out]; decide)]) w1 h)
  obtain ⟨y, hy⟩ : ∃ y, ka[i]? = some y := ⟨_, List.getElem?_eq_getElem (by omega)⟩
  have hya : y.1 = pubP x0 true := by
    have h1 : (ka.map Prod.fst)[i]? = some y.1 := by rw [List.getElem?_map, hy]; rfl
    rw [HKa.out.1, List.getElem?_map, hxi] at h1
    have h2 := Option.some.inj h1
    rw [← h2]; unfold againP; rw [if_neg (by rw [HS1.out]; decide)]
  obtain ⟨bk, ok, hDa, hbk, hck, hkp⟩ := S_v9.out.at_ hy
  have C_v9 : Hid (∀ j v, (gK y)[j]? = some v → v9.cell? ⟨bk, ok + i * 34 + j, none⟩ = some v) := Lib.hid hck
  have Y_v9 : Hid (PL v9 v9.heap.size y.2.m y.1.msg.props) := Lib.hid hkp.1
  have HYA := Lib.hid hya
  have HLK := Lib.hid hlk
  subst hDa
  have HSM : Hid (∀ w1, PL w1 w1.heap.size y.2.m m.props → PL w1 w1.heap.size am m.props → Calls Tryd.prog 14 #[msgV m y.2.m y.2.mc, .agg (msgC m am cm).toArray] w1 fun e w' => e = .returned (.bool true) ∧ Below w1.heap.size w1 w') := Lib.hid (fun w1 h1 h2 => by have := rSame_any m m y.2.m am y.2.mc cm w1 h1 h2 (by have := HPL8.out; omega); rw [sameM_refl] at this; exact this)
  have z1 : decide ((i : Int) < 0) = false := decide_eq_false (by omega)
  have z2 : decide ((ka.length : Int) ≤ (i : Int)) = false := decide_eq_false (by omega)
  have z3 : decide (ka.length ≤ i) = false := decide_eq_false (by omega)
  have j1 : (0 : Int) ≤ (i : Int) := by omega
  have j2 : (i : Int) < (ka.length : Int) := by omega
  have hik : i ≤ 100000 := by have := HKa.out.2; omega
  clear hil hat hxi hy hya hbk hck hkp hlk
  go_upto_region 13 with fail
  obtain ⟨gx1, hgx1⟩ : ∃ gx1, gx1 = World.drew v9 := ⟨_, rfl⟩
  have hbD : Below v9.heap.size v9 gx1 := by rw [hgx1]; exact (Below.refl _ _).drew
  have T_gx1 : Hid (BK 27 gx1 (w.heap.size) (wcs L2 A7 d2 x2 B2 e2 X2 l2)) := Lib.hid (T_v9.out.step hbD)
  have K_gx1 : Hid (BK 30 gx1 (w.heap.size + 1) (msgC m am cm)) := Lib.hid (K_v9.out.step hbD)
  have B_gx1 : Hid (Below w.heap.size w gx1) := Lib.hid (stepB B_v9.out hbD)
  have O_gx1 : Hid (WOk gx1 A7 d2 x2 B2 e2 X2) := Lib.hid (WOk.step O_v9.out hbD)
  have S_gx1 : Hid (KS gx1 gx1.heap.size (some ⟨bk, ok, none⟩) ka) := Lib.hid (KS.step S_v9.out hbD)
  have C_gx1 : Hid (∀ j v, (gK y)[j]? = some v → gx1.cell? ⟨bk, ok + i * 34 + j, none⟩ = some v) := Lib.hid (cells_stepG C_v9.out hbD)
  have Y_gx1 : Hid (PL gx1 gx1.heap.size y.2.m y.1.msg.props) := Lib.hid (GL.step Y_v9.out hbD)
  clear T_v9 K_v9 B_v9 O_v9 S_v9 C_v9 Y_v9
  have hbd : (fun w' => BK 30 w' (w.heap.size + 1) (msgC m am cm) ∧ ∀ j v, (gK y)[j]? = some v → w'.cell? ⟨bk, ok + i * 34 + j, none⟩ = some v) (World.drew v9) := by rw [← hgx1]; exact ⟨K_gx1.out, C_gx1.out⟩
  have hSD : (fun w' => BK 30 w' (w.heap.size + 1) (msgC m am cm) ∧ ∀ j v, (gK y)[j]? = some v → w'.cell? ⟨bk, ok + i * 34 + j, none⟩ = some v) gx1 := ⟨K_gx1.out, C_gx1.out⟩
  have HWD := Lib.hid hgx1
  clear hgx1 hbD
  refine wp_region_held_drew (S := fun w' => BK 30 w' (w.heap.size + 1) (msgC m am cm) ∧ ∀ j v, (gK y)[j]? = some v → w'.cell? ⟨bk, ok + i * 34 + j, none⟩ = some v) (by kernel_rfl) hbd (fun hHeld => ?_)
  rw [← HWD.out]
  clear hHeld
  have hHeld := hSD
  clear hSD hbd HWD
  refine wpAnyH_take (i := 0) (v := .int .i64 (i : Int)) (get_ops _ _ _ rfl) (by kernel_rfl) (by kernel_rfl) (by kernel_rfl) (fun _ _ _ h => h) (Or.inl ⟨by rfl, fun wS hSw => by (try dsimp only at hSw); go_simp⟩) hHeld ?_
  try simp only [Act.put, List.setIfInBounds_toArray, List.set_cons_zero, List.set_cons_succ]
  refine wpAnyH_take (i := 1) (v := .bool false) (get_ops _ _ _ rfl) (by kernel_rfl) (by kernel_rfl) (by kernel_rfl) (fun _ _ _ h => h) (Or.inl ⟨by rfl, fun wS hSw => by (try dsimp only at hSw); go_simp⟩) hHeld ?_
  try simp only [Act.put, List.setIfInBounds_toArray, List.set_cons_zero, List.set_cons_succ]
  refine wpAnyH_take (i := 2) (v := .bool false) (get_ops _ _ _ rfl) (by kernel_rfl) (by kernel_rfl) (by kernel_rfl) (fun _ _ _ h => h) (Or.inl ⟨by rfl, fun wS hSw => by (try dsimp only at hSw); go_simp⟩) hHeld ?_
  try simp only [Act.put, List.setIfInBounds_toArray, List.set_cons_zero, List.set_cons_succ]
  refine wpAnyH_take (i := 3) (v := .int .i64 (i : Int)) (get_ops _ _ _ rfl) (by kernel_rfl) (by kernel_rfl) (by kernel_rfl) (fun _ _ _ h => h) (Or.inl ⟨by rfl, fun wS hSw => by (try dsimp only at hSw); go_simp⟩) hHeld ?_
  try simp only [Act.put, List.setIfInBounds_toArray, List.set_cons_zero, List.set_cons_succ]
  refine wpAnyH_take (i := 4) (v := .slice (some ⟨bk, ok, none⟩) ka.length fa) (get_ops _ _ _ rfl) (by kernel_rfl) (by kernel_rfl) (by kernel_rfl) (fun _ _ _ h => h) (Or.inl ⟨by rfl, fun wS hSw => by (try dsimp only at hSw); go_simp⟩) hHeld ?_
  try simp only [Act.put, List.setIfInBounds_toArray, List.set_cons_zero, List.set_cons_succ]
  refine wpAnyH_take (i := 5) (v := .int .i64 (ka.length : Int)) (get_ops _ _ _ rfl) (by kernel_rfl) (by kernel_rfl) (by kernel_rfl) (fun _ _ _ h => h) (Or.inl ⟨by rfl, fun wS hSw => by (try dsimp only at hSw); go_simp⟩) hHeld ?_
  try simp only [Act.put, List.setIfInBounds_toArray, List.set_cons_zero, List.set_cons_succ]
  refine wpAnyH_take (i := 6) (v := .bool false) (get_ops _ _ _ rfl) (by kernel_rfl) (by kernel_rfl) (by kernel_rfl) (fun _ _ _ h => h) (Or.inl ⟨by rfl, fun wS hSw => by (try dsimp only at hSw); go_simp⟩) hHeld ?_
  try simp only [Act.put, List.setIfInBounds_toArray, List.set_cons_zero, List.set_cons_succ]
  refine wpAnyH_take (i := 7) (v := .bool false) (get_ops _ _ _ rfl) (by kernel_rfl) (by kernel_rfl) (by kernel_rfl) (fun _ _ _ h => h) (Or.inl ⟨by rfl, fun wS hSw => by (try dsimp only at hSw); go_simp⟩) hHeld ?_
  try simp only [Act.put, List.setIfInBounds_toArray, List.set_cons_zero, List.set_cons_succ]
  refine wpAnyH_take (i := 8) (v := .bool false) (get_ops _ _ _ rfl) (by kernel_rfl) (by kernel_rfl) (by kernel_rfl) (fun _ _ _ h => h) (Or.inl ⟨by rfl, fun wS hSw => by (try dsimp only at hSw); go_simp⟩) hHeld ?_
  try simp only [Act.put, List.setIfInBounds_toArray, List.set_cons_zero, List.set_cons_succ]
  refine wpAnyH_take (i := 9) (v := .slice (some ⟨bk, ok, none⟩) ka.length fa) (get_ops _ _ _ rfl) (by kernel_rfl) (by kernel_rfl) (by kernel_rfl) (fun _ _ _ h => h) (Or.inl ⟨by rfl, fun wS hSw => by (try dsimp only at hSw); go_simp⟩) hHeld ?_
  try simp only [Act.put, List.setIfInBounds_toArray, List.set_cons_zero, List.set_cons_succ]
  refine wpAnyH_take (i := 10) (v := .int .i64 x0.id) (get_ops _ _ _ rfl) (by kernel_rfl) (by kernel_rfl) (by kernel_rfl) (fun _ _ _ h => h) (Or.inl ⟨by rfl, fun wS hSw => by (try dsimp only at hSw); go_simp⟩) hHeld ?_
  try simp only [Act.put, List.setIfInBounds_toArray, List.set_cons_zero, List.set_cons_succ]
  refine wpAnyH_ready (rs := [11]) (by kernel_rfl) (by simp) ?_
  refine (AllReadyH.cons (get_ops _ _ _ rfl) (fun K hK => ?_) AllReadyH.nil)
  go_simp
  refine (HS3.out gx1 S_gx1.out).mono ?_
  rintro e gx2 ⟨rfl, hb⟩
  have T_gx2 : Hid (BK 27 gx2 (w.heap.size) (wcs L2 A7 d2 x2 B2 e2 X2 l2)) := Lib.hid (T_gx1.out.step hb)
  have K_gx2 : Hid (BK 30 gx2 (w.heap.size + 1) (msgC m am cm)) := Lib.hid (K_gx1.out.step hb)
  have B_gx2 : Hid (Below w.heap.size w gx2) := Lib.hid (stepB B_gx1.out hb)
  have O_gx2 : Hid (WOk gx2 A7 d2 x2 B2 e2 X2) := Lib.hid (WOk.step O_gx1.out hb)
  have S_gx2 : Hid (KS gx2 gx2.heap.size (some ⟨bk, ok, none⟩) ka) := Lib.hid (KS.step S_gx1.out hb)
  have C_gx2 : Hid (∀ j v, (gK y)[j]? = some v → gx2.cell? ⟨bk, ok + i * 34 + j, none⟩ = some v) := Lib.hid (cells_stepG C_gx1.out hb)
  have Y_gx2 : Hid (PL gx2 gx2.heap.size y.2.m y.1.msg.props) := Lib.hid (GL.step Y_gx1.out hb)
  clear T_gx1 K_gx1 B_gx1 O_gx1 S_gx1 C_gx1 Y_gx1
  clear hHeld hb
  go_wp2_with fail
  refine hK.out _ _ ⟨K_gx2.out, C_gx2.out⟩ (fun hHeld => ?_)
  clear hK K
  try simp only [Act.put, List.setIfInBounds_toArray, List.set_cons_zero, List.set_cons_succ]
  refine wpAnyH_take (i := 12) (v := .bool false) (get_ops _ _ _ rfl) (by kernel_rfl) (by kernel_rfl) (by kernel_rfl) (fun _ _ _ h => h) (Or.inl ⟨by rfl, fun wS hSw => by (try dsimp only at hSw); go_simp⟩) hHeld ?_
  try simp only [Act.put, List.setIfInBounds_toArray, List.set_cons_zero, List.set_cons_succ]
  refine wpAnyH_take (i := 13) (v := .bool false) (get_ops _ _ _ rfl) (by kernel_rfl) (by kernel_rfl) (by kernel_rfl) (fun _ _ _ h => h) (Or.inl ⟨by rfl, fun wS hSw => by (try dsimp only at hSw); go_simp⟩) hHeld ?_
  try simp only [Act.put, List.setIfInBounds_toArray, List.set_cons_zero, List.set_cons_succ]
  refine wpAnyH_take (i := 14) (v := .bool false) (get_ops _ _ _ rfl) (by kernel_rfl) (by kernel_rfl) (by kernel_rfl) (fun _ _ _ h => h) (Or.inl ⟨by rfl, fun wS hSw => by (try dsimp only at hSw); go_simp⟩) hHeld ?_
  try simp only [Act.put, List.setIfInBounds_toArray, List.set_cons_zero, List.set_cons_succ]
  refine wpAnyH_take (i := 15) (v := .slice (some ⟨bk, ok, none⟩) ka.length fa) (get_ops _ _ _ rfl) (by kernel_rfl) (by kernel_rfl) (by kernel_rfl) (fun _ _ _ h => h) (Or.inl ⟨by rfl, fun wS hSw => by (try dsimp only at hSw); go_simp⟩) hHeld ?_
  try simp only [Act.put, List.setIfInBounds_toArray, List.set_cons_zero, List.set_cons_succ]
  refine wpAnyH_take (i := 16) (v := .int .i64 x0.id) (get_ops _ _ _ rfl) (by kernel_rfl) (by kernel_rfl) (by kernel_rfl) (fun _ _ _ h => h) (Or.inl ⟨by rfl, fun wS hSw => by (try dsimp only at hSw); go_simp⟩) hHeld ?_
  try simp only [Act.put, List.setIfInBounds_toArray, List.set_cons_zero, List.set_cons_succ]
  refine wpAnyH_ready (rs := [17]) (by kernel_rfl) (by simp) ?_
  refine (AllReadyH.cons (get_ops _ _ _ rfl) (fun K hK => ?_) AllReadyH.nil)
  go_simp
  refine (HS6.out gx2 S_gx2.out).mono ?_
  rintro e gx3 ⟨rfl, hb⟩
  have T_gx3 : Hid (BK 27 gx3 (w.heap.size) (wcs L2 A7 d2 x2 B2 e2 X2 l2)) := Lib.hid (T_gx2.out.step hb)
  have K_gx3 : Hid (BK 30 gx3 (w.heap.size + 1) (msgC m am cm)) := Lib.hid (K_gx2.out.step hb)
  have B_gx3 : Hid (Below w.heap.size w gx3) := Lib.hid (stepB B_gx2.out hb)
  have O_gx3 : Hid (WOk gx3 A7 d2 x2 B2 e2 X2) := Lib.hid (WOk.step O_gx2.out hb)
  have S_gx3 : Hid (KS gx3 gx3.heap.size (some ⟨bk, ok, none⟩) ka) := Lib.hid (KS.step S_gx2.out hb)
  have C_gx3 : Hid (∀ j v, (gK y)[j]? = some v → gx3.cell? ⟨bk, ok + i * 34 + j, none⟩ = some v) := Lib.hid (cells_stepG C_gx2.out hb)
  have Y_gx3 : Hid (PL gx3 gx3.heap.size y.2.m y.1.msg.props) := Lib.hid (GL.step Y_gx2.out hb)
  clear T_gx2 K_gx2 B_gx2 O_gx2 S_gx2 C_gx2 Y_gx2
  clear hHeld hb
  go_wp2_with fail
  refine hK.out _ _ ⟨K_gx3.out, C_gx3.out⟩ (fun hHeld => ?_)
  clear hK K
  try simp only [Act.put, List.setIfInBounds_toArray, List.set_cons_zero, List.set_cons_succ]
  refine wpAnyH_take (i := 18) (v := .bool false) (get_ops _ _ _ rfl) (by kernel_rfl) (by kernel_rfl) (by kernel_rfl) (fun _ _ _ h => h) (Or.inl ⟨by rfl, fun wS hSw => by (try dsimp only at hSw); go_simp⟩) hHeld ?_
  try simp only [Act.put, List.setIfInBounds_toArray, List.set_cons_zero, List.set_cons_succ]
  refine wpAnyH_take (i := 19) (v := .bool false) (get_ops _ _ _ rfl) (by kernel_rfl) (by kernel_rfl) (by kernel_rfl) (fun _ _ _ h => h) (Or.inl ⟨by rfl, fun wS hSw => by (try dsimp only at hSw); go_simp⟩) hHeld ?_
  try simp only [Act.put, List.setIfInBounds_toArray, List.set_cons_zero, List.set_cons_succ]
  refine wpAnyH_take (i := 20) (v := .bool false) (get_ops _ _ _ rfl) (by kernel_rfl) (by kernel_rfl) (by kernel_rfl) (fun _ _ _ h => h) (Or.inl ⟨by rfl, fun wS hSw => by (try dsimp only at hSw); go_simp⟩) hHeld ?_
  try simp only [Act.put, List.setIfInBounds_toArray, List.set_cons_zero, List.set_cons_succ]
  refine wpAnyH_take (i := 21) (v := .slice (some ⟨bk, ok, none⟩) ka.length fa) (get_ops _ _ _ rfl) (by kernel_rfl) (by kernel_rfl) (by kernel_rfl) (fun _ _ _ h => h) (Or.inl ⟨by rfl, fun wS hSw => by (try dsimp only at hSw); go_simp⟩) hHeld ?_
  try simp only [Act.put, List.setIfInBounds_toArray, List.set_cons_zero, List.set_cons_succ]
  refine wpAnyH_take (i := 22) (v := .int .i64 (i : Int)) (get_ops _ _ _ rfl) (by kernel_rfl) (by kernel_rfl) (by kernel_rfl) (fun _ _ _ h => h) (Or.inl ⟨by rfl, fun wS hSw => by (try dsimp only at hSw); go_simp⟩) hHeld ?_
  try simp only [Act.put, List.setIfInBounds_toArray, List.set_cons_zero, List.set_cons_succ]
  refine wpAnyH_take (i := 23) (v := .pointer (some ⟨bk, ok + i * 34, none⟩)) (get_ops _ _ _ rfl) (by kernel_rfl) (by kernel_rfl) (by kernel_rfl) (fun _ _ _ h => h) (Or.inl ⟨by rfl, fun wS hSw => by (try dsimp only at hSw); go_simp⟩) hHeld ?_
  try simp only [Act.put, List.setIfInBounds_toArray, List.set_cons_zero, List.set_cons_succ]
  refine wpAnyH_take (i := 24) (v := .pointer (some ⟨bk, ok + i * 34 + 2, none⟩)) (get_ops _ _ _ rfl) (by kernel_rfl) (by kernel_rfl) (by kernel_rfl) (fun _ _ _ h => h) (Or.inl ⟨by rfl, fun wS hSw => by (try dsimp only at hSw); go_simp⟩) hHeld ?_
  try simp only [Act.put, List.setIfInBounds_toArray, List.set_cons_zero, List.set_cons_succ]
  refine wpAnyH_take (i := 25) (v := .bool true) (get_ops _ _ _ rfl) (by kernel_rfl) (by kernel_rfl) (by kernel_rfl) (fun _ _ _ h => h) (Or.inl ⟨by rfl, fun wS hSw => by (try dsimp only at hSw); have cS : wS.cell? ⟨bk, ok + i * 34 + 2, none⟩ = some (.bool true) := (by have h9 := hSw.2 2 (.bool y.1.dup) rfl; rw [HYA.out] at h9; exact h9); clear hSw; go_simp⟩) hHeld ?_
  try simp only [Act.put, List.setIfInBounds_toArray, List.set_cons_zero, List.set_cons_succ]
  refine wpAnyH_take (i := 26) (v := .bool false) (get_ops _ _ _ rfl) (by kernel_rfl) (by kernel_rfl) (by kernel_rfl) (fun _ _ _ h => h) (Or.inl ⟨by rfl, fun wS hSw => by (try dsimp only at hSw); go_simp⟩) hHeld ?_
  try simp only [Act.put, List.setIfInBounds_toArray, List.set_cons_zero, List.set_cons_succ]
  refine wpAnyH_take (i := 27) (v := .bool false) (get_ops _ _ _ rfl) (by kernel_rfl) (by kernel_rfl) (by kernel_rfl) (fun _ _ _ h => h) (Or.inl ⟨by rfl, fun wS hSw => by (try dsimp only at hSw); go_simp⟩) hHeld ?_
  try simp only [Act.put, List.setIfInBounds_toArray, List.set_cons_zero, List.set_cons_succ]
  refine wpAnyH_take (i := 28) (v := .bool false) (get_ops _ _ _ rfl) (by kernel_rfl) (by kernel_rfl) (by kernel_rfl) (fun _ _ _ h => h) (Or.inl ⟨by rfl, fun wS hSw => by (try dsimp only at hSw); go_simp⟩) hHeld ?_
  try simp only [Act.put, List.setIfInBounds_toArray, List.set_cons_zero, List.set_cons_succ]
  refine wpAnyH_take (i := 29) (v := .slice (some ⟨bk, ok, none⟩) ka.length fa) (get_ops _ _ _ rfl) (by kernel_rfl) (by kernel_rfl) (by kernel_rfl) (fun _ _ _ h => h) (Or.inl ⟨by rfl, fun wS hSw => by (try dsimp only at hSw); go_simp⟩) hHeld ?_
  try simp only [Act.put, List.setIfInBounds_toArray, List.set_cons_zero, List.set_cons_succ]
  refine wpAnyH_take (i := 30) (v := .int .i64 (i : Int)) (get_ops _ _ _ rfl) (by kernel_rfl) (by kernel_rfl) (by kernel_rfl) (fun _ _ _ h => h) (Or.inl ⟨by rfl, fun wS hSw => by (try dsimp only at hSw); go_simp⟩) hHeld ?_
  try simp only [Act.put, List.setIfInBounds_toArray, List.set_cons_zero, List.set_cons_succ]
  refine wpAnyH_take (i := 31) (v := .pointer (some ⟨bk, ok + i * 34, none⟩)) (get_ops _ _ _ rfl) (by kernel_rfl) (by kernel_rfl) (by kernel_rfl) (fun _ _ _ h => h) (Or.inl ⟨by rfl, fun wS hSw => by (try dsimp only at hSw); go_simp⟩) hHeld ?_
  try simp only [Act.put, List.setIfInBounds_toArray, List.set_cons_zero, List.set_cons_succ]
  refine wpAnyH_take (i := 32) (v := .pointer (some ⟨bk, ok + i * 34 + 3, none⟩)) (get_ops _ _ _ rfl) (by kernel_rfl) (by kernel_rfl) (by kernel_rfl) (fun _ _ _ h => h) (Or.inl ⟨by rfl, fun wS hSw => by (try dsimp only at hSw); go_simp⟩) hHeld ?_
  try simp only [Act.put, List.setIfInBounds_toArray, List.set_cons_zero, List.set_cons_succ]
  refine wpAnyH_take (i := 33) (v := msgV m y.2.m y.2.mc) (get_ops _ _ _ rfl) (by kernel_rfl) (by kernel_rfl) (by kernel_rfl) (fun _ _ _ h => h) (Or.inl ⟨by rfl, fun wS hSw => by (try dsimp only at hSw); exact exec_load 30 _ rfl ⟨bk, ok + i * 34 + 3, none⟩ (by go_simp) _ (load_pmsg HYA.out HMM.out hSw.2)⟩) hHeld ?_
  try simp only [Act.put, List.setIfInBounds_toArray, List.set_cons_zero, List.set_cons_succ]
  refine wpAnyH_take (i := 34) (v := .agg (msgC m am cm).toArray) (get_ops _ _ _ rfl) (by kernel_rfl) (by kernel_rfl) (by kernel_rfl) (fun _ _ _ h => h) (Or.inl ⟨by rfl, fun wS hSw => by (try dsimp only at hSw); exact exec_load 30 _ rfl ⟨w.heap.size + 1, 0, none⟩ (by go_simp) _ (S2.run_load_all hSw.1 Tryd.underlying30 rfl msgSize)⟩) hHeld ?_
  try simp only [Act.put, List.setIfInBounds_toArray, List.set_cons_zero, List.set_cons_succ]
  refine wpAnyH_ready (rs := [35]) (by kernel_rfl) (by simp) ?_
  refine (AllReadyH.cons (get_ops _ _ _ rfl) (fun K hK => ?_) AllReadyH.nil)
  go_simp
  refine (HSM.out gx3 (by have h9 := Y_gx3.out; rw [HYA.out] at h9; have h8 : x0.m = m := HMM.out; rw [← h8]; exact h9) (GL.step HPL.out B_gx3.out)).mono ?_
  rintro e gx4 ⟨rfl, hb⟩
  have T_gx4 : Hid (BK 27 gx4 (w.heap.size) (wcs L2 A7 d2 x2 B2 e2 X2 l2)) := Lib.hid (T_gx3.out.step hb)
  have K_gx4 : Hid (BK 30 gx4 (w.heap.size + 1) (msgC m am cm)) := Lib.hid (K_gx3.out.step hb)
  have B_gx4 : Hid (Below w.heap.size w gx4) := Lib.hid (stepB B_gx3.out hb)
  have O_gx4 : Hid (WOk gx4 A7 d2 x2 B2 e2 X2) := Lib.hid (WOk.step O_gx3.out hb)
  have S_gx4 : Hid (KS gx4 gx4.heap.size (some ⟨bk, ok, none⟩) ka) := Lib.hid (KS.step S_gx3.out hb)
  have C_gx4 : Hid (∀ j v, (gK y)[j]? = some v → gx4.cell? ⟨bk, ok + i * 34 + j, none⟩ = some v) := Lib.hid (cells_stepG C_gx3.out hb)
  have Y_gx4 : Hid (PL gx4 gx4.heap.size y.2.m y.1.msg.props) := Lib.hid (GL.step Y_gx3.out hb)
  clear T_gx3 K_gx3 B_gx3 O_gx3 S_gx3 C_gx3 Y_gx3
  clear hHeld hb
  go_wp2_with fail
  refine hK.out _ _ ⟨K_gx4.out, C_gx4.out⟩ (fun hHeld => ?_)
  clear hK K
  try simp only [Act.put, List.setIfInBounds_toArray, List.set_cons_zero, List.set_cons_succ]
  refine wpAnyH_take (i := 36) (v := .bool false) (get_ops _ _ _ rfl) (by kernel_rfl) (by kernel_rfl) (by kernel_rfl) (fun _ _ _ h => h) (Or.inl ⟨by rfl, fun wS hSw => by (try dsimp only at hSw); go_simp⟩) hHeld ?_
  try simp only [Act.put, List.setIfInBounds_toArray, List.set_cons_zero, List.set_cons_succ]
  refine wpAnyH_take (i := 37) (v := .bool false) (get_ops _ _ _ rfl) (by kernel_rfl) (by kernel_rfl) (by kernel_rfl) (fun _ _ _ h => h) (Or.inl ⟨by rfl, fun wS hSw => by (try dsimp only at hSw); go_simp⟩) hHeld ?_
  try simp only [Act.put, List.setIfInBounds_toArray, List.set_cons_zero, List.set_cons_succ]
  refine wpAnyH_done (by kernel_rfl) ?_ _
  go_upto_region 15 with fail
  rcases HLV.out with hl | hl
  · clear S_gx4 C_gx4 Y_gx4
    have q5 : (m.level == 1) = true := by simp [hl]
    clear HLV HSM HS3 HS6 HLK HYA HKa
    have dl := K_gx4.out.cell 2 (msgc2 m am cm)
    have HL := Lib.hid hl
    clear hl
    go_wp2_with first
      | (refine wpList_load_v (by rfl) 27 (.tmp 4) rfl ⟨w.heap.size, 0, none⟩ rfl (wv L2 A7 d2 x2 B2 e2 X2 l2) (S2.run_load_all T_gx4.out Tryd.underlying27 rfl winSize) ?_)
    have HZ3 : Hid (w.heap.size < gx4.heap.size) := Lib.hid T_gx4.out.lt
    refine (ack_any 4 L2 A7 d2 x2 B2 e2 X2 l2 (x0) HV2.out HX2.out (by omega) (by unfold awaitsR; rw [if_pos rfl, HMM.out, HL.out]; decide) gx4 O_gx4.out).mono ?_
    rintro e m1 ⟨L3, A8, d3, x3, B3, e3, X3, l3, A9, c9, n9, rfl, hv9, hx9, hw9, hf9, hb⟩
    have T_m1 : Hid (BK 27 m1 (w.heap.size) (wcs L2 A7 d2 x2 B2 e2 X2 l2)) := Lib.hid (T_gx4.out.step hb)
    have K_m1 : Hid (BK 30 m1 (w.heap.size + 1) (msgC m am cm)) := Lib.hid (K_gx4.out.step hb)
    have B_m1 : Hid (Below w.heap.size w m1) := Lib.hid (stepB B_gx4.out hb)
    have O_m1 : Hid (WOk m1 A7 d2 x2 B2 e2 X2) := Lib.hid (WOk.step O_gx4.out hb)
    clear T_gx4 K_gx4 B_gx4 O_gx4
    clear hb
    have N_m1 : Hid (WOk m1 A8 d3 x3 B3 e3 X3) := Lib.hid (hw9)
    rw [if_neg (by decide)] at hx9
    have HO3 : Hid (OffG w.heap.size A8 x3 B3 X3) := Lib.hid (hf9 _ (by have := HZ3.out; omega))
    have HV3 := Lib.hid hv9
    have HX3 := Lib.hid hx9
    clear hv9 hx9 hw9 hf9
    clear O_m1
    go_wp2_with first
      | (refine S2.wpList_store_all (by rfl) 27 (.tmp 4) (.tmp 98) rfl rfl (w.heap.size) rfl (wcs L3 A8 d3 x3 B3 e3 X3 l3) rfl 27 (wcs L2 A7 d2 x2 B2 e2 X2 l2) T_m1.out winSize rfl (ones rfl) ?_; intro m2 hM hP; have T_m2 : Hid (BK 27 m2 (w.heap.size) (wcs L3 A8 d3 x3 B3 e3 X3 l3)) := Lib.hid hM; have K_m2 : Hid (BK 30 m2 (w.heap.size + 1) (msgC m am cm)) := Lib.hid (hP.other K_m1.out (by have := ZaK.out; omega)); have B_m2 : Hid (Below w.heap.size w m2) := Lib.hid (hP.below B_m1.out (by have := ZaB.out; omega)); have O_m2 : Hid (WOk m2 A8 d3 x3 B3 e3 X3) := Lib.hid (wok_putA N_m1.out hP HO3.out); clear hM hP T_m1 K_m1 B_m1 N_m1)
      | (refine wpList_load_v (by rfl) 27 (.tmp 4) rfl ⟨w.heap.size, 0, none⟩ rfl (wv L3 A8 d3 x3 B3 e3 X3 l3) (S2.run_load_all T_m2.out Tryd.underlying27 rfl winSize) ?_)
    refine (resend1_any L3 A8 d3 x3 B3 e3 X3 l3 HV3.out m2 O_m2.out).mono ?_
    rintro e m3 ⟨Db, fb, kb, rfl, hk9, hs9, hb⟩
    have T_m3 : Hid (BK 27 m3 (w.heap.size) (wcs L3 A8 d3 x3 B3 e3 X3 l3)) := Lib.hid (T_m2.out.step hb)
    have K_m3 : Hid (BK 30 m3 (w.heap.size + 1) (msgC m am cm)) := Lib.hid (K_m2.out.step hb)
    have B_m3 : Hid (Below w.heap.size w m3) := Lib.hid (stepB B_m2.out hb)
    have O_m3 : Hid (WOk m3 A8 d3 x3 B3 e3 X3) := Lib.hid (WOk.step O_m2.out hb)
    clear T_m2 K_m2 B_m2 O_m2
    clear hb
    have S_m3 : Hid (KS m3 m3.heap.size Db kb) := Lib.hid (hs9)
    have HKb := Lib.hid hk9
    clear hs9 hk9
    have h3 : ∀ w1, KS w1 w1.heap.size Db kb → Calls Tryd.prog 13 #[.slice Db kb.length fb, .int .i64 3, .int .i64 x0.id] w1 fun e w' => e = .returned (.int .i64 0) ∧ Below w1.heap.size w1 w' := fun w1 h => sent1_any Db fb kb (x3.map FE.f) 3 x0.id 0 HKb.out.1 HKb.out.2 (sent_out 3 HX3.out) w1 h
    have h6 : ∀ w1, KS w1 w1.heap.size Db kb → Calls Tryd.prog 13 #[.slice Db kb.length fb, .int .i64 6, .int .i64 x0.id] w1 fun e w' => e = .returned (.int .i64 0) ∧ Below w1.heap.size w1 w' := fun w1 h => sent1_any Db fb kb (x3.map FE.f) 6 x0.id 0 HKb.out.1 HKb.out.2 (sent_out 6 HX3.out) w1 h
    have HS3 := Lib.hid h3
    have HS6 := Lib.hid h6
    clear h3 h6
    have hlen9 := HV3.out.len
    simp only [List.length_map] at hlen9
    have HL9 := Lib.hid hlen9
    clear hlen9
    go_wp2_with fail
    refine (HA.out m3 (HOK.out.step B_m3.out)).mono ?_
    rintro e m4 ⟨rfl, hb⟩
    have T_m4 : Hid (BK 27 m4 (w.heap.size) (wcs L3 A8 d3 x3 B3 e3 X3 l3)) := Lib.hid (T_m3.out.step hb)
    have K_m4 : Hid (BK 30 m4 (w.heap.size + 1) (msgC m am cm)) := Lib.hid (K_m3.out.step hb)
    have B_m4 : Hid (Below w.heap.size w m4) := Lib.hid (stepB B_m3.out hb)
    have O_m4 : Hid (WOk m4 A8 d3 x3 B3 e3 X3) := Lib.hid (WOk.step O_m3.out hb)
    have S_m4 : Hid (KS m4 m4.heap.size Db kb) := Lib.hid (KS.step S_m3.out hb)
    clear T_m3 K_m3 B_m3 O_m3 S_m3
    clear hb
    go_wp2_with fail
    refine (HS3.out m4 S_m4.out).mono ?_
    rintro e m5 ⟨rfl, hb⟩
    have T_m5 : Hid (BK 27 m5 (w.heap.size) (wcs L3 A8 d3 x3 B3 e3 X3 l3)) := Lib.hid (T_m4.out.step hb)
    have K_m5 : Hid (BK 30 m5 (w.heap.size + 1) (msgC m am cm)) := Lib.hid (K_m4.out.step hb)
    have B_m5 : Hid (Below w.heap.size w m5) := Lib.hid (stepB B_m4.out hb)
    have O_m5 : Hid (WOk m5 A8 d3 x3 B3 e3 X3) := Lib.hid (WOk.step O_m4.out hb)
    have S_m5 : Hid (KS m5 m5.heap.size Db kb) := Lib.hid (KS.step S_m4.out hb)
    clear T_m4 K_m4 B_m4 O_m4 S_m4
    clear hb
    go_wp2_with fail
    refine (HS6.out m5 S_m5.out).mono ?_
    rintro e m6 ⟨rfl, hb⟩
    have T_m6 : Hid (BK 27 m6 (w.heap.size) (wcs L3 A8 d3 x3 B3 e3 X3 l3)) := Lib.hid (T_m5.out.step hb)
    have K_m6 : Hid (BK 30 m6 (w.heap.size + 1) (msgC m am cm)) := Lib.hid (K_m5.out.step hb)
    have B_m6 : Hid (Below w.heap.size w m6) := Lib.hid (stepB B_m5.out hb)
    have O_m6 : Hid (WOk m6 A8 d3 x3 B3 e3 X3) := Lib.hid (WOk.step O_m5.out hb)
    have S_m6 : Hid (KS m6 m6.heap.size Db kb) := Lib.hid (KS.step S_m5.out hb)
    clear T_m5 K_m5 B_m5 O_m5 S_m5
    clear hb
    have dt := T_m6.out.cell 1 rfl
    go_wp2_with fail
    refine (rat_any A8 d3 x3 x0.id m6 O_m6.out.1 (by have := HL9.out; omega)).mono ?_
    rintro e m7 ⟨rfl, hb⟩
    clear dt
    have T_m7 : Hid (BK 27 m7 (w.heap.size) (wcs L3 A8 d3 x3 B3 e3 X3 l3)) := Lib.hid (T_m6.out.step hb)
    have K_m7 : Hid (BK 30 m7 (w.heap.size + 1) (msgC m am cm)) := Lib.hid (K_m6.out.step hb)
    have B_m7 : Hid (Below w.heap.size w m7) := Lib.hid (stepB B_m6.out hb)
    have O_m7 : Hid (WOk m7 A8 d3 x3 B3 e3 X3) := Lib.hid (WOk.step O_m6.out hb)
    have S_m7 : Hid (KS m7 m7.heap.size Db kb) := Lib.hid (KS.step S_m6.out hb)
    clear T_m6 K_m6 B_m6 O_m6 S_m6
    clear hb
    rw [at_gone HX3.out]
    go_wp2_with fail
    go_ret
    exact ⟨rfl, B_m7.out⟩
  · clear S_gx4 C_gx4 Y_gx4
    have q5 : (m.level == 1) = false := by simp [hl]
    clear HLV HSM HS3 HS6 HLK HYA HKa
    have dl := K_gx4.out.cell 2 (msgc2 m am cm)
    have HL := Lib.hid hl
    clear hl
    go_wp2_with first
      | (refine wpList_load_v (by rfl) 27 (.tmp 4) rfl ⟨w.heap.size, 0, none⟩ rfl (wv L2 A7 d2 x2 B2 e2 X2 l2) (S2.run_load_all T_gx4.out Tryd.underlying27 rfl winSize) ?_)
    have HZ3 : Hid (w.heap.size < gx4.heap.size) := Lib.hid T_gx4.out.lt
    refine (ack_any 5 L2 A7 d2 x2 B2 e2 X2 l2 (x0) HV2.out HX2.out (by omega) (by unfold awaitsR; rw [if_neg (by decide), if_pos rfl, HMM.out, HL.out]; decide) gx4 O_gx4.out).mono ?_
    rintro e u1 ⟨L3, A8, d3, x3, B3, e3, X3, l3, A9, c9, n9, rfl, hv9, hx9, hw9, hf9, hb⟩
    have T_u1 : Hid (BK 27 u1 (w.heap.size) (wcs L2 A7 d2 x2 B2 e2 X2 l2)) := Lib.hid (T_gx4.out.step hb)
    have K_u1 : Hid (BK 30 u1 (w.heap.size + 1) (msgC m am cm)) := Lib.hid (K_gx4.out.step hb)
    have B_u1 : Hid (Below w.heap.size w u1) := Lib.hid (stepB B_gx4.out hb)
    have O_u1 : Hid (WOk u1 A7 d2 x2 B2 e2 X2) := Lib.hid (WOk.step O_gx4.out hb)
    clear T_gx4 K_gx4 B_gx4 O_gx4
    clear hb
    have N_u1 : Hid (WOk u1 A8 d3 x3 B3 e3 X3) := Lib.hid (hw9)
    rw [if_pos rfl] at hx9
    have HO3 : Hid (OffG w.heap.size A8 x3 B3 X3) := Lib.hid (hf9 _ (by have := HZ3.out; omega))
    have HV3 := Lib.hid hv9
    have HX3 := Lib.hid hx9
    clear hv9 hx9 hw9 hf9
    clear O_u1
    go_wp2_with first
      | (refine S2.wpList_store_all (by rfl) 27 (.tmp 4) (.tmp 132) rfl rfl (w.heap.size) rfl (wcs L3 A8 d3 x3 B3 e3 X3 l3) rfl 27 (wcs L2 A7 d2 x2 B2 e2 X2 l2) T_u1.out winSize rfl (ones rfl) ?_; intro u2 hM hP; have T_u2 : Hid (BK 27 u2 (w.heap.size) (wcs L3 A8 d3 x3 B3 e3 X3 l3)) := Lib.hid hM; have K_u2 : Hid (BK 30 u2 (w.heap.size + 1) (msgC m am cm)) := Lib.hid (hP.other K_u1.out (by have := ZaK.out; omega)); have B_u2 : Hid (Below w.heap.size w u2) := Lib.hid (hP.below B_u1.out (by have := ZaB.out; omega)); have O_u2 : Hid (WOk u2 A8 d3 x3 B3 e3 X3) := Lib.hid (wok_putA N_u1.out hP HO3.out); clear hM hP T_u1 K_u1 B_u1 N_u1)
      | (refine wpList_load_v (by rfl) 27 (.tmp 4) rfl ⟨w.heap.size, 0, none⟩ rfl (wv L3 A8 d3 x3 B3 e3 X3 l3) (S2.run_load_all T_u2.out Tryd.underlying27 rfl winSize) ?_)
    have HZ4 : Hid (w.heap.size < u2.heap.size) := Lib.hid T_u2.out.lt
    refine (others_any (fun g => g = w.heap.size) L3 A8 d3 x3 B3 e3 X3 l3 ({ x0 with st := 2 } : Fl).id Aq cq qs ({ x0 with st := 2 } : Fl) u2 (HOK.out.step B_u2.out) O_u2.out HV3.out (HFQ.out.step B_u2.out) HQS.out HX3.out rfl (fun g _ e => by rw [e]; exact HO3.out)).mono ?_
    rintro e u3 ⟨L4, A10, d4, x4, B4, e4, X4, l4, rfl, hv9, hx9, hw9, hb, hf9⟩
    have T_u3 : Hid (BK 27 u3 (w.heap.size) (wcs L3 A8 d3 x3 B3 e3 X3 l3)) := Lib.hid (T_u2.out.step hb)
    have K_u3 : Hid (BK 30 u3 (w.heap.size + 1) (msgC m am cm)) := Lib.hid (K_u2.out.step hb)
    have B_u3 : Hid (Below w.heap.size w u3) := Lib.hid (stepB B_u2.out hb)
    have O_u3 : Hid (WOk u3 A8 d3 x3 B3 e3 X3) := Lib.hid (WOk.step O_u2.out hb)
    clear T_u2 K_u2 B_u2 O_u2
    clear hb
    have N_u3 : Hid (WOk u3 A10 d4 x4 B4 e4 X4) := Lib.hid (hw9)
    have HO4 : Hid (OffG w.heap.size A10 x4 B4 X4) := Lib.hid (hf9 _ (by have := HZ4.out; omega) rfl)
    have HV4 := Lib.hid hv9
    have HX4 := Lib.hid hx9
    clear hv9 hx9 hw9 hf9
    clear O_u3
    go_wp2_with first
      | (refine S2.wpList_store_all (by rfl) 27 (.tmp 4) (.tmp 140) rfl rfl (w.heap.size) rfl (wcs L4 A10 d4 x4 B4 e4 X4 l4) rfl 27 (wcs L3 A8 d3 x3 B3 e3 X3 l3) T_u3.out winSize rfl (ones rfl) ?_; intro u4 hM hP; have T_u4 : Hid (BK 27 u4 (w.heap.size) (wcs L4 A10 d4 x4 B4 e4 X4 l4)) := Lib.hid hM; have K_u4 : Hid (BK 30 u4 (w.heap.size + 1) (msgC m am cm)) := Lib.hid (hP.other K_u3.out (by have := ZaK.out; omega)); have B_u4 : Hid (Below w.heap.size w u4) := Lib.hid (hP.below B_u3.out (by have := ZaB.out; omega)); have O_u4 : Hid (WOk u4 A10 d4 x4 B4 e4 X4) := Lib.hid (wok_putA N_u3.out hP HO4.out); clear hM hP T_u3 K_u3 B_u3 N_u3)
      | (refine wpList_load_v (by rfl) 27 (.tmp 4) rfl ⟨w.heap.size, 0, none⟩ rfl (wv L4 A10 d4 x4 B4 e4 X4 l4) (S2.run_load_all T_u4.out Tryd.underlying27 rfl winSize) ?_)
    refine (resend1_any L4 A10 d4 x4 B4 e4 X4 l4 HV4.out u4 O_u4.out).mono ?_
    rintro e u5 ⟨Dc, fc, kc, rfl, hk9, hs9, hb⟩
    have T_u5 : Hid (BK 27 u5 (w.heap.size) (wcs L4 A10 d4 x4 B4 e4 X4 l4)) := Lib.hid (T_u4.out.step hb)
    have K_u5 : Hid (BK 30 u5 (w.heap.size + 1) (msgC m am cm)) := Lib.hid (K_u4.out.step hb)
    have B_u5 : Hid (Below w.heap.size w u5) := Lib.hid (stepB B_u4.out hb)
    have O_u5 : Hid (WOk u5 A10 d4 x4 B4 e4 X4) := Lib.hid (WOk.step O_u4.out hb)
    clear T_u4 K_u4 B_u4 O_u4
    clear hb
    have S_u5 : Hid (KS u5 u5.heap.size Dc kc) := Lib.hid (hs9)
    have HKc := Lib.hid hk9
    clear hs9 hk9
    have HS3 : Hid (∀ w1, KS w1 w1.heap.size Dc kc → Calls Tryd.prog 13 #[.slice Dc kc.length fc, .int .i64 3, .int .i64 x0.id] w1 fun e w' => e = .returned (.int .i64 0) ∧ Below w1.heap.size w1 w') := Lib.hid (fun w1 h => sent1_any Dc fc kc (x4.map FE.f) 3 x0.id 0 HKc.out.1 HKc.out.2 ((sent_is (x := { x0 with st := 2 }) 3 HV4.out HX4.out).trans (if_neg (by show ¬ ((if (2 : Int) = 2 then (6 : Int) else 3) = 3); decide))) w1 h)
    have HS6 : Hid (∀ w1, KS w1 w1.heap.size Dc kc → Calls Tryd.prog 13 #[.slice Dc kc.length fc, .int .i64 6, .int .i64 x0.id] w1 fun e w' => e = .returned (.int .i64 1) ∧ Below w1.heap.size w1 w') := Lib.hid (fun w1 h => sent1_any Dc fc kc (x4.map FE.f) 6 x0.id 1 HKc.out.1 HKc.out.2 ((sent_is (x := { x0 with st := 2 }) 6 HV4.out HX4.out).trans (if_pos (by show (if (2 : Int) = 2 then (6 : Int) else 3) = 6; decide))) w1 h)
    go_wp2_with fail
    refine (HS3.out u5 S_u5.out).mono ?_
    rintro e u6 ⟨rfl, hb⟩
    have T_u6 : Hid (BK 27 u6 (w.heap.size) (wcs L4 A10 d4 x4 B4 e4 X4 l4)) := Lib.hid (T_u5.out.step hb)
    have K_u6 : Hid (BK 30 u6 (w.heap.size + 1) (msgC m am cm)) := Lib.hid (K_u5.out.step hb)
    have B_u6 : Hid (Below w.heap.size w u6) := Lib.hid (stepB B_u5.out hb)
    have O_u6 : Hid (WOk u6 A10 d4 x4 B4 e4 X4) := Lib.hid (WOk.step O_u5.out hb)
    have S_u6 : Hid (KS u6 u6.heap.size Dc kc) := Lib.hid (KS.step S_u5.out hb)
    clear T_u5 K_u5 B_u5 O_u5 S_u5
    clear hb
    go_wp2_with fail
    refine (HS6.out u6 S_u6.out).mono ?_
    rintro e u7 ⟨rfl, hb⟩
    have T_u7 : Hid (BK 27 u7 (w.heap.size) (wcs L4 A10 d4 x4 B4 e4 X4 l4)) := Lib.hid (T_u6.out.step hb)
    have K_u7 : Hid (BK 30 u7 (w.heap.size + 1) (msgC m am cm)) := Lib.hid (K_u6.out.step hb)
    have B_u7 : Hid (Below w.heap.size w u7) := Lib.hid (stepB B_u6.out hb)
    have O_u7 : Hid (WOk u7 A10 d4 x4 B4 e4 X4) := Lib.hid (WOk.step O_u6.out hb)
    have S_u7 : Hid (KS u7 u7.heap.size Dc kc) := Lib.hid (KS.step S_u6.out hb)
    clear T_u6 K_u6 B_u6 O_u6 S_u6
    clear hb
    clear HS3 HS6
    clear S_u7
    go_wp2_with first
      | (refine wpList_load_v (by rfl) 27 (.tmp 4) rfl ⟨w.heap.size, 0, none⟩ rfl (wv L4 A10 d4 x4 B4 e4 X4 l4) (S2.run_load_all T_u7.out Tryd.underlying27 rfl winSize) ?_)
    have HZ5 : Hid (w.heap.size < u7.heap.size) := Lib.hid T_u7.out.lt
    refine (ack_any 7 L4 A10 d4 x4 B4 e4 X4 l4 ({ x0 with st := 2 } : Fl) HV4.out HX4.out (by omega) (by unfold awaitsR; rw [if_neg (by decide), if_neg (by decide)]; show (decide (x0.m.level = 2) && decide ((2 : Int) = 2)) = true; rw [HMM.out, HL.out]; decide) u7 O_u7.out).mono ?_
    rintro e u8 ⟨L5, A11, d5, x5, B5, e5, X5, l5, A9, c9, n9, rfl, hv9, hx9, hw9, hf9, hb⟩
    have T_u8 : Hid (BK 27 u8 (w.heap.size) (wcs L4 A10 d4 x4 B4 e4 X4 l4)) := Lib.hid (T_u7.out.step hb)
    have K_u8 : Hid (BK 30 u8 (w.heap.size + 1) (msgC m am cm)) := Lib.hid (K_u7.out.step hb)
    have B_u8 : Hid (Below w.heap.size w u8) := Lib.hid (stepB B_u7.out hb)
    have O_u8 : Hid (WOk u8 A10 d4 x4 B4 e4 X4) := Lib.hid (WOk.step O_u7.out hb)
    clear T_u7 K_u7 B_u7 O_u7
    clear hb
    have N_u8 : Hid (WOk u8 A11 d5 x5 B5 e5 X5) := Lib.hid (hw9)
    rw [if_neg (by decide)] at hx9
    have HO5 : Hid (OffG w.heap.size A11 x5 B5 X5) := Lib.hid (hf9 _ (by have := HZ5.out; omega))
    have HV5 := Lib.hid hv9
    have HX5 := Lib.hid hx9
    clear hv9 hx9 hw9 hf9
    clear O_u8
    go_wp2_with first
      | (refine S2.wpList_store_all (by rfl) 27 (.tmp 4) (.tmp 158) rfl rfl (w.heap.size) rfl (wcs L5 A11 d5 x5 B5 e5 X5 l5) rfl 27 (wcs L4 A10 d4 x4 B4 e4 X4 l4) T_u8.out winSize rfl (ones rfl) ?_; intro u9 hM hP; have T_u9 : Hid (BK 27 u9 (w.heap.size) (wcs L5 A11 d5 x5 B5 e5 X5 l5)) := Lib.hid hM; have K_u9 : Hid (BK 30 u9 (w.heap.size + 1) (msgC m am cm)) := Lib.hid (hP.other K_u8.out (by have := ZaK.out; omega)); have B_u9 : Hid (Below w.heap.size w u9) := Lib.hid (hP.below B_u8.out (by have := ZaB.out; omega)); have O_u9 : Hid (WOk u9 A11 d5 x5 B5 e5 X5) := Lib.hid (wok_putA N_u8.out hP HO5.out); clear hM hP T_u8 K_u8 B_u8 N_u8)
      | (refine wpList_load_v (by rfl) 27 (.tmp 4) rfl ⟨w.heap.size, 0, none⟩ rfl (wv L5 A11 d5 x5 B5 e5 X5 l5) (S2.run_load_all T_u9.out Tryd.underlying27 rfl winSize) ?_)
    refine (resend1_any L5 A11 d5 x5 B5 e5 X5 l5 HV5.out u9 O_u9.out).mono ?_
    rintro e u10 ⟨Dd, fd, kd, rfl, hk9, hs9, hb⟩
    have T_u10 : Hid (BK 27 u10 (w.heap.size) (wcs L5 A11 d5 x5 B5 e5 X5 l5)) := Lib.hid (T_u9.out.step hb)
    have K_u10 : Hid (BK 30 u10 (w.heap.size + 1) (msgC m am cm)) := Lib.hid (K_u9.out.step hb)
    have B_u10 : Hid (Below w.heap.size w u10) := Lib.hid (stepB B_u9.out hb)
    have O_u10 : Hid (WOk u10 A11 d5 x5 B5 e5 X5) := Lib.hid (WOk.step O_u9.out hb)
    clear T_u9 K_u9 B_u9 O_u9
    clear hb
    have S_u10 : Hid (KS u10 u10.heap.size Dd kd) := Lib.hid (hs9)
    have HKd := Lib.hid hk9
    clear hs9 hk9
    have h3 : ∀ w1, KS w1 w1.heap.size Dd kd → Calls Tryd.prog 13 #[.slice Dd kd.length fd, .int .i64 3, .int .i64 x0.id] w1 fun e w' => e = .returned (.int .i64 0) ∧ Below w1.heap.size w1 w' := fun w1 h => sent1_any Dd fd kd (x5.map FE.f) 3 x0.id 0 HKd.out.1 HKd.out.2 (sent_out 3 HX5.out) w1 h
    have h6 : ∀ w1, KS w1 w1.heap.size Dd kd → Calls Tryd.prog 13 #[.slice Dd kd.length fd, .int .i64 6, .int .i64 x0.id] w1 fun e w' => e = .returned (.int .i64 0) ∧ Below w1.heap.size w1 w' := fun w1 h => sent1_any Dd fd kd (x5.map FE.f) 6 x0.id 0 HKd.out.1 HKd.out.2 (sent_out 6 HX5.out) w1 h
    have HS3 := Lib.hid h3
    have HS6 := Lib.hid h6
    clear h3 h6
    have hlen9 := HV5.out.len
    simp only [List.length_map] at hlen9
    have HL9 := Lib.hid hlen9
    clear hlen9
    go_wp2_with fail
    refine (HA.out u10 (HOK.out.step B_u10.out)).mono ?_
    rintro e u11 ⟨rfl, hb⟩
    have T_u11 : Hid (BK 27 u11 (w.heap.size) (wcs L5 A11 d5 x5 B5 e5 X5 l5)) := Lib.hid (T_u10.out.step hb)
    have K_u11 : Hid (BK 30 u11 (w.heap.size + 1) (msgC m am cm)) := Lib.hid (K_u10.out.step hb)
    have B_u11 : Hid (Below w.heap.size w u11) := Lib.hid (stepB B_u10.out hb)
    have O_u11 : Hid (WOk u11 A11 d5 x5 B5 e5 X5) := Lib.hid (WOk.step O_u10.out hb)
    have S_u11 : Hid (KS u11 u11.heap.size Dd kd) := Lib.hid (KS.step S_u10.out hb)
    clear T_u10 K_u10 B_u10 O_u10 S_u10
    clear hb
    go_wp2_with fail
    refine (HS3.out u11 S_u11.out).mono ?_
    rintro e u12 ⟨rfl, hb⟩
    have T_u12 : Hid (BK 27 u12 (w.heap.size) (wcs L5 A11 d5 x5 B5 e5 X5 l5)) := Lib.hid (T_u11.out.step hb)
    have K_u12 : Hid (BK 30 u12 (w.heap.size + 1) (msgC m am cm)) := Lib.hid (K_u11.out.step hb)
    have B_u12 : Hid (Below w.heap.size w u12) := Lib.hid (stepB B_u11.out hb)
    have O_u12 : Hid (WOk u12 A11 d5 x5 B5 e5 X5) := Lib.hid (WOk.step O_u11.out hb)
    have S_u12 : Hid (KS u12 u12.heap.size Dd kd) := Lib.hid (KS.step S_u11.out hb)
    clear T_u11 K_u11 B_u11 O_u11 S_u11
    clear hb
    go_wp2_with fail
    refine (HS6.out u12 S_u12.out).mono ?_
    rintro e u13 ⟨rfl, hb⟩
    have T_u13 : Hid (BK 27 u13 (w.heap.size) (wcs L5 A11 d5 x5 B5 e5 X5 l5)) := Lib.hid (T_u12.out.step hb)
    have K_u13 : Hid (BK 30 u13 (w.heap.size + 1) (msgC m am cm)) := Lib.hid (K_u12.out.step hb)
    have B_u13 : Hid (Below w.heap.size w u13) := Lib.hid (stepB B_u12.out hb)
    have O_u13 : Hid (WOk u13 A11 d5 x5 B5 e5 X5) := Lib.hid (WOk.step O_u12.out hb)
    have S_u13 : Hid (KS u13 u13.heap.size Dd kd) := Lib.hid (KS.step S_u12.out hb)
    clear T_u12 K_u12 B_u12 O_u12 S_u12
    clear hb
    have dt := T_u13.out.cell 1 rfl
    go_wp2_with fail
    refine (rat_any A11 d5 x5 x0.id u13 O_u13.out.1 (by have := HL9.out; omega)).mono ?_
    rintro e u14 ⟨rfl, hb⟩
    clear dt
    have T_u14 : Hid (BK 27 u14 (w.heap.size) (wcs L5 A11 d5 x5 B5 e5 X5 l5)) := Lib.hid (T_u13.out.step hb)
    have K_u14 : Hid (BK 30 u14 (w.heap.size + 1) (msgC m am cm)) := Lib.hid (K_u13.out.step hb)
    have B_u14 : Hid (Below w.heap.size w u14) := Lib.hid (stepB B_u13.out hb)
    have O_u14 : Hid (WOk u14 A11 d5 x5 B5 e5 X5) := Lib.hid (WOk.step O_u13.out hb)
    have S_u14 : Hid (KS u14 u14.heap.size Dd kd) := Lib.hid (KS.step S_u13.out hb)
    clear T_u13 K_u13 B_u13 O_u13 S_u13
    clear hb
    rw [at_gone HX5.out]
    go_wp2_with fail
    go_ret
    exact ⟨rfl, B_u14.out⟩
end Go.Proofs.YtomlideijhejfaaDoor
namespace Go.Proofs.YtomlideijhejfaaDoor.inflightOnce
open Go.ChangeShapes Go.WideShapes Go.ChangeAt Go.WideMaps Go.WideElems Go.RowKit
open Go.ChangeMaps (open_string shut_string)

theorem own : ownKnob Tryd.prog.godebug = none := by kernel_rfl
theorem okw {W : World} (h : W.ShapedOpen Tryd.prog) : S1.Okw W := Tryd.laysM220.s1_3 W h

set_option maxRecDepth 100000 in
theorem contract (H : Type) (enc : TypeId × Value → H) (W : World) (base : Nat) (args : Array Value) (ds gs : List (DataW H)) (before : List MemPlace)
    (hval : ∀ (j : Nat) t v, Tryd.f3.params[j]? = some t → args[j]? = some v → Value.okWide Tryd.prog W .any base t v)
    (hW : DataW.Whole enc Tryd.prog Tryd.f3.params.toList Rows.inflightOnceSpec.vars false W args.toList ds gs before)
    (hsz : (DataW.weightsEach Tryd.prog (Tryd.f3.params.toList ++ (OpenSpec.ofChange Rows.inflightOnceSpec).bare.plain.varTypes Tryd.prog) (ds ++ gs)).all (· ≤ reachBytes) = true)
    (hsh : W.ShapedOpen Tryd.prog) :
    Calls Tryd.prog 3 args W fun e W' => ∃ v, e = .returned v ∧ Rows.inflightOnceSpec.post enc Tryd.prog Tryd.f3 false true false false W args v W' := by
  have hW' := hW
  obtain ⟨p, q, hA0, hV, rfl, hfz, hnd⟩ := hW
  have hA : DataW.TrodAll enc Tryd.prog W 0 (fun _ => true) true Tryd.f3.params.toList args.toList ds p := hA0
  rw [Tryd.params3] at hA hval
  obtain ⟨v0, vs0, d0, ds0, p0, q0, hargs, rfl, rfl, h0, r0⟩ := trodAll_cons hA
  obtain ⟨v1, vs1, d1, ds1, p1, q1, rfl, rfl, rfl, h1, r1⟩ := trodAll_cons r0
  obtain ⟨v2, vs2, d2, ds2, p2, q2, rfl, rfl, rfl, h2, r2⟩ := trodAll_cons r1
  obtain ⟨v3, vs3, d3, ds3, p3, q3, rfl, rfl, rfl, h3, r3⟩ := trodAll_cons r2
  obtain ⟨rfl, rfl, rfl⟩ := trodAll_nil r3
  obtain rfl : args = #[v0, v1, v2, v3] := by cases args; simp_all
  obtain ⟨rfl, rfl⟩ := trodVars_none hV
  have h0k := h0
  obtain ⟨L0, A0, c0, xs0, B0, e0, X0, l0, rfl, ok0, hXl0, hnl0, fo0, hXb0⟩ := open_win (hval 0 27 v0 rfl rfl) h0
  have h1k := h1
  obtain ⟨m1, a1, c1, rfl, sl1, ms1⟩ := open_msgO (hval 1 30 v1 rfl rfl) h1
  obtain ⟨a2, n2, c2, rfl⟩ := okWide_slice Tryd.underlying31 (hval 2 31 v2 rfl rfl)
  have h2k := h2
  obtain ⟨fu2, hf2⟩ := h2
  obtain ⟨a3, n3, c3, rfl⟩ := okWide_slice Tryd.underlying31 (hval 3 31 v3 rfl rfl)
  have h3k := h3
  obtain ⟨fu3, hf3⟩ := h3
  clear hA0
  simp only [List.append_nil] at hW'
  have hrb := reachBytes_lt
  have hlt : ∀ x ∈ p0 ++ p1 ++ p2 ++ p3, x.block < W.heap.size := fun x hx => by simpa using hW'.lt x (by simpa using hx)
  obtain ⟨A2, e2, X2, hE2, sl2, hc2, hN2, ho2⟩ := open_ops14 hf2
  simp only [Value.slice.injEq] at hE2
  obtain ⟨rfl, rfl, rfl⟩ := hE2
  obtain ⟨A3, e3, X3, hE3, sl3, hc3, hN3, ho3⟩ := open_ops14 hf3
  simp only [Value.slice.injEq] at hE3
  obtain ⟨rfl, rfl, rfl⟩ := hE3
  refine (inflightOnce_walk L0 A0 c0 xs0 B0 e0 X0 l0 m1 a1 c1 a2 c2 X2 a3 c3 X3 W (okw hsh) ok0 hXl0 hnl0 (fun x hx => (fo0 x hx).2) sl1 ms1 sl2 ho2 sl3 ho3).mono fun e W' ⟨he, hb⟩ => ?_
  subst he
  have e1 : Rows.inflightOnceSpec.fn H ([d0, d1, d2, d3] ++ []) = { results := [.lit (.bool true)], args := [d0, d1, d2, d3] } := rfl
  refine ⟨_, rfl, _, _, _, [], p0 ++ p1 ++ p2 ++ p3, [], by simpa using hW', ?_, ?_, ?_, hb.frame _, fun h => by cases h⟩
  · exact trodAll_cons_mk (shut_bool Tryd.underlying4 _) trodAll_mk0
  · rw [e1]
    simpa using trodAll_cons_mk (Below.trod laidOutAll (by kernel_rfl) (of_decide_eq_true (by kernel_rfl)) h0k hb (fun x hx => hlt x (by simp [hx]))) (trodAll_cons_mk (Below.trod laidOutAll (by kernel_rfl) (of_decide_eq_true (by kernel_rfl)) h1k hb (fun x hx => hlt x (by simp [hx]))) (trodAll_cons_mk (Below.trod laidOutAll (by kernel_rfl) (of_decide_eq_true (by kernel_rfl)) h2k hb (fun x hx => hlt x (by simp [hx]))) (trodAll_cons_mk (Below.trod laidOutAll (by kernel_rfl) (of_decide_eq_true (by kernel_rfl)) h3k hb (fun x hx => hlt x (by simp [hx]))) (trodAll_mk0))))
  · rfl

theorem laid_met (os : Os) : laidMet Tryd.prog Rows.inflightOnceRow.laid ((World.laidAll Tryd.prog os Rows.inflightOnceRow.laid).forCall (fun _ _ => 0) ⟨#[], #[.agg #[.int .i64 0, .slice none 0 0, .slice none 0 0, .int .i64 0], .agg #[.string ByteArray.empty, .string ByteArray.empty, .int .i64 0, .bool false, .int .i64 0, .int .i64 0, .string ByteArray.empty, .int .i64 0, .slice none 0 0], .slice none 0 0, .slice none 0 0], []⟩).memory :=
  laidMet_laidAll _ (by kernel_rfl) (by kernel_rfl)
theorem reads (os : Os) {H : Type} (enc : TypeId × Value → H) : ∃ places, DataW.whole enc Tryd.prog ((World.laidAll Tryd.prog os Rows.inflightOnceRow.laid).forCall (fun _ _ => 0) ⟨#[], #[.agg #[.int .i64 0, .slice none 0 0, .slice none 0 0, .int .i64 0], .agg #[.string ByteArray.empty, .string ByteArray.empty, .int .i64 0, .bool false, .int .i64 0, .int .i64 0, .string ByteArray.empty, .int .i64 0, .slice none 0 0], .slice none 0 0, .slice none 0 0], []⟩).memory Tryd.f3.params.toList Rows.inflightOnceSpec.vars false #[Value.agg #[.int .i64 0, .slice none 0 0, .slice none 0 0, .int .i64 0], Value.agg #[.string ByteArray.empty, .string ByteArray.empty, .int .i64 0, .bool false, .int .i64 0, .int .i64 0, .string ByteArray.empty, .int .i64 0, .slice none 0 0], Value.slice none 0 0, Value.slice none 0 0].toList 8 = some ([.agg [.lit (.int .i64 0), .nil, .agg [.nil, .lit (.int .i64 0)]], .agg [.lit (.string []), .lit (.string []), .lit (.int .i64 0), .lit (.bool false), .lit (.int .i64 0), .lit (.int .i64 0), .lit (.string []), .lit (.int .i64 0), .nil], .nil, .nil], [], places) :=
  ⟨[], by kernel_rfl⟩

set_option maxRecDepth 100000 in
theorem lifted (os : Os) (started : os.Started) (H : Type) (enc : TypeId × Value → H) (F : Stop.Interp) :
    ReturnsInHanded {} Tryd.checked os 3 .any ((OpenSpec.ofChange Rows.inflightOnceSpec).preRow enc Tryd.prog Tryd.f3 Rows.inflightOnceRow.domain false Rows.inflightOnceRow.laid) (((OpenSpec.ofChange Rows.inflightOnceSpec).at F).post enc Tryd.prog Tryd.f3 false true false false) := by
  obtain ⟨places, hx⟩ := reads os enc
  refine returnsInHanded_of_row (C := Tryd.checked) (s := (OpenSpec.ofChange Rows.inflightOnceSpec)) own started (by kernel_rfl) Tryd.func3
    (witness_row_at (enc := enc) (C := Tryd.checked) false (World.laidAll Tryd.prog os Rows.inflightOnceRow.laid) #[.agg #[.int .i64 0, .slice none 0 0, .slice none 0 0, .int .i64 0], .agg #[.string ByteArray.empty, .string ByteArray.empty, .int .i64 0, .bool false, .int .i64 0, .int .i64 0, .string ByteArray.empty, .int .i64 0, .slice none 0 0], .slice none 0 0, .slice none 0 0] (World.laidAll_os _ _ _) (by kernel_rfl) (by kernel_rfl) (by kernel_rfl)
      (OpenSpec.preRow_of_cond 8 hx (by kernel_rfl) (fun k hk => by cases hk) (by kernel_rfl) (laid_met os))) ?_
  intro W base args ds gs before hval hW _ _ hsz _ hsh _
  exact contract H enc W base args ds gs before hval hW hsz hsh

theorem said : Rows.InflightOnceSaid :=
  OpenClaim.holds_of_cond 3 Tryd.f3 rfl rfl rfl rfl rfl rfl rfl ⟨rfl, rfl, rfl, rfl, rfl⟩ rfl rfl rfl rfl rfl (by kernel_rfl) Tryd.func3 (by kernel_rfl)
    (of_decide_eq_true (by kernel_rfl)) (by unfold Func.isWrapper; first | (rw [if_pos (by decide +kernel)]; kernel_rfl) | (rw [if_neg (by decide +kernel)]; exact ⟨rfl, rfl⟩))
    (fun os started H enc _ F => by rw [OpenClaim.pre_eq_preRow]; exact lifted os started H enc F)

theorem plain (f : FuncId) (fn : Func) (hf : Tryd.pinned.checked.prog.funcNamed "broker/brokerlaw14.InflightOnce" = some f) (hfn : Tryd.pinned.checked.prog.funcs[f]? = some fn) :
    false = Tryd.pinned.checked.prog.looks [] ∧ ∀ (j : Nat) t, fn.params[j]? = some t → Tryd.pinned.checked.prog.wantsStandIn t = false := by
  obtain rfl : f = 3 := Option.some.inj ((show Tryd.prog.funcNamed "broker/brokerlaw14.InflightOnce" = some 3 by kernel_rfl).symm.trans hf) |>.symm
  obtain rfl : fn = Tryd.f3 := (Option.some.inj (Tryd.func3.symm.trans hfn)).symm
  refine ⟨by kernel_rfl, fun j t ht => ?_⟩
  rw [Tryd.params3] at ht
  have hm : t ∈ [27, 30, 31, 31] := by simpa using Array.mem_of_getElem? ht
  simp only [List.mem_cons, List.not_mem_nil, or_false] at hm
  rcases hm with rfl | rfl | rfl | rfl
  · exact (show Tryd.prog.wantsStandIn 27 = false by kernel_rfl)
  · exact (show Tryd.prog.wantsStandIn 30 = false by kernel_rfl)
  · exact (show Tryd.prog.wantsStandIn 31 = false by kernel_rfl)
  · exact (show Tryd.prog.wantsStandIn 31 = false by kernel_rfl)

theorem card : Rows.InflightOnceCardSaid :=
  Claim7.holds_tied_plain_at .later [] _ _ _ _ said (fun _ h => by cases h) (by kernel_rfl) (fun _ h => by cases h) inflightOnce_row_tie rfl ⟨rfl, rfl⟩ (by kernel_rfl) rfl plain (by kernel_rfl)
end Go.Proofs.YtomlideijhejfaaDoor.inflightOnce
