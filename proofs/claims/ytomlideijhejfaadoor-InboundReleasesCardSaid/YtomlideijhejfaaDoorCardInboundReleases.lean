/-
  A list of properties that came in, opened for the walks. Conditions: it reads as data.
  A message that came in by value, and bytes that came in, opened for the walks. Conditions: it reads as data.
  A packet that came in by value, opened for the walks. Conditions: it reads as data.
  An inbox that came in by value, opened. Conditions: it reads as data.
  The walk of InboundReleases: it answers true. Conditions: the inbox and the packet read as data; the library's bound on short texts holds a number.
  PROVED: InboundReleases answers true for every text (each of its 2 arguments).
  Conditions: those that the row prints (the tables of package unicode/utf8 read as the program's text lays them; each argument has at most 2^47 bytes). The tie of the tables is given, over a pruned copy of the project.
-/
import Derived.Test.YtomlideijhejfaaDoorMsg
import Derived.ProofKit
import Derived.OpenShut
import Derived.SliceStrings
import Derived.SizedLaws
import Derived.Deep.SlicePairs
import Derived.Lib.SmallJoins
import Derived.Test.YtomlideijhejfaaDoorPkt
import Derived.Deep.Slices
import Derived.Test.YtomlideijhejfaaDoorNa
import Derived.Test.YtomlideijhejfaaDoorNf
import Derived.Test.YtomlideijhejfaaDoorSamR
import Derived.Test.YtomlideijhejfaaDoorCards
import Derived.Test.YtomlideijhejfaaDoorTie
import Derived.Deep.DeepHandedRow
import Derived.Lib.LaidTab
import Derived.Lay
import Derived.LaidOnce
import Derived.Carry
import Derived.SevenTiedAt
namespace Go.Proofs.YtomlideijhejfaaDoor
open Go.ChangeShapes Go.WideShapes Go.ChangeAt Go.WideMaps Go.WideElems Go.RowKit

theorem laidOutAll : laidOutB Tryd.prog = true := by kernel_rfl
theorem cellsStr : Tryd.prog.cellsOf 9 = 1 := by kernel_rfl
theorem cellsProp : Tryd.prog.cellsOf 107 = 2 := by kernel_rfl
theorem bytesProp : Tryd.prog.bytesOf 107 = 32 := by kernel_rfl
/-- cells behind an address that holds something -/
theorem plain_addr {w : World} {a : Addr} {v : Value} (h : w.cell? (a.add 0) = some v) : ∃ b o, a = ⟨b, o, none⟩ ∧ b < w.heap.size := by
  obtain ⟨b, off, spot⟩ := a
  have hspot : spot = none := by simpa [Addr.add] using World.cell?_spot h
  subst hspot
  refine ⟨b, off, rfl, ?_⟩
  rcases Nat.lt_or_ge b w.heap.size with h' | h'
  · exact h'
  · have : w.heap[b]? = none := Array.getElem?_eq_none h'
    simp [World.cell?, Addr.add, this] at h
theorem add_plain (b o j : Nat) : (⟨b, o + j, none⟩ : Addr) = (⟨b, o, none⟩ : Addr).add j := by
  unfold Addr.add
  split
  · next h => subst h; rfl
  · rfl
/-- a value's text -/
def strV : Value → ByteArray
  | .string s => s
  | _ => ⟨#[]⟩
theorem open_props {H : Type} {enc : TypeId × Value → H} {W : World} {a0 : Option Addr} {len cap fuel : Nat} {x : DataW H × List MemPlace}
    (hf : DataW.trod enc Tryd.prog W 0 (fun _ => true) true fuel 28 [.slice a0 len cap] = some x) :
    ∃ Xs : List PR, Xs.length = len ∧ PL W W.heap.size a0 Xs ∧ len ≤ cap ∧ (len = 0 ∨ ∃ elems spare, x.1 = .slice elems spare ∧ elems.length = len) := by
  rcases Go.Deep.open_slice_pairs Tryd.underlying28 Tryd.underlying107 cellsProp rfl rfl cellsStr cellsStr hf with ⟨hcs, hx⟩ | ⟨a, len', cap', m, n, V0, V1, D0, D1, P0, P1, hcs, _, hl, hm, hmm, hx, hi⟩
  · simp at hcs
    obtain ⟨rfl, rfl, rfl⟩ := hcs
    exact ⟨[], rfl, GL.nil _ _ _, Nat.le_refl _, Or.inl rfl⟩
  · simp at hcs
    obtain ⟨rfl, rfl, rfl⟩ := hcs
    subst hx
    simp only [if_true] at hmm
    refine ⟨(List.range len).map fun i => (strV (V0 i), strV (V1 i)), by simp, fun h0 => ?_, hl, Or.inr ⟨_, _, rfl, by simp⟩⟩
    simp at h0
    obtain ⟨b, o, rfl, hb⟩ := plain_addr (hi 0 (by omega)).1
    refine ⟨b, o, rfl, hb, fun j X i v hX hv => ?_⟩
    rw [List.getElem?_map] at hX
    have hj : j < len := by
      rcases Nat.lt_or_ge j len with h | h
      · exact h
      · rw [List.getElem?_eq_none (by simpa using h)] at hX; cases hX
    rw [List.getElem?_range hj] at hX
    obtain rfl := Option.some.inj hX
    obtain ⟨h1, h2, h3, h4⟩ := hi j (by omega)
    obtain ⟨s0, e0, _⟩ := DataW.trod_string Tryd.underlying9 h3
    obtain ⟨s1, e1, _⟩ := DataW.trod_string Tryd.underlying9 h4
    simp at e0 e1
    rw [e0] at h1
    rw [e1] at h2
    match i, hv with
    | 0, hv =>
      simp [gP, strV, e0] at hv
      rw [Nat.add_zero, add_plain, h1, hv]
    | 1, hv =>
      simp [gP, strV, e1] at hv
      rw [Nat.add_assoc, add_plain, h2, hv]
theorem props_small {H : Type} {ts : List TypeId} {ds : List (DataW H)} (h : (DataW.weightsEach Tryd.prog ts ds).all (· ≤ reachBytes) = true) {j : Nat} (ht : ts[j]? = some 28) {d : DataW H} (hd : ds[j]? = some d)
    {n : Nat} (hs : n = 0 ∨ ∃ elems spare, d = .slice elems spare ∧ elems.length = n) : n ≤ 4398046511104 := by
  rcases hs with h0 | ⟨elems, spare, rfl, rfl⟩
  · omega
  · have hr := reachBytes_lt
    have := sized_slice h ht hd Tryd.underlying28
    rw [bytesProp] at this
    omega

end Go.Proofs.YtomlideijhejfaaDoor
namespace Go.Proofs.YtomlideijhejfaaDoor
open Go.Joins Go.ChangeShapes Go.WideShapes Go.ChangeAt Go.WideMaps Go.WideElems Go.RowKit Go.Deep

theorem cellsMsg : Tryd.prog.cellsOf 30 = 9 := by kernel_rfl
theorem cellsI64 : Tryd.prog.cellsOf 3 = 1 := by kernel_rfl
theorem cellsBool : Tryd.prog.cellsOf 4 = 1 := by kernel_rfl
theorem cellsProps : Tryd.prog.cellsOf 28 = 1 := by kernel_rfl
theorem wf64 {n : Int} (h : (Lit.int .i64 n).wf = true) : -9223372036854775808 ≤ n ∧ n ≤ 9223372036854775807 := by
  have h1 : IntKind.i64.min = -9223372036854775808 := rfl
  have h2 : IntKind.i64.max = 9223372036854775807 := rfl
  simp only [Lit.wf, Bool.and_eq_true, decide_eq_true_eq] at h
  omega
set_option maxRecDepth 100000 in
theorem open_props' {H : Type} {enc : TypeId × Value → H} {W : World} {v : Value} {fuel : Nat} {x : DataW H × List MemPlace}
    (hf : DataW.trod enc Tryd.prog W 0 (fun _ => true) true fuel 28 [v] = some x) :
    ∃ (A : Option Addr) (c : Nat) (Xs : List PR), v = .slice A Xs.length c ∧ PL W W.heap.size A Xs := by
  have h2 := hf
  rcases Go.Deep.open_slice_pairs Tryd.underlying28 Tryd.underlying107 cellsProp rfl rfl cellsStr cellsStr h2 with ⟨hcs, _⟩ | ⟨a, len, cap, m, n, V0, V1, D0, D1, P0, P1, hcs, _⟩
  · simp at hcs
    subst hcs
    exact ⟨none, 0, [], rfl, GL.nil _ _ _⟩
  · simp at hcs
    subst hcs
    obtain ⟨Xs, rfl, hp, _⟩ := open_props hf
    exact ⟨_, _, Xs, rfl, hp⟩
set_option maxRecDepth 100000 in
theorem open_msg {H : Type} {enc : TypeId × Value → H} {W : World} {r : Reach} {b0 : Nat} {v : Value} {d : DataW H} {p : List MemPlace} (hv : Value.okWide Tryd.prog W r b0 30 v)
    (h : DataW.Trod enc Tryd.prog W 0 (fun _ => true) true 30 v d p) : ∃ (m : Msg) (A : Option Addr) (c : Nat), v = msgV m A c ∧ m.fits ∧ PL W W.heap.size A m.props := by
  obtain ⟨cs, rfl, hsz⟩ := okWide_struct Tryd.underlying30 hv
  obtain ⟨fuel, hf⟩ := h
  obtain ⟨l⟩ := cs
  have hl : l.length = 9 := by have := hsz.trans cellsMsg; simpa using this
  match l, hl with
  | [c0, c1, c2, c3, c4, c5, c6, c7, c8], _ =>
    obtain ⟨ys, n, _, _, _, hyl, hfld⟩ := DataW.trod_struct Tryd.underlying30 hf
    match ys, hyl with
    | [y0, y1, y2, y3, y4, y5, y6, y7, y8], _ =>
      have g0 := hfld 0 _ rfl
      have g1 := hfld 1 _ rfl
      have g2 := hfld 2 _ rfl
      have g3 := hfld 3 _ rfl
      have g4 := hfld 4 _ rfl
      have g5 := hfld 5 _ rfl
      have g6 := hfld 6 _ rfl
      have g7 := hfld 7 _ rfl
      have g8 := hfld 8 _ rfl
      simp [Value.cells, cellsStr, cellsI64, cellsBool, cellsProps] at g0 g1 g2 g3 g4 g5 g6 g7 g8
      obtain ⟨s0, e0, _⟩ := DataW.trod_string Tryd.underlying9 (show DataW.trod _ _ _ _ _ _ _ 9 [c0] = some y0 from g0)
      obtain ⟨s1, e1, _⟩ := DataW.trod_string Tryd.underlying9 (show DataW.trod _ _ _ _ _ _ _ 9 [c1] = some y1 from g1)
      obtain ⟨n2, e2, _, w2⟩ := DataW.trod_int Tryd.underlying3 (show DataW.trod _ _ _ _ _ _ _ 3 [c2] = some y2 from g2)
      obtain ⟨b3, e3, _⟩ := DataW.trod_bool Tryd.underlying4 (show DataW.trod _ _ _ _ _ _ _ 4 [c3] = some y3 from g3)
      obtain ⟨n4, e4, _, w4⟩ := DataW.trod_int Tryd.underlying3 (show DataW.trod _ _ _ _ _ _ _ 3 [c4] = some y4 from g4)
      obtain ⟨n5, e5, _, w5⟩ := DataW.trod_int Tryd.underlying3 (show DataW.trod _ _ _ _ _ _ _ 3 [c5] = some y5 from g5)
      obtain ⟨s6, e6, _⟩ := DataW.trod_string Tryd.underlying9 (show DataW.trod _ _ _ _ _ _ _ 9 [c6] = some y6 from g6)
      obtain ⟨n7, e7, _, w7⟩ := DataW.trod_int Tryd.underlying3 (show DataW.trod _ _ _ _ _ _ _ 3 [c7] = some y7 from g7)
      obtain ⟨A, c, Xs, e8, hp⟩ := open_props' (show DataW.trod enc Tryd.prog W 0 (fun _ => true) true n 28 [c8] = some y8 from g8)
      simp only [List.cons.injEq, and_true] at e0 e1 e2 e3 e4 e5 e6 e7
      subst e0 e1 e2 e3 e4 e5 e6 e7 e8
      exact ⟨⟨s0, s1, n2, b3, n4, n5, s6, n7, Xs⟩, A, c, rfl, ⟨wf64 w2, wf64 w4, wf64 w5, wf64 w7⟩, hp⟩

/-! ### Bytes -/
theorem cellsU8 : Tryd.prog.cellsOf 5 = 1 := by kernel_rfl
theorem bytesU8 : Tryd.prog.bytesOf 5 = 1 := by kernel_rfl
theorem u8_wf {n : Int} (h : (Lit.int .u8 n).wf = true) : 0 ≤ n ∧ n < 256 := by
  have h1 : IntKind.u8.min = 0 := rfl
  have h2 : IntKind.u8.max = 255 := rfl
  simp only [Lit.wf, Bool.and_eq_true, decide_eq_true_eq] at h
  omega
end Go.Proofs.YtomlideijhejfaaDoor
namespace Go.Proofs.YtomlideijhejfaaDoor
open Go.Joins Go.ChangeShapes Go.WideShapes Go.ChangeAt Go.WideMaps Go.WideElems Go.RowKit Go.Deep

theorem cellsSub : Tryd.prog.cellsOf 117 = 3 := by kernel_rfl
theorem cellsSubs : Tryd.prog.cellsOf 37 = 1 := by kernel_rfl
theorem cellsStrs : Tryd.prog.cellsOf 38 = 1 := by kernel_rfl
theorem cellsInts : Tryd.prog.cellsOf 23 = 1 := by kernel_rfl
theorem cellsWill : Tryd.prog.cellsOf 36 = 11 := by kernel_rfl
theorem cellsPkt : Tryd.prog.cellsOf 40 = 34 := by kernel_rfl
section
variable {H : Type} {enc : TypeId × Value → H} {W : World}
set_option maxRecDepth 100000 in
/-- the cells of one subscription -/
theorem open_sub1 {fuel : Nat} {cs : List Value} {x : DataW H × List MemPlace} (hf : DataW.trod enc Tryd.prog W 0 (fun _ => true) true fuel 117 cs = some x) : ∃ X : SB, cs = gS X := by
  obtain ⟨ys, n, _, _, hl, hyl, hfld⟩ := DataW.trod_struct Tryd.underlying117 hf
  rw [cellsSub] at hl
  match cs, hl with
  | [c0, c1, c2], _ =>
    match ys, hyl with
    | [y0, y1, y2], _ =>
      have g0 := hfld 0 _ rfl
      have g1 := hfld 1 _ rfl
      have g2 := hfld 2 _ rfl
      simp [cellsStr, cellsI64, cellsBool] at g0 g1 g2
      obtain ⟨s0, e0, _⟩ := DataW.trod_string Tryd.underlying9 (show DataW.trod _ _ _ _ _ _ _ 9 [c0] = some y0 from g0)
      obtain ⟨n1, e1, _, _⟩ := DataW.trod_int Tryd.underlying3 (show DataW.trod _ _ _ _ _ _ _ 3 [c1] = some y1 from g1)
      obtain ⟨b2, e2, _⟩ := DataW.trod_bool Tryd.underlying4 (show DataW.trod _ _ _ _ _ _ _ 4 [c2] = some y2 from g2)
      simp only [List.cons.injEq, and_true] at e0 e1 e2
      subst e0 e1 e2
      exact ⟨(s0, n1, b2), rfl⟩
set_option maxRecDepth 100000 in
theorem open_subs {fuel : Nat} {v : Value} {x : DataW H × List MemPlace} (hf : DataW.trod enc Tryd.prog W 0 (fun _ => true) true fuel 37 [v] = some x) :
    ∃ (A : Option Addr) (c : Nat) (Xs : List SB), v = .slice A Xs.length c ∧ BL W W.heap.size A Xs := by
  rcases open_slice Tryd.underlying37 hf with ⟨hcs, _⟩ | ⟨a, len, cap, m, n, D, Pl, hcs, _, hl, _, hmm, _, hi⟩
  · simp at hcs
    subst hcs
    exact ⟨none, 0, [], rfl, GL.nil _ _ _⟩
  · simp at hcs
    subst hcs
    simp only [if_true] at hmm
    have each : ∀ i : Nat, ∃ X : SB, i < len → ∀ j u, (gS X)[j]? = some u → W.cell? (a.add (i * 3 + j)) = some u := fun i => by
      by_cases h : i < len
      · obtain ⟨cs', hc, ht⟩ := hi i (by omega)
        rw [cellsSub] at hc
        obtain ⟨X, rfl⟩ := open_sub1 ht
        obtain ⟨_, _, hat⟩ := World.cells?_some hc
        refine ⟨X, fun _ j u hj => ?_⟩
        have hj3 : j < 3 := (List.getElem?_eq_some_iff.1 hj).1
        rw [← Go.Deep.add_add, hat j hj3, hj]
      · exact ⟨(⟨#[]⟩, 0, false), fun h' => absurd h' h⟩
    refine ⟨some a, cap, (List.range len).map fun i => Classical.choose (each i), by simp, fun h0 => ?_⟩
    simp at h0
    obtain ⟨b, o, rfl, hb⟩ := plain_addr (show W.cell? (a.add 0) = some _ from Classical.choose_spec (each 0) (by omega) 0 _ rfl)
    refine ⟨b, o, rfl, hb, fun j X i v hX hv => ?_⟩
    rw [List.getElem?_map] at hX
    have hj : j < len := by
      rcases Nat.lt_or_ge j len with h | h
      · exact h
      · rw [List.getElem?_eq_none (by simpa using h)] at hX; cases hX
    rw [List.getElem?_range hj] at hX
    obtain rfl := Option.some.inj hX
    rw [Nat.add_assoc, add_plain]
    exact Classical.choose_spec (each j) hj i v hv
set_option maxRecDepth 100000 in
theorem open_strs {fuel : Nat} {v : Value} {x : DataW H × List MemPlace} (hf : DataW.trod enc Tryd.prog W 0 (fun _ => true) true fuel 38 [v] = some x) :
    ∃ (A : Option Addr) (c : Nat) (Xs : List ByteArray), v = .slice A Xs.length c ∧ SL W W.heap.size A Xs := by
  rcases open_strings Tryd.underlying38 Tryd.underlying9 cellsStr hf with ⟨hcs, _⟩ | ⟨a, len, cap, ss, hcs, _, hl, _, hz, _, hcell, _⟩
  · simp at hcs
    subst hcs
    exact ⟨none, 0, [], rfl, CL.nil _ _ _⟩
  · simp at hcs
    subst hcs
    simp only [if_true] at hz
    refine ⟨some a, cap, ss.take len, by simp; omega, fun h0 => ?_⟩
    rw [List.length_take] at h0
    obtain ⟨b, o, rfl, hb⟩ := plain_addr (hcell 0 (by omega))
    refine ⟨b, o, rfl, hb, fun j X hX => ?_⟩
    have hj : j < len := by have := (List.getElem?_eq_some_iff.1 hX).1; simp at this; omega
    rw [List.getElem?_take_of_lt hj] at hX
    rw [add_plain, hcell j (by omega), List.getD_eq_getElem?_getD, hX]
    rfl
set_option maxRecDepth 100000 in
theorem open_nums {fuel : Nat} {v : Value} {x : DataW H × List MemPlace} (hf : DataW.trod enc Tryd.prog W 0 (fun _ => true) true fuel 23 [v] = some x) :
    ∃ (A : Option Addr) (c : Nat) (Xs : List Int), v = .slice A Xs.length c ∧ IL W W.heap.size A Xs := by
  rcases open_ints Tryd.underlying23 Tryd.underlying3 cellsI64 hf with ⟨hcs, _⟩ | ⟨a, len, cap, zs, hcs, _, hl, _, hz, _, hcell, _⟩
  · simp at hcs
    subst hcs
    exact ⟨none, 0, [], rfl, CL.nil _ _ _⟩
  · simp at hcs
    subst hcs
    simp only [if_true] at hz
    refine ⟨some a, cap, zs.take len, by simp; omega, fun h0 => ?_⟩
    rw [List.length_take] at h0
    obtain ⟨b, o, rfl, hb⟩ := plain_addr (hcell 0 (by omega))
    refine ⟨b, o, rfl, hb, fun j X hX => ?_⟩
    have hj : j < len := by have := (List.getElem?_eq_some_iff.1 hX).1; simp at this; omega
    rw [List.getElem?_take_of_lt hj] at hX
    rw [add_plain, hcell j (by omega), List.getD_eq_getElem?_getD, hX]
    rfl
set_option maxRecDepth 100000 in
theorem open_msgc {fuel : Nat} {cs : List Value} {x : DataW H × List MemPlace} (hf : DataW.trod enc Tryd.prog W 0 (fun _ => true) true fuel 30 cs = some x) :
    ∃ (m : Msg) (A : Option Addr) (c : Nat), cs = msgC m A c ∧ PL W W.heap.size A m.props := by
  obtain ⟨ys, n, _, _, hl, hyl, hfld⟩ := DataW.trod_struct Tryd.underlying30 hf
  rw [cellsMsg] at hl
  match cs, hl with
  | [c0, c1, c2, c3, c4, c5, c6, c7, c8], _ =>
    match ys, hyl with
    | [y0, y1, y2, y3, y4, y5, y6, y7, y8], _ =>
      have g0 := hfld 0 _ rfl
      have g1 := hfld 1 _ rfl
      have g2 := hfld 2 _ rfl
      have g3 := hfld 3 _ rfl
      have g4 := hfld 4 _ rfl
      have g5 := hfld 5 _ rfl
      have g6 := hfld 6 _ rfl
      have g7 := hfld 7 _ rfl
      have g8 := hfld 8 _ rfl
      simp [cellsStr, cellsI64, cellsBool, cellsProps] at g0 g1 g2 g3 g4 g5 g6 g7 g8
      obtain ⟨v0, e0, _⟩ := DataW.trod_string Tryd.underlying9 (show DataW.trod enc Tryd.prog W 0 (fun _ => true) true n 9 [c0] = some y0 from g0)
      obtain ⟨v1, e1, _⟩ := DataW.trod_string Tryd.underlying9 (show DataW.trod enc Tryd.prog W 0 (fun _ => true) true n 9 [c1] = some y1 from g1)
      obtain ⟨v2, e2, _, _⟩ := DataW.trod_int Tryd.underlying3 (show DataW.trod enc Tryd.prog W 0 (fun _ => true) true n 3 [c2] = some y2 from g2)
      obtain ⟨v3, e3, _⟩ := DataW.trod_bool Tryd.underlying4 (show DataW.trod enc Tryd.prog W 0 (fun _ => true) true n 4 [c3] = some y3 from g3)
      obtain ⟨v4, e4, _, _⟩ := DataW.trod_int Tryd.underlying3 (show DataW.trod enc Tryd.prog W 0 (fun _ => true) true n 3 [c4] = some y4 from g4)
      obtain ⟨v5, e5, _, _⟩ := DataW.trod_int Tryd.underlying3 (show DataW.trod enc Tryd.prog W 0 (fun _ => true) true n 3 [c5] = some y5 from g5)
      obtain ⟨v6, e6, _⟩ := DataW.trod_string Tryd.underlying9 (show DataW.trod enc Tryd.prog W 0 (fun _ => true) true n 9 [c6] = some y6 from g6)
      obtain ⟨v7, e7, _, _⟩ := DataW.trod_int Tryd.underlying3 (show DataW.trod enc Tryd.prog W 0 (fun _ => true) true n 3 [c7] = some y7 from g7)
      obtain ⟨A8, p8, X8, e8, h8⟩ := open_props' (show DataW.trod enc Tryd.prog W 0 (fun _ => true) true n 28 [c8] = some y8 from g8)
      simp only [List.cons.injEq, and_true] at e0 e1 e2 e3 e4 e5 e6 e7
      subst e0 e1 e2 e3 e4 e5 e6 e7 e8
      exact ⟨⟨v0, v1, v2, v3, v4, v5, v6, v7, X8⟩, A8, p8, rfl, h8⟩
set_option maxRecDepth 100000 in
theorem open_willc {fuel : Nat} {cs : List Value} {x : DataW H × List MemPlace} (hf : DataW.trod enc Tryd.prog W 0 (fun _ => true) true fuel 36 cs = some x) :
    ∃ (s : Bool) (d : Int) (m : Msg) (A : Option Addr) (c : Nat), cs = [.bool s, .int .i64 d] ++ msgC m A c ∧ PL W W.heap.size A m.props := by
  obtain ⟨ys, n, _, _, hl, hyl, hfld⟩ := DataW.trod_struct Tryd.underlying36 hf
  rw [cellsWill] at hl
  match cs, hl with
  | [c0, c1, c2, c3, c4, c5, c6, c7, c8, c9, c10], _ =>
    match ys, hyl with
    | [y0, y1, y2], _ =>
      have g0 := hfld 0 _ rfl
      have g1 := hfld 1 _ rfl
      have g2 := hfld 2 _ rfl
      simp [cellsI64, cellsBool, cellsMsg] at g0 g1 g2
      obtain ⟨v0, e0, _⟩ := DataW.trod_bool Tryd.underlying4 (show DataW.trod enc Tryd.prog W 0 (fun _ => true) true n 4 [c0] = some y0 from g0)
      obtain ⟨v1, e1, _, _⟩ := DataW.trod_int Tryd.underlying3 (show DataW.trod enc Tryd.prog W 0 (fun _ => true) true n 3 [c1] = some y1 from g1)
      obtain ⟨m, A, c, e2, h2⟩ := open_msgc (show DataW.trod enc Tryd.prog W 0 (fun _ => true) true n 30 [c2, c3, c4, c5, c6, c7, c8, c9, c10] = some y2 from g2)
      simp only [List.cons.injEq, and_true] at e0 e1
      subst e0 e1
      exact ⟨v0, v1, m, A, c, by rw [← e2]; rfl, h2⟩
set_option maxRecDepth 100000 in
set_option maxHeartbeats 4000000 in
theorem open_pkt {r : Reach} {b0 : Nat} {v : Value} {d : DataW H} {p : List MemPlace} (hv : Value.okWide Tryd.prog W r b0 40 v)
    (h : DataW.Trod enc Tryd.prog W 0 (fun _ => true) true 40 v d p) : ∃ (q : Pkt) (a : PA), v = pkV q a ∧ PIn W q a := by
  obtain ⟨cs, rfl, hsz⟩ := okWide_struct Tryd.underlying40 hv
  obtain ⟨fuel, hf⟩ := h
  obtain ⟨l⟩ := cs
  have hl : l.length = 34 := by have := hsz.trans cellsPkt; simpa using this
  · skip
    obtain ⟨c0, l0, q0⟩ := List.exists_cons_of_length_pos (l := l) (by omega)
    subst q0
    have hl0 : l0.length = 33 := by simpa using hl
    clear hl
    obtain ⟨c1, l1, q1⟩ := List.exists_cons_of_length_pos (l := l0) (by omega)
    subst q1
    have hl1 : l1.length = 32 := by simpa using hl0
    clear hl0
    obtain ⟨c2, l2, q2⟩ := List.exists_cons_of_length_pos (l := l1) (by omega)
    subst q2
    have hl2 : l2.length = 31 := by simpa using hl1
    clear hl1
    obtain ⟨c3, l3, q3⟩ := List.exists_cons_of_length_pos (l := l2) (by omega)
    subst q3
    have hl3 : l3.length = 30 := by simpa using hl2
    clear hl2
    obtain ⟨c4, l4, q4⟩ := List.exists_cons_of_length_pos (l := l3) (by omega)
    subst q4
    have hl4 : l4.length = 29 := by simpa using hl3
    clear hl3
    obtain ⟨c5, l5, q5⟩ := List.exists_cons_of_length_pos (l := l4) (by omega)
    subst q5
    have hl5 : l5.length = 28 := by simpa using hl4
    clear hl4
    obtain ⟨c6, l6, q6⟩ := List.exists_cons_of_length_pos (l := l5) (by omega)
    subst q6
    have hl6 : l6.length = 27 := by simpa using hl5
    clear hl5
    obtain ⟨c7, l7, q7⟩ := List.exists_cons_of_length_pos (l := l6) (by omega)
    subst q7
    have hl7 : l7.length = 26 := by simpa using hl6
    clear hl6
    obtain ⟨c8, l8, q8⟩ := List.exists_cons_of_length_pos (l := l7) (by omega)
    subst q8
    have hl8 : l8.length = 25 := by simpa using hl7
    clear hl7
    obtain ⟨c9, l9, q9⟩ := List.exists_cons_of_length_pos (l := l8) (by omega)
    subst q9
    have hl9 : l9.length = 24 := by simpa using hl8
    clear hl8
    obtain ⟨c10, l10, q10⟩ := List.exists_cons_of_length_pos (l := l9) (by omega)
    subst q10
    have hl10 : l10.length = 23 := by simpa using hl9
    clear hl9
    obtain ⟨c11, l11, q11⟩ := List.exists_cons_of_length_pos (l := l10) (by omega)
    subst q11
    have hl11 : l11.length = 22 := by simpa using hl10
    clear hl10
    obtain ⟨c12, l12, q12⟩ := List.exists_cons_of_length_pos (l := l11) (by omega)
    subst q12
    have hl12 : l12.length = 21 := by simpa using hl11
    clear hl11
    obtain ⟨c13, l13, q13⟩ := List.exists_cons_of_length_pos (l := l12) (by omega)
    subst q13
    have hl13 : l13.length = 20 := by simpa using hl12
    clear hl12
    obtain ⟨c14, l14, q14⟩ := List.exists_cons_of_length_pos (l := l13) (by omega)
    subst q14
    have hl14 : l14.length = 19 := by simpa using hl13
    clear hl13
    obtain ⟨c15, l15, q15⟩ := List.exists_cons_of_length_pos (l := l14) (by omega)
    subst q15
    have hl15 : l15.length = 18 := by simpa using hl14
    clear hl14
    obtain ⟨c16, l16, q16⟩ := List.exists_cons_of_length_pos (l := l15) (by omega)
    subst q16
    have hl16 : l16.length = 17 := by simpa using hl15
    clear hl15
    obtain ⟨c17, l17, q17⟩ := List.exists_cons_of_length_pos (l := l16) (by omega)
    subst q17
    have hl17 : l17.length = 16 := by simpa using hl16
    clear hl16
    obtain ⟨c18, l18, q18⟩ := List.exists_cons_of_length_pos (l := l17) (by omega)
    subst q18
    have hl18 : l18.length = 15 := by simpa using hl17
    clear hl17
    obtain ⟨c19, l19, q19⟩ := List.exists_cons_of_length_pos (l := l18) (by omega)
    subst q19
    have hl19 : l19.length = 14 := by simpa using hl18
    clear hl18
    obtain ⟨c20, l20, q20⟩ := List.exists_cons_of_length_pos (l := l19) (by omega)
    subst q20
    have hl20 : l20.length = 13 := by simpa using hl19
    clear hl19
    obtain ⟨c21, l21, q21⟩ := List.exists_cons_of_length_pos (l := l20) (by omega)
    subst q21
    have hl21 : l21.length = 12 := by simpa using hl20
    clear hl20
    obtain ⟨c22, l22, q22⟩ := List.exists_cons_of_length_pos (l := l21) (by omega)
    subst q22
    have hl22 : l22.length = 11 := by simpa using hl21
    clear hl21
    obtain ⟨c23, l23, q23⟩ := List.exists_cons_of_length_pos (l := l22) (by omega)
    subst q23
    have hl23 : l23.length = 10 := by simpa using hl22
    clear hl22
    obtain ⟨c24, l24, q24⟩ := List.exists_cons_of_length_pos (l := l23) (by omega)
    subst q24
    have hl24 : l24.length = 9 := by simpa using hl23
    clear hl23
    obtain ⟨c25, l25, q25⟩ := List.exists_cons_of_length_pos (l := l24) (by omega)
    subst q25
    have hl25 : l25.length = 8 := by simpa using hl24
    clear hl24
    obtain ⟨c26, l26, q26⟩ := List.exists_cons_of_length_pos (l := l25) (by omega)
    subst q26
    have hl26 : l26.length = 7 := by simpa using hl25
    clear hl25
    obtain ⟨c27, l27, q27⟩ := List.exists_cons_of_length_pos (l := l26) (by omega)
    subst q27
    have hl27 : l27.length = 6 := by simpa using hl26
    clear hl26
    obtain ⟨c28, l28, q28⟩ := List.exists_cons_of_length_pos (l := l27) (by omega)
    subst q28
    have hl28 : l28.length = 5 := by simpa using hl27
    clear hl27
    obtain ⟨c29, l29, q29⟩ := List.exists_cons_of_length_pos (l := l28) (by omega)
    subst q29
    have hl29 : l29.length = 4 := by simpa using hl28
    clear hl28
    obtain ⟨c30, l30, q30⟩ := List.exists_cons_of_length_pos (l := l29) (by omega)
    subst q30
    have hl30 : l30.length = 3 := by simpa using hl29
    clear hl29
    obtain ⟨c31, l31, q31⟩ := List.exists_cons_of_length_pos (l := l30) (by omega)
    subst q31
    have hl31 : l31.length = 2 := by simpa using hl30
    clear hl30
    obtain ⟨c32, l32, q32⟩ := List.exists_cons_of_length_pos (l := l31) (by omega)
    subst q32
    have hl32 : l32.length = 1 := by simpa using hl31
    clear hl31
    obtain ⟨c33, l33, q33⟩ := List.exists_cons_of_length_pos (l := l32) (by omega)
    subst q33
    have hl33 : l33.length = 0 := by simpa using hl32
    clear hl32
    have q34 := List.eq_nil_of_length_eq_zero hl33
    subst q34
    obtain ⟨ys, n, _, _, _, hyl, hfld⟩ := DataW.trod_struct Tryd.underlying40 hf
    match ys, hyl with
    | [y0, y1, y2, y3, y4, y5, y6, y7, y8, y9, y10, y11, y12, y13, y14, y15], _ =>
      have g0 := hfld 0 _ rfl
      have g1 := hfld 1 _ rfl
      have g2 := hfld 2 _ rfl
      have g3 := hfld 3 _ rfl
      have g4 := hfld 4 _ rfl
      have g5 := hfld 5 _ rfl
      have g6 := hfld 6 _ rfl
      have g7 := hfld 7 _ rfl
      have g8 := hfld 8 _ rfl
      have g9 := hfld 9 _ rfl
      have g10 := hfld 10 _ rfl
      have g11 := hfld 11 _ rfl
      have g12 := hfld 12 _ rfl
      have g13 := hfld 13 _ rfl
      have g14 := hfld 14 _ rfl
      have g15 := hfld 15 _ rfl
      simp [Value.cells, cellsStr, cellsI64, cellsBool, cellsMsg, cellsWill, cellsSubs, cellsStrs, cellsInts] at g0 g1 g2 g3 g4 g5 g6 g7 g8 g9 g10 g11 g12 g13 g14 g15
      obtain ⟨v0, e0, _, _⟩ := DataW.trod_int Tryd.underlying3 (show DataW.trod enc Tryd.prog W 0 (fun _ => true) true n 3 [c0] = some y0 from g0)
      obtain ⟨v1, e1, _, _⟩ := DataW.trod_int Tryd.underlying3 (show DataW.trod enc Tryd.prog W 0 (fun _ => true) true n 3 [c1] = some y1 from g1)
      obtain ⟨v2, e2, _⟩ := DataW.trod_bool Tryd.underlying4 (show DataW.trod enc Tryd.prog W 0 (fun _ => true) true n 4 [c2] = some y2 from g2)
      obtain ⟨m3, A3, p3, e3, h3⟩ := open_msgc (show DataW.trod enc Tryd.prog W 0 (fun _ => true) true n 30 [c3, c4, c5, c6, c7, c8, c9, c10, c11] = some y3 from g3)
      obtain ⟨v4, e4, _⟩ := DataW.trod_string Tryd.underlying9 (show DataW.trod enc Tryd.prog W 0 (fun _ => true) true n 9 [c12] = some y4 from g4)
      obtain ⟨v5, e5, _⟩ := DataW.trod_string Tryd.underlying9 (show DataW.trod enc Tryd.prog W 0 (fun _ => true) true n 9 [c13] = some y5 from g5)
      obtain ⟨v6, e6, _⟩ := DataW.trod_bool Tryd.underlying4 (show DataW.trod enc Tryd.prog W 0 (fun _ => true) true n 4 [c14] = some y6 from g6)
      obtain ⟨v7, e7, _, _⟩ := DataW.trod_int Tryd.underlying3 (show DataW.trod enc Tryd.prog W 0 (fun _ => true) true n 3 [c15] = some y7 from g7)
      obtain ⟨v8, e8, _, _⟩ := DataW.trod_int Tryd.underlying3 (show DataW.trod enc Tryd.prog W 0 (fun _ => true) true n 3 [c16] = some y8 from g8)
      obtain ⟨v9, e9, _, _⟩ := DataW.trod_int Tryd.underlying3 (show DataW.trod enc Tryd.prog W 0 (fun _ => true) true n 3 [c17] = some y9 from g9)
      obtain ⟨s10, d10, m10, A10, p10, e10, h10⟩ := open_willc (show DataW.trod enc Tryd.prog W 0 (fun _ => true) true n 36 [c18, c19, c20, c21, c22, c23, c24, c25, c26, c27, c28] = some y10 from g10)
      obtain ⟨v11, e11, _⟩ := DataW.trod_bool Tryd.underlying4 (show DataW.trod enc Tryd.prog W 0 (fun _ => true) true n 4 [c29] = some y11 from g11)
      obtain ⟨v12, e12, _, _⟩ := DataW.trod_int Tryd.underlying3 (show DataW.trod enc Tryd.prog W 0 (fun _ => true) true n 3 [c30] = some y12 from g12)
      obtain ⟨A13, p13, X13, e13, h13⟩ := open_subs (show DataW.trod enc Tryd.prog W 0 (fun _ => true) true n 37 [c31] = some y13 from g13)
      obtain ⟨A14, p14, X14, e14, h14⟩ := open_strs (show DataW.trod enc Tryd.prog W 0 (fun _ => true) true n 38 [c32] = some y14 from g14)
      obtain ⟨A15, p15, X15, e15, h15⟩ := open_nums (show DataW.trod enc Tryd.prog W 0 (fun _ => true) true n 23 [c33] = some y15 from g15)
      simp only [msgC, List.cons_append, List.nil_append, List.cons.injEq, and_true] at e0 e1 e2 e3 e4 e5 e6 e7 e8 e9 e10 e11 e12
      obtain ⟨f1, f2, f3, f4, f5, f6, f7, f8, f9⟩ := e3
      obtain ⟨k1, k2, k3, k4, k5, k6, k7, k8, k9, k10, k11⟩ := e10
      subst e0 e1 e2 e4 e5 e6 e7 e8 e9 e11 e12 e13 e14 e15 f1 f2 f3 f4 f5 f6 f7 f8 f9 k1 k2 k3 k4 k5 k6 k7 k8 k9 k10 k11
      exact ⟨⟨v0, v1, v2, m3, v4, v5, v6, v7, v8, v9, s10, d10, m10, v11, v12, X13, X14, X15⟩, ⟨A3, p3, A10, p10, A13, p13, A14, p14, A15, p15⟩, rfl, ⟨h3, h10, h13, h14, h15⟩⟩
end

end Go.Proofs.YtomlideijhejfaaDoor
namespace Go.Proofs.YtomlideijhejfaaDoor
open Go.Joins Go.ChangeShapes Go.WideShapes Go.ChangeAt Go.WideMaps Go.WideElems Go.RowKit Go.Deep

theorem len_maxI {n : Nat} (h : n ≤ maxLen) : n ≤ 9223372036854775807 := by unfold maxLen at h; omega
theorem cellsIntsI : Tryd.prog.cellsOf 23 = 1 := by kernel_rfl
theorem cellsInb : Tryd.prog.cellsOf 53 = 1 := by kernel_rfl
section
variable {H : Type} {enc : TypeId × Value → H} {W : World}
theorem open_numsI {v : Value} {fuel : Nat} {x : DataW H × List MemPlace}
    (hf : DataW.trod enc Tryd.prog W 0 (fun _ => true) true fuel 23 [v] = some x) :
    ∃ (A : Option Addr) (c : Nat) (X : List Int), v = .slice A X.length c ∧ S2.IL W W.heap.size A X ∧ X.length ≤ c ∧ X.length ≤ 9223372036854775807 ∧ ∀ x ∈ X, -9223372036854775808 ≤ x ∧ x ≤ 9223372036854775807 := by
  rcases open_ints Tryd.underlying23 Tryd.underlying3 cellsI64 hf with ⟨hcs, hx⟩ | ⟨a, len', cap', zs, hcs, _, hl, hm, hz, hx, hcell, hwf⟩
  · simp at hcs
    subst hcs
    exact ⟨none, 0, [], rfl, CL.nil _ _ _, Nat.le_refl _, by simp, fun x h => by cases h⟩
  · simp at hcs
    subst hcs
    simp only [if_true] at hz
    have hlen : (zs.take len').length = len' := by rw [List.length_take]; omega
    have hmm : cap' ≤ 9223372036854775807 := by unfold maxLen at hm; omega
    refine ⟨some a, cap', zs.take len', by rw [hlen], fun h0 => ?_, by omega, by omega, fun x hx => wf64 (hwf x (List.mem_of_mem_take hx))⟩
    rw [hlen] at h0
    obtain ⟨b, o, rfl, hb⟩ := plain_addr (hcell 0 (by omega))
    refine ⟨b, o, rfl, hb, fun j X hX => ?_⟩
    have hj : j < len' := by have := (List.getElem?_eq_some_iff.1 hX).1; omega
    rw [List.getElem?_take_of_lt hj] at hX
    rw [add_plain, hcell j (by omega), List.getD_eq_getElem?_getD, hX]
    rfl
set_option maxRecDepth 100000 in

theorem open_inb {r : Reach} {b0 : Nat} {v : Value} {d : DataW H} {p : List MemPlace} (hv : Value.okWide Tryd.prog W r b0 53 v)
    (h : DataW.Trod enc Tryd.prog W 0 (fun _ => true) true 53 v d p) : ∃ (A : Option Addr) (c : Nat) (X : List Int), v = S2.xv A c X ∧ S2.IL W W.heap.size A X ∧ X.length ≤ c ∧ X.length ≤ 9223372036854775807 := by
  obtain ⟨cs, rfl, hsz⟩ := okWide_struct Tryd.underlying53 hv
  obtain ⟨fuel, hf⟩ := h
  obtain ⟨l⟩ := cs
  have hl : l.length = 1 := by have := hsz.trans cellsInb; simpa using this
  match l, hl with
  | [c0], _ =>
    obtain ⟨ys, n, _, _, _, hyl, hfld⟩ := DataW.trod_struct Tryd.underlying53 hf
    match ys, hyl with
    | [y0], _ =>
      have g0 := hfld 0 _ rfl
      simp [cellsIntsI] at g0
      obtain ⟨A, c, X, e1, h1, h2, h3, _⟩ := open_numsI (show DataW.trod enc Tryd.prog W 0 (fun _ => true) true n 23 [c0] = some y0 from g0)
      subst e1
      exact ⟨A, c, X, rfl, h1, h2, h3⟩
end
end Go.Proofs.YtomlideijhejfaaDoor
namespace Go.Proofs.YtomlideijhejfaaDoor
open Go.RowKit
open S2 (BK Put)

theorem nrel_facts {X : List Int} {k n : Int} {Y : List Int} {q : Pkt} {f : Int} (h : nrelR X k n = (Y, q, f)) (hm : X.length ≤ 1000000) (hu : S2.upI 0 X = true) :
    Y.length ≤ 1000000 ∧ S2.upI 0 Y = true ∧ (q.msg.props = [] ∧ q.wmsg.props = [] ∧ q.subs = [] ∧ q.filters = [] ∧ q.codes = []) ∧ (f = 0 → nrelR Y k n = (Y, q, f)) := by
  unfold nrelR at h
  by_cases h1 : k = 6
  · rw [if_neg (by simpa using h1)] at h
    by_cases h2 : n < 1 ∨ 65535 < n
    · rw [if_pos h2] at h
      obtain ⟨rfl, rfl, rfl⟩ : [] = Y ∧ Pkt.zero = q ∧ (15 : Int) = f := by simpa using h
      exact ⟨by simp, rfl, ⟨rfl, rfl, rfl, rfl, rfl⟩, fun h => by cases h⟩
    · rw [if_neg h2] at h
      obtain ⟨rfl, rfl, rfl⟩ : S2.delI X n = Y ∧ plainP 7 n = q ∧ (0 : Int) = f := by simpa using h
      have hl := S2.del_len X n
      refine ⟨by omega, S2.del_up hu, ⟨rfl, rfl, rfl, rfl, rfl⟩, fun _ => ?_⟩
      unfold nrelR
      rw [if_neg (by simpa using h1), if_neg h2, S2.del_id (fun h => ((S2.del_mem X n n).1 h).2 rfl)]
  · rw [if_pos h1] at h
    obtain ⟨rfl, rfl, rfl⟩ : [] = Y ∧ Pkt.zero = q ∧ (10 : Int) = f := by simpa using h
    exact ⟨by simp, rfl, ⟨rfl, rfl, rfl, rfl, rfl⟩, fun h => by cases h⟩
theorem psame_self {q : Pkt} (h1 : q.msg.props = []) (h2 : q.wmsg.props = []) (h3 : q.subs = []) (h4 : q.filters = []) (h5 : q.codes = []) (w : World) :
    Calls Tryd.prog 24 #[pkV q PA.zero, pkV q PA.zero] w fun e w' => e = .returned (.bool true) ∧ Below w.heap.size w w' := by
  have := rSameP_any q q PA.zero PA.zero w (pin0 w h1 h2 h3 h4 h5) (pin0 w h1 h2 h3 h4 h5) (psz0 h1 h2 h3 h4 h5) (psz0 h1 h2 h3 h4 h5)
  rw [show sameP q q = true by simp [sameP]] at this
  exact this
theorem nsame_self (A A' : Option Addr) (c c' : Nat) (X : List Int) (hX : X.length ≤ 1000000) (w : World) (hs : S2.IL w w.heap.size A X) (ht : S2.IL w w.heap.size A' X) :
    Calls Tryd.prog 23 #[S2.xv A c X, S2.xv A' c' X] w fun e w' => e = .returned (.bool true) ∧ Below w.heap.size w w' := by
  have := nrSame_any A A' c c' X X w hs ht (by omega) (by omega)
  rw [decide_eq_true rfl] at this
  exact this

set_option maxRecDepth 20000 in
set_option maxHeartbeats 8000000 in
theorem inboundReleases_walk (A : Option Addr) (c : Nat) (X : List Int) (p : Pkt) (a : PA) (w : World) (hok : S1.Okw w) (hsl : S2.IL w w.heap.size A X) (hX : X.length ≤ 9223372036854775807) :
    Calls Tryd.prog 5 #[S2.xv A c X, pkV p a] w fun e w' => e = .returned (.bool true) ∧ Below w.heap.size w w' := by
  have HOK := Lib.hid hok
  have HA := Lib.hid (fun w1 h => awake15_any w1 h)
  have HR := Lib.hid (fun w1 h => nrCheck_any A c X w1 h hX)
  have HL := Lib.hid hsl
  by_cases hz : S2.ckI X 0 = 0
  case neg =>
    have q1 : (S2.ckI X 0 != 0) = true := by simp [hz]
    generalize S2.ckI X 0 = z at HR q1
    clear hz hok hsl hX
    unfold pkV
    go_enter Tryd.func5, Tryd.ntmps5
    go_upto_region 1 with fail
    refine name_world (C := fun w1 => Code.wp _ _ _ _ w1) ((w.alloc (.cells [.slice A X.length c].toArray 53)).alloc (.cells (pkC p a).toArray 40)) ?_
    intro w1 hw1
    obtain ⟨hB0, t1, t2⟩ := two hw1
    have T_w1 : Hid (BK 53 w1 w.heap.size [.slice A X.length c]) := Lib.hid t1
    have B_w1 : Hid (Below w.heap.size w w1) := Lib.hid hB0
    have L_w1 : Hid (S2.IL w1 w1.heap.size A X) := Lib.hid (CL.step HL.out hB0)
    clear hw1 HL t1 t2 hB0
    go_wp2_with first
      | (refine wpList_load_v (by rfl) 53 (.tmp 2) rfl ⟨w.heap.size, 0, none⟩ rfl (S2.xv A c X) (S2.run_load_all T_w1.out Tryd.underlying53 rfl S2.boxSize) ?_)
    refine (HR.out w1 L_w1.out).mono ?_
    rintro e v1 ⟨rfl, hb⟩
    have T_v1 : Hid (BK 53 v1 w.heap.size [.slice A X.length c]) := Lib.hid (T_w1.out.step hb)
    have B_v1 : Hid (Below w.heap.size w v1) := Lib.hid (stepB B_w1.out hb)
    have L_v1 : Hid (S2.IL v1 v1.heap.size A X) := Lib.hid (CL.step L_w1.out hb)
    clear T_w1 B_w1 L_w1
    clear hb
    go_wp2_with fail
    refine (HA.out v1 (HOK.out.step B_v1.out)).mono ?_
    rintro e v2 ⟨rfl, hb⟩
    have T_v2 : Hid (BK 53 v2 w.heap.size [.slice A X.length c]) := Lib.hid (T_v1.out.step hb)
    have B_v2 : Hid (Below w.heap.size w v2) := Lib.hid (stepB B_v1.out hb)
    have L_v2 : Hid (S2.IL v2 v2.heap.size A X) := Lib.hid (CL.step L_v1.out hb)
    clear T_v1 B_v1 L_v1
    clear hb
    go_wp2_with fail
    go_ret
    exact ⟨rfl, B_v2.out⟩
  have hm : X.length ≤ 1000000 := by have := (S2.ck_ok.1 hz).1; omega
  have hup := (S2.ck_ok.1 hz).2.1
  obtain ⟨⟨Y, q, f⟩, hr⟩ : ∃ r, nrelR X p.kind p.id = r := ⟨_, rfl⟩
  obtain ⟨hYm, hYu, ⟨g1, g2, g3, g4, g5⟩, hagain⟩ := nrel_facts hr hm hup
  have H1 : Hid (∀ w1, S2.IL w1 w1.heap.size A X → Calls Tryd.prog 21 #[S2.xv A c X, pkV p a] w1 (RetNr (Y, q, f) w1)) := Lib.hid (fun w1 h => by have := nRelease_any A c X p a w1 h hm hup; rw [hr] at this; exact this)
  have H2 : Hid (∀ w1, S2.IL w1 w1.heap.size A X → Calls Tryd.prog 22 #[S2.xv A c X, pkV p a] w1 (RetNs A X (Y, q, f) w1)) := Lib.hid (fun w1 h => by have := nrRelease_any A c X p a w1 h hm; rw [hr] at this; exact this)
  have H3 : Hid (f = 0 → ∀ A1 c1 w1, S2.IL w1 w1.heap.size A1 Y → Calls Tryd.prog 21 #[S2.xv A1 c1 Y, pkV p a] w1 (RetNr (Y, q, f) w1)) := Lib.hid (fun hf A1 c1 w1 h => by have := nRelease_any A1 c1 Y p a w1 h hYm hYu; rw [hagain hf] at this; exact this)
  have HP := Lib.hid (fun w1 => psame_self g1 g2 g3 g4 g5 w1)
  have HS := Lib.hid (fun A1 A2 c1 c2 w1 hs ht => nsame_self A1 A2 c1 c2 Y hYm w1 hs ht)
  rw [hz] at HR
  clear hz hok hsl hX hm hup hr hYm hYu g1 g2 g3 g4 g5 hagain
  have q1 : ((0 : Int) != 0) = false := rfl
  unfold pkV at H1 H2 H3 HP ⊢
  go_enter Tryd.func5, Tryd.ntmps5
  go_upto_region 1 with fail
  refine name_world (C := fun w1 => Code.wp _ _ _ _ w1) ((w.alloc (.cells [.slice A X.length c].toArray 53)).alloc (.cells (pkC p a).toArray 40)) ?_
  intro w1 hw1
  obtain ⟨hB0, t1, t2⟩ := two hw1
  have T_w1 : Hid (BK 53 w1 w.heap.size [.slice A X.length c]) := Lib.hid t1
  have K_w1 : Hid (BK 40 w1 (w.heap.size + 1) (pkC p a)) := Lib.hid t2
  have B_w1 : Hid (Below w.heap.size w w1) := Lib.hid hB0
  have L_w1 : Hid (S2.IL w1 w1.heap.size A X) := Lib.hid (CL.step HL.out hB0)
  clear hw1 HL t1 t2 hB0
  go_wp2_with first
    | (refine wpList_load_v (by rfl) 53 (.tmp 2) rfl ⟨w.heap.size, 0, none⟩ rfl (S2.xv A c X) (S2.run_load_all T_w1.out Tryd.underlying53 rfl S2.boxSize) ?_)
  refine (HR.out w1 L_w1.out).mono ?_
  rintro e v1 ⟨rfl, hb⟩
  have T_v1 : Hid (BK 53 v1 w.heap.size [.slice A X.length c]) := Lib.hid (T_w1.out.step hb)
  have K_v1 : Hid (BK 40 v1 (w.heap.size + 1) (pkC p a)) := Lib.hid (K_w1.out.step hb)
  have B_v1 : Hid (Below w.heap.size w v1) := Lib.hid (stepB B_w1.out hb)
  have L_v1 : Hid (S2.IL v1 v1.heap.size A X) := Lib.hid (CL.step L_w1.out hb)
  clear T_w1 K_w1 B_w1 L_w1
  clear hb
  clear HR
  go_wp2_with first
    | (refine wpList_load_v (by rfl) 53 (.tmp 2) rfl ⟨w.heap.size, 0, none⟩ rfl (S2.xv A c X) (S2.run_load_all T_v1.out Tryd.underlying53 rfl S2.boxSize) ?_)
    | (refine wpList_load_v (by rfl) 40 (.tmp 3) rfl ⟨(w.heap.size + 1), 0, none⟩ rfl (.agg (pkC p a).toArray) (S2.run_load_all K_v1.out Tryd.underlying40 rfl info33) ?_)
  refine (H1.out v1 L_v1.out).mono ?_
  rintro e v2 ⟨A1, c1, rfl, _, hl, _, hb⟩
  have T_v2 : Hid (BK 53 v2 w.heap.size [.slice A X.length c]) := Lib.hid (T_v1.out.step hb)
  have K_v2 : Hid (BK 40 v2 (w.heap.size + 1) (pkC p a)) := Lib.hid (K_v1.out.step hb)
  have B_v2 : Hid (Below w.heap.size w v2) := Lib.hid (stepB B_v1.out hb)
  have L_v2 : Hid (S2.IL v2 v2.heap.size A X) := Lib.hid (CL.step L_v1.out hb)
  clear T_v1 K_v1 B_v1 L_v1
  have L1_v2 : Hid (S2.IL v2 v2.heap.size A1 Y) := Lib.hid (hl)
  clear hb
  clear hl H1
  have ZaT : Hid (w.heap.size < v2.heap.size) := Lib.hid T_v2.out.lt
  have ZaK : Hid ((w.heap.size + 1) < v2.heap.size) := Lib.hid K_v2.out.lt
  have ZaB : Hid (w.heap.size ≤ v2.heap.size) := Lib.hid B_v2.out.size
  have ZaL : Hid (∀ b o, A = some ⟨b, o, none⟩ → 0 < (X).length → b < v2.heap.size) := Lib.hid (fun b o e hn => S2.IL.lt L_v2.out b o e hn)
  have ZaL1 : Hid (∀ b o, A1 = some ⟨b, o, none⟩ → 0 < (Y).length → b < v2.heap.size) := Lib.hid (fun b o e hn => S2.IL.lt L1_v2.out b o e hn)
  go_wp2_with first
    | (refine S2.wpList_store_all (by rfl) 53 (.tmp 5) (.tmp 20) rfl rfl (v2.heap.size) rfl [.slice A1 Y.length c1] rfl 53 [.slice none 0 0] (BK.alloc (BK.new v2 _ _) _) S2.boxSize rfl (onesB rfl) ?_; intro v3 hM hP; have hb : Below v2.heap.size v2 v3 := hP.below (stepB (S2.below_new v2 _) (S2.below_new _ _)) (Nat.le_refl _); have T_v3 : Hid (BK 53 v3 w.heap.size [.slice A X.length c]) := Lib.hid (T_v2.out.step hb); have K_v3 : Hid (BK 40 v3 (w.heap.size + 1) (pkC p a)) := Lib.hid (K_v2.out.step hb); have B_v3 : Hid (Below w.heap.size w v3) := Lib.hid (stepB B_v2.out hb); have L_v3 : Hid (S2.IL v3 v3.heap.size A X) := Lib.hid (CL.step L_v2.out hb); have L1_v3 : Hid (S2.IL v3 v3.heap.size A1 Y) := Lib.hid (CL.step L1_v2.out hb); have U_v3 : Hid (BK 53 v3 (v2.heap.size) [.slice A1 Y.length c1]) := Lib.hid hM; have Q_v3 : Hid (BK 40 v3 (v2.heap.size + 1) (pkC Pkt.zero PA.zero)) := Lib.hid (hP.other (zpnew v2) (by omega)); clear hM hP hb T_v2 K_v2 B_v2 L_v2 L1_v2)
    | (refine S2.wpList_store_all (by rfl) 40 (.tmp 6) (.tmp 21) rfl rfl ((v2.heap.size + 1)) rfl (pkC q PA.zero) rfl 40 (pkC Pkt.zero PA.zero) Q_v3.out info33 rfl (onesB rfl) ?_; intro v4 hM hP; have Q_v4 : Hid (BK 40 v4 ((v2.heap.size + 1)) (pkC q PA.zero)) := Lib.hid hM; have T_v4 : Hid (BK 53 v4 w.heap.size [.slice A X.length c]) := Lib.hid (hP.other T_v3.out (by have := ZaT.out; omega)); have K_v4 : Hid (BK 40 v4 (w.heap.size + 1) (pkC p a)) := Lib.hid (hP.other K_v3.out (by have := ZaK.out; omega)); have B_v4 : Hid (Below w.heap.size w v4) := Lib.hid (hP.below B_v3.out (by have := ZaB.out; omega)); have L_v4 : Hid (S2.IL v4 v4.heap.size A X) := Lib.hid (S2.IL.put L_v3.out hP (fun b o e hn => by have := ZaL.out b o e hn; omega)); have L1_v4 : Hid (S2.IL v4 v4.heap.size A1 Y) := Lib.hid (S2.IL.put L1_v3.out hP (fun b o e hn => by have := ZaL1.out b o e hn; omega)); have U_v4 : Hid (BK 53 v4 (v2.heap.size) [.slice A1 Y.length c1]) := Lib.hid (hP.other U_v3.out (by omega)); clear hM hP T_v3 K_v3 B_v3 L_v3 L1_v3 U_v3 Q_v3)
    | (refine wpList_load_v (by rfl) 53 (.tmp 2) rfl ⟨w.heap.size, 0, none⟩ rfl (S2.xv A c X) (S2.run_load_all T_v4.out Tryd.underlying53 rfl S2.boxSize) ?_)
    | (refine wpList_load_v (by rfl) 40 (.tmp 3) rfl ⟨(w.heap.size + 1), 0, none⟩ rfl (.agg (pkC p a).toArray) (S2.run_load_all K_v4.out Tryd.underlying40 rfl info33) ?_)
  refine (H2.out v4 L_v4.out).mono ?_
  rintro e v5 ⟨A2, c2, rfl, _, hl, hfr2, hb⟩
  have T_v5 : Hid (BK 53 v5 w.heap.size [.slice A X.length c]) := Lib.hid (T_v4.out.step hb)
  have K_v5 : Hid (BK 40 v5 (w.heap.size + 1) (pkC p a)) := Lib.hid (K_v4.out.step hb)
  have B_v5 : Hid (Below w.heap.size w v5) := Lib.hid (stepB B_v4.out hb)
  have L_v5 : Hid (S2.IL v5 v5.heap.size A X) := Lib.hid (CL.step L_v4.out hb)
  have L1_v5 : Hid (S2.IL v5 v5.heap.size A1 Y) := Lib.hid (CL.step L1_v4.out hb)
  have U_v5 : Hid (BK 53 v5 (v2.heap.size) [.slice A1 Y.length c1]) := Lib.hid (U_v4.out.step hb)
  have Q_v5 : Hid (BK 40 v5 ((v2.heap.size + 1)) (pkC q PA.zero)) := Lib.hid (Q_v4.out.step hb)
  clear T_v4 K_v4 B_v4 L_v4 L1_v4 U_v4 Q_v4
  have L2_v5 : Hid (S2.IL v5 v5.heap.size A2 Y) := Lib.hid (hl)
  clear hb
  clear hl H2
  have ZbT : Hid (w.heap.size < v5.heap.size) := Lib.hid T_v5.out.lt
  have ZbK : Hid ((w.heap.size + 1) < v5.heap.size) := Lib.hid K_v5.out.lt
  have ZbB : Hid (w.heap.size ≤ v5.heap.size) := Lib.hid B_v5.out.size
  have ZbL : Hid (∀ b o, A = some ⟨b, o, none⟩ → 0 < (X).length → b < v5.heap.size) := Lib.hid (fun b o e hn => S2.IL.lt L_v5.out b o e hn)
  have ZbL1 : Hid (∀ b o, A1 = some ⟨b, o, none⟩ → 0 < (Y).length → b < v5.heap.size) := Lib.hid (fun b o e hn => S2.IL.lt L1_v5.out b o e hn)
  have ZbU : Hid ((v2.heap.size) < v5.heap.size) := Lib.hid U_v5.out.lt
  have ZbQ : Hid (((v2.heap.size + 1)) < v5.heap.size) := Lib.hid Q_v5.out.lt
  have ZbL2 : Hid (∀ b o, A2 = some ⟨b, o, none⟩ → 0 < (Y).length → b < v5.heap.size) := Lib.hid (fun b o e hn => S2.IL.lt L2_v5.out b o e hn)
  go_wp2_with first
    | (refine S2.wpList_store_all (by rfl) 53 (.tmp 8) (.tmp 27) rfl rfl (v5.heap.size) rfl [.slice A2 Y.length c2] rfl 53 [.slice none 0 0] (BK.alloc (BK.new v5 _ _) _) S2.boxSize rfl (onesB rfl) ?_; intro v6 hM hP; have hb : Below v5.heap.size v5 v6 := hP.below (stepB (S2.below_new v5 _) (S2.below_new _ _)) (Nat.le_refl _); have T_v6 : Hid (BK 53 v6 w.heap.size [.slice A X.length c]) := Lib.hid (T_v5.out.step hb); have K_v6 : Hid (BK 40 v6 (w.heap.size + 1) (pkC p a)) := Lib.hid (K_v5.out.step hb); have B_v6 : Hid (Below w.heap.size w v6) := Lib.hid (stepB B_v5.out hb); have L_v6 : Hid (S2.IL v6 v6.heap.size A X) := Lib.hid (CL.step L_v5.out hb); have L1_v6 : Hid (S2.IL v6 v6.heap.size A1 Y) := Lib.hid (CL.step L1_v5.out hb); have U_v6 : Hid (BK 53 v6 (v2.heap.size) [.slice A1 Y.length c1]) := Lib.hid (U_v5.out.step hb); have Q_v6 : Hid (BK 40 v6 ((v2.heap.size + 1)) (pkC q PA.zero)) := Lib.hid (Q_v5.out.step hb); have L2_v6 : Hid (S2.IL v6 v6.heap.size A2 Y) := Lib.hid (CL.step L2_v5.out hb); have V_v6 : Hid (BK 53 v6 (v5.heap.size) [.slice A2 Y.length c2]) := Lib.hid hM; have R_v6 : Hid (BK 40 v6 (v5.heap.size + 1) (pkC Pkt.zero PA.zero)) := Lib.hid (hP.other (zpnew v5) (by omega)); clear hM hP hb T_v5 K_v5 B_v5 L_v5 L1_v5 U_v5 Q_v5 L2_v5)
    | (refine S2.wpList_store_all (by rfl) 40 (.tmp 9) (.tmp 28) rfl rfl ((v5.heap.size + 1)) rfl (pkC q PA.zero) rfl 40 (pkC Pkt.zero PA.zero) R_v6.out info33 rfl (onesB rfl) ?_; intro v7 hM hP; have R_v7 : Hid (BK 40 v7 ((v5.heap.size + 1)) (pkC q PA.zero)) := Lib.hid hM; have T_v7 : Hid (BK 53 v7 w.heap.size [.slice A X.length c]) := Lib.hid (hP.other T_v6.out (by have := ZbT.out; omega)); have K_v7 : Hid (BK 40 v7 (w.heap.size + 1) (pkC p a)) := Lib.hid (hP.other K_v6.out (by have := ZbK.out; omega)); have B_v7 : Hid (Below w.heap.size w v7) := Lib.hid (hP.below B_v6.out (by have := ZbB.out; omega)); have L_v7 : Hid (S2.IL v7 v7.heap.size A X) := Lib.hid (S2.IL.put L_v6.out hP (fun b o e hn => by have := ZbL.out b o e hn; omega)); have L1_v7 : Hid (S2.IL v7 v7.heap.size A1 Y) := Lib.hid (S2.IL.put L1_v6.out hP (fun b o e hn => by have := ZbL1.out b o e hn; omega)); have U_v7 : Hid (BK 53 v7 (v2.heap.size) [.slice A1 Y.length c1]) := Lib.hid (hP.other U_v6.out (by have := ZbU.out; omega)); have Q_v7 : Hid (BK 40 v7 ((v2.heap.size + 1)) (pkC q PA.zero)) := Lib.hid (hP.other Q_v6.out (by have := ZbQ.out; omega)); have L2_v7 : Hid (S2.IL v7 v7.heap.size A2 Y) := Lib.hid (S2.IL.put L2_v6.out hP (fun b o e hn => by have := ZbL2.out b o e hn; omega)); have V_v7 : Hid (BK 53 v7 (v5.heap.size) [.slice A2 Y.length c2]) := Lib.hid (hP.other V_v6.out (by omega)); clear hM hP T_v6 K_v6 B_v6 L_v6 L1_v6 U_v6 Q_v6 L2_v6 V_v6 R_v6)
    | (refine wpList_load_v (by rfl) 53 (.tmp 5) rfl ⟨v2.heap.size, 0, none⟩ rfl (S2.xv A1 c1 Y) (S2.run_load_all U_v7.out Tryd.underlying53 rfl S2.boxSize) ?_)
    | (refine wpList_load_v (by rfl) 53 (.tmp 8) rfl ⟨v5.heap.size, 0, none⟩ rfl (S2.xv A2 c2 Y) (S2.run_load_all V_v7.out Tryd.underlying53 rfl S2.boxSize) ?_)
  refine (HS.out A1 A2 c1 c2 v7 L1_v7.out L2_v7.out).mono ?_
  rintro e v8 ⟨rfl, hb⟩
  have T_v8 : Hid (BK 53 v8 w.heap.size [.slice A X.length c]) := Lib.hid (T_v7.out.step hb)
  have K_v8 : Hid (BK 40 v8 (w.heap.size + 1) (pkC p a)) := Lib.hid (K_v7.out.step hb)
  have B_v8 : Hid (Below w.heap.size w v8) := Lib.hid (stepB B_v7.out hb)
  have L_v8 : Hid (S2.IL v8 v8.heap.size A X) := Lib.hid (CL.step L_v7.out hb)
  have L1_v8 : Hid (S2.IL v8 v8.heap.size A1 Y) := Lib.hid (CL.step L1_v7.out hb)
  have U_v8 : Hid (BK 53 v8 (v2.heap.size) [.slice A1 Y.length c1]) := Lib.hid (U_v7.out.step hb)
  have Q_v8 : Hid (BK 40 v8 ((v2.heap.size + 1)) (pkC q PA.zero)) := Lib.hid (Q_v7.out.step hb)
  have L2_v8 : Hid (S2.IL v8 v8.heap.size A2 Y) := Lib.hid (CL.step L2_v7.out hb)
  have V_v8 : Hid (BK 53 v8 (v5.heap.size) [.slice A2 Y.length c2]) := Lib.hid (V_v7.out.step hb)
  have R_v8 : Hid (BK 40 v8 ((v5.heap.size + 1)) (pkC q PA.zero)) := Lib.hid (R_v7.out.step hb)
  clear T_v7 K_v7 B_v7 L_v7 L1_v7 U_v7 Q_v7 L2_v7 V_v7 R_v7
  clear hb
  go_wp2_with first
    | (refine wpList_load_v (by rfl) 40 (.tmp 6) rfl ⟨(v2.heap.size + 1), 0, none⟩ rfl (.agg (pkC q PA.zero).toArray) (S2.run_load_all Q_v8.out Tryd.underlying40 rfl info33) ?_)
    | (refine wpList_load_v (by rfl) 40 (.tmp 9) rfl ⟨(v5.heap.size + 1), 0, none⟩ rfl (.agg (pkC q PA.zero).toArray) (S2.run_load_all R_v8.out Tryd.underlying40 rfl info33) ?_)
  refine (HP.out v8).mono ?_
  rintro e v9 ⟨rfl, hb⟩
  have T_v9 : Hid (BK 53 v9 w.heap.size [.slice A X.length c]) := Lib.hid (T_v8.out.step hb)
  have K_v9 : Hid (BK 40 v9 (w.heap.size + 1) (pkC p a)) := Lib.hid (K_v8.out.step hb)
  have B_v9 : Hid (Below w.heap.size w v9) := Lib.hid (stepB B_v8.out hb)
  have L_v9 : Hid (S2.IL v9 v9.heap.size A X) := Lib.hid (CL.step L_v8.out hb)
  have L1_v9 : Hid (S2.IL v9 v9.heap.size A1 Y) := Lib.hid (CL.step L1_v8.out hb)
  have U_v9 : Hid (BK 53 v9 (v2.heap.size) [.slice A1 Y.length c1]) := Lib.hid (U_v8.out.step hb)
  have Q_v9 : Hid (BK 40 v9 ((v2.heap.size + 1)) (pkC q PA.zero)) := Lib.hid (Q_v8.out.step hb)
  have L2_v9 : Hid (S2.IL v9 v9.heap.size A2 Y) := Lib.hid (CL.step L2_v8.out hb)
  have V_v9 : Hid (BK 53 v9 (v5.heap.size) [.slice A2 Y.length c2]) := Lib.hid (V_v8.out.step hb)
  have R_v9 : Hid (BK 40 v9 ((v5.heap.size + 1)) (pkC q PA.zero)) := Lib.hid (R_v8.out.step hb)
  clear T_v8 K_v8 B_v8 L_v8 L1_v8 U_v8 Q_v8 L2_v8 V_v8 R_v8
  clear hb
  by_cases hf : f = 0
  case neg =>
    have q2 : (f != 0) = true := by simp [hf]
    clear H3 hf
    go_wp2_with fail
    refine (HA.out v9 (HOK.out.step B_v9.out)).mono ?_
    rintro e v10 ⟨rfl, hb⟩
    have T_v10 : Hid (BK 53 v10 w.heap.size [.slice A X.length c]) := Lib.hid (T_v9.out.step hb)
    have K_v10 : Hid (BK 40 v10 (w.heap.size + 1) (pkC p a)) := Lib.hid (K_v9.out.step hb)
    have B_v10 : Hid (Below w.heap.size w v10) := Lib.hid (stepB B_v9.out hb)
    have L_v10 : Hid (S2.IL v10 v10.heap.size A X) := Lib.hid (CL.step L_v9.out hb)
    have L1_v10 : Hid (S2.IL v10 v10.heap.size A1 Y) := Lib.hid (CL.step L1_v9.out hb)
    have U_v10 : Hid (BK 53 v10 (v2.heap.size) [.slice A1 Y.length c1]) := Lib.hid (U_v9.out.step hb)
    have Q_v10 : Hid (BK 40 v10 ((v2.heap.size + 1)) (pkC q PA.zero)) := Lib.hid (Q_v9.out.step hb)
    have L2_v10 : Hid (S2.IL v10 v10.heap.size A2 Y) := Lib.hid (CL.step L2_v9.out hb)
    have V_v10 : Hid (BK 53 v10 (v5.heap.size) [.slice A2 Y.length c2]) := Lib.hid (V_v9.out.step hb)
    have R_v10 : Hid (BK 40 v10 ((v5.heap.size + 1)) (pkC q PA.zero)) := Lib.hid (R_v9.out.step hb)
    clear T_v9 K_v9 B_v9 L_v9 L1_v9 U_v9 Q_v9 L2_v9 V_v9 R_v9
    clear hb
    go_wp2_with fail
    go_ret
    exact ⟨rfl, B_v10.out⟩
  subst hf
  have H4 := Lib.hid (H3.out rfl)
  clear H3
  go_wp2_with first
    | (refine wpList_load_v (by rfl) 53 (.tmp 5) rfl ⟨v2.heap.size, 0, none⟩ rfl (S2.xv A1 c1 Y) (S2.run_load_all U_v9.out Tryd.underlying53 rfl S2.boxSize) ?_)
    | (refine wpList_load_v (by rfl) 40 (.tmp 3) rfl ⟨(w.heap.size + 1), 0, none⟩ rfl (.agg (pkC p a).toArray) (S2.run_load_all K_v9.out Tryd.underlying40 rfl info33) ?_)
  have HW4 : Hid (v2.heap.size + 1 < v9.heap.size) := Lib.hid Q_v9.out.lt
  refine (H4.out A1 c1 v9 L1_v9.out).mono ?_
  rintro e v10 ⟨A3, c3, rfl, _, hl, hn0, hb⟩
  have T_v10 : Hid (BK 53 v10 w.heap.size [.slice A X.length c]) := Lib.hid (T_v9.out.step hb)
  have K_v10 : Hid (BK 40 v10 (w.heap.size + 1) (pkC p a)) := Lib.hid (K_v9.out.step hb)
  have B_v10 : Hid (Below w.heap.size w v10) := Lib.hid (stepB B_v9.out hb)
  have L_v10 : Hid (S2.IL v10 v10.heap.size A X) := Lib.hid (CL.step L_v9.out hb)
  have L1_v10 : Hid (S2.IL v10 v10.heap.size A1 Y) := Lib.hid (CL.step L1_v9.out hb)
  have U_v10 : Hid (BK 53 v10 (v2.heap.size) [.slice A1 Y.length c1]) := Lib.hid (U_v9.out.step hb)
  have Q_v10 : Hid (BK 40 v10 ((v2.heap.size + 1)) (pkC q PA.zero)) := Lib.hid (Q_v9.out.step hb)
  have L2_v10 : Hid (S2.IL v10 v10.heap.size A2 Y) := Lib.hid (CL.step L2_v9.out hb)
  have V_v10 : Hid (BK 53 v10 (v5.heap.size) [.slice A2 Y.length c2]) := Lib.hid (V_v9.out.step hb)
  have R_v10 : Hid (BK 40 v10 ((v5.heap.size + 1)) (pkC q PA.zero)) := Lib.hid (R_v9.out.step hb)
  clear T_v9 K_v9 B_v9 L_v9 L1_v9 U_v9 Q_v9 L2_v9 V_v9 R_v9
  have L3_v10 : Hid (S2.IL v10 v10.heap.size A3 Y) := Lib.hid (hl)
  clear hb
  clear hl H4
  have ZcT : Hid (w.heap.size < v10.heap.size) := Lib.hid T_v10.out.lt
  have ZcK : Hid ((w.heap.size + 1) < v10.heap.size) := Lib.hid K_v10.out.lt
  have ZcB : Hid (w.heap.size ≤ v10.heap.size) := Lib.hid B_v10.out.size
  have ZcL : Hid (∀ b o, A = some ⟨b, o, none⟩ → 0 < (X).length → b < v10.heap.size) := Lib.hid (fun b o e hn => S2.IL.lt L_v10.out b o e hn)
  have ZcL1 : Hid (∀ b o, A1 = some ⟨b, o, none⟩ → 0 < (Y).length → b < v10.heap.size) := Lib.hid (fun b o e hn => S2.IL.lt L1_v10.out b o e hn)
  have ZcU : Hid ((v2.heap.size) < v10.heap.size) := Lib.hid U_v10.out.lt
  have ZcQ : Hid (((v2.heap.size + 1)) < v10.heap.size) := Lib.hid Q_v10.out.lt
  have ZcL2 : Hid (∀ b o, A2 = some ⟨b, o, none⟩ → 0 < (Y).length → b < v10.heap.size) := Lib.hid (fun b o e hn => S2.IL.lt L2_v10.out b o e hn)
  have ZcV : Hid ((v5.heap.size) < v10.heap.size) := Lib.hid V_v10.out.lt
  have ZcR : Hid (((v5.heap.size + 1)) < v10.heap.size) := Lib.hid R_v10.out.lt
  have ZcL3 : Hid (∀ b o, A3 = some ⟨b, o, none⟩ → 0 < (Y).length → b < v10.heap.size) := Lib.hid (fun b o e hn => S2.IL.lt L3_v10.out b o e hn)
  clear T_v10
  clear K_v10
  clear L_v10
  clear L2_v10
  have ZQR : Hid (v2.heap.size + 1 < v5.heap.size) := Lib.hid (by have := ZbQ.out; omega)
  have ZQQ : Hid (v2.heap.size + 1 < v10.heap.size) := Lib.hid Q_v10.out.lt
  have ZL3 : Hid (∀ b o, A3 = some ⟨b, o, none⟩ → v2.heap.size + 1 < b) := Lib.hid (fun b o e => by have h1 := hn0 b o e; have h2 := HW4.out; omega)
  go_wp2_with first
    | (refine S2.wpList_store_all (by rfl) 53 (.tmp 11) (.tmp 52) rfl rfl (v10.heap.size) rfl [.slice A3 Y.length c3] rfl 53 [.slice none 0 0] (BK.new v10 _ _) S2.boxSize rfl (onesB rfl) ?_; intro v11 hM hP; have hb : Below v10.heap.size v10 v11 := hP.below (S2.below_new v10 _) (Nat.le_refl _); have B_v11 : Hid (Below w.heap.size w v11) := Lib.hid (stepB B_v10.out hb); have L1_v11 : Hid (S2.IL v11 v11.heap.size A1 Y) := Lib.hid (CL.step L1_v10.out hb); have U_v11 : Hid (BK 53 v11 (v2.heap.size) [.slice A1 Y.length c1]) := Lib.hid (U_v10.out.step hb); have Q_v11 : Hid (BK 40 v11 ((v2.heap.size + 1)) (pkC q PA.zero)) := Lib.hid (Q_v10.out.step hb); have V_v11 : Hid (BK 53 v11 (v5.heap.size) [.slice A2 Y.length c2]) := Lib.hid (V_v10.out.step hb); have R_v11 : Hid (BK 40 v11 ((v5.heap.size + 1)) (pkC q PA.zero)) := Lib.hid (R_v10.out.step hb); have L3_v11 : Hid (S2.IL v11 v11.heap.size A3 Y) := Lib.hid (CL.step L3_v10.out hb); have W_v11 : Hid (BK 53 v11 (v10.heap.size) [.slice A3 Y.length c3]) := Lib.hid hM; clear hM hP hb B_v10 L1_v10 U_v10 Q_v10 V_v10 R_v10 L3_v10)
    | (refine S2.wpList_store_all (by rfl) 40 (.tmp 6) (.tmp 53) rfl rfl ((v2.heap.size + 1)) rfl (pkC q PA.zero) rfl 40 (pkC q PA.zero) Q_v11.out info33 rfl (onesB rfl) ?_; intro v12 hM hP; have Q_v12 : Hid (BK 40 v12 ((v2.heap.size + 1)) (pkC q PA.zero)) := Lib.hid hM; have B_v12 : Hid (Below w.heap.size w v12) := Lib.hid (hP.below B_v11.out (by have := ZaB.out; omega)); have L1_v12 : Hid (S2.IL v12 v12.heap.size A1 Y) := Lib.hid (S2.IL.put L1_v11.out hP (fun b o e hn => by have := ZaL1.out b o e hn; omega)); have U_v12 : Hid (BK 53 v12 (v2.heap.size) [.slice A1 Y.length c1]) := Lib.hid (hP.other U_v11.out (by omega)); have V_v12 : Hid (BK 53 v12 (v5.heap.size) [.slice A2 Y.length c2]) := Lib.hid (hP.other V_v11.out (by have := ZQR.out; omega)); have R_v12 : Hid (BK 40 v12 ((v5.heap.size + 1)) (pkC q PA.zero)) := Lib.hid (hP.other R_v11.out (by have := ZQR.out; omega)); have L3_v12 : Hid (S2.IL v12 v12.heap.size A3 Y) := Lib.hid (S2.IL.put L3_v11.out hP (fun b o e hn => by have := ZL3.out b o e; omega)); have W_v12 : Hid (BK 53 v12 (v10.heap.size) [.slice A3 Y.length c3]) := Lib.hid (hP.other W_v11.out (by have := ZQQ.out; omega)); clear hM hP B_v11 L1_v11 U_v11 Q_v11 V_v11 R_v11 L3_v11 W_v11)
  refine (HA.out v12 (HOK.out.step B_v12.out)).mono ?_
  rintro e v13 ⟨rfl, hb⟩
  have B_v13 : Hid (Below w.heap.size w v13) := Lib.hid (stepB B_v12.out hb)
  have L1_v13 : Hid (S2.IL v13 v13.heap.size A1 Y) := Lib.hid (CL.step L1_v12.out hb)
  have U_v13 : Hid (BK 53 v13 (v2.heap.size) [.slice A1 Y.length c1]) := Lib.hid (U_v12.out.step hb)
  have Q_v13 : Hid (BK 40 v13 ((v2.heap.size + 1)) (pkC q PA.zero)) := Lib.hid (Q_v12.out.step hb)
  have V_v13 : Hid (BK 53 v13 (v5.heap.size) [.slice A2 Y.length c2]) := Lib.hid (V_v12.out.step hb)
  have R_v13 : Hid (BK 40 v13 ((v5.heap.size + 1)) (pkC q PA.zero)) := Lib.hid (R_v12.out.step hb)
  have L3_v13 : Hid (S2.IL v13 v13.heap.size A3 Y) := Lib.hid (CL.step L3_v12.out hb)
  have W_v13 : Hid (BK 53 v13 (v10.heap.size) [.slice A3 Y.length c3]) := Lib.hid (W_v12.out.step hb)
  clear B_v12 L1_v12 U_v12 Q_v12 V_v12 R_v12 L3_v12 W_v12
  clear hb
  clear HA
  go_wp2_with first
    | (refine wpList_load_v (by rfl) 53 (.tmp 11) rfl ⟨v10.heap.size, 0, none⟩ rfl (S2.xv A3 c3 Y) (S2.run_load_all W_v13.out Tryd.underlying53 rfl S2.boxSize) ?_)
    | (refine wpList_load_v (by rfl) 53 (.tmp 5) rfl ⟨v2.heap.size, 0, none⟩ rfl (S2.xv A1 c1 Y) (S2.run_load_all U_v13.out Tryd.underlying53 rfl S2.boxSize) ?_)
  refine (HS.out A3 A1 c3 c1 v13 L3_v13.out L1_v13.out).mono ?_
  rintro e v14 ⟨rfl, hb⟩
  have B_v14 : Hid (Below w.heap.size w v14) := Lib.hid (stepB B_v13.out hb)
  have L1_v14 : Hid (S2.IL v14 v14.heap.size A1 Y) := Lib.hid (CL.step L1_v13.out hb)
  have U_v14 : Hid (BK 53 v14 (v2.heap.size) [.slice A1 Y.length c1]) := Lib.hid (U_v13.out.step hb)
  have Q_v14 : Hid (BK 40 v14 ((v2.heap.size + 1)) (pkC q PA.zero)) := Lib.hid (Q_v13.out.step hb)
  have V_v14 : Hid (BK 53 v14 (v5.heap.size) [.slice A2 Y.length c2]) := Lib.hid (V_v13.out.step hb)
  have R_v14 : Hid (BK 40 v14 ((v5.heap.size + 1)) (pkC q PA.zero)) := Lib.hid (R_v13.out.step hb)
  have L3_v14 : Hid (S2.IL v14 v14.heap.size A3 Y) := Lib.hid (CL.step L3_v13.out hb)
  have W_v14 : Hid (BK 53 v14 (v10.heap.size) [.slice A3 Y.length c3]) := Lib.hid (W_v13.out.step hb)
  clear B_v13 L1_v13 U_v13 Q_v13 V_v13 R_v13 L3_v13 W_v13
  clear hb
  clear HS
  go_wp2_with first
    | (refine wpList_load_v (by rfl) 40 (.tmp 6) rfl ⟨(v2.heap.size + 1), 0, none⟩ rfl (.agg (pkC q PA.zero).toArray) (S2.run_load_all Q_v14.out Tryd.underlying40 rfl info33) ?_)
    | (refine wpList_load_v (by rfl) 40 (.tmp 9) rfl ⟨(v5.heap.size + 1), 0, none⟩ rfl (.agg (pkC q PA.zero).toArray) (S2.run_load_all R_v14.out Tryd.underlying40 rfl info33) ?_)
  refine (HP.out v14).mono ?_
  rintro e v15 ⟨rfl, hb⟩
  have B_v15 : Hid (Below w.heap.size w v15) := Lib.hid (stepB B_v14.out hb)
  have L1_v15 : Hid (S2.IL v15 v15.heap.size A1 Y) := Lib.hid (CL.step L1_v14.out hb)
  have U_v15 : Hid (BK 53 v15 (v2.heap.size) [.slice A1 Y.length c1]) := Lib.hid (U_v14.out.step hb)
  have Q_v15 : Hid (BK 40 v15 ((v2.heap.size + 1)) (pkC q PA.zero)) := Lib.hid (Q_v14.out.step hb)
  have V_v15 : Hid (BK 53 v15 (v5.heap.size) [.slice A2 Y.length c2]) := Lib.hid (V_v14.out.step hb)
  have R_v15 : Hid (BK 40 v15 ((v5.heap.size + 1)) (pkC q PA.zero)) := Lib.hid (R_v14.out.step hb)
  have L3_v15 : Hid (S2.IL v15 v15.heap.size A3 Y) := Lib.hid (CL.step L3_v14.out hb)
  have W_v15 : Hid (BK 53 v15 (v10.heap.size) [.slice A3 Y.length c3]) := Lib.hid (W_v14.out.step hb)
  clear B_v14 L1_v14 U_v14 Q_v14 V_v14 R_v14 L3_v14 W_v14
  clear hb
  go_wp2_with fail
  go_ret
  exact ⟨rfl, B_v15.out⟩
end Go.Proofs.YtomlideijhejfaaDoor
namespace Go.Proofs.YtomlideijhejfaaDoor.inboundReleases
open Go.ChangeShapes Go.WideShapes Go.ChangeAt Go.WideMaps Go.WideElems Go.RowKit
open Go.ChangeMaps (open_string shut_string)

theorem own : ownKnob Tryd.prog.godebug = none := by kernel_rfl
theorem okw {W : World} (h : W.ShapedOpen Tryd.prog) : S1.Okw W := Tryd.laysM220.s1_3 W h

set_option maxRecDepth 100000 in
theorem contract (H : Type) (enc : TypeId × Value → H) (W : World) (base : Nat) (args : Array Value) (ds gs : List (DataW H)) (before : List MemPlace)
    (hval : ∀ (j : Nat) t v, Tryd.f5.params[j]? = some t → args[j]? = some v → Value.okWide Tryd.prog W .any base t v)
    (hW : DataW.Whole enc Tryd.prog Tryd.f5.params.toList Rows.inboundReleasesSpec.vars false W args.toList ds gs before)
    (hsz : (DataW.weightsEach Tryd.prog (Tryd.f5.params.toList ++ (OpenSpec.ofChange Rows.inboundReleasesSpec).bare.plain.varTypes Tryd.prog) (ds ++ gs)).all (· ≤ reachBytes) = true)
    (hsh : W.ShapedOpen Tryd.prog) :
    Calls Tryd.prog 5 args W fun e W' => ∃ v, e = .returned v ∧ Rows.inboundReleasesSpec.post enc Tryd.prog Tryd.f5 false true false false W args v W' := by
  have hW' := hW
  obtain ⟨p, q, hA0, hV, rfl, hfz, hnd⟩ := hW
  have hA : DataW.TrodAll enc Tryd.prog W 0 (fun _ => true) true Tryd.f5.params.toList args.toList ds p := hA0
  rw [Tryd.params5] at hA hval
  obtain ⟨v0, vs0, d0, ds0, p0, q0, hargs, rfl, rfl, h0, r0⟩ := trodAll_cons hA
  obtain ⟨v1, vs1, d1, ds1, p1, q1, rfl, rfl, rfl, h1, r1⟩ := trodAll_cons r0
  obtain ⟨rfl, rfl, rfl⟩ := trodAll_nil r1
  obtain rfl : args = #[v0, v1] := by cases args; simp_all
  obtain ⟨rfl, rfl⟩ := trodVars_none hV
  have h0k := h0
  obtain ⟨A0, c0, X0, rfl, sl0, hc0, hX0⟩ := open_inb (hval 0 53 v0 rfl rfl) h0
  have h1k := h1
  obtain ⟨m1, a1, rfl, sl1⟩ := open_pkt (hval 1 40 v1 rfl rfl) h1
  clear hA0
  simp only [List.append_nil] at hW'
  have hrb := reachBytes_lt
  have hlt : ∀ x ∈ p0 ++ p1, x.block < W.heap.size := fun x hx => by simpa using hW'.lt x (by simpa using hx)
  refine (inboundReleases_walk A0 c0 X0 m1 a1 W (okw hsh) sl0 hX0).mono fun e W' ⟨he, hb⟩ => ?_
  subst he
  have e1 : Rows.inboundReleasesSpec.fn H ([d0, d1] ++ []) = { results := [.lit (.bool true)], args := [d0, d1] } := rfl
  refine ⟨_, rfl, _, _, _, [], p0 ++ p1, [], by simpa using hW', ?_, ?_, ?_, hb.frame _, fun h => by cases h⟩
  · exact trodAll_cons_mk (shut_bool Tryd.underlying4 _) trodAll_mk0
  · rw [e1]
    simpa using trodAll_cons_mk (Below.trod laidOutAll (by kernel_rfl) (of_decide_eq_true (by kernel_rfl)) h0k hb (fun x hx => hlt x (by simp [hx]))) (trodAll_cons_mk (Below.trod laidOutAll (by kernel_rfl) (of_decide_eq_true (by kernel_rfl)) h1k hb (fun x hx => hlt x (by simp [hx]))) (trodAll_mk0))
  · rfl

theorem laid_met (os : Os) : laidMet Tryd.prog Rows.inboundReleasesRow.laid ((World.laidAll Tryd.prog os Rows.inboundReleasesRow.laid).forCall (fun _ _ => 0) ⟨#[], #[.agg #[.slice none 0 0], (pkV Pkt.zero PA.zero)], []⟩).memory :=
  laidMet_laidAll _ (by kernel_rfl) (by kernel_rfl)
theorem reads (os : Os) {H : Type} (enc : TypeId × Value → H) : ∃ places, DataW.whole enc Tryd.prog ((World.laidAll Tryd.prog os Rows.inboundReleasesRow.laid).forCall (fun _ _ => 0) ⟨#[], #[.agg #[.slice none 0 0], (pkV Pkt.zero PA.zero)], []⟩).memory Tryd.f5.params.toList Rows.inboundReleasesSpec.vars false #[Value.agg #[.slice none 0 0], (pkV Pkt.zero PA.zero)].toList 8 = some ([.agg [.nil], .agg [.lit (.int .i64 0), .lit (.int .i64 0), .lit (.bool false), .agg [.lit (.string []), .lit (.string []), .lit (.int .i64 0), .lit (.bool false), .lit (.int .i64 0), .lit (.int .i64 0), .lit (.string []), .lit (.int .i64 0), .nil], .lit (.string []), .lit (.string []), .lit (.bool false), .lit (.int .i64 0), .lit (.int .i64 0), .lit (.int .i64 0), .agg [.lit (.bool false), .lit (.int .i64 0), .agg [.lit (.string []), .lit (.string []), .lit (.int .i64 0), .lit (.bool false), .lit (.int .i64 0), .lit (.int .i64 0), .lit (.string []), .lit (.int .i64 0), .nil]], .lit (.bool false), .lit (.int .i64 0), .nil, .nil, .nil]], [], places) :=
  ⟨[], by kernel_rfl⟩

set_option maxRecDepth 100000 in
theorem lifted (os : Os) (started : os.Started) (H : Type) (enc : TypeId × Value → H) (F : Stop.Interp) :
    ReturnsInHanded {} Tryd.checked os 5 .any ((OpenSpec.ofChange Rows.inboundReleasesSpec).preRow enc Tryd.prog Tryd.f5 Rows.inboundReleasesRow.domain false Rows.inboundReleasesRow.laid) (((OpenSpec.ofChange Rows.inboundReleasesSpec).at F).post enc Tryd.prog Tryd.f5 false true false false) := by
  obtain ⟨places, hx⟩ := reads os enc
  refine returnsInHanded_of_row (C := Tryd.checked) (s := (OpenSpec.ofChange Rows.inboundReleasesSpec)) own started (by kernel_rfl) Tryd.func5
    (witness_row_at (enc := enc) (C := Tryd.checked) false (World.laidAll Tryd.prog os Rows.inboundReleasesRow.laid) #[.agg #[.slice none 0 0], (pkV Pkt.zero PA.zero)] (World.laidAll_os _ _ _) (by kernel_rfl) (by kernel_rfl) (by kernel_rfl)
      (OpenSpec.preRow_of_cond 8 hx (by kernel_rfl) (fun k hk => by cases hk) (by kernel_rfl) (laid_met os))) ?_
  intro W base args ds gs before hval hW _ _ hsz _ hsh _
  exact contract H enc W base args ds gs before hval hW hsz hsh

theorem said : Rows.InboundReleasesSaid :=
  OpenClaim.holds_of_cond 5 Tryd.f5 rfl rfl rfl rfl rfl rfl rfl ⟨rfl, rfl, rfl, rfl, rfl⟩ rfl rfl rfl rfl rfl (by kernel_rfl) Tryd.func5 (by kernel_rfl)
    (of_decide_eq_true (by kernel_rfl)) (by unfold Func.isWrapper; first | (rw [if_pos (by decide +kernel)]; kernel_rfl) | (rw [if_neg (by decide +kernel)]; exact ⟨rfl, rfl⟩))
    (fun os started H enc _ F => by rw [OpenClaim.pre_eq_preRow]; exact lifted os started H enc F)

theorem plain (f : FuncId) (fn : Func) (hf : Tryd.pinned.checked.prog.funcNamed "broker/brokerlaw15.InboundReleases" = some f) (hfn : Tryd.pinned.checked.prog.funcs[f]? = some fn) :
    false = Tryd.pinned.checked.prog.looks [] ∧ ∀ (j : Nat) t, fn.params[j]? = some t → Tryd.pinned.checked.prog.wantsStandIn t = false := by
  obtain rfl : f = 5 := Option.some.inj ((show Tryd.prog.funcNamed "broker/brokerlaw15.InboundReleases" = some 5 by kernel_rfl).symm.trans hf) |>.symm
  obtain rfl : fn = Tryd.f5 := (Option.some.inj (Tryd.func5.symm.trans hfn)).symm
  refine ⟨by kernel_rfl, fun j t ht => ?_⟩
  rw [Tryd.params5] at ht
  have hm : t ∈ [53, 40] := by simpa using Array.mem_of_getElem? ht
  simp only [List.mem_cons, List.not_mem_nil, or_false] at hm
  rcases hm with rfl | rfl
  · exact (show Tryd.prog.wantsStandIn 53 = false by kernel_rfl)
  · exact (show Tryd.prog.wantsStandIn 40 = false by kernel_rfl)

theorem card : Rows.InboundReleasesCardSaid :=
  Claim7.holds_tied_plain_at .later [] _ _ _ _ said (fun _ h => by cases h) (by kernel_rfl) (fun _ h => by cases h) inboundReleases_row_tie rfl ⟨rfl, rfl⟩ (by kernel_rfl) rfl plain (by kernel_rfl)
end Go.Proofs.YtomlideijhejfaaDoor.inboundReleases
