/-
  A list of properties that came in, opened for the walks. Conditions: it reads as data.
  A message that came in by value, and bytes that came in, opened for the walks. Conditions: it reads as data.
  A packet that came in by value, opened for the walks. Conditions: it reads as data.
  A window that came in by value, opened with the sizes of its texts and lists. Conditions: it reads as data.
  InflightHandles answers true, walked. Conditions: the window and the packet read as data; the library's bound on short texts holds a number.
  InflightAgain answers true, walked. Conditions: the window and the packet read as data; the library's bound on short texts holds a number.
  PROVED: InflightAgain answers true for every text (each of its 2 arguments).
  Conditions: those that the row prints (the tables of package unicode/utf8 read as the program's text lays them; each argument has at most 2^47 bytes). The tie of the tables is given, over a pruned copy of the project.
-/
import Derived.Test.YtoakhkiiefiebabGreatDoorMsg
import Derived.ProofKit
import Derived.OpenShut
import Derived.SliceStrings
import Derived.SizedLaws
import Derived.Deep.SlicePairs
import Derived.Lib.SmallJoins
import Derived.Test.YtoakhkiiefiebabGreatDoorPkt
import Derived.Deep.Slices
import Derived.Test.YtoakhkiiefiebabGreatDoorWn
import Derived.Test.YtoakhkiiefiebabGreatDoorVp
import Derived.Test.YtoakhkiiefiebabGreatDoorVh
import Derived.Test.YtoakhkiiefiebabGreatDoorCards
import Derived.Test.YtoakhkiiefiebabGreatDoorTie
import Derived.Deep.DeepHandedRow
import Derived.Lib.LaidTab
import Derived.Lay
import Derived.LaidOnce
import Derived.Carry
import Derived.SevenTiedAt
namespace Go.Proofs.YtoakhkiiefiebabGreatDoor
open Go.ChangeShapes Go.WideShapes Go.ChangeAt Go.WideMaps Go.WideElems Go.RowKit

theorem laidOutAll : laidOutB Tryz.prog = true := by kernel_rfl
theorem cellsStr : Tryz.prog.cellsOf 9 = 1 := by kernel_rfl
theorem cellsProp : Tryz.prog.cellsOf 97 = 2 := by kernel_rfl
theorem bytesProp : Tryz.prog.bytesOf 97 = 32 := by kernel_rfl
/-- cells behind an address that holds something -/
theorem plain_addr {w : World} {a : Addr} {v : Value} (h : w.cell? (a.add 0) = some v) : ∃ b o, a = ⟨b, o, none⟩ ∧ b < w.heap.size := by
  obtain ⟨b, off, spot⟩ := a
  have hspot : spot = none := by simpa [Addr.add] using World.cell?_spot h
  subst hspot
  refine ⟨b, off, rfl, ?_⟩
  rcases Nat.lt_or_ge b w.heap.size with h' | h'
  · exact h'
  · have : w.heap[b]? = none := Array.getElem?_eq_none h'
    simp [World.cell?, Addr.add, this] at h
theorem add_plain (b o j : Nat) : (⟨b, o + j, none⟩ : Addr) = (⟨b, o, none⟩ : Addr).add j := by
  unfold Addr.add
  split
  · next h => subst h; rfl
  · rfl
/-- a value's text -/
def strV : Value → ByteArray
  | .string s => s
  | _ => ⟨#[]⟩
theorem open_props {H : Type} {enc : TypeId × Value → H} {W : World} {a0 : Option Addr} {len cap fuel : Nat} {x : DataW H × List MemPlace}
    (hf : DataW.trod enc Tryz.prog W 0 (fun _ => true) true fuel 28 [.slice a0 len cap] = some x) :
    ∃ Xs : List PR, Xs.length = len ∧ PL W W.heap.size a0 Xs ∧ len ≤ cap ∧ (len = 0 ∨ ∃ elems spare, x.1 = .slice elems spare ∧ elems.length = len) := by
  rcases Go.Deep.open_slice_pairs Tryz.underlying28 Tryz.underlying97 cellsProp rfl rfl cellsStr cellsStr hf with ⟨hcs, hx⟩ | ⟨a, len', cap', m, n, V0, V1, D0, D1, P0, P1, hcs, _, hl, hm, hmm, hx, hi⟩
  · simp at hcs
    obtain ⟨rfl, rfl, rfl⟩ := hcs
    exact ⟨[], rfl, GL.nil _ _ _, Nat.le_refl _, Or.inl rfl⟩
  · simp at hcs
    obtain ⟨rfl, rfl, rfl⟩ := hcs
    subst hx
    simp only [if_true] at hmm
    refine ⟨(List.range len).map fun i => (strV (V0 i), strV (V1 i)), by simp, fun h0 => ?_, hl, Or.inr ⟨_, _, rfl, by simp⟩⟩
    simp at h0
    obtain ⟨b, o, rfl, hb⟩ := plain_addr (hi 0 (by omega)).1
    refine ⟨b, o, rfl, hb, fun j X i v hX hv => ?_⟩
    rw [List.getElem?_map] at hX
    have hj : j < len := by
      rcases Nat.lt_or_ge j len with h | h
      · exact h
      · rw [List.getElem?_eq_none (by simpa using h)] at hX; cases hX
    rw [List.getElem?_range hj] at hX
    obtain rfl := Option.some.inj hX
    obtain ⟨h1, h2, h3, h4⟩ := hi j (by omega)
    obtain ⟨s0, e0, _⟩ := DataW.trod_string Tryz.underlying9 h3
    obtain ⟨s1, e1, _⟩ := DataW.trod_string Tryz.underlying9 h4
    simp at e0 e1
    rw [e0] at h1
    rw [e1] at h2
    match i, hv with
    | 0, hv =>
      simp [gP, strV, e0] at hv
      rw [Nat.add_zero, add_plain, h1, hv]
    | 1, hv =>
      simp [gP, strV, e1] at hv
      rw [Nat.add_assoc, add_plain, h2, hv]
theorem props_small {H : Type} {ts : List TypeId} {ds : List (DataW H)} (h : (DataW.weightsEach Tryz.prog ts ds).all (· ≤ reachBytes) = true) {j : Nat} (ht : ts[j]? = some 28) {d : DataW H} (hd : ds[j]? = some d)
    {n : Nat} (hs : n = 0 ∨ ∃ elems spare, d = .slice elems spare ∧ elems.length = n) : n ≤ 4398046511104 := by
  rcases hs with h0 | ⟨elems, spare, rfl, rfl⟩
  · omega
  · have hr := reachBytes_lt
    have := sized_slice h ht hd Tryz.underlying28
    rw [bytesProp] at this
    omega

end Go.Proofs.YtoakhkiiefiebabGreatDoor
namespace Go.Proofs.YtoakhkiiefiebabGreatDoor
open Go.Joins Go.ChangeShapes Go.WideShapes Go.ChangeAt Go.WideMaps Go.WideElems Go.RowKit Go.Deep

theorem cellsMsg : Tryz.prog.cellsOf 30 = 9 := by kernel_rfl
theorem cellsI64 : Tryz.prog.cellsOf 3 = 1 := by kernel_rfl
theorem cellsBool : Tryz.prog.cellsOf 4 = 1 := by kernel_rfl
theorem cellsProps : Tryz.prog.cellsOf 28 = 1 := by kernel_rfl
theorem wf64 {n : Int} (h : (Lit.int .i64 n).wf = true) : -9223372036854775808 ≤ n ∧ n ≤ 9223372036854775807 := by
  have h1 : IntKind.i64.min = -9223372036854775808 := rfl
  have h2 : IntKind.i64.max = 9223372036854775807 := rfl
  simp only [Lit.wf, Bool.and_eq_true, decide_eq_true_eq] at h
  omega
set_option maxRecDepth 100000 in
theorem open_props' {H : Type} {enc : TypeId × Value → H} {W : World} {v : Value} {fuel : Nat} {x : DataW H × List MemPlace}
    (hf : DataW.trod enc Tryz.prog W 0 (fun _ => true) true fuel 28 [v] = some x) :
    ∃ (A : Option Addr) (c : Nat) (Xs : List PR), v = .slice A Xs.length c ∧ PL W W.heap.size A Xs := by
  have h2 := hf
  rcases Go.Deep.open_slice_pairs Tryz.underlying28 Tryz.underlying97 cellsProp rfl rfl cellsStr cellsStr h2 with ⟨hcs, _⟩ | ⟨a, len, cap, m, n, V0, V1, D0, D1, P0, P1, hcs, _⟩
  · simp at hcs
    subst hcs
    exact ⟨none, 0, [], rfl, GL.nil _ _ _⟩
  · simp at hcs
    subst hcs
    obtain ⟨Xs, rfl, hp, _⟩ := open_props hf
    exact ⟨_, _, Xs, rfl, hp⟩
set_option maxRecDepth 100000 in
theorem open_msg {H : Type} {enc : TypeId × Value → H} {W : World} {r : Reach} {b0 : Nat} {v : Value} {d : DataW H} {p : List MemPlace} (hv : Value.okWide Tryz.prog W r b0 30 v)
    (h : DataW.Trod enc Tryz.prog W 0 (fun _ => true) true 30 v d p) : ∃ (m : Msg) (A : Option Addr) (c : Nat), v = msgV m A c ∧ m.fits ∧ PL W W.heap.size A m.props := by
  obtain ⟨cs, rfl, hsz⟩ := okWide_struct Tryz.underlying30 hv
  obtain ⟨fuel, hf⟩ := h
  obtain ⟨l⟩ := cs
  have hl : l.length = 9 := by have := hsz.trans cellsMsg; simpa using this
  match l, hl with
  | [c0, c1, c2, c3, c4, c5, c6, c7, c8], _ =>
    obtain ⟨ys, n, _, _, _, hyl, hfld⟩ := DataW.trod_struct Tryz.underlying30 hf
    match ys, hyl with
    | [y0, y1, y2, y3, y4, y5, y6, y7, y8], _ =>
      have g0 := hfld 0 _ rfl
      have g1 := hfld 1 _ rfl
      have g2 := hfld 2 _ rfl
      have g3 := hfld 3 _ rfl
      have g4 := hfld 4 _ rfl
      have g5 := hfld 5 _ rfl
      have g6 := hfld 6 _ rfl
      have g7 := hfld 7 _ rfl
      have g8 := hfld 8 _ rfl
      simp [Value.cells, cellsStr, cellsI64, cellsBool, cellsProps] at g0 g1 g2 g3 g4 g5 g6 g7 g8
      obtain ⟨s0, e0, _⟩ := DataW.trod_string Tryz.underlying9 (show DataW.trod _ _ _ _ _ _ _ 9 [c0] = some y0 from g0)
      obtain ⟨s1, e1, _⟩ := DataW.trod_string Tryz.underlying9 (show DataW.trod _ _ _ _ _ _ _ 9 [c1] = some y1 from g1)
      obtain ⟨n2, e2, _, w2⟩ := DataW.trod_int Tryz.underlying3 (show DataW.trod _ _ _ _ _ _ _ 3 [c2] = some y2 from g2)
      obtain ⟨b3, e3, _⟩ := DataW.trod_bool Tryz.underlying4 (show DataW.trod _ _ _ _ _ _ _ 4 [c3] = some y3 from g3)
      obtain ⟨n4, e4, _, w4⟩ := DataW.trod_int Tryz.underlying3 (show DataW.trod _ _ _ _ _ _ _ 3 [c4] = some y4 from g4)
      obtain ⟨n5, e5, _, w5⟩ := DataW.trod_int Tryz.underlying3 (show DataW.trod _ _ _ _ _ _ _ 3 [c5] = some y5 from g5)
      obtain ⟨s6, e6, _⟩ := DataW.trod_string Tryz.underlying9 (show DataW.trod _ _ _ _ _ _ _ 9 [c6] = some y6 from g6)
      obtain ⟨n7, e7, _, w7⟩ := DataW.trod_int Tryz.underlying3 (show DataW.trod _ _ _ _ _ _ _ 3 [c7] = some y7 from g7)
      obtain ⟨A, c, Xs, e8, hp⟩ := open_props' (show DataW.trod enc Tryz.prog W 0 (fun _ => true) true n 28 [c8] = some y8 from g8)
      simp only [List.cons.injEq, and_true] at e0 e1 e2 e3 e4 e5 e6 e7
      subst e0 e1 e2 e3 e4 e5 e6 e7 e8
      exact ⟨⟨s0, s1, n2, b3, n4, n5, s6, n7, Xs⟩, A, c, rfl, ⟨wf64 w2, wf64 w4, wf64 w5, wf64 w7⟩, hp⟩

/-! ### Bytes -/
theorem cellsU8 : Tryz.prog.cellsOf 5 = 1 := by kernel_rfl
theorem bytesU8 : Tryz.prog.bytesOf 5 = 1 := by kernel_rfl
theorem u8_wf {n : Int} (h : (Lit.int .u8 n).wf = true) : 0 ≤ n ∧ n < 256 := by
  have h1 : IntKind.u8.min = 0 := rfl
  have h2 : IntKind.u8.max = 255 := rfl
  simp only [Lit.wf, Bool.and_eq_true, decide_eq_true_eq] at h
  omega
end Go.Proofs.YtoakhkiiefiebabGreatDoor
namespace Go.Proofs.YtoakhkiiefiebabGreatDoor
open Go.Joins Go.ChangeShapes Go.WideShapes Go.ChangeAt Go.WideMaps Go.WideElems Go.RowKit Go.Deep

theorem cellsSub : Tryz.prog.cellsOf 101 = 3 := by kernel_rfl
theorem cellsSubs : Tryz.prog.cellsOf 33 = 1 := by kernel_rfl
theorem cellsStrs : Tryz.prog.cellsOf 34 = 1 := by kernel_rfl
theorem cellsInts : Tryz.prog.cellsOf 23 = 1 := by kernel_rfl
theorem cellsWill : Tryz.prog.cellsOf 32 = 11 := by kernel_rfl
theorem cellsPkt : Tryz.prog.cellsOf 36 = 34 := by kernel_rfl
section
variable {H : Type} {enc : TypeId × Value → H} {W : World}
set_option maxRecDepth 100000 in
/-- the cells of one subscription -/
theorem open_sub1 {fuel : Nat} {cs : List Value} {x : DataW H × List MemPlace} (hf : DataW.trod enc Tryz.prog W 0 (fun _ => true) true fuel 101 cs = some x) : ∃ X : SB, cs = gS X := by
  obtain ⟨ys, n, _, _, hl, hyl, hfld⟩ := DataW.trod_struct Tryz.underlying101 hf
  rw [cellsSub] at hl
  match cs, hl with
  | [c0, c1, c2], _ =>
    match ys, hyl with
    | [y0, y1, y2], _ =>
      have g0 := hfld 0 _ rfl
      have g1 := hfld 1 _ rfl
      have g2 := hfld 2 _ rfl
      simp [cellsStr, cellsI64, cellsBool] at g0 g1 g2
      obtain ⟨s0, e0, _⟩ := DataW.trod_string Tryz.underlying9 (show DataW.trod _ _ _ _ _ _ _ 9 [c0] = some y0 from g0)
      obtain ⟨n1, e1, _, _⟩ := DataW.trod_int Tryz.underlying3 (show DataW.trod _ _ _ _ _ _ _ 3 [c1] = some y1 from g1)
      obtain ⟨b2, e2, _⟩ := DataW.trod_bool Tryz.underlying4 (show DataW.trod _ _ _ _ _ _ _ 4 [c2] = some y2 from g2)
      simp only [List.cons.injEq, and_true] at e0 e1 e2
      subst e0 e1 e2
      exact ⟨(s0, n1, b2), rfl⟩
set_option maxRecDepth 100000 in
theorem open_subs {fuel : Nat} {v : Value} {x : DataW H × List MemPlace} (hf : DataW.trod enc Tryz.prog W 0 (fun _ => true) true fuel 33 [v] = some x) :
    ∃ (A : Option Addr) (c : Nat) (Xs : List SB), v = .slice A Xs.length c ∧ BL W W.heap.size A Xs := by
  rcases open_slice Tryz.underlying33 hf with ⟨hcs, _⟩ | ⟨a, len, cap, m, n, D, Pl, hcs, _, hl, _, hmm, _, hi⟩
  · simp at hcs
    subst hcs
    exact ⟨none, 0, [], rfl, GL.nil _ _ _⟩
  · simp at hcs
    subst hcs
    simp only [if_true] at hmm
    have each : ∀ i : Nat, ∃ X : SB, i < len → ∀ j u, (gS X)[j]? = some u → W.cell? (a.add (i * 3 + j)) = some u := fun i => by
      by_cases h : i < len
      · obtain ⟨cs', hc, ht⟩ := hi i (by omega)
        rw [cellsSub] at hc
        obtain ⟨X, rfl⟩ := open_sub1 ht
        obtain ⟨_, _, hat⟩ := World.cells?_some hc
        refine ⟨X, fun _ j u hj => ?_⟩
        have hj3 : j < 3 := (List.getElem?_eq_some_iff.1 hj).1
        rw [← Go.Deep.add_add, hat j hj3, hj]
      · exact ⟨(⟨#[]⟩, 0, false), fun h' => absurd h' h⟩
    refine ⟨some a, cap, (List.range len).map fun i => Classical.choose (each i), by simp, fun h0 => ?_⟩
    simp at h0
    obtain ⟨b, o, rfl, hb⟩ := plain_addr (show W.cell? (a.add 0) = some _ from Classical.choose_spec (each 0) (by omega) 0 _ rfl)
    refine ⟨b, o, rfl, hb, fun j X i v hX hv => ?_⟩
    rw [List.getElem?_map] at hX
    have hj : j < len := by
      rcases Nat.lt_or_ge j len with h | h
      · exact h
      · rw [List.getElem?_eq_none (by simpa using h)] at hX; cases hX
    rw [List.getElem?_range hj] at hX
    obtain rfl := Option.some.inj hX
    rw [Nat.add_assoc, add_plain]
    exact Classical.choose_spec (each j) hj i v hv
set_option maxRecDepth 100000 in
theorem open_strs {fuel : Nat} {v : Value} {x : DataW H × List MemPlace} (hf : DataW.trod enc Tryz.prog W 0 (fun _ => true) true fuel 34 [v] = some x) :
    ∃ (A : Option Addr) (c : Nat) (Xs : List ByteArray), v = .slice A Xs.length c ∧ SL W W.heap.size A Xs := by
  rcases open_strings Tryz.underlying34 Tryz.underlying9 cellsStr hf with ⟨hcs, _⟩ | ⟨a, len, cap, ss, hcs, _, hl, _, hz, _, hcell, _⟩
  · simp at hcs
    subst hcs
    exact ⟨none, 0, [], rfl, CL.nil _ _ _⟩
  · simp at hcs
    subst hcs
    simp only [if_true] at hz
    refine ⟨some a, cap, ss.take len, by simp; omega, fun h0 => ?_⟩
    rw [List.length_take] at h0
    obtain ⟨b, o, rfl, hb⟩ := plain_addr (hcell 0 (by omega))
    refine ⟨b, o, rfl, hb, fun j X hX => ?_⟩
    have hj : j < len := by have := (List.getElem?_eq_some_iff.1 hX).1; simp at this; omega
    rw [List.getElem?_take_of_lt hj] at hX
    rw [add_plain, hcell j (by omega), List.getD_eq_getElem?_getD, hX]
    rfl
set_option maxRecDepth 100000 in
theorem open_nums {fuel : Nat} {v : Value} {x : DataW H × List MemPlace} (hf : DataW.trod enc Tryz.prog W 0 (fun _ => true) true fuel 23 [v] = some x) :
    ∃ (A : Option Addr) (c : Nat) (Xs : List Int), v = .slice A Xs.length c ∧ IL W W.heap.size A Xs := by
  rcases open_ints Tryz.underlying23 Tryz.underlying3 cellsI64 hf with ⟨hcs, _⟩ | ⟨a, len, cap, zs, hcs, _, hl, _, hz, _, hcell, _⟩
  · simp at hcs
    subst hcs
    exact ⟨none, 0, [], rfl, CL.nil _ _ _⟩
  · simp at hcs
    subst hcs
    simp only [if_true] at hz
    refine ⟨some a, cap, zs.take len, by simp; omega, fun h0 => ?_⟩
    rw [List.length_take] at h0
    obtain ⟨b, o, rfl, hb⟩ := plain_addr (hcell 0 (by omega))
    refine ⟨b, o, rfl, hb, fun j X hX => ?_⟩
    have hj : j < len := by have := (List.getElem?_eq_some_iff.1 hX).1; simp at this; omega
    rw [List.getElem?_take_of_lt hj] at hX
    rw [add_plain, hcell j (by omega), List.getD_eq_getElem?_getD, hX]
    rfl
set_option maxRecDepth 100000 in
theorem open_msgc {fuel : Nat} {cs : List Value} {x : DataW H × List MemPlace} (hf : DataW.trod enc Tryz.prog W 0 (fun _ => true) true fuel 30 cs = some x) :
    ∃ (m : Msg) (A : Option Addr) (c : Nat), cs = msgC m A c ∧ PL W W.heap.size A m.props := by
  obtain ⟨ys, n, _, _, hl, hyl, hfld⟩ := DataW.trod_struct Tryz.underlying30 hf
  rw [cellsMsg] at hl
  match cs, hl with
  | [c0, c1, c2, c3, c4, c5, c6, c7, c8], _ =>
    match ys, hyl with
    | [y0, y1, y2, y3, y4, y5, y6, y7, y8], _ =>
      have g0 := hfld 0 _ rfl
      have g1 := hfld 1 _ rfl
      have g2 := hfld 2 _ rfl
      have g3 := hfld 3 _ rfl
      have g4 := hfld 4 _ rfl
      have g5 := hfld 5 _ rfl
      have g6 := hfld 6 _ rfl
      have g7 := hfld 7 _ rfl
      have g8 := hfld 8 _ rfl
      simp [cellsStr, cellsI64, cellsBool, cellsProps] at g0 g1 g2 g3 g4 g5 g6 g7 g8
      obtain ⟨v0, e0, _⟩ := DataW.trod_string Tryz.underlying9 (show DataW.trod enc Tryz.prog W 0 (fun _ => true) true n 9 [c0] = some y0 from g0)
      obtain ⟨v1, e1, _⟩ := DataW.trod_string Tryz.underlying9 (show DataW.trod enc Tryz.prog W 0 (fun _ => true) true n 9 [c1] = some y1 from g1)
      obtain ⟨v2, e2, _, _⟩ := DataW.trod_int Tryz.underlying3 (show DataW.trod enc Tryz.prog W 0 (fun _ => true) true n 3 [c2] = some y2 from g2)
      obtain ⟨v3, e3, _⟩ := DataW.trod_bool Tryz.underlying4 (show DataW.trod enc Tryz.prog W 0 (fun _ => true) true n 4 [c3] = some y3 from g3)
      obtain ⟨v4, e4, _, _⟩ := DataW.trod_int Tryz.underlying3 (show DataW.trod enc Tryz.prog W 0 (fun _ => true) true n 3 [c4] = some y4 from g4)
      obtain ⟨v5, e5, _, _⟩ := DataW.trod_int Tryz.underlying3 (show DataW.trod enc Tryz.prog W 0 (fun _ => true) true n 3 [c5] = some y5 from g5)
      obtain ⟨v6, e6, _⟩ := DataW.trod_string Tryz.underlying9 (show DataW.trod enc Tryz.prog W 0 (fun _ => true) true n 9 [c6] = some y6 from g6)
      obtain ⟨v7, e7, _, _⟩ := DataW.trod_int Tryz.underlying3 (show DataW.trod enc Tryz.prog W 0 (fun _ => true) true n 3 [c7] = some y7 from g7)
      obtain ⟨A8, p8, X8, e8, h8⟩ := open_props' (show DataW.trod enc Tryz.prog W 0 (fun _ => true) true n 28 [c8] = some y8 from g8)
      simp only [List.cons.injEq, and_true] at e0 e1 e2 e3 e4 e5 e6 e7
      subst e0 e1 e2 e3 e4 e5 e6 e7 e8
      exact ⟨⟨v0, v1, v2, v3, v4, v5, v6, v7, X8⟩, A8, p8, rfl, h8⟩
set_option maxRecDepth 100000 in
theorem open_willc {fuel : Nat} {cs : List Value} {x : DataW H × List MemPlace} (hf : DataW.trod enc Tryz.prog W 0 (fun _ => true) true fuel 32 cs = some x) :
    ∃ (s : Bool) (d : Int) (m : Msg) (A : Option Addr) (c : Nat), cs = [.bool s, .int .i64 d] ++ msgC m A c ∧ PL W W.heap.size A m.props := by
  obtain ⟨ys, n, _, _, hl, hyl, hfld⟩ := DataW.trod_struct Tryz.underlying32 hf
  rw [cellsWill] at hl
  match cs, hl with
  | [c0, c1, c2, c3, c4, c5, c6, c7, c8, c9, c10], _ =>
    match ys, hyl with
    | [y0, y1, y2], _ =>
      have g0 := hfld 0 _ rfl
      have g1 := hfld 1 _ rfl
      have g2 := hfld 2 _ rfl
      simp [cellsI64, cellsBool, cellsMsg] at g0 g1 g2
      obtain ⟨v0, e0, _⟩ := DataW.trod_bool Tryz.underlying4 (show DataW.trod enc Tryz.prog W 0 (fun _ => true) true n 4 [c0] = some y0 from g0)
      obtain ⟨v1, e1, _, _⟩ := DataW.trod_int Tryz.underlying3 (show DataW.trod enc Tryz.prog W 0 (fun _ => true) true n 3 [c1] = some y1 from g1)
      obtain ⟨m, A, c, e2, h2⟩ := open_msgc (show DataW.trod enc Tryz.prog W 0 (fun _ => true) true n 30 [c2, c3, c4, c5, c6, c7, c8, c9, c10] = some y2 from g2)
      simp only [List.cons.injEq, and_true] at e0 e1
      subst e0 e1
      exact ⟨v0, v1, m, A, c, by rw [← e2]; rfl, h2⟩
set_option maxRecDepth 100000 in
set_option maxHeartbeats 4000000 in
theorem open_pkt {r : Reach} {b0 : Nat} {v : Value} {d : DataW H} {p : List MemPlace} (hv : Value.okWide Tryz.prog W r b0 36 v)
    (h : DataW.Trod enc Tryz.prog W 0 (fun _ => true) true 36 v d p) : ∃ (q : Pkt) (a : PA), v = pkV q a ∧ PIn W q a := by
  obtain ⟨cs, rfl, hsz⟩ := okWide_struct Tryz.underlying36 hv
  obtain ⟨fuel, hf⟩ := h
  obtain ⟨l⟩ := cs
  have hl : l.length = 34 := by have := hsz.trans cellsPkt; simpa using this
  · skip
    obtain ⟨c0, l0, q0⟩ := List.exists_cons_of_length_pos (l := l) (by omega)
    subst q0
    have hl0 : l0.length = 33 := by simpa using hl
    clear hl
    obtain ⟨c1, l1, q1⟩ := List.exists_cons_of_length_pos (l := l0) (by omega)
    subst q1
    have hl1 : l1.length = 32 := by simpa using hl0
    clear hl0
    obtain ⟨c2, l2, q2⟩ := List.exists_cons_of_length_pos (l := l1) (by omega)
    subst q2
    have hl2 : l2.length = 31 := by simpa using hl1
    clear hl1
    obtain ⟨c3, l3, q3⟩ := List.exists_cons_of_length_pos (l := l2) (by omega)
    subst q3
    have hl3 : l3.length = 30 := by simpa using hl2
    clear hl2
    obtain ⟨c4, l4, q4⟩ := List.exists_cons_of_length_pos (l := l3) (by omega)
    subst q4
    have hl4 : l4.length = 29 := by simpa using hl3
    clear hl3
    obtain ⟨c5, l5, q5⟩ := List.exists_cons_of_length_pos (l := l4) (by omega)
    subst q5
    have hl5 : l5.length = 28 := by simpa using hl4
    clear hl4
    obtain ⟨c6, l6, q6⟩ := List.exists_cons_of_length_pos (l := l5) (by omega)
    subst q6
    have hl6 : l6.length = 27 := by simpa using hl5
    clear hl5
    obtain ⟨c7, l7, q7⟩ := List.exists_cons_of_length_pos (l := l6) (by omega)
    subst q7
    have hl7 : l7.length = 26 := by simpa using hl6
    clear hl6
    obtain ⟨c8, l8, q8⟩ := List.exists_cons_of_length_pos (l := l7) (by omega)
    subst q8
    have hl8 : l8.length = 25 := by simpa using hl7
    clear hl7
    obtain ⟨c9, l9, q9⟩ := List.exists_cons_of_length_pos (l := l8) (by omega)
    subst q9
    have hl9 : l9.length = 24 := by simpa using hl8
    clear hl8
    obtain ⟨c10, l10, q10⟩ := List.exists_cons_of_length_pos (l := l9) (by omega)
    subst q10
    have hl10 : l10.length = 23 := by simpa using hl9
    clear hl9
    obtain ⟨c11, l11, q11⟩ := List.exists_cons_of_length_pos (l := l10) (by omega)
    subst q11
    have hl11 : l11.length = 22 := by simpa using hl10
    clear hl10
    obtain ⟨c12, l12, q12⟩ := List.exists_cons_of_length_pos (l := l11) (by omega)
    subst q12
    have hl12 : l12.length = 21 := by simpa using hl11
    clear hl11
    obtain ⟨c13, l13, q13⟩ := List.exists_cons_of_length_pos (l := l12) (by omega)
    subst q13
    have hl13 : l13.length = 20 := by simpa using hl12
    clear hl12
    obtain ⟨c14, l14, q14⟩ := List.exists_cons_of_length_pos (l := l13) (by omega)
    subst q14
    have hl14 : l14.length = 19 := by simpa using hl13
    clear hl13
    obtain ⟨c15, l15, q15⟩ := List.exists_cons_of_length_pos (l := l14) (by omega)
    subst q15
    have hl15 : l15.length = 18 := by simpa using hl14
    clear hl14
    obtain ⟨c16, l16, q16⟩ := List.exists_cons_of_length_pos (l := l15) (by omega)
    subst q16
    have hl16 : l16.length = 17 := by simpa using hl15
    clear hl15
    obtain ⟨c17, l17, q17⟩ := List.exists_cons_of_length_pos (l := l16) (by omega)
    subst q17
    have hl17 : l17.length = 16 := by simpa using hl16
    clear hl16
    obtain ⟨c18, l18, q18⟩ := List.exists_cons_of_length_pos (l := l17) (by omega)
    subst q18
    have hl18 : l18.length = 15 := by simpa using hl17
    clear hl17
    obtain ⟨c19, l19, q19⟩ := List.exists_cons_of_length_pos (l := l18) (by omega)
    subst q19
    have hl19 : l19.length = 14 := by simpa using hl18
    clear hl18
    obtain ⟨c20, l20, q20⟩ := List.exists_cons_of_length_pos (l := l19) (by omega)
    subst q20
    have hl20 : l20.length = 13 := by simpa using hl19
    clear hl19
    obtain ⟨c21, l21, q21⟩ := List.exists_cons_of_length_pos (l := l20) (by omega)
    subst q21
    have hl21 : l21.length = 12 := by simpa using hl20
    clear hl20
    obtain ⟨c22, l22, q22⟩ := List.exists_cons_of_length_pos (l := l21) (by omega)
    subst q22
    have hl22 : l22.length = 11 := by simpa using hl21
    clear hl21
    obtain ⟨c23, l23, q23⟩ := List.exists_cons_of_length_pos (l := l22) (by omega)
    subst q23
    have hl23 : l23.length = 10 := by simpa using hl22
    clear hl22
    obtain ⟨c24, l24, q24⟩ := List.exists_cons_of_length_pos (l := l23) (by omega)
    subst q24
    have hl24 : l24.length = 9 := by simpa using hl23
    clear hl23
    obtain ⟨c25, l25, q25⟩ := List.exists_cons_of_length_pos (l := l24) (by omega)
    subst q25
    have hl25 : l25.length = 8 := by simpa using hl24
    clear hl24
    obtain ⟨c26, l26, q26⟩ := List.exists_cons_of_length_pos (l := l25) (by omega)
    subst q26
    have hl26 : l26.length = 7 := by simpa using hl25
    clear hl25
    obtain ⟨c27, l27, q27⟩ := List.exists_cons_of_length_pos (l := l26) (by omega)
    subst q27
    have hl27 : l27.length = 6 := by simpa using hl26
    clear hl26
    obtain ⟨c28, l28, q28⟩ := List.exists_cons_of_length_pos (l := l27) (by omega)
    subst q28
    have hl28 : l28.length = 5 := by simpa using hl27
    clear hl27
    obtain ⟨c29, l29, q29⟩ := List.exists_cons_of_length_pos (l := l28) (by omega)
    subst q29
    have hl29 : l29.length = 4 := by simpa using hl28
    clear hl28
    obtain ⟨c30, l30, q30⟩ := List.exists_cons_of_length_pos (l := l29) (by omega)
    subst q30
    have hl30 : l30.length = 3 := by simpa using hl29
    clear hl29
    obtain ⟨c31, l31, q31⟩ := List.exists_cons_of_length_pos (l := l30) (by omega)
    subst q31
    have hl31 : l31.length = 2 := by simpa using hl30
    clear hl30
    obtain ⟨c32, l32, q32⟩ := List.exists_cons_of_length_pos (l := l31) (by omega)
    subst q32
    have hl32 : l32.length = 1 := by simpa using hl31
    clear hl31
    obtain ⟨c33, l33, q33⟩ := List.exists_cons_of_length_pos (l := l32) (by omega)
    subst q33
    have hl33 : l33.length = 0 := by simpa using hl32
    clear hl32
    have q34 := List.eq_nil_of_length_eq_zero hl33
    subst q34
    obtain ⟨ys, n, _, _, _, hyl, hfld⟩ := DataW.trod_struct Tryz.underlying36 hf
    match ys, hyl with
    | [y0, y1, y2, y3, y4, y5, y6, y7, y8, y9, y10, y11, y12, y13, y14, y15], _ =>
      have g0 := hfld 0 _ rfl
      have g1 := hfld 1 _ rfl
      have g2 := hfld 2 _ rfl
      have g3 := hfld 3 _ rfl
      have g4 := hfld 4 _ rfl
      have g5 := hfld 5 _ rfl
      have g6 := hfld 6 _ rfl
      have g7 := hfld 7 _ rfl
      have g8 := hfld 8 _ rfl
      have g9 := hfld 9 _ rfl
      have g10 := hfld 10 _ rfl
      have g11 := hfld 11 _ rfl
      have g12 := hfld 12 _ rfl
      have g13 := hfld 13 _ rfl
      have g14 := hfld 14 _ rfl
      have g15 := hfld 15 _ rfl
      simp [Value.cells, cellsStr, cellsI64, cellsBool, cellsMsg, cellsWill, cellsSubs, cellsStrs, cellsInts] at g0 g1 g2 g3 g4 g5 g6 g7 g8 g9 g10 g11 g12 g13 g14 g15
      obtain ⟨v0, e0, _, _⟩ := DataW.trod_int Tryz.underlying3 (show DataW.trod enc Tryz.prog W 0 (fun _ => true) true n 3 [c0] = some y0 from g0)
      obtain ⟨v1, e1, _, _⟩ := DataW.trod_int Tryz.underlying3 (show DataW.trod enc Tryz.prog W 0 (fun _ => true) true n 3 [c1] = some y1 from g1)
      obtain ⟨v2, e2, _⟩ := DataW.trod_bool Tryz.underlying4 (show DataW.trod enc Tryz.prog W 0 (fun _ => true) true n 4 [c2] = some y2 from g2)
      obtain ⟨m3, A3, p3, e3, h3⟩ := open_msgc (show DataW.trod enc Tryz.prog W 0 (fun _ => true) true n 30 [c3, c4, c5, c6, c7, c8, c9, c10, c11] = some y3 from g3)
      obtain ⟨v4, e4, _⟩ := DataW.trod_string Tryz.underlying9 (show DataW.trod enc Tryz.prog W 0 (fun _ => true) true n 9 [c12] = some y4 from g4)
      obtain ⟨v5, e5, _⟩ := DataW.trod_string Tryz.underlying9 (show DataW.trod enc Tryz.prog W 0 (fun _ => true) true n 9 [c13] = some y5 from g5)
      obtain ⟨v6, e6, _⟩ := DataW.trod_bool Tryz.underlying4 (show DataW.trod enc Tryz.prog W 0 (fun _ => true) true n 4 [c14] = some y6 from g6)
      obtain ⟨v7, e7, _, _⟩ := DataW.trod_int Tryz.underlying3 (show DataW.trod enc Tryz.prog W 0 (fun _ => true) true n 3 [c15] = some y7 from g7)
      obtain ⟨v8, e8, _, _⟩ := DataW.trod_int Tryz.underlying3 (show DataW.trod enc Tryz.prog W 0 (fun _ => true) true n 3 [c16] = some y8 from g8)
      obtain ⟨v9, e9, _, _⟩ := DataW.trod_int Tryz.underlying3 (show DataW.trod enc Tryz.prog W 0 (fun _ => true) true n 3 [c17] = some y9 from g9)
      obtain ⟨s10, d10, m10, A10, p10, e10, h10⟩ := open_willc (show DataW.trod enc Tryz.prog W 0 (fun _ => true) true n 32 [c18, c19, c20, c21, c22, c23, c24, c25, c26, c27, c28] = some y10 from g10)
      obtain ⟨v11, e11, _⟩ := DataW.trod_bool Tryz.underlying4 (show DataW.trod enc Tryz.prog W 0 (fun _ => true) true n 4 [c29] = some y11 from g11)
      obtain ⟨v12, e12, _, _⟩ := DataW.trod_int Tryz.underlying3 (show DataW.trod enc Tryz.prog W 0 (fun _ => true) true n 3 [c30] = some y12 from g12)
      obtain ⟨A13, p13, X13, e13, h13⟩ := open_subs (show DataW.trod enc Tryz.prog W 0 (fun _ => true) true n 33 [c31] = some y13 from g13)
      obtain ⟨A14, p14, X14, e14, h14⟩ := open_strs (show DataW.trod enc Tryz.prog W 0 (fun _ => true) true n 34 [c32] = some y14 from g14)
      obtain ⟨A15, p15, X15, e15, h15⟩ := open_nums (show DataW.trod enc Tryz.prog W 0 (fun _ => true) true n 23 [c33] = some y15 from g15)
      simp only [msgC, List.cons_append, List.nil_append, List.cons.injEq, and_true] at e0 e1 e2 e3 e4 e5 e6 e7 e8 e9 e10 e11 e12
      obtain ⟨f1, f2, f3, f4, f5, f6, f7, f8, f9⟩ := e3
      obtain ⟨k1, k2, k3, k4, k5, k6, k7, k8, k9, k10, k11⟩ := e10
      subst e0 e1 e2 e4 e5 e6 e7 e8 e9 e11 e12 e13 e14 e15 f1 f2 f3 f4 f5 f6 f7 f8 f9 k1 k2 k3 k4 k5 k6 k7 k8 k9 k10 k11
      exact ⟨⟨v0, v1, v2, m3, v4, v5, v6, v7, v8, v9, s10, d10, m10, v11, v12, X13, X14, X15⟩, ⟨A3, p3, A10, p10, A13, p13, A14, p14, A15, p15⟩, rfl, ⟨h3, h10, h13, h14, h15⟩⟩
end

end Go.Proofs.YtoakhkiiefiebabGreatDoor
namespace Go.Proofs.YtoakhkiiefiebabGreatDoor
open Go.Joins Go.ChangeShapes Go.WideShapes Go.ChangeAt Go.WideMaps Go.WideElems Go.RowKit Go.Deep

theorem len_max {n : Nat} (h : n ≤ maxLen) : n ≤ 9223372036854775807 := by unfold maxLen at h; omega
theorem cellsFl : Tryz.prog.cellsOf 64 = 11 := by kernel_rfl
theorem cellsFls : Tryz.prog.cellsOf 22 = 1 := by kernel_rfl
theorem cellsIntsW : Tryz.prog.cellsOf 23 = 1 := by kernel_rfl
theorem cellsPool : Tryz.prog.cellsOf 25 = 2 := by kernel_rfl
theorem cellsWin : Tryz.prog.cellsOf 27 = 4 := by kernel_rfl
/-- texts of an item fit, and its identifier is an int -/
def FlOk (f : Fl) : Prop := (-9223372036854775808 ≤ f.id ∧ f.id ≤ 9223372036854775807) ∧ f.m.topic.size ≤ 9223372036854775807 ∧ f.m.frm.size ≤ 9223372036854775807 ∧ ∀ y ∈ f.m.props, y.1.size ≤ 9223372036854775807
section
variable {H : Type} {enc : TypeId × Value → H} {W : World}
theorem open_propsW {a0 : Option Addr} {len cap fuel : Nat} {x : DataW H × List MemPlace}
    (hf : DataW.trod enc Tryz.prog W 0 (fun _ => true) true fuel 28 [.slice a0 len cap] = some x) :
    ∃ Xs : List PR, Xs.length = len ∧ PL W W.heap.size a0 Xs ∧ ∀ x ∈ Xs, x.1.size ≤ 9223372036854775807 := by
  rcases Go.Deep.open_slice_pairs Tryz.underlying28 Tryz.underlying97 cellsProp rfl rfl cellsStr cellsStr hf with ⟨hcs, hx⟩ | ⟨a, len', cap', m, n, V0, V1, D0, D1, P0, P1, hcs, _, hl, hm, hmm, hx, hi⟩
  · simp at hcs
    obtain ⟨rfl, rfl, rfl⟩ := hcs
    exact ⟨[], rfl, GL.nil _ _ _, fun _ h => by cases h⟩
  · simp at hcs
    obtain ⟨rfl, rfl, rfl⟩ := hcs
    subst hx
    simp only [if_true] at hmm
    refine ⟨(List.range len).map fun i => (strV (V0 i), strV (V1 i)), by simp, fun h0 => ?_, fun X hX => ?_⟩
    rotate_left
    · obtain ⟨i, hi', rfl⟩ := List.mem_map.1 hX
      have hj := List.mem_range.1 hi'
      obtain ⟨_, _, h3, _⟩ := hi i (by omega)
      obtain ⟨s0, e0, _, z0⟩ := DataW.trod_string Tryz.underlying9 h3
      simp at e0
      show (strV (V0 i)).size ≤ _
      rw [e0]
      exact len_max z0
    simp at h0
    obtain ⟨b, o, rfl, hb⟩ := plain_addr (hi 0 (by omega)).1
    refine ⟨b, o, rfl, hb, fun j X i v hX hv => ?_⟩
    rw [List.getElem?_map] at hX
    have hj : j < len := by
      rcases Nat.lt_or_ge j len with h | h
      · exact h
      · rw [List.getElem?_eq_none (by simpa using h)] at hX; cases hX
    rw [List.getElem?_range hj] at hX
    obtain rfl := Option.some.inj hX
    obtain ⟨h1, h2, h3, h4⟩ := hi j (by omega)
    obtain ⟨s0, e0, _⟩ := DataW.trod_string Tryz.underlying9 h3
    obtain ⟨s1, e1, _⟩ := DataW.trod_string Tryz.underlying9 h4
    simp at e0 e1
    rw [e0] at h1
    rw [e1] at h2
    match i, hv with
    | 0, hv =>
      simp [gP, strV, e0] at hv
      rw [Nat.add_zero, add_plain, h1, hv]
    | 1, hv =>
      simp [gP, strV, e1] at hv
      rw [Nat.add_assoc, add_plain, h2, hv]
set_option maxRecDepth 100000 in
theorem open_propsW' {v : Value} {fuel : Nat} {x : DataW H × List MemPlace}
    (hf : DataW.trod enc Tryz.prog W 0 (fun _ => true) true fuel 28 [v] = some x) :
    ∃ (A : Option Addr) (c : Nat) (Xs : List PR), v = .slice A Xs.length c ∧ PL W W.heap.size A Xs ∧ ∀ x ∈ Xs, x.1.size ≤ 9223372036854775807 := by
  have h2 := hf
  rcases Go.Deep.open_slice_pairs Tryz.underlying28 Tryz.underlying97 cellsProp rfl rfl cellsStr cellsStr h2 with ⟨hcs, _⟩ | ⟨a, len, cap, m, n, V0, V1, D0, D1, P0, P1, hcs, _⟩
  · simp at hcs
    subst hcs
    exact ⟨none, 0, [], rfl, GL.nil _ _ _, fun _ h => by cases h⟩
  · simp at hcs
    subst hcs
    obtain ⟨Xs, rfl, hp, hz⟩ := open_propsW hf
    exact ⟨_, _, Xs, rfl, hp, hz⟩
set_option maxRecDepth 100000 in
theorem open_msgcW {fuel : Nat} {cs : List Value} {x : DataW H × List MemPlace} (hf : DataW.trod enc Tryz.prog W 0 (fun _ => true) true fuel 30 cs = some x) :
    ∃ (m : Msg) (A : Option Addr) (c : Nat), cs = msgC m A c ∧ PL W W.heap.size A m.props ∧ (m.topic.size ≤ 9223372036854775807 ∧ m.frm.size ≤ 9223372036854775807 ∧ ∀ y ∈ m.props, y.1.size ≤ 9223372036854775807) := by
  obtain ⟨ys, n, _, _, hl, hyl, hfld⟩ := DataW.trod_struct Tryz.underlying30 hf
  rw [cellsMsg] at hl
  match cs, hl with
  | [c0, c1, c2, c3, c4, c5, c6, c7, c8], _ =>
    match ys, hyl with
    | [y0, y1, y2, y3, y4, y5, y6, y7, y8], _ =>
      have g0 := hfld 0 _ rfl
      have g1 := hfld 1 _ rfl
      have g2 := hfld 2 _ rfl
      have g3 := hfld 3 _ rfl
      have g4 := hfld 4 _ rfl
      have g5 := hfld 5 _ rfl
      have g6 := hfld 6 _ rfl
      have g7 := hfld 7 _ rfl
      have g8 := hfld 8 _ rfl
      simp [cellsStr, cellsI64, cellsBool, cellsProps] at g0 g1 g2 g3 g4 g5 g6 g7 g8
      obtain ⟨v0, e0, _, z0⟩ := DataW.trod_string Tryz.underlying9 (show DataW.trod enc Tryz.prog W 0 (fun _ => true) true n 9 [c0] = some y0 from g0)
      obtain ⟨v1, e1, _⟩ := DataW.trod_string Tryz.underlying9 (show DataW.trod enc Tryz.prog W 0 (fun _ => true) true n 9 [c1] = some y1 from g1)
      obtain ⟨v2, e2, _, _⟩ := DataW.trod_int Tryz.underlying3 (show DataW.trod enc Tryz.prog W 0 (fun _ => true) true n 3 [c2] = some y2 from g2)
      obtain ⟨v3, e3, _⟩ := DataW.trod_bool Tryz.underlying4 (show DataW.trod enc Tryz.prog W 0 (fun _ => true) true n 4 [c3] = some y3 from g3)
      obtain ⟨v4, e4, _, _⟩ := DataW.trod_int Tryz.underlying3 (show DataW.trod enc Tryz.prog W 0 (fun _ => true) true n 3 [c4] = some y4 from g4)
      obtain ⟨v5, e5, _, _⟩ := DataW.trod_int Tryz.underlying3 (show DataW.trod enc Tryz.prog W 0 (fun _ => true) true n 3 [c5] = some y5 from g5)
      obtain ⟨v6, e6, _, z6⟩ := DataW.trod_string Tryz.underlying9 (show DataW.trod enc Tryz.prog W 0 (fun _ => true) true n 9 [c6] = some y6 from g6)
      obtain ⟨v7, e7, _, _⟩ := DataW.trod_int Tryz.underlying3 (show DataW.trod enc Tryz.prog W 0 (fun _ => true) true n 3 [c7] = some y7 from g7)
      obtain ⟨A8, p8, X8, e8, h8, z8⟩ := open_propsW' (show DataW.trod enc Tryz.prog W 0 (fun _ => true) true n 28 [c8] = some y8 from g8)
      simp only [List.cons.injEq, and_true] at e0 e1 e2 e3 e4 e5 e6 e7
      subst e0 e1 e2 e3 e4 e5 e6 e7 e8
      exact ⟨⟨v0, v1, v2, v3, v4, v5, v6, v7, X8⟩, A8, p8, rfl, h8, len_max z0, len_max z6, z8⟩
set_option maxRecDepth 100000 in
theorem open_flc {fuel : Nat} {cs : List Value} {x : DataW H × List MemPlace} (hf : DataW.trod enc Tryz.prog W 0 (fun _ => true) true fuel 64 cs = some x) :
    ∃ X : FE, cs = gF X ∧ PL W W.heap.size X.a X.f.m.props ∧ FlOk X.f := by
  obtain ⟨ys, n, _, _, hl, hyl, hfld⟩ := DataW.trod_struct Tryz.underlying64 hf
  rw [cellsFl] at hl
  match cs, hl with
  | [c0, c1, c2, c3, c4, c5, c6, c7, c8, c9, c10], _ =>
    match ys, hyl with
    | [y0, y1, y2], _ =>
      have g0 := hfld 0 _ rfl
      have g1 := hfld 1 _ rfl
      have g2 := hfld 2 _ rfl
      simp [cellsI64, cellsMsg] at g0 g1 g2
      obtain ⟨v0, e0, _, w0⟩ := DataW.trod_int Tryz.underlying3 (show DataW.trod enc Tryz.prog W 0 (fun _ => true) true n 3 [c0] = some y0 from g0)
      obtain ⟨v1, e1, _, _⟩ := DataW.trod_int Tryz.underlying3 (show DataW.trod enc Tryz.prog W 0 (fun _ => true) true n 3 [c1] = some y1 from g1)
      obtain ⟨m, A, c, e2, h2, z2⟩ := open_msgcW (show DataW.trod enc Tryz.prog W 0 (fun _ => true) true n 30 [c2, c3, c4, c5, c6, c7, c8, c9, c10] = some y2 from g2)
      simp only [List.cons.injEq, and_true] at e0 e1
      subst e0 e1
      exact ⟨⟨⟨v0, v1, m⟩, A, c⟩, by show [Value.int .i64 v0, Value.int .i64 v1] ++ [c2, c3, c4, c5, c6, c7, c8, c9, c10] = _; rw [e2]; rfl, h2, wf64 w0, z2⟩
set_option maxRecDepth 100000 in
theorem open_fls {fuel : Nat} {v : Value} {x : DataW H × List MemPlace} (hf : DataW.trod enc Tryz.prog W 0 (fun _ => true) true fuel 22 [v] = some x) :
    ∃ (A : Option Addr) (c : Nat) (Xs : List FE), v = .slice A Xs.length c ∧ FI W W.heap.size A Xs ∧ Xs.length ≤ c ∧ Xs.length ≤ 9223372036854775807 ∧ ∀ X ∈ Xs, FlOk X.f := by
  rcases open_slice Tryz.underlying22 hf with ⟨hcs, _⟩ | ⟨a, len, cap, m, n, D, Pl, hcs, _, hl, hmx, hmm, _, hi⟩
  · simp at hcs
    subst hcs
    exact ⟨none, 0, [], rfl, FI.nil _ _ _, Nat.le_refl _, by simp, fun _ h => by cases h⟩
  · simp at hcs
    subst hcs
    simp only [if_true] at hmm
    have each : ∀ i : Nat, ∃ X : FE, i < len → (∀ j u, (gF X)[j]? = some u → W.cell? (a.add (i * 11 + j)) = some u) ∧ PL W W.heap.size X.a X.f.m.props ∧ FlOk X.f := fun i => by
      by_cases h : i < len
      · obtain ⟨cs', hc, ht⟩ := hi i (by omega)
        rw [cellsFl] at hc
        obtain ⟨X, rfl, hp, hk⟩ := open_flc ht
        obtain ⟨_, _, hat⟩ := World.cells?_some hc
        refine ⟨X, fun _ => ⟨fun j u hj => ?_, hp, hk⟩⟩
        have hj3 : j < 11 := (List.getElem?_eq_some_iff.1 hj).1
        rw [← Go.Deep.add_add, hat j hj3, hj]
      · exact ⟨FE.zero, fun h' => absurd h' h⟩
    refine ⟨some a, cap, (List.range len).map fun i => Classical.choose (each i), by simp, ⟨fun h0 => ?_, fun X hX => ?_⟩, by simpa using hl, by simp; have := len_max hmx; omega, fun X hX => ?_⟩
    rotate_left
    · obtain ⟨i, hi', rfl⟩ := List.mem_map.1 hX
      exact (Classical.choose_spec (each i) (List.mem_range.1 hi')).2.1
    · obtain ⟨i, hi', rfl⟩ := List.mem_map.1 hX
      exact (Classical.choose_spec (each i) (List.mem_range.1 hi')).2.2
    simp at h0
    obtain ⟨b, o, rfl, hb⟩ := plain_addr (show W.cell? (a.add 0) = some _ from (Classical.choose_spec (each 0) (by omega)).1 0 _ rfl)
    refine ⟨b, o, rfl, hb, fun j X i v hX hv => ?_⟩
    rw [List.getElem?_map] at hX
    have hj : j < len := by
      rcases Nat.lt_or_ge j len with h | h
      · exact h
      · rw [List.getElem?_eq_none (by simpa using h)] at hX; cases hX
    rw [List.getElem?_range hj] at hX
    obtain rfl := Option.some.inj hX
    rw [Nat.add_assoc, add_plain]
    exact (Classical.choose_spec (each j) hj).1 i v hv
set_option maxRecDepth 100000 in
theorem open_numsW {v : Value} {fuel : Nat} {x : DataW H × List MemPlace}
    (hf : DataW.trod enc Tryz.prog W 0 (fun _ => true) true fuel 23 [v] = some x) :
    ∃ (A : Option Addr) (c : Nat) (X : List Int), v = .slice A X.length c ∧ S2.IL W W.heap.size A X ∧ X.length ≤ c ∧ X.length ≤ 9223372036854775807 ∧ ∀ x ∈ X, -9223372036854775808 ≤ x ∧ x ≤ 9223372036854775807 := by
  rcases open_ints Tryz.underlying23 Tryz.underlying3 cellsI64 hf with ⟨hcs, hx⟩ | ⟨a, len', cap', zs, hcs, _, hl, hm, hz, hx, hcell, hwf⟩
  · simp at hcs
    subst hcs
    exact ⟨none, 0, [], rfl, CL.nil _ _ _, Nat.le_refl _, by simp, fun x h => by cases h⟩
  · simp at hcs
    subst hcs
    simp only [if_true] at hz
    have hlen : (zs.take len').length = len' := by rw [List.length_take]; omega
    have hmm : cap' ≤ 9223372036854775807 := by unfold maxLen at hm; omega
    refine ⟨some a, cap', zs.take len', by rw [hlen], fun h0 => ?_, by omega, by omega, fun x hx => wf64 (hwf x (List.mem_of_mem_take hx))⟩
    rw [hlen] at h0
    obtain ⟨b, o, rfl, hb⟩ := plain_addr (hcell 0 (by omega))
    refine ⟨b, o, rfl, hb, fun j X hX => ?_⟩
    have hj : j < len' := by have := (List.getElem?_eq_some_iff.1 hX).1; omega
    rw [List.getElem?_take_of_lt hj] at hX
    rw [add_plain, hcell j (by omega), List.getD_eq_getElem?_getD, hX]
    rfl
set_option maxRecDepth 100000 in
theorem open_poolc {fuel : Nat} {cs : List Value} {x : DataW H × List MemPlace} (hf : DataW.trod enc Tryz.prog W 0 (fun _ => true) true fuel 25 cs = some x) :
    ∃ (A : Option Addr) (c : Nat) (X : List Int) (l : Int), cs = [.slice A X.length c, .int .i64 l] ∧ S2.IL W W.heap.size A X ∧ X.length ≤ c ∧ X.length ≤ 9223372036854775807 ∧ ∀ x ∈ X, -9223372036854775808 ≤ x ∧ x ≤ 9223372036854775807 := by
  obtain ⟨ys, n, _, _, hl, hyl, hfld⟩ := DataW.trod_struct Tryz.underlying25 hf
  rw [cellsPool] at hl
  match cs, hl with
  | [c0, c1], _ =>
    match ys, hyl with
    | [y0, y1], _ =>
      have g0 := hfld 0 _ rfl
      have g1 := hfld 1 _ rfl
      simp [cellsI64, cellsIntsW] at g0 g1
      obtain ⟨A, c, X, e0, h1, h2, h3, h4⟩ := open_numsW (show DataW.trod enc Tryz.prog W 0 (fun _ => true) true n 23 [c0] = some y0 from g0)
      obtain ⟨l, e1, _, _⟩ := DataW.trod_int Tryz.underlying3 (show DataW.trod enc Tryz.prog W 0 (fun _ => true) true n 3 [c1] = some y1 from g1)
      simp only [List.cons.injEq, and_true] at e1
      subst e0 e1
      exact ⟨A, c, X, l, rfl, h1, h2, h3, h4⟩
set_option maxRecDepth 100000 in
theorem open_win {r : Reach} {b0 : Nat} {v : Value} {d : DataW H} {p : List MemPlace} (hv : Value.okWide Tryz.prog W r b0 27 v)
    (h : DataW.Trod enc Tryz.prog W 0 (fun _ => true) true 27 v d p) : ∃ (L : Int) (A : Option Addr) (c : Nat) (xs : List FE) (A2 : Option Addr) (c2 : Nat) (X : List Int) (l : Int),
      v = wv L A c xs A2 c2 X l ∧ WOk W A c xs A2 c2 X ∧ X.length ≤ 9223372036854775807 ∧ xs.length ≤ 9223372036854775807 ∧ (∀ x ∈ xs, FlOk x.f) ∧ ∀ x ∈ X, -9223372036854775808 ≤ x ∧ x ≤ 9223372036854775807 := by
  obtain ⟨cs, rfl, hsz⟩ := okWide_struct Tryz.underlying27 hv
  obtain ⟨fuel, hf⟩ := h
  obtain ⟨l⟩ := cs
  have hl : l.length = 4 := by have := hsz.trans cellsWin; simpa using this
  match l, hl with
  | [c0, c1, c2, c3], _ =>
    obtain ⟨ys, n, _, _, _, hyl, hfld⟩ := DataW.trod_struct Tryz.underlying27 hf
    match ys, hyl with
    | [y0, y1, y2], _ =>
      have g0 := hfld 0 _ rfl
      have g1 := hfld 1 _ rfl
      have g2 := hfld 2 _ rfl
      simp [Value.cells, cellsI64, cellsFls, cellsPool] at g0 g1 g2
      obtain ⟨L, e0, _, _⟩ := DataW.trod_int Tryz.underlying3 (show DataW.trod _ _ _ _ _ _ _ 3 [c0] = some y0 from g0)
      obtain ⟨A, c, xs, e1, h1, h2, h3, h4⟩ := open_fls (show DataW.trod enc Tryz.prog W 0 (fun _ => true) true n 22 [c1] = some y1 from g1)
      obtain ⟨A2, c2', X, l2, e2, k1, k2, k3, k4⟩ := open_poolc (show DataW.trod enc Tryz.prog W 0 (fun _ => true) true n 25 [c2, c3] = some y2 from g2)
      simp only [List.cons.injEq, and_true] at e0 e2
      obtain ⟨e2, e3⟩ := e2
      subst e0 e1 e2 e3
      exact ⟨L, A, c, xs, A2, c2', X, l2, rfl, ⟨h1, h2, k1, k2⟩, k3, h3, h4, k4⟩
end
end Go.Proofs.YtoakhkiiefiebabGreatDoor
namespace Go.Proofs.YtoakhkiiefiebabGreatDoor
open Go.RowKit
open S2 (BK Put)

theorem handle_cases (W : PW) (k n : Int) : ((handleR W k n).1 = (0, [], [], 0) ∨ (handleR W k n).2.2 = 0) ∧ ((handleR W k n).2.1 = [] ∨ (handleR W k n).2.1 = [relP n]) := by
  unfold handleR
  by_cases h1 : k ≠ 4 ∧ k ≠ 5 ∧ k ≠ 7
  · rw [if_pos h1]; exact ⟨Or.inl rfl, Or.inl rfl⟩
  rw [if_neg h1]
  by_cases h2 : mayR W.2.1 (posF W.2.1 n) k = false
  · rw [if_pos h2]; exact ⟨Or.inl rfl, Or.inl rfl⟩
  rw [if_neg h2]
  by_cases h3 : k = 5
  · rw [if_pos h3]; exact ⟨Or.inr rfl, Or.inr rfl⟩
  · rw [if_neg h3]; exact ⟨Or.inr rfl, Or.inl rfl⟩
theorem vw_small {W : PW} (h : VW W) : W.2.1.length ≤ 32 ∧ (∀ x ∈ W.2.1, x.m.props.length ≤ 8) ∧ W.2.2.1.length ≤ 32 := ⟨h.len, fun x hx => checkR_props (h.its x hx).1, Nat.le_trans h.few h.len⟩
theorem handle_small {W : PW} {k n : Int} (h : VW W) : ((handleR W k n).1.2.1.length ≤ 32 ∧ (∀ x ∈ (handleR W k n).1.2.1, x.m.props.length ≤ 8) ∧ (handleR W k n).1.2.2.1.length ≤ 32) ∧ (handleR W k n).2.1.length ≤ 1 ∧ ∀ z ∈ (handleR W k n).2.1, z.msg.props = [] := by
  obtain ⟨h1, h2⟩ := handle_cases W k n
  refine ⟨?_, ?_⟩
  · rcases h1 with h1 | h1
    · rw [h1]; exact ⟨Nat.zero_le _, fun x hx => (by cases hx), Nat.zero_le _⟩
    · exact vw_small (vw_handle h h1)
  · rcases h2 with h2 | h2
    · rw [h2]; exact ⟨Nat.zero_le _, fun x hx => (by cases hx)⟩
    · rw [h2]; exact ⟨Nat.le_refl _, fun z hz => by rw [List.mem_singleton] at hz; rw [hz]; rfl⟩
theorem vw_ids {L : Int} {xs : List FE} {X : List Int} {l : Int} (h : VW (L, xs.map FE.f, X, l)) : ∀ x ∈ xs, -9223372036854775808 ≤ x.f.id ∧ x.f.id ≤ 9223372036854775807 := fun x hx => by
  have h1 := h.ids x.f (List.mem_map_of_mem hx)
  have h2 := S2.up_mem (S2.ck_ok.1 h.ck).2.1 _ h1
  omega

set_option maxRecDepth 50000 in
set_option maxHeartbeats 16000000 in
theorem inflightHandles_walk (L : Int) (A : Option Addr) (c : Nat) (xs : List FE) (A2 : Option Addr) (c2 : Nat) (X : List Int) (l : Int) (p : Pkt) (a : PA) (w : World) (hok : S1.Okw w) (hw : WOk w A c xs A2 c2 X) (hXl : X.length ≤ 9223372036854775807) (hnl : xs.length ≤ 9223372036854775807)
    (ht : ∀ x ∈ xs, x.f.m.topic.size ≤ 9223372036854775807 ∧ x.f.m.frm.size ≤ 9223372036854775807 ∧ ∀ y ∈ x.f.m.props, y.1.size ≤ 9223372036854775807) :
    Calls Tryz.prog 3 #[wv L A c xs A2 c2 X l, pkV p a] w fun e w' => e = .returned (.bool true) ∧ Below w.heap.size w w' := by
  have HC2 : Hid (∀ w1, WOk w1 A c xs A2 c2 X → Calls Tryz.prog 6 #[wv L A c xs A2 c2 X l] w1 fun e w' => e = .returned (.int .i64 (winR (L, xs.map FE.f, X, l))) ∧ Below w1.heap.size w1 w') := Lib.hid (fun w1 h => rwcheck_any L A c xs A2 c2 X l w1 h hXl hnl ht)
  have HA := Lib.hid (fun w1 ho => awake14_any w1 ho)
  have HWK := Lib.hid hw
  have HOK := Lib.hid hok
  clear hok hw hXl hnl ht
  unfold pkV
  by_cases hz : winR (L, xs.map FE.f, X, l) = 0
  case neg =>
    have q1 : (winR (L, xs.map FE.f, X, l) != 0) = true := by simp [hz]
    generalize winR (L, xs.map FE.f, X, l) = z at HC2 q1
    clear hz
    go_enter Tryz.func3, Tryz.ntmps3
    go_upto_region 1 with fail
    refine name_world (C := fun w1 => Code.wp _ _ _ _ w1) ((w.alloc (.cells (wcs L A c xs A2 c2 X l).toArray 27)).alloc (.cells (pkC p a).toArray 36)) ?_
    intro w1 hw1
    obtain ⟨hB0, t1, t2⟩ := two hw1
    have T_w1 : Hid (BK 27 w1 w.heap.size (wcs L A c xs A2 c2 X l)) := Lib.hid t1
    have K_w1 : Hid (BK 36 w1 (w.heap.size + 1) (pkC p a)) := Lib.hid t2
    have B_w1 : Hid (Below w.heap.size w w1) := Lib.hid hB0
    clear hw1 t1 t2 hB0
    go_wp2_with first
      | (refine wpList_load_v (by rfl) 27 (.tmp 2) rfl ⟨w.heap.size, 0, none⟩ rfl (wv L A c xs A2 c2 X l) (S2.run_load_all T_w1.out Tryz.underlying27 rfl winSize) ?_)
    refine (HC2.out w1 (HWK.out.step B_w1.out)).mono ?_
    rintro e v1 ⟨rfl, hb⟩
    have T_v1 : Hid (BK 27 v1 w.heap.size (wcs L A c xs A2 c2 X l)) := Lib.hid (T_w1.out.step hb)
    have K_v1 : Hid (BK 36 v1 (w.heap.size + 1) (pkC p a)) := Lib.hid (K_w1.out.step hb)
    have B_v1 : Hid (Below w.heap.size w v1) := Lib.hid (stepB B_w1.out hb)
    clear T_w1 K_w1 B_w1
    clear hb
    go_wp2_with fail
    refine (HA.out v1 (HOK.out.step B_v1.out)).mono ?_
    rintro e v2 ⟨rfl, hb⟩
    have T_v2 : Hid (BK 27 v2 w.heap.size (wcs L A c xs A2 c2 X l)) := Lib.hid (T_v1.out.step hb)
    have K_v2 : Hid (BK 36 v2 (w.heap.size + 1) (pkC p a)) := Lib.hid (K_v1.out.step hb)
    have B_v2 : Hid (Below w.heap.size w v2) := Lib.hid (stepB B_v1.out hb)
    clear T_v1 K_v1 B_v1
    clear hb
    go_wp2_with fail
    go_ret
    exact ⟨rfl, B_v2.out⟩
  have hvw := win_iff.1 hz
  obtain ⟨v2, v4, v5⟩ := vw_small hvw
  dsimp only at v2 v4 v5
  rw [List.length_map] at v2
  have v3 : S2.ckI X l = 0 := hvw.ck
  have hpr : ∀ x ∈ xs, x.f.m.props.length ≤ 100000 := fun x hx => by have := v4 x.f (List.mem_map_of_mem hx); omega
  have hid := vw_ids hvw
  obtain ⟨r, hr⟩ : ∃ r, handleR (L, xs.map FE.f, X, l) p.kind p.id = r := ⟨_, rfl⟩
  have HSM := Lib.hid (handle_small (k := p.kind) (n := p.id) hvw)
  have HPS := Lib.hid (fun w1 h1 => handle_any L A c xs A2 c2 X l p a w1 h1 (by omega) hpr v3 hid)
  have HRS := Lib.hid (fun w1 h1 => rHandle_any L A c xs A2 c2 X l p a w1 h1 (by omega) (by omega) (fun x hx => hvw.its x.f (List.mem_map_of_mem hx)))
  rw [hr] at HRS HPS HSM
  rw [hz] at HC2
  have q1 : ((0 : Int) != 0) = false := rfl
  have q2 : (r.2.2 == r.2.2) = true := by simp
  clear hz hr v2 v3 v4 v5 hvw hpr hid
  obtain ⟨⟨rL, rF, rX, rl⟩, rp, rz⟩ := r
  dsimp only [RetH, RetHr] at HPS HRS HSM q2
  unfold pkV at HRS HPS
  go_enter Tryz.func3, Tryz.ntmps3
  go_upto_region 1 with fail
  refine name_world (C := fun w1 => Code.wp _ _ _ _ w1) ((w.alloc (.cells (wcs L A c xs A2 c2 X l).toArray 27)).alloc (.cells (pkC p a).toArray 36)) ?_
  intro w1 hw1
  obtain ⟨hB0, t1, t2⟩ := two hw1
  have T_w1 : Hid (BK 27 w1 w.heap.size (wcs L A c xs A2 c2 X l)) := Lib.hid t1
  have K_w1 : Hid (BK 36 w1 (w.heap.size + 1) (pkC p a)) := Lib.hid t2
  have B_w1 : Hid (Below w.heap.size w w1) := Lib.hid hB0
  clear hw1 t1 t2 hB0
  go_wp2_with first
    | (refine wpList_load_v (by rfl) 27 (.tmp 2) rfl ⟨w.heap.size, 0, none⟩ rfl (wv L A c xs A2 c2 X l) (S2.run_load_all T_w1.out Tryz.underlying27 rfl winSize) ?_)
  refine (HC2.out w1 (HWK.out.step B_w1.out)).mono ?_
  rintro e v1 ⟨rfl, hb⟩
  have T_v1 : Hid (BK 27 v1 w.heap.size (wcs L A c xs A2 c2 X l)) := Lib.hid (T_w1.out.step hb)
  have K_v1 : Hid (BK 36 v1 (w.heap.size + 1) (pkC p a)) := Lib.hid (K_w1.out.step hb)
  have B_v1 : Hid (Below w.heap.size w v1) := Lib.hid (stepB B_w1.out hb)
  clear T_w1 K_w1 B_w1
  clear hb
  clear HC2
  go_wp2_with first
    | (refine wpList_load_v (by rfl) 27 (.tmp 2) rfl ⟨w.heap.size, 0, none⟩ rfl (wv L A c xs A2 c2 X l) (S2.run_load_all T_v1.out Tryz.underlying27 rfl winSize) ?_)
    | (refine wpList_load_v (by rfl) 36 (.tmp 3) rfl ⟨(w.heap.size + 1), 0, none⟩ rfl (.agg (pkC p a).toArray) (S2.run_load_all K_v1.out Tryz.underlying36 rfl pktSize) ?_)
  refine (HPS.out v1 (HWK.out.step B_v1.out)).mono ?_
  rintro e v2 ⟨A3, c3, ys, A4, c4, A5, c5, ks, rfl, hys, hwk, _, hks, hkk, hb⟩
  have T_v2 : Hid (BK 27 v2 w.heap.size (wcs L A c xs A2 c2 X l)) := Lib.hid (T_v1.out.step hb)
  have K_v2 : Hid (BK 36 v2 (w.heap.size + 1) (pkC p a)) := Lib.hid (K_v1.out.step hb)
  have B_v2 : Hid (Below w.heap.size w v2) := Lib.hid (stepB B_v1.out hb)
  clear T_v1 K_v1 B_v1
  clear hb
  have O_v2 : Hid (WOk v2 A3 c3 ys A4 c4 rX) := Lib.hid (hwk)
  have P_v2 : Hid (KS v2 v2.heap.size A5 ks) := Lib.hid (hkk)
  have HYS := Lib.hid hys
  have HKS := Lib.hid hks
  clear hys hwk hks hkk HPS
  go_wp2_with first
    | (refine S2.wpList_store_all (by rfl) 27 (.tmp 5) (.tmp 19) rfl rfl (v2.heap.size) rfl (wcs rL A3 c3 ys A4 c4 rX rl) rfl 27 (wcs 0 none 0 [] none 0 [] 0) (BK.new v2 _ _) winSize rfl (ones rfl) ?_; intro v3 hM hP; have hb : Below v2.heap.size v2 v3 := hP.below (S2.below_new v2 _) (Nat.le_refl _); have T_v3 : Hid (BK 27 v3 w.heap.size (wcs L A c xs A2 c2 X l)) := Lib.hid (T_v2.out.step hb); have K_v3 : Hid (BK 36 v3 (w.heap.size + 1) (pkC p a)) := Lib.hid (K_v2.out.step hb); have B_v3 : Hid (Below w.heap.size w v3) := Lib.hid (stepB B_v2.out hb); have O_v3 : Hid (WOk v3 A3 c3 ys A4 c4 rX) := Lib.hid (WOk.step O_v2.out hb); have P_v3 : Hid (KS v3 v3.heap.size A5 ks) := Lib.hid (KS.step P_v2.out hb); have V_v3 : Hid (BK 27 v3 (v2.heap.size) (wcs rL A3 c3 ys A4 c4 rX rl)) := Lib.hid hM; clear hM hP hb T_v2 K_v2 B_v2 O_v2 P_v2)
    | (refine wpList_load_v (by rfl) 27 (.tmp 2) rfl ⟨w.heap.size, 0, none⟩ rfl (wv L A c xs A2 c2 X l) (S2.run_load_all T_v3.out Tryz.underlying27 rfl winSize) ?_)
    | (refine wpList_load_v (by rfl) 36 (.tmp 3) rfl ⟨(w.heap.size + 1), 0, none⟩ rfl (.agg (pkC p a).toArray) (S2.run_load_all K_v3.out Tryz.underlying36 rfl pktSize) ?_)
  refine (HRS.out v3 (HWK.out.step B_v3.out)).mono ?_
  rintro e v4 ⟨A6, c6, zs, A7, c7, A8, c8, ls, rfl, hzs, hwk, hls, hkk, hb⟩
  have T_v4 : Hid (BK 27 v4 w.heap.size (wcs L A c xs A2 c2 X l)) := Lib.hid (T_v3.out.step hb)
  have K_v4 : Hid (BK 36 v4 (w.heap.size + 1) (pkC p a)) := Lib.hid (K_v3.out.step hb)
  have B_v4 : Hid (Below w.heap.size w v4) := Lib.hid (stepB B_v3.out hb)
  have O_v4 : Hid (WOk v4 A3 c3 ys A4 c4 rX) := Lib.hid (WOk.step O_v3.out hb)
  have P_v4 : Hid (KS v4 v4.heap.size A5 ks) := Lib.hid (KS.step P_v3.out hb)
  have V_v4 : Hid (BK 27 v4 (v2.heap.size) (wcs rL A3 c3 ys A4 c4 rX rl)) := Lib.hid (V_v3.out.step hb)
  clear T_v3 K_v3 B_v3 O_v3 P_v3 V_v3
  clear hb
  have U_v4 : Hid (WOk v4 A6 c6 zs A7 c7 rX) := Lib.hid (hwk)
  have R_v4 : Hid (KS v4 v4.heap.size A8 ls) := Lib.hid (hkk)
  have HZS := Lib.hid hzs
  have HLS := Lib.hid hls
  clear hzs hwk hls hkk HRS
  go_wp2_with first
    | (refine S2.wpList_store_all (by rfl) 27 (.tmp 8) (.tmp 26) rfl rfl (v4.heap.size) rfl (wcs rL A6 c6 zs A7 c7 rX rl) rfl 27 (wcs 0 none 0 [] none 0 [] 0) (BK.new v4 _ _) winSize rfl (ones rfl) ?_; intro v5 hM hP; have hb : Below v4.heap.size v4 v5 := hP.below (S2.below_new v4 _) (Nat.le_refl _); have T_v5 : Hid (BK 27 v5 w.heap.size (wcs L A c xs A2 c2 X l)) := Lib.hid (T_v4.out.step hb); have K_v5 : Hid (BK 36 v5 (w.heap.size + 1) (pkC p a)) := Lib.hid (K_v4.out.step hb); have B_v5 : Hid (Below w.heap.size w v5) := Lib.hid (stepB B_v4.out hb); have O_v5 : Hid (WOk v5 A3 c3 ys A4 c4 rX) := Lib.hid (WOk.step O_v4.out hb); have P_v5 : Hid (KS v5 v5.heap.size A5 ks) := Lib.hid (KS.step P_v4.out hb); have V_v5 : Hid (BK 27 v5 (v2.heap.size) (wcs rL A3 c3 ys A4 c4 rX rl)) := Lib.hid (V_v4.out.step hb); have U_v5 : Hid (WOk v5 A6 c6 zs A7 c7 rX) := Lib.hid (WOk.step U_v4.out hb); have R_v5 : Hid (KS v5 v5.heap.size A8 ls) := Lib.hid (KS.step R_v4.out hb); have W_v5 : Hid (BK 27 v5 (v4.heap.size) (wcs rL A6 c6 zs A7 c7 rX rl)) := Lib.hid hM; clear hM hP hb T_v4 K_v4 B_v4 O_v4 P_v4 V_v4 U_v4 R_v4)
  refine (HA.out v5 (HOK.out.step B_v5.out)).mono ?_
  rintro e v6 ⟨rfl, hb⟩
  have T_v6 : Hid (BK 27 v6 w.heap.size (wcs L A c xs A2 c2 X l)) := Lib.hid (T_v5.out.step hb)
  have K_v6 : Hid (BK 36 v6 (w.heap.size + 1) (pkC p a)) := Lib.hid (K_v5.out.step hb)
  have B_v6 : Hid (Below w.heap.size w v6) := Lib.hid (stepB B_v5.out hb)
  have O_v6 : Hid (WOk v6 A3 c3 ys A4 c4 rX) := Lib.hid (WOk.step O_v5.out hb)
  have P_v6 : Hid (KS v6 v6.heap.size A5 ks) := Lib.hid (KS.step P_v5.out hb)
  have V_v6 : Hid (BK 27 v6 (v2.heap.size) (wcs rL A3 c3 ys A4 c4 rX rl)) := Lib.hid (V_v5.out.step hb)
  have U_v6 : Hid (WOk v6 A6 c6 zs A7 c7 rX) := Lib.hid (WOk.step U_v5.out hb)
  have R_v6 : Hid (KS v6 v6.heap.size A8 ls) := Lib.hid (KS.step R_v5.out hb)
  have W_v6 : Hid (BK 27 v6 (v4.heap.size) (wcs rL A6 c6 zs A7 c7 rX rl)) := Lib.hid (W_v5.out.step hb)
  clear T_v5 K_v5 B_v5 O_v5 P_v5 V_v5 U_v5 R_v5 W_v5
  clear hb
  have HS1 := Lib.hid (fun w1 h1 h2 => rwsame_any rL A3 c3 ys A4 c4 rX rl A6 c6 zs A7 c7 w1 h1 h2 (HYS.out.trans HZS.out.symm) (by have h9 := HSM.out.1.1; rw [← HYS.out, List.length_map] at h9; omega) (fun x hx => by have := HSM.out.1.2.1 x.f (by rw [← HYS.out]; exact List.mem_map_of_mem hx); omega) (by have := HSM.out.1.2.2; omega))
  have HS2 : Hid (∀ w1, KS w1 w1.heap.size A5 ks → KS w1 w1.heap.size A8 ls → Calls Tryz.prog 11 #[.slice A5 ks.length c5, .slice A8 ls.length c8] w1 fun e w' => e = .returned (.bool true) ∧ Below w1.heap.size w1 w') := Lib.hid (fun w1 h1 h2 => by
    have hl : ls.length = ks.length := by have := congrArg List.length (HKS.out.trans HLS.out.symm); simpa using this.symm
    rw [hl]
    exact packets_any A5 c5 ks A8 c8 ls ks.length w1 h1 h2 (HKS.out.trans HLS.out.symm) rfl (by have h9 := HSM.out.2.1; rw [← HKS.out, List.length_map] at h9; omega) (fun z hz => by rw [HSM.out.2.2 z.1 (by rw [← HKS.out]; exact List.mem_map_of_mem hz)]; exact Nat.zero_le _))
  go_wp2_with first
    | (refine wpList_load_v (by rfl) 27 (.tmp 5) rfl ⟨v2.heap.size, 0, none⟩ rfl (wv rL A3 c3 ys A4 c4 rX rl) (S2.run_load_all V_v6.out Tryz.underlying27 rfl winSize) ?_)
    | (refine wpList_load_v (by rfl) 27 (.tmp 8) rfl ⟨v4.heap.size, 0, none⟩ rfl (wv rL A6 c6 zs A7 c7 rX rl) (S2.run_load_all W_v6.out Tryz.underlying27 rfl winSize) ?_)
  refine (HS1.out v6 O_v6.out U_v6.out).mono ?_
  rintro e v7 ⟨rfl, hb⟩
  have T_v7 : Hid (BK 27 v7 w.heap.size (wcs L A c xs A2 c2 X l)) := Lib.hid (T_v6.out.step hb)
  have K_v7 : Hid (BK 36 v7 (w.heap.size + 1) (pkC p a)) := Lib.hid (K_v6.out.step hb)
  have B_v7 : Hid (Below w.heap.size w v7) := Lib.hid (stepB B_v6.out hb)
  have O_v7 : Hid (WOk v7 A3 c3 ys A4 c4 rX) := Lib.hid (WOk.step O_v6.out hb)
  have P_v7 : Hid (KS v7 v7.heap.size A5 ks) := Lib.hid (KS.step P_v6.out hb)
  have V_v7 : Hid (BK 27 v7 (v2.heap.size) (wcs rL A3 c3 ys A4 c4 rX rl)) := Lib.hid (V_v6.out.step hb)
  have U_v7 : Hid (WOk v7 A6 c6 zs A7 c7 rX) := Lib.hid (WOk.step U_v6.out hb)
  have R_v7 : Hid (KS v7 v7.heap.size A8 ls) := Lib.hid (KS.step R_v6.out hb)
  have W_v7 : Hid (BK 27 v7 (v4.heap.size) (wcs rL A6 c6 zs A7 c7 rX rl)) := Lib.hid (W_v6.out.step hb)
  clear T_v6 K_v6 B_v6 O_v6 P_v6 V_v6 U_v6 R_v6 W_v6
  clear hb
  go_wp2_with fail
  refine (HS2.out v7 P_v7.out R_v7.out).mono ?_
  rintro e v8 ⟨rfl, hb⟩
  have T_v8 : Hid (BK 27 v8 w.heap.size (wcs L A c xs A2 c2 X l)) := Lib.hid (T_v7.out.step hb)
  have K_v8 : Hid (BK 36 v8 (w.heap.size + 1) (pkC p a)) := Lib.hid (K_v7.out.step hb)
  have B_v8 : Hid (Below w.heap.size w v8) := Lib.hid (stepB B_v7.out hb)
  have O_v8 : Hid (WOk v8 A3 c3 ys A4 c4 rX) := Lib.hid (WOk.step O_v7.out hb)
  have P_v8 : Hid (KS v8 v8.heap.size A5 ks) := Lib.hid (KS.step P_v7.out hb)
  have V_v8 : Hid (BK 27 v8 (v2.heap.size) (wcs rL A3 c3 ys A4 c4 rX rl)) := Lib.hid (V_v7.out.step hb)
  have U_v8 : Hid (WOk v8 A6 c6 zs A7 c7 rX) := Lib.hid (WOk.step U_v7.out hb)
  have R_v8 : Hid (KS v8 v8.heap.size A8 ls) := Lib.hid (KS.step R_v7.out hb)
  have W_v8 : Hid (BK 27 v8 (v4.heap.size) (wcs rL A6 c6 zs A7 c7 rX rl)) := Lib.hid (W_v7.out.step hb)
  clear T_v7 K_v7 B_v7 O_v7 P_v7 V_v7 U_v7 R_v7 W_v7
  clear hb
  go_wp2_with fail
  go_ret
  exact ⟨rfl, B_v8.out⟩
end Go.Proofs.YtoakhkiiefiebabGreatDoor
namespace Go.Proofs.YtoakhkiiefiebabGreatDoor
open Go.RowKit
open S2 (BK Put)

/-- a packet that comes again changes nothing, and is answered alike -/
theorem handle_again {W : PW} {k n : Int} (h : VW W) (h0 : (handleR W k n).2.2 = 0) : handleR (handleR W k n).1 k n = handleR W k n := by
  by_cases hk : k = 4 ∨ k = 5 ∨ k = 7
  rotate_left
  · exfalso
    unfold handleR at h0
    rw [if_pos (by omega)] at h0
    simp at h0
  by_cases hm : posF W.2.1 n < W.2.1.length
  rotate_left
  · have e := hr_miss (W := W) (n := n) hk hm
    rw [e]; exact e
  obtain ⟨x, hx, hxn⟩ := posF_is hm
  obtain ⟨i, hi⟩ : ∃ i, posF W.2.1 n = i := ⟨_, rfl⟩
  have hv := vw_handle h h0
  have e := hr_hit (W := W) (n := n) hk rfl hx
  rw [hi] at e hx
  by_cases ha : awaitsR x k = false
  · rw [if_pos ha] at e; rw [e] at h0; simp at h0
  rw [if_neg ha] at e
  obtain ⟨L, F, X, l⟩ := W
  dsimp only at hx hi hm
  obtain ⟨hil, hxe⟩ := List.getElem?_eq_some_iff.1 hx
  by_cases h5 : k = 5
  · rw [if_pos h5] at e
    rw [e] at hv ⊢
    have e2 : relR (L, F, X, l) i = (L, F.set i { x with st := 2 }, X, l) := by unfold relR; dsimp only; rw [setRel_at hx]
    rw [e2] at hv ⊢
    have hx2 : (F.set i { x with st := 2 })[i]? = some { x with st := 2 } := by rw [List.getElem?_set_self hil]
    have hp : posF (F.set i { x with st := 2 }) n = i := by rw [← hxn]; exact posF_nd (x := { x with st := 2 }) hv.nd hx2
    have ha2 : ¬ awaitsR { x with st := 2 } k = false := by rw [h5] at ha ⊢; exact ha
    rw [hr_hit (W := (L, F.set i { x with st := 2 }, X, l)) hk hp hx2, if_neg ha2, if_pos h5]
    have e3 : relR (L, F.set i { x with st := 2 }, X, l) i = (L, F.set i { x with st := 2 }, X, l) := by unfold relR; dsimp only; rw [setRel_at hx2, List.set_set]
    rw [e3]
  · rw [if_neg h5] at e
    rw [e]
    have e2 : remR (L, F, X, l) i = (L, F.eraseIdx i, S2.delI X x.id, l) := by unfold remR; dsimp only; rw [hx]
    rw [e2]
    have hno : ¬ posF (F.eraseIdx i) n < (F.eraseIdx i).length := fun hlt => by
      obtain ⟨y, hy, hyn⟩ := posF_is hlt
      rw [List.getElem?_eraseIdx] at hy
      split at hy
      · have := nd_inj h.nd hy hx (hyn.trans hxn.symm); omega
      · have := nd_inj h.nd hy hx (hyn.trans hxn.symm); omega
    rw [hr_miss (W := (L, F.eraseIdx i, S2.delI X x.id, l)) hk hno, if_neg h5]

set_option maxRecDepth 50000 in
set_option maxHeartbeats 16000000 in
theorem inflightAgain_walk (L : Int) (A : Option Addr) (c : Nat) (xs : List FE) (A2 : Option Addr) (c2 : Nat) (X : List Int) (l : Int) (p : Pkt) (a : PA) (w : World) (hok : S1.Okw w) (hw : WOk w A c xs A2 c2 X) (hXl : X.length ≤ 9223372036854775807) (hnl : xs.length ≤ 9223372036854775807)
    (ht : ∀ x ∈ xs, x.f.m.topic.size ≤ 9223372036854775807 ∧ x.f.m.frm.size ≤ 9223372036854775807 ∧ ∀ y ∈ x.f.m.props, y.1.size ≤ 9223372036854775807) :
    Calls Tryz.prog 5 #[wv L A c xs A2 c2 X l, pkV p a] w fun e w' => e = .returned (.bool true) ∧ Below w.heap.size w w' := by
  have HC2 : Hid (∀ w1, WOk w1 A c xs A2 c2 X → Calls Tryz.prog 6 #[wv L A c xs A2 c2 X l] w1 fun e w' => e = .returned (.int .i64 (winR (L, xs.map FE.f, X, l))) ∧ Below w1.heap.size w1 w') := Lib.hid (fun w1 h => rwcheck_any L A c xs A2 c2 X l w1 h hXl hnl ht)
  have HA := Lib.hid (fun w1 ho => awake14_any w1 ho)
  have HWK := Lib.hid hw
  have HOK := Lib.hid hok
  clear hok hw hXl hnl ht
  unfold pkV
  by_cases hz : winR (L, xs.map FE.f, X, l) = 0
  case neg =>
    have q1 : (winR (L, xs.map FE.f, X, l) != 0) = true := by simp [hz]
    generalize winR (L, xs.map FE.f, X, l) = z at HC2 q1
    clear hz
    go_enter Tryz.func5, Tryz.ntmps5
    go_upto_region 1 with fail
    refine name_world (C := fun w1 => Code.wp _ _ _ _ w1) ((w.alloc (.cells (wcs L A c xs A2 c2 X l).toArray 27)).alloc (.cells (pkC p a).toArray 36)) ?_
    intro w1 hw1
    obtain ⟨hB0, t1, t2⟩ := two hw1
    have T_w1 : Hid (BK 27 w1 w.heap.size (wcs L A c xs A2 c2 X l)) := Lib.hid t1
    have K_w1 : Hid (BK 36 w1 (w.heap.size + 1) (pkC p a)) := Lib.hid t2
    have B_w1 : Hid (Below w.heap.size w w1) := Lib.hid hB0
    clear hw1 t1 t2 hB0
    go_wp2_with first
      | (refine wpList_load_v (by rfl) 27 (.tmp 2) rfl ⟨w.heap.size, 0, none⟩ rfl (wv L A c xs A2 c2 X l) (S2.run_load_all T_w1.out Tryz.underlying27 rfl winSize) ?_)
    refine (HC2.out w1 (HWK.out.step B_w1.out)).mono ?_
    rintro e v1 ⟨rfl, hb⟩
    have T_v1 : Hid (BK 27 v1 w.heap.size (wcs L A c xs A2 c2 X l)) := Lib.hid (T_w1.out.step hb)
    have K_v1 : Hid (BK 36 v1 (w.heap.size + 1) (pkC p a)) := Lib.hid (K_w1.out.step hb)
    have B_v1 : Hid (Below w.heap.size w v1) := Lib.hid (stepB B_w1.out hb)
    clear T_w1 K_w1 B_w1
    clear hb
    go_wp2_with fail
    refine (HA.out v1 (HOK.out.step B_v1.out)).mono ?_
    rintro e v2 ⟨rfl, hb⟩
    have T_v2 : Hid (BK 27 v2 w.heap.size (wcs L A c xs A2 c2 X l)) := Lib.hid (T_v1.out.step hb)
    have K_v2 : Hid (BK 36 v2 (w.heap.size + 1) (pkC p a)) := Lib.hid (K_v1.out.step hb)
    have B_v2 : Hid (Below w.heap.size w v2) := Lib.hid (stepB B_v1.out hb)
    clear T_v1 K_v1 B_v1
    clear hb
    go_wp2_with fail
    go_ret
    exact ⟨rfl, B_v2.out⟩
  have hvw := win_iff.1 hz
  obtain ⟨v2, v4, v5⟩ := vw_small hvw
  dsimp only at v2 v4 v5
  rw [List.length_map] at v2
  have v3 : S2.ckI X l = 0 := hvw.ck
  have hpr : ∀ x ∈ xs, x.f.m.props.length ≤ 100000 := fun x hx => by have := v4 x.f (List.mem_map_of_mem hx); omega
  have hid := vw_ids hvw
  obtain ⟨r, hr⟩ : ∃ r, handleR (L, xs.map FE.f, X, l) p.kind p.id = r := ⟨_, rfl⟩
  have HSM := Lib.hid (handle_small (k := p.kind) (n := p.id) hvw)
  have HRS := Lib.hid (fun w1 h1 => rHandle_any L A c xs A2 c2 X l p a w1 h1 (by omega) (by omega) (fun x hx => hvw.its x.f (List.mem_map_of_mem hx)))
  rw [hr] at HRS HSM
  rw [hz] at HC2
  have q1 : ((0 : Int) != 0) = false := rfl
  by_cases hr0 : r.2.2 = 0
  case neg =>
    have q2 : (r.2.2 != 0) = true := by simp [hr0]
    clear hz hr v2 v3 v4 v5 hvw hpr hid hr0
    obtain ⟨⟨rL, rF, rX, rl⟩, rp, rz⟩ := r
    dsimp only [RetHr] at HRS HSM q2
    unfold pkV at HRS
    go_enter Tryz.func5, Tryz.ntmps5
    go_upto_region 1 with fail
    refine name_world (C := fun w1 => Code.wp _ _ _ _ w1) ((w.alloc (.cells (wcs L A c xs A2 c2 X l).toArray 27)).alloc (.cells (pkC p a).toArray 36)) ?_
    intro w1 hw1
    obtain ⟨hB0, t1, t2⟩ := two hw1
    have T_w1 : Hid (BK 27 w1 w.heap.size (wcs L A c xs A2 c2 X l)) := Lib.hid t1
    have K_w1 : Hid (BK 36 w1 (w.heap.size + 1) (pkC p a)) := Lib.hid t2
    have B_w1 : Hid (Below w.heap.size w w1) := Lib.hid hB0
    clear hw1 t1 t2 hB0
    go_wp2_with first
      | (refine wpList_load_v (by rfl) 27 (.tmp 2) rfl ⟨w.heap.size, 0, none⟩ rfl (wv L A c xs A2 c2 X l) (S2.run_load_all T_w1.out Tryz.underlying27 rfl winSize) ?_)
    refine (HC2.out w1 (HWK.out.step B_w1.out)).mono ?_
    rintro e v1 ⟨rfl, hb⟩
    have T_v1 : Hid (BK 27 v1 w.heap.size (wcs L A c xs A2 c2 X l)) := Lib.hid (T_w1.out.step hb)
    have K_v1 : Hid (BK 36 v1 (w.heap.size + 1) (pkC p a)) := Lib.hid (K_w1.out.step hb)
    have B_v1 : Hid (Below w.heap.size w v1) := Lib.hid (stepB B_w1.out hb)
    clear T_w1 K_w1 B_w1
    clear hb
    clear HC2
    go_wp2_with first
      | (refine wpList_load_v (by rfl) 27 (.tmp 2) rfl ⟨w.heap.size, 0, none⟩ rfl (wv L A c xs A2 c2 X l) (S2.run_load_all T_v1.out Tryz.underlying27 rfl winSize) ?_)
      | (refine wpList_load_v (by rfl) 36 (.tmp 3) rfl ⟨(w.heap.size + 1), 0, none⟩ rfl (.agg (pkC p a).toArray) (S2.run_load_all K_v1.out Tryz.underlying36 rfl pktSize) ?_)
    refine (HRS.out v1 (HWK.out.step B_v1.out)).mono ?_
    rintro e v2 ⟨A6, c6, zs, A7, c7, A8, c8, ls, rfl, hzs, hwk, hls, hkk, hb⟩
    have T_v2 : Hid (BK 27 v2 w.heap.size (wcs L A c xs A2 c2 X l)) := Lib.hid (T_v1.out.step hb)
    have K_v2 : Hid (BK 36 v2 (w.heap.size + 1) (pkC p a)) := Lib.hid (K_v1.out.step hb)
    have B_v2 : Hid (Below w.heap.size w v2) := Lib.hid (stepB B_v1.out hb)
    clear T_v1 K_v1 B_v1
    clear hb
    clear hzs hwk hls hkk HRS
    go_wp2_with first
      | (refine S2.wpList_store_all (by rfl) 27 (.tmp 5) (.tmp 22) rfl rfl (v2.heap.size) rfl (wcs rL A6 c6 zs A7 c7 rX rl) rfl 27 (wcs 0 none 0 [] none 0 [] 0) (BK.new v2 _ _) winSize rfl (ones rfl) ?_; intro v3 hM hP; have hb : Below v2.heap.size v2 v3 := hP.below (S2.below_new v2 _) (Nat.le_refl _); have T_v3 : Hid (BK 27 v3 w.heap.size (wcs L A c xs A2 c2 X l)) := Lib.hid (T_v2.out.step hb); have K_v3 : Hid (BK 36 v3 (w.heap.size + 1) (pkC p a)) := Lib.hid (K_v2.out.step hb); have B_v3 : Hid (Below w.heap.size w v3) := Lib.hid (stepB B_v2.out hb); have W_v3 : Hid (BK 27 v3 (v2.heap.size) (wcs rL A6 c6 zs A7 c7 rX rl)) := Lib.hid hM; clear hM hP hb T_v2 K_v2 B_v2)
    refine (HA.out v3 (HOK.out.step B_v3.out)).mono ?_
    rintro e v4 ⟨rfl, hb⟩
    have T_v4 : Hid (BK 27 v4 w.heap.size (wcs L A c xs A2 c2 X l)) := Lib.hid (T_v3.out.step hb)
    have K_v4 : Hid (BK 36 v4 (w.heap.size + 1) (pkC p a)) := Lib.hid (K_v3.out.step hb)
    have B_v4 : Hid (Below w.heap.size w v4) := Lib.hid (stepB B_v3.out hb)
    have W_v4 : Hid (BK 27 v4 (v2.heap.size) (wcs rL A6 c6 zs A7 c7 rX rl)) := Lib.hid (W_v3.out.step hb)
    clear T_v3 K_v3 B_v3 W_v3
    clear hb
    go_wp2_with fail
    go_ret
    exact ⟨rfl, B_v4.out⟩
  have hag := handle_again (k := p.kind) (n := p.id) hvw (by rw [hr]; exact hr0)
  have hv2 := vw_handle (k := p.kind) (n := p.id) hvw (by rw [hr]; exact hr0)
  rw [hr] at hag hv2
  obtain ⟨⟨rL, rF, rX, rl⟩, rp, rz⟩ := r
  dsimp only at hr0
  subst hr0
  dsimp only at hag hv2
  have HP1 := Lib.hid (fun w1 h1 => handle_any L A c xs A2 c2 X l p a w1 h1 (by omega) hpr v3 hid)
  rw [hr] at HP1
  have HP2 : Hid (∀ A3 c3 ys A4 c4 w1, ys.map FE.f = rF → WOk w1 A3 c3 ys A4 c4 rX → Calls Tryz.prog 8 #[wv rL A3 c3 ys A4 c4 rX rl, pkV p a] w1 (RetH ((rL, rF, rX, rl), rp, 0) w1)) := Lib.hid (fun A3 c3 ys A4 c4 w1 he h1 => by
    have hv3 : VW (rL, ys.map FE.f, rX, rl) := by rw [he]; exact hv2
    obtain ⟨u2, u4, _⟩ := vw_small hv3
    dsimp only at u2 u4
    rw [List.length_map] at u2
    have := handle_any rL A3 c3 ys A4 c4 rX rl p a w1 h1 (by omega) (fun x hx => by have := u4 x.f (List.mem_map_of_mem hx); omega) hv3.ck (vw_ids hv3)
    rw [he, hag] at this
    exact this)
  clear hz hr v2 v3 v4 v5 hvw hpr hid hag hv2
  dsimp only [RetH, RetHr] at HP1 HP2 HRS HSM
  unfold pkV at HRS HP1 HP2
  go_enter Tryz.func5, Tryz.ntmps5
  go_upto_region 1 with fail
  refine name_world (C := fun w1 => Code.wp _ _ _ _ w1) ((w.alloc (.cells (wcs L A c xs A2 c2 X l).toArray 27)).alloc (.cells (pkC p a).toArray 36)) ?_
  intro w1 hw1
  obtain ⟨hB0, t1, t2⟩ := two hw1
  have T_w1 : Hid (BK 27 w1 w.heap.size (wcs L A c xs A2 c2 X l)) := Lib.hid t1
  have K_w1 : Hid (BK 36 w1 (w.heap.size + 1) (pkC p a)) := Lib.hid t2
  have B_w1 : Hid (Below w.heap.size w w1) := Lib.hid hB0
  clear hw1 t1 t2 hB0
  go_wp2_with first
    | (refine wpList_load_v (by rfl) 27 (.tmp 2) rfl ⟨w.heap.size, 0, none⟩ rfl (wv L A c xs A2 c2 X l) (S2.run_load_all T_w1.out Tryz.underlying27 rfl winSize) ?_)
  refine (HC2.out w1 (HWK.out.step B_w1.out)).mono ?_
  rintro e v1 ⟨rfl, hb⟩
  have T_v1 : Hid (BK 27 v1 w.heap.size (wcs L A c xs A2 c2 X l)) := Lib.hid (T_w1.out.step hb)
  have K_v1 : Hid (BK 36 v1 (w.heap.size + 1) (pkC p a)) := Lib.hid (K_w1.out.step hb)
  have B_v1 : Hid (Below w.heap.size w v1) := Lib.hid (stepB B_w1.out hb)
  clear T_w1 K_w1 B_w1
  clear hb
  clear HC2
  go_wp2_with first
    | (refine wpList_load_v (by rfl) 27 (.tmp 2) rfl ⟨w.heap.size, 0, none⟩ rfl (wv L A c xs A2 c2 X l) (S2.run_load_all T_v1.out Tryz.underlying27 rfl winSize) ?_)
    | (refine wpList_load_v (by rfl) 36 (.tmp 3) rfl ⟨(w.heap.size + 1), 0, none⟩ rfl (.agg (pkC p a).toArray) (S2.run_load_all K_v1.out Tryz.underlying36 rfl pktSize) ?_)
  refine (HRS.out v1 (HWK.out.step B_v1.out)).mono ?_
  rintro e v2 ⟨A6, c6, zs, A7, c7, A8, c8, ls, rfl, hzs, hwk, hls, hkk, hb⟩
  have T_v2 : Hid (BK 27 v2 w.heap.size (wcs L A c xs A2 c2 X l)) := Lib.hid (T_v1.out.step hb)
  have K_v2 : Hid (BK 36 v2 (w.heap.size + 1) (pkC p a)) := Lib.hid (K_v1.out.step hb)
  have B_v2 : Hid (Below w.heap.size w v2) := Lib.hid (stepB B_v1.out hb)
  clear T_v1 K_v1 B_v1
  clear hb
  clear hzs hwk hls hkk HRS
  go_wp2_with first
    | (refine S2.wpList_store_all (by rfl) 27 (.tmp 5) (.tmp 22) rfl rfl (v2.heap.size) rfl (wcs rL A6 c6 zs A7 c7 rX rl) rfl 27 (wcs 0 none 0 [] none 0 [] 0) (BK.new v2 _ _) winSize rfl (ones rfl) ?_; intro v3 hM hP; have hb : Below v2.heap.size v2 v3 := hP.below (S2.below_new v2 _) (Nat.le_refl _); have T_v3 : Hid (BK 27 v3 w.heap.size (wcs L A c xs A2 c2 X l)) := Lib.hid (T_v2.out.step hb); have K_v3 : Hid (BK 36 v3 (w.heap.size + 1) (pkC p a)) := Lib.hid (K_v2.out.step hb); have B_v3 : Hid (Below w.heap.size w v3) := Lib.hid (stepB B_v2.out hb); have W_v3 : Hid (BK 27 v3 (v2.heap.size) (wcs rL A6 c6 zs A7 c7 rX rl)) := Lib.hid hM; clear hM hP hb T_v2 K_v2 B_v2)
    | (refine wpList_load_v (by rfl) 27 (.tmp 2) rfl ⟨w.heap.size, 0, none⟩ rfl (wv L A c xs A2 c2 X l) (S2.run_load_all T_v3.out Tryz.underlying27 rfl winSize) ?_)
    | (refine wpList_load_v (by rfl) 36 (.tmp 3) rfl ⟨(w.heap.size + 1), 0, none⟩ rfl (.agg (pkC p a).toArray) (S2.run_load_all K_v3.out Tryz.underlying36 rfl pktSize) ?_)
  refine (HP1.out v3 (HWK.out.step B_v3.out)).mono ?_
  rintro e v4 ⟨A3, c3, ys, A4, c4, A5, c5, ks, rfl, hys, hwk, _, hks, hkk, hb⟩
  have T_v4 : Hid (BK 27 v4 w.heap.size (wcs L A c xs A2 c2 X l)) := Lib.hid (T_v3.out.step hb)
  have K_v4 : Hid (BK 36 v4 (w.heap.size + 1) (pkC p a)) := Lib.hid (K_v3.out.step hb)
  have B_v4 : Hid (Below w.heap.size w v4) := Lib.hid (stepB B_v3.out hb)
  clear T_v3 K_v3 B_v3
  clear hb
  have O_v4 : Hid (WOk v4 A3 c3 ys A4 c4 rX) := Lib.hid (hwk)
  have P_v4 : Hid (KS v4 v4.heap.size A5 ks) := Lib.hid (hkk)
  have HYS := Lib.hid hys
  have HKS := Lib.hid hks
  clear hys hwk hks hkk HP1
  go_wp2_with first
    | (refine S2.wpList_store_all (by rfl) 27 (.tmp 8) (.tmp 32) rfl rfl (v4.heap.size) rfl (wcs rL A3 c3 ys A4 c4 rX rl) rfl 27 (wcs 0 none 0 [] none 0 [] 0) (BK.new v4 _ _) winSize rfl (ones rfl) ?_; intro v5 hM hP; have hb : Below v4.heap.size v4 v5 := hP.below (S2.below_new v4 _) (Nat.le_refl _); have T_v5 : Hid (BK 27 v5 w.heap.size (wcs L A c xs A2 c2 X l)) := Lib.hid (T_v4.out.step hb); have K_v5 : Hid (BK 36 v5 (w.heap.size + 1) (pkC p a)) := Lib.hid (K_v4.out.step hb); have B_v5 : Hid (Below w.heap.size w v5) := Lib.hid (stepB B_v4.out hb); have O_v5 : Hid (WOk v5 A3 c3 ys A4 c4 rX) := Lib.hid (WOk.step O_v4.out hb); have P_v5 : Hid (KS v5 v5.heap.size A5 ks) := Lib.hid (KS.step P_v4.out hb); have V_v5 : Hid (BK 27 v5 (v4.heap.size) (wcs rL A3 c3 ys A4 c4 rX rl)) := Lib.hid hM; clear hM hP hb T_v4 K_v4 B_v4 O_v4 P_v4)
    | (refine wpList_load_v (by rfl) 27 (.tmp 8) rfl ⟨v4.heap.size, 0, none⟩ rfl (wv rL A3 c3 ys A4 c4 rX rl) (S2.run_load_all V_v5.out Tryz.underlying27 rfl winSize) ?_)
    | (refine wpList_load_v (by rfl) 36 (.tmp 3) rfl ⟨(w.heap.size + 1), 0, none⟩ rfl (.agg (pkC p a).toArray) (S2.run_load_all K_v5.out Tryz.underlying36 rfl pktSize) ?_)
  refine (HP2.out A3 c3 ys A4 c4 v5 HYS.out O_v5.out).mono ?_
  rintro e v6 ⟨B3, e3, us, B4, e4, B5, e5, ms, rfl, hus, hwk, _, hms, hkk, hb⟩
  have T_v6 : Hid (BK 27 v6 w.heap.size (wcs L A c xs A2 c2 X l)) := Lib.hid (T_v5.out.step hb)
  have K_v6 : Hid (BK 36 v6 (w.heap.size + 1) (pkC p a)) := Lib.hid (K_v5.out.step hb)
  have B_v6 : Hid (Below w.heap.size w v6) := Lib.hid (stepB B_v5.out hb)
  have O_v6 : Hid (WOk v6 A3 c3 ys A4 c4 rX) := Lib.hid (WOk.step O_v5.out hb)
  have P_v6 : Hid (KS v6 v6.heap.size A5 ks) := Lib.hid (KS.step P_v5.out hb)
  have V_v6 : Hid (BK 27 v6 (v4.heap.size) (wcs rL A3 c3 ys A4 c4 rX rl)) := Lib.hid (V_v5.out.step hb)
  clear T_v5 K_v5 B_v5 O_v5 P_v5 V_v5
  clear hb
  have U_v6 : Hid (WOk v6 B3 e3 us B4 e4 rX) := Lib.hid (hwk)
  have R_v6 : Hid (KS v6 v6.heap.size B5 ms) := Lib.hid (hkk)
  have HUS := Lib.hid hus
  have HMS := Lib.hid hms
  clear hus hwk hms hkk HP2
  go_wp2_with first
    | (refine S2.wpList_store_all (by rfl) 27 (.tmp 11) (.tmp 39) rfl rfl (v6.heap.size) rfl (wcs rL B3 e3 us B4 e4 rX rl) rfl 27 (wcs 0 none 0 [] none 0 [] 0) (BK.new v6 _ _) winSize rfl (ones rfl) ?_; intro v7 hM hP; have hb : Below v6.heap.size v6 v7 := hP.below (S2.below_new v6 _) (Nat.le_refl _); have T_v7 : Hid (BK 27 v7 w.heap.size (wcs L A c xs A2 c2 X l)) := Lib.hid (T_v6.out.step hb); have K_v7 : Hid (BK 36 v7 (w.heap.size + 1) (pkC p a)) := Lib.hid (K_v6.out.step hb); have B_v7 : Hid (Below w.heap.size w v7) := Lib.hid (stepB B_v6.out hb); have O_v7 : Hid (WOk v7 A3 c3 ys A4 c4 rX) := Lib.hid (WOk.step O_v6.out hb); have P_v7 : Hid (KS v7 v7.heap.size A5 ks) := Lib.hid (KS.step P_v6.out hb); have V_v7 : Hid (BK 27 v7 (v4.heap.size) (wcs rL A3 c3 ys A4 c4 rX rl)) := Lib.hid (V_v6.out.step hb); have U_v7 : Hid (WOk v7 B3 e3 us B4 e4 rX) := Lib.hid (WOk.step U_v6.out hb); have R_v7 : Hid (KS v7 v7.heap.size B5 ms) := Lib.hid (KS.step R_v6.out hb); have Y_v7 : Hid (BK 27 v7 (v6.heap.size) (wcs rL B3 e3 us B4 e4 rX rl)) := Lib.hid hM; clear hM hP hb T_v6 K_v6 B_v6 O_v6 P_v6 V_v6 U_v6 R_v6)
  refine (HA.out v7 (HOK.out.step B_v7.out)).mono ?_
  rintro e v8 ⟨rfl, hb⟩
  have T_v8 : Hid (BK 27 v8 w.heap.size (wcs L A c xs A2 c2 X l)) := Lib.hid (T_v7.out.step hb)
  have K_v8 : Hid (BK 36 v8 (w.heap.size + 1) (pkC p a)) := Lib.hid (K_v7.out.step hb)
  have B_v8 : Hid (Below w.heap.size w v8) := Lib.hid (stepB B_v7.out hb)
  have O_v8 : Hid (WOk v8 A3 c3 ys A4 c4 rX) := Lib.hid (WOk.step O_v7.out hb)
  have P_v8 : Hid (KS v8 v8.heap.size A5 ks) := Lib.hid (KS.step P_v7.out hb)
  have V_v8 : Hid (BK 27 v8 (v4.heap.size) (wcs rL A3 c3 ys A4 c4 rX rl)) := Lib.hid (V_v7.out.step hb)
  have U_v8 : Hid (WOk v8 B3 e3 us B4 e4 rX) := Lib.hid (WOk.step U_v7.out hb)
  have R_v8 : Hid (KS v8 v8.heap.size B5 ms) := Lib.hid (KS.step R_v7.out hb)
  have Y_v8 : Hid (BK 27 v8 (v6.heap.size) (wcs rL B3 e3 us B4 e4 rX rl)) := Lib.hid (Y_v7.out.step hb)
  clear T_v7 K_v7 B_v7 O_v7 P_v7 V_v7 U_v7 R_v7 Y_v7
  clear hb
  have HS1 := Lib.hid (fun w1 h1 h2 => rwsame_any rL B3 e3 us B4 e4 rX rl A3 c3 ys A4 c4 w1 h1 h2 (HUS.out.trans HYS.out.symm) (by have h9 := HSM.out.1.1; rw [← HUS.out, List.length_map] at h9; omega) (fun x hx => by have := HSM.out.1.2.1 x.f (by rw [← HUS.out]; exact List.mem_map_of_mem hx); omega) (by have := HSM.out.1.2.2; omega))
  have HS2 : Hid (∀ w1, KS w1 w1.heap.size A5 ks → KS w1 w1.heap.size B5 ms → Calls Tryz.prog 11 #[.slice A5 ks.length c5, .slice B5 ms.length e5] w1 fun e w' => e = .returned (.bool true) ∧ Below w1.heap.size w1 w') := Lib.hid (fun w1 h1 h2 => by
    have hl : ms.length = ks.length := by have := congrArg List.length (HKS.out.trans HMS.out.symm); simpa using this.symm
    rw [hl]
    exact packets_any A5 c5 ks B5 e5 ms ks.length w1 h1 h2 (HKS.out.trans HMS.out.symm) rfl (by have h9 := HSM.out.2.1; rw [← HKS.out, List.length_map] at h9; omega) (fun z hz => by rw [HSM.out.2.2 z.1 (by rw [← HKS.out]; exact List.mem_map_of_mem hz)]; exact Nat.zero_le _))
  go_wp2_with first
    | (refine wpList_load_v (by rfl) 27 (.tmp 11) rfl ⟨v6.heap.size, 0, none⟩ rfl (wv rL B3 e3 us B4 e4 rX rl) (S2.run_load_all Y_v8.out Tryz.underlying27 rfl winSize) ?_)
    | (refine wpList_load_v (by rfl) 27 (.tmp 8) rfl ⟨v4.heap.size, 0, none⟩ rfl (wv rL A3 c3 ys A4 c4 rX rl) (S2.run_load_all V_v8.out Tryz.underlying27 rfl winSize) ?_)
  refine (HS1.out v8 U_v8.out O_v8.out).mono ?_
  rintro e v9 ⟨rfl, hb⟩
  have T_v9 : Hid (BK 27 v9 w.heap.size (wcs L A c xs A2 c2 X l)) := Lib.hid (T_v8.out.step hb)
  have K_v9 : Hid (BK 36 v9 (w.heap.size + 1) (pkC p a)) := Lib.hid (K_v8.out.step hb)
  have B_v9 : Hid (Below w.heap.size w v9) := Lib.hid (stepB B_v8.out hb)
  have O_v9 : Hid (WOk v9 A3 c3 ys A4 c4 rX) := Lib.hid (WOk.step O_v8.out hb)
  have P_v9 : Hid (KS v9 v9.heap.size A5 ks) := Lib.hid (KS.step P_v8.out hb)
  have V_v9 : Hid (BK 27 v9 (v4.heap.size) (wcs rL A3 c3 ys A4 c4 rX rl)) := Lib.hid (V_v8.out.step hb)
  have U_v9 : Hid (WOk v9 B3 e3 us B4 e4 rX) := Lib.hid (WOk.step U_v8.out hb)
  have R_v9 : Hid (KS v9 v9.heap.size B5 ms) := Lib.hid (KS.step R_v8.out hb)
  have Y_v9 : Hid (BK 27 v9 (v6.heap.size) (wcs rL B3 e3 us B4 e4 rX rl)) := Lib.hid (Y_v8.out.step hb)
  clear T_v8 K_v8 B_v8 O_v8 P_v8 V_v8 U_v8 R_v8 Y_v8
  clear hb
  go_wp2_with fail
  refine (HS2.out v9 P_v9.out R_v9.out).mono ?_
  rintro e v10 ⟨rfl, hb⟩
  have T_v10 : Hid (BK 27 v10 w.heap.size (wcs L A c xs A2 c2 X l)) := Lib.hid (T_v9.out.step hb)
  have K_v10 : Hid (BK 36 v10 (w.heap.size + 1) (pkC p a)) := Lib.hid (K_v9.out.step hb)
  have B_v10 : Hid (Below w.heap.size w v10) := Lib.hid (stepB B_v9.out hb)
  have O_v10 : Hid (WOk v10 A3 c3 ys A4 c4 rX) := Lib.hid (WOk.step O_v9.out hb)
  have P_v10 : Hid (KS v10 v10.heap.size A5 ks) := Lib.hid (KS.step P_v9.out hb)
  have V_v10 : Hid (BK 27 v10 (v4.heap.size) (wcs rL A3 c3 ys A4 c4 rX rl)) := Lib.hid (V_v9.out.step hb)
  have U_v10 : Hid (WOk v10 B3 e3 us B4 e4 rX) := Lib.hid (WOk.step U_v9.out hb)
  have R_v10 : Hid (KS v10 v10.heap.size B5 ms) := Lib.hid (KS.step R_v9.out hb)
  have Y_v10 : Hid (BK 27 v10 (v6.heap.size) (wcs rL B3 e3 us B4 e4 rX rl)) := Lib.hid (Y_v9.out.step hb)
  clear T_v9 K_v9 B_v9 O_v9 P_v9 V_v9 U_v9 R_v9 Y_v9
  clear hb
  go_wp2_with fail
  go_ret
  exact ⟨rfl, B_v10.out⟩
end Go.Proofs.YtoakhkiiefiebabGreatDoor
namespace Go.Proofs.YtoakhkiiefiebabGreatDoor.inflightAgain
open Go.ChangeShapes Go.WideShapes Go.ChangeAt Go.WideMaps Go.WideElems Go.RowKit
open Go.ChangeMaps (open_string shut_string)

theorem own : ownKnob Tryz.prog.godebug = none := by kernel_rfl
theorem okw {W : World} (h : W.ShapedOpen Tryz.prog) : S1.Okw W := Tryz.laysM219.s1_3 W h

set_option maxRecDepth 100000 in
theorem contract (H : Type) (enc : TypeId × Value → H) (W : World) (base : Nat) (args : Array Value) (ds gs : List (DataW H)) (before : List MemPlace)
    (hval : ∀ (j : Nat) t v, Tryz.f5.params[j]? = some t → args[j]? = some v → Value.okWide Tryz.prog W .any base t v)
    (hW : DataW.Whole enc Tryz.prog Tryz.f5.params.toList Rows.inflightAgainSpec.vars false W args.toList ds gs before)
    (hsz : (DataW.weightsEach Tryz.prog (Tryz.f5.params.toList ++ (OpenSpec.ofChange Rows.inflightAgainSpec).bare.plain.varTypes Tryz.prog) (ds ++ gs)).all (· ≤ reachBytes) = true)
    (hsh : W.ShapedOpen Tryz.prog) :
    Calls Tryz.prog 5 args W fun e W' => ∃ v, e = .returned v ∧ Rows.inflightAgainSpec.post enc Tryz.prog Tryz.f5 false true false false W args v W' := by
  have hW' := hW
  obtain ⟨p, q, hA0, hV, rfl, hfz, hnd⟩ := hW
  have hA : DataW.TrodAll enc Tryz.prog W 0 (fun _ => true) true Tryz.f5.params.toList args.toList ds p := hA0
  rw [Tryz.params5] at hA hval
  obtain ⟨v0, vs0, d0, ds0, p0, q0, hargs, rfl, rfl, h0, r0⟩ := trodAll_cons hA
  obtain ⟨v1, vs1, d1, ds1, p1, q1, rfl, rfl, rfl, h1, r1⟩ := trodAll_cons r0
  obtain ⟨rfl, rfl, rfl⟩ := trodAll_nil r1
  obtain rfl : args = #[v0, v1] := by cases args; simp_all
  obtain ⟨rfl, rfl⟩ := trodVars_none hV
  have h0k := h0
  obtain ⟨L0, A0, c0, xs0, B0, e0, X0, l0, rfl, ok0, hXl0, hnl0, fo0, hXb0⟩ := open_win (hval 0 27 v0 rfl rfl) h0
  have h1k := h1
  obtain ⟨m1, a1, rfl, sl1⟩ := open_pkt (hval 1 36 v1 rfl rfl) h1
  clear hA0
  simp only [List.append_nil] at hW'
  have hrb := reachBytes_lt
  have hlt : ∀ x ∈ p0 ++ p1, x.block < W.heap.size := fun x hx => by simpa using hW'.lt x (by simpa using hx)
  refine (inflightAgain_walk L0 A0 c0 xs0 B0 e0 X0 l0 m1 a1 W (okw hsh) ok0 hXl0 hnl0 (fun x hx => (fo0 x hx).2)).mono fun e W' ⟨he, hb⟩ => ?_
  subst he
  have e1 : Rows.inflightAgainSpec.fn H ([d0, d1] ++ []) = { results := [.lit (.bool true)], args := [d0, d1] } := rfl
  refine ⟨_, rfl, _, _, _, [], p0 ++ p1, [], by simpa using hW', ?_, ?_, ?_, hb.frame _, fun h => by cases h⟩
  · exact trodAll_cons_mk (shut_bool Tryz.underlying4 _) trodAll_mk0
  · rw [e1]
    simpa using trodAll_cons_mk (Below.trod laidOutAll (by kernel_rfl) (of_decide_eq_true (by kernel_rfl)) h0k hb (fun x hx => hlt x (by simp [hx]))) (trodAll_cons_mk (Below.trod laidOutAll (by kernel_rfl) (of_decide_eq_true (by kernel_rfl)) h1k hb (fun x hx => hlt x (by simp [hx]))) (trodAll_mk0))
  · rfl

theorem laid_met (os : Os) : laidMet Tryz.prog Rows.inflightAgainRow.laid ((World.laidAll Tryz.prog os Rows.inflightAgainRow.laid).forCall (fun _ _ => 0) ⟨#[], #[.agg #[.int .i64 0, .slice none 0 0, .slice none 0 0, .int .i64 0], (pkV Pkt.zero PA.zero)], []⟩).memory :=
  laidMet_laidAll _ (by kernel_rfl) (by kernel_rfl)
theorem reads (os : Os) {H : Type} (enc : TypeId × Value → H) : ∃ places, DataW.whole enc Tryz.prog ((World.laidAll Tryz.prog os Rows.inflightAgainRow.laid).forCall (fun _ _ => 0) ⟨#[], #[.agg #[.int .i64 0, .slice none 0 0, .slice none 0 0, .int .i64 0], (pkV Pkt.zero PA.zero)], []⟩).memory Tryz.f5.params.toList Rows.inflightAgainSpec.vars false #[Value.agg #[.int .i64 0, .slice none 0 0, .slice none 0 0, .int .i64 0], (pkV Pkt.zero PA.zero)].toList 8 = some ([.agg [.lit (.int .i64 0), .nil, .agg [.nil, .lit (.int .i64 0)]], .agg [.lit (.int .i64 0), .lit (.int .i64 0), .lit (.bool false), .agg [.lit (.string []), .lit (.string []), .lit (.int .i64 0), .lit (.bool false), .lit (.int .i64 0), .lit (.int .i64 0), .lit (.string []), .lit (.int .i64 0), .nil], .lit (.string []), .lit (.string []), .lit (.bool false), .lit (.int .i64 0), .lit (.int .i64 0), .lit (.int .i64 0), .agg [.lit (.bool false), .lit (.int .i64 0), .agg [.lit (.string []), .lit (.string []), .lit (.int .i64 0), .lit (.bool false), .lit (.int .i64 0), .lit (.int .i64 0), .lit (.string []), .lit (.int .i64 0), .nil]], .lit (.bool false), .lit (.int .i64 0), .nil, .nil, .nil]], [], places) :=
  ⟨[], by kernel_rfl⟩

set_option maxRecDepth 100000 in
theorem lifted (os : Os) (started : os.Started) (H : Type) (enc : TypeId × Value → H) (F : Stop.Interp) :
    ReturnsInHanded {} Tryz.checked os 5 .any ((OpenSpec.ofChange Rows.inflightAgainSpec).preRow enc Tryz.prog Tryz.f5 Rows.inflightAgainRow.domain false Rows.inflightAgainRow.laid) (((OpenSpec.ofChange Rows.inflightAgainSpec).at F).post enc Tryz.prog Tryz.f5 false true false false) := by
  obtain ⟨places, hx⟩ := reads os enc
  refine returnsInHanded_of_row (C := Tryz.checked) (s := (OpenSpec.ofChange Rows.inflightAgainSpec)) own started (by kernel_rfl) Tryz.func5
    (witness_row_at (enc := enc) (C := Tryz.checked) false (World.laidAll Tryz.prog os Rows.inflightAgainRow.laid) #[.agg #[.int .i64 0, .slice none 0 0, .slice none 0 0, .int .i64 0], (pkV Pkt.zero PA.zero)] (World.laidAll_os _ _ _) (by kernel_rfl) (by kernel_rfl) (by kernel_rfl)
      (OpenSpec.preRow_of_cond 8 hx (by kernel_rfl) (fun k hk => by cases hk) (by kernel_rfl) (laid_met os))) ?_
  intro W base args ds gs before hval hW _ _ hsz _ hsh _
  exact contract H enc W base args ds gs before hval hW hsz hsh

theorem said : Rows.InflightAgainSaid :=
  OpenClaim.holds_of_cond 5 Tryz.f5 rfl rfl rfl rfl rfl rfl rfl ⟨rfl, rfl, rfl, rfl, rfl⟩ rfl rfl rfl rfl rfl (by kernel_rfl) Tryz.func5 (by kernel_rfl)
    (of_decide_eq_true (by kernel_rfl)) (by unfold Func.isWrapper; first | (rw [if_pos (by decide +kernel)]; kernel_rfl) | (rw [if_neg (by decide +kernel)]; exact ⟨rfl, rfl⟩))
    (fun os started H enc _ F => by rw [OpenClaim.pre_eq_preRow]; exact lifted os started H enc F)

theorem plain (f : FuncId) (fn : Func) (hf : Tryz.pinned.checked.prog.funcNamed "broker/brokerlaw14.InflightAgain" = some f) (hfn : Tryz.pinned.checked.prog.funcs[f]? = some fn) :
    false = Tryz.pinned.checked.prog.looks [] ∧ ∀ (j : Nat) t, fn.params[j]? = some t → Tryz.pinned.checked.prog.wantsStandIn t = false := by
  obtain rfl : f = 5 := Option.some.inj ((show Tryz.prog.funcNamed "broker/brokerlaw14.InflightAgain" = some 5 by kernel_rfl).symm.trans hf) |>.symm
  obtain rfl : fn = Tryz.f5 := (Option.some.inj (Tryz.func5.symm.trans hfn)).symm
  refine ⟨by kernel_rfl, fun j t ht => ?_⟩
  rw [Tryz.params5] at ht
  have hm : t ∈ [27, 36] := by simpa using Array.mem_of_getElem? ht
  simp only [List.mem_cons, List.not_mem_nil, or_false] at hm
  rcases hm with rfl | rfl
  · exact (show Tryz.prog.wantsStandIn 27 = false by kernel_rfl)
  · exact (show Tryz.prog.wantsStandIn 36 = false by kernel_rfl)

theorem card : Rows.InflightAgainCardSaid :=
  Claim7.holds_tied_plain_at .later [] _ _ _ _ said (fun _ h => by cases h) (by kernel_rfl) (fun _ h => by cases h) inflightAgain_row_tie rfl ⟨rfl, rfl⟩ (by kernel_rfl) rfl plain (by kernel_rfl)
end Go.Proofs.YtoakhkiiefiebabGreatDoor.inflightAgain
