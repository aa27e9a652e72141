/-
  A packet that came in by value, opened for the walks. Conditions: it reads as data.
  A message that came in by value, opened with the sizes of its texts. Conditions: it reads as data.
  A packet, and a list of packets, that came in, opened with the sizes of their texts and lists. Conditions: they read as data; the weights of what was read are bounded.
  WireTorn: a form that ends too early is an error; the walk. Conditions: the packet reads as data, its sizes are bounded; the library's bound on short texts holds a number.
  PROVED: WireTorn answers true for every text (each of its 2 arguments).
Conditions: those that the row prints (the tables of package unicode/utf8 read as the program's text lays them; each argument has at most 2^47 bytes). The tie of the tables is given, over a pruned copy of the project.
-/
import Derived.Test.YtdkegoaflabjoaaGreatDoorOpenMsg
import Derived.Test.YtdkegoaflabjoaaGreatDoorPkt2
import Derived.Deep.Slices
import Derived.Test.YtdkegoaflabjoaaGreatDoorBigZ
import Derived.Test.YtdkegoaflabjoaaGreatDoorKl
import Derived.SizedLaws
import Derived.Test.YtdkegoaflabjoaaGreatDoorAw7
import Derived.Test.YtdkegoaflabjoaaGreatDoorCheckS
import Derived.Test.YtdkegoaflabjoaaGreatDoorCards
import Derived.Test.YtdkegoaflabjoaaGreatDoorTie
import Derived.Carry
import Derived.Deep.DeepHandedRow
import Derived.LaidOnce
import Derived.Lay
import Derived.Lib.LaidTab
import Derived.OpenShut
import Derived.ProofKit
import Derived.SevenTiedAt
set_option maxHeartbeats 4000000
set_option maxRecDepth 100000
namespace Go.Proofs.YtdkegoaflabjoaaGreatDoor
open Go.Joins Go.ChangeShapes Go.WideShapes Go.ChangeAt Go.WideMaps Go.WideElems Go.RowKit Go.Deep

theorem cellsSub : Tryz.prog.cellsOf 49 = 3 := by kernel_rfl
theorem cellsSubs : Tryz.prog.cellsOf 34 = 1 := by kernel_rfl
theorem cellsStrs : Tryz.prog.cellsOf 35 = 1 := by kernel_rfl
theorem cellsInts : Tryz.prog.cellsOf 36 = 1 := by kernel_rfl
theorem cellsWill : Tryz.prog.cellsOf 33 = 11 := by kernel_rfl
theorem cellsPkt : Tryz.prog.cellsOf 38 = 34 := by kernel_rfl
section
variable {H : Type} {enc : TypeId × Value → H} {W : World}
theorem open_nums {fuel : Nat} {v : Value} {x : DataW H × List MemPlace} (hf : DataW.trod enc Tryz.prog W 0 (fun _ => true) true fuel 36 [v] = some x) :
 ∃ (A : Option Addr) (c : Nat) (Xs : List Int), v = .slice A Xs.length c ∧ IL W W.heap.size A Xs := by
 rcases open_ints Tryz.underlying36 Tryz.underlying3 cellsI64 hf with ⟨hcs, _⟩ | ⟨a, len, cap, zs, hcs, _, hl, _, hz, _, hcell, _⟩
 · simp at hcs
   subst hcs
   exact ⟨none, 0, [], rfl, CL.nil _ _ _⟩
 · simp at hcs
   subst hcs
   simp only [if_true] at hz
   refine ⟨some a, cap, zs.take len, by simp; omega, fun h0 => ?_⟩
   rw [List.length_take] at h0
   obtain ⟨b, o, rfl, hb⟩ := plain_addr (hcell 0 (by omega))
   refine ⟨b, o, rfl, hb, fun j X hX => ?_⟩
   have hj : j < len := by have := (List.getElem?_eq_some_iff.1 hX).1; simp at this; omega
   rw [List.getElem?_take_of_lt hj] at hX
   rw [add_plain, hcell j (by omega), List.getD_eq_getElem?_getD, hX]
   rfl
end

end Go.Proofs.YtdkegoaflabjoaaGreatDoor
set_option maxRecDepth 100000
namespace Go.Proofs.YtdkegoaflabjoaaGreatDoor
open Go.Joins Go.ChangeShapes Go.WideShapes Go.ChangeAt Go.WideMaps Go.WideElems Go.RowKit Go.Deep

theorem len_max {n : Nat} (h : n ≤ maxLen) : n ≤ 9223372036854775807 := by unfold maxLen at h; omega
theorem open_props2 {H : Type} {enc : TypeId × Value → H} {W : World} {a0 : Option Addr} {len cap fuel : Nat} {x : DataW H × List MemPlace}
 (hf : DataW.trod enc Tryz.prog W 0 (fun _ => true) true fuel 29 [.slice a0 len cap] = some x) :
 ∃ Xs : List PR, Xs.length = len ∧ PL W W.heap.size a0 Xs ∧ ∀ x ∈ Xs, x.1.size ≤ 9223372036854775807 := by
 rcases Go.Deep.open_slice_pairs Tryz.underlying29 Tryz.underlying114 cellsProp rfl rfl cellsStr cellsStr hf with ⟨hcs, hx⟩ | ⟨a, len', cap', m, n, V0, V1, D0, D1, P0, P1, hcs, _, hl, hm, hmm, hx, hi⟩
 · simp at hcs
   obtain ⟨rfl, rfl, rfl⟩ := hcs
   exact ⟨[], rfl, GL.nil _ _ _, fun _ h => by cases h⟩
 · simp at hcs
   obtain ⟨rfl, rfl, rfl⟩ := hcs
   subst hx
   simp only [if_true] at hmm
   refine ⟨(List.range len).map fun i => (strV (V0 i), strV (V1 i)), by simp, fun h0 => ?_, fun X hX => ?_⟩
   rotate_left
   · obtain ⟨i, hi', rfl⟩ := List.mem_map.1 hX
     have hj := List.mem_range.1 hi'
     obtain ⟨_, _, h3, _⟩ := hi i (by omega)
     obtain ⟨s0, e0, _, z0⟩ := DataW.trod_string Tryz.underlying9 h3
     simp at e0
     show (strV (V0 i)).size ≤ _
     rw [e0]
     exact len_max z0
   simp at h0
   obtain ⟨b, o, rfl, hb⟩ := plain_addr (hi 0 (by omega)).1
   refine ⟨b, o, rfl, hb, fun j X i v hX hv => ?_⟩
   rw [List.getElem?_map] at hX
   have hj : j < len := by
    rcases Nat.lt_or_ge j len with h | h
    · exact h
    · rw [List.getElem?_eq_none (by simpa using h)] at hX; cases hX
   rw [List.getElem?_range hj] at hX
   obtain rfl := Option.some.inj hX
   obtain ⟨h1, h2, h3, h4⟩ := hi j (by omega)
   obtain ⟨s0, e0, _⟩ := DataW.trod_string Tryz.underlying9 h3
   obtain ⟨s1, e1, _⟩ := DataW.trod_string Tryz.underlying9 h4
   simp at e0 e1
   rw [e0] at h1
   rw [e1] at h2
   match i, hv with
   | 0, hv =>
     simp [gP, strV, e0] at hv
     rw [Nat.add_zero, add_plain, h1, hv]
   | 1, hv =>
     simp [gP, strV, e1] at hv
     rw [Nat.add_assoc, add_plain, h2, hv]
theorem open_props2' {H : Type} {enc : TypeId × Value → H} {W : World} {v : Value} {fuel : Nat} {x : DataW H × List MemPlace}
 (hf : DataW.trod enc Tryz.prog W 0 (fun _ => true) true fuel 29 [v] = some x) :
 ∃ (A : Option Addr) (c : Nat) (Xs : List PR), v = .slice A Xs.length c ∧ PL W W.heap.size A Xs ∧ ∀ x ∈ Xs, x.1.size ≤ 9223372036854775807 := by
 have h2 := hf
 rcases Go.Deep.open_slice_pairs Tryz.underlying29 Tryz.underlying114 cellsProp rfl rfl cellsStr cellsStr h2 with ⟨hcs, _⟩ | ⟨a, len, cap, m, n, V0, V1, D0, D1, P0, P1, hcs, _⟩
 · simp at hcs
   subst hcs
   exact ⟨none, 0, [], rfl, GL.nil _ _ _, fun _ h => by cases h⟩
 · simp at hcs
   subst hcs
   obtain ⟨Xs, rfl, hp, hz⟩ := open_props2 hf
   exact ⟨_, _, Xs, rfl, hp, hz⟩
end Go.Proofs.YtdkegoaflabjoaaGreatDoor
set_option maxHeartbeats 4000000
set_option maxRecDepth 100000
namespace Go.Proofs.YtdkegoaflabjoaaGreatDoor
open Go.Joins Go.ChangeShapes Go.WideShapes Go.ChangeAt Go.WideMaps Go.WideElems Go.RowKit Go.Deep

/-- the weights of what was read are bounded -/
def WB {H : Type} (t : TypeId) (d : DataW H) : Prop := ∀ n ∈ d.weights Tryz.prog t, n ≤ 140737488355328
theorem WB.field {H : Type} {t : TypeId} {fs : Array Field} {parts : List (DataW H)} (hu : Tryz.prog.underlying t = some (.struct fs)) (h : WB t (.agg parts)) {j : Nat} {u : TypeId} {d : DataW H} (ht : (fs.toList.map (·.type))[j]? = some u) (hd : parts[j]? = some d) : WB u d :=
 fun n hn => h n (by simp only [DataW.weights, hu]; exact DataW.weights_mem_each ht hd n hn)
theorem weightsAll_mem {H : Type} {P : Program} {e : TypeId} : ∀ {l : List (DataW H)} {d : DataW H}, d ∈ l → ∀ n ∈ d.weights P e, n ∈ DataW.weightsAll P e l
 | x :: l, d, hd, n, hn => by
   simp only [DataW.weightsAll, List.mem_append]
   rcases List.mem_cons.1 hd with rfl | h
   · exact Or.inl hn
   · exact Or.inr (weightsAll_mem h n hn)
theorem WB.elem {H : Type} {t e : TypeId} {elems spare : List (DataW H)} (hu : Tryz.prog.underlying t = some (.slice e)) (h : WB t (.slice elems spare)) {d : DataW H} (hd : d ∈ elems) : WB e d :=
 fun n hn => h n (by simp only [DataW.weights, hu, List.mem_cons, List.mem_append]; exact Or.inr (Or.inl (weightsAll_mem hd n hn)))
theorem WB.len {H : Type} {t e : TypeId} {elems spare : List (DataW H)} (hu : Tryz.prog.underlying t = some (.slice e)) (hb : 1 ≤ Tryz.prog.bytesOf e) (h : WB t (.slice elems spare)) : elems.length ≤ 140737488355328 := by
 have h1 := h ((elems.length + spare.length) * Tryz.prog.bytesOf e) (by simp [DataW.weights, hu])
 have h2 : (elems.length + spare.length) * 1 ≤ (elems.length + spare.length) * Tryz.prog.bytesOf e := Nat.mul_le_mul (Nat.le_refl _) hb
 omega
theorem WB.text {H : Type} {t : TypeId} {s : ByteArray} (h : WB (H := H) t (.lit (.string s.data.toList))) : s.size ≤ 140737488355328 := by
 have := h s.data.toList.length (by simp [DataW.weights])
 rw [Lib.size_eq]
 exact this
theorem WB.of {H : Type} {ts : List TypeId} {ds : List (DataW H)} (h : (DataW.weightsEach Tryz.prog ts ds).all (· ≤ reachBytes) = true) {j : Nat} {t : TypeId} {d : DataW H} (ht : ts[j]? = some t) (hd : ds[j]? = some d) : WB t d := fun n hn => by
 have h1 := List.all_eq_true.1 h _ (DataW.weights_mem_each ht hd n hn)
 have h2 := reachBytes_lt
 have h3 : n ≤ reachBytes := by simpa using h1
 omega
theorem bytesSub : 1 ≤ Tryz.prog.bytesOf 49 := by decide +kernel
theorem bytesProp1 : 1 ≤ Tryz.prog.bytesOf 114 := by decide +kernel
theorem bytesStr1 : 1 ≤ Tryz.prog.bytesOf 9 := by decide +kernel
theorem bytesInt1 : 1 ≤ Tryz.prog.bytesOf 3 := by decide +kernel
theorem bytesPkt1 : 1 ≤ Tryz.prog.bytesOf 38 := by decide +kernel
section
variable {H : Type} {enc : TypeId × Value → H} {W : World}
/-- how many elements a slice has that was read -/
theorem trod_len {t e : TypeId} (hu : Tryz.prog.underlying t = some (.slice e)) (hb : 1 ≤ Tryz.prog.bytesOf e) {fuel : Nat} {A : Option Addr} {n c : Nat} {x : DataW H × List MemPlace} (hf : DataW.trod enc Tryz.prog W 0 (fun _ => true) true fuel t [.slice A n c] = some x) (h : WB t x.1) : n ≤ 140737488355328 := by
 rcases open_slice hu hf with ⟨hcs, _⟩ | ⟨a, len, cap, m, k, D, Pl, hcs, _, _, _, _, hx, _⟩
 · simp at hcs
   obtain ⟨_, rfl, _⟩ := hcs
   omega
 · simp at hcs
   obtain ⟨_, rfl, _⟩ := hcs
   subst hx
   simpa using WB.len hu hb h
theorem open_sub1w {fuel : Nat} {cs : List Value} {x : DataW H × List MemPlace} (hf : DataW.trod enc Tryz.prog W 0 (fun _ => true) true fuel 49 cs = some x) : ∃ X : SB, cs = gS X ∧ (WB 49 x.1 → X.1.size ≤ 140737488355328) := by
 obtain ⟨ys, n, _, hx, hl, hyl, hfld⟩ := DataW.trod_struct Tryz.underlying49 hf
 rw [cellsSub] at hl
 match cs, hl with
 | [c0, c1, c2], _ =>
   match ys, hyl with
   | [y0, y1, y2], _ =>
     have g0 := hfld 0 _ rfl
     have g1 := hfld 1 _ rfl
     have g2 := hfld 2 _ rfl
     simp [cellsStr, cellsI64, cellsBool] at g0 g1 g2
     obtain ⟨s0, e0, r0, _⟩ := DataW.trod_string Tryz.underlying9 (show DataW.trod _ _ _ _ _ _ _ 9 [c0] = some y0 from g0)
     obtain ⟨n1, e1, _, _⟩ := DataW.trod_int Tryz.underlying3 (show DataW.trod _ _ _ _ _ _ _ 3 [c1] = some y1 from g1)
     obtain ⟨b2, e2, _⟩ := DataW.trod_bool Tryz.underlying4 (show DataW.trod _ _ _ _ _ _ _ 4 [c2] = some y2 from g2)
     simp only [List.cons.injEq, and_true] at e0 e1 e2
     subst e0 e1 e2 hx r0
     exact ⟨(s0, n1, b2), rfl, fun h => WB.text (WB.field Tryz.underlying49 h (j := 0) rfl rfl)⟩
theorem open_subsw {fuel : Nat} {v : Value} {x : DataW H × List MemPlace} (hf : DataW.trod enc Tryz.prog W 0 (fun _ => true) true fuel 34 [v] = some x) :
 ∃ (A : Option Addr) (c : Nat) (Xs : List SB), v = .slice A Xs.length c ∧ BL W W.heap.size A Xs ∧ (WB 34 x.1 → ∀ X ∈ Xs, X.1.size ≤ 140737488355328) := by
 rcases open_slice Tryz.underlying34 hf with ⟨hcs, _⟩ | ⟨a, len, cap, m, n, D, Pl, hcs, _, hl, _, hmm, hx, hi⟩
 · simp at hcs
   subst hcs
   exact ⟨none, 0, [], rfl, GL.nil _ _ _, fun _ _ h => by cases h⟩
 · simp at hcs
   subst hcs
   simp only [if_true] at hmm
   have each : ∀ i : Nat, ∃ X : SB, i < len → (∀ j u, (gS X)[j]? = some u → W.cell? (a.add (i * 3 + j)) = some u) ∧ (WB 49 (D i) → X.1.size ≤ 140737488355328) := fun i => by
    by_cases h : i < len
    · obtain ⟨cs', hc, ht⟩ := hi i (by omega)
      rw [cellsSub] at hc
      obtain ⟨X, rfl, hw⟩ := open_sub1w ht
      obtain ⟨_, _, hat⟩ := World.cells?_some hc
      refine ⟨X, fun _ => ⟨fun j u hj => ?_, hw⟩⟩
      have hj3 : j < 3 := (List.getElem?_eq_some_iff.1 hj).1
      rw [← Go.Deep.add_add, hat j hj3, hj]
    · exact ⟨(⟨#[]⟩, 0, false), fun h' => absurd h' h⟩
   refine ⟨some a, cap, (List.range len).map fun i => Classical.choose (each i), by simp, fun h0 => ?_, fun hw X hX => ?_⟩
   rotate_left
   · obtain ⟨i, hi', rfl⟩ := List.mem_map.1 hX
     have hj := List.mem_range.1 hi'
     subst hx
     exact (Classical.choose_spec (each i) hj).2 (WB.elem Tryz.underlying34 hw (List.mem_map_of_mem (f := D) hi'))
   simp at h0
   obtain ⟨b, o, rfl, hb⟩ := plain_addr (show W.cell? (a.add 0) = some _ from (Classical.choose_spec (each 0) (by omega)).1 0 _ rfl)
   refine ⟨b, o, rfl, hb, fun j X i v hX hv => ?_⟩
   rw [List.getElem?_map] at hX
   have hj : j < len := by
    rcases Nat.lt_or_ge j len with h | h
    · exact h
    · rw [List.getElem?_eq_none (by simpa using h)] at hX; cases hX
   rw [List.getElem?_range hj] at hX
   obtain rfl := Option.some.inj hX
   rw [Nat.add_assoc, add_plain]
   exact (Classical.choose_spec (each j) hj).1 i v hv
theorem open_strsw {fuel : Nat} {v : Value} {x : DataW H × List MemPlace} (hf : DataW.trod enc Tryz.prog W 0 (fun _ => true) true fuel 35 [v] = some x) :
 ∃ (A : Option Addr) (c : Nat) (Xs : List ByteArray), v = .slice A Xs.length c ∧ SL W W.heap.size A Xs ∧ (WB 35 x.1 → ∀ X ∈ Xs, X.size ≤ 140737488355328) := by
 rcases open_strings Tryz.underlying35 Tryz.underlying9 cellsStr hf with ⟨hcs, _⟩ | ⟨a, len, cap, ss, hcs, _, hl, _, hz, hx, hcell, _⟩
 · simp at hcs
   subst hcs
   exact ⟨none, 0, [], rfl, CL.nil _ _ _, fun _ _ h => by cases h⟩
 · simp at hcs
   subst hcs
   simp only [if_true] at hz
   refine ⟨some a, cap, ss.take len, by simp; omega, fun h0 => ?_, fun hw X hX => ?_⟩
   rotate_left
   · subst hx
     exact WB.text (WB.elem Tryz.underlying35 hw (List.mem_map_of_mem (f := fun s : ByteArray => (DataW.lit (.string s.data.toList) : DataW H)) hX))
   rw [List.length_take] at h0
   obtain ⟨b, o, rfl, hb⟩ := plain_addr (hcell 0 (by omega))
   refine ⟨b, o, rfl, hb, fun j X hX => ?_⟩
   have hj : j < len := by have := (List.getElem?_eq_some_iff.1 hX).1; simp at this; omega
   rw [List.getElem?_take_of_lt hj] at hX
   rw [add_plain, hcell j (by omega), List.getD_eq_getElem?_getD, hX]
   rfl
theorem open_msgcw {fuel : Nat} {cs : List Value} {x : DataW H × List MemPlace} (hf : DataW.trod enc Tryz.prog W 0 (fun _ => true) true fuel 31 cs = some x) :
 ∃ (m : Msg) (A : Option Addr) (c : Nat), cs = msgC m A c ∧ PL W W.heap.size A m.props ∧ MTx m ∧ (WB 31 x.1 → m.props.length ≤ 140737488355328) := by
 obtain ⟨ys, n, _, hx, hl, hyl, hfld⟩ := DataW.trod_struct Tryz.underlying31 hf
 rw [cellsMsg] at hl
 match cs, hl with
 | [c0, c1, c2, c3, c4, c5, c6, c7, c8], _ =>
   match ys, hyl with
   | [y0, y1, y2, y3, y4, y5, y6, y7, y8], _ =>
     have g0 := hfld 0 _ rfl
     have g1 := hfld 1 _ rfl
     have g2 := hfld 2 _ rfl
     have g3 := hfld 3 _ rfl
     have g4 := hfld 4 _ rfl
     have g5 := hfld 5 _ rfl
     have g6 := hfld 6 _ rfl
     have g7 := hfld 7 _ rfl
     have g8 := hfld 8 _ rfl
     simp [cellsStr, cellsI64, cellsBool, cellsProps] at g0 g1 g2 g3 g4 g5 g6 g7 g8
     obtain ⟨v0, e0, _, z0⟩ := DataW.trod_string Tryz.underlying9 (show DataW.trod enc Tryz.prog W 0 (fun _ => true) true n 9 [c0] = some y0 from g0)
     obtain ⟨v1, e1, _, z1⟩ := DataW.trod_string Tryz.underlying9 (show DataW.trod enc Tryz.prog W 0 (fun _ => true) true n 9 [c1] = some y1 from g1)
     obtain ⟨v2, e2, _, _⟩ := DataW.trod_int Tryz.underlying3 (show DataW.trod enc Tryz.prog W 0 (fun _ => true) true n 3 [c2] = some y2 from g2)
     obtain ⟨v3, e3, _⟩ := DataW.trod_bool Tryz.underlying4 (show DataW.trod enc Tryz.prog W 0 (fun _ => true) true n 4 [c3] = some y3 from g3)
     obtain ⟨v4, e4, _, _⟩ := DataW.trod_int Tryz.underlying3 (show DataW.trod enc Tryz.prog W 0 (fun _ => true) true n 3 [c4] = some y4 from g4)
     obtain ⟨v5, e5, _, _⟩ := DataW.trod_int Tryz.underlying3 (show DataW.trod enc Tryz.prog W 0 (fun _ => true) true n 3 [c5] = some y5 from g5)
     obtain ⟨v6, e6, _, z6⟩ := DataW.trod_string Tryz.underlying9 (show DataW.trod enc Tryz.prog W 0 (fun _ => true) true n 9 [c6] = some y6 from g6)
     obtain ⟨v7, e7, _, _⟩ := DataW.trod_int Tryz.underlying3 (show DataW.trod enc Tryz.prog W 0 (fun _ => true) true n 3 [c7] = some y7 from g7)
     obtain ⟨A8, p8, X8, e8, h8, t8⟩ := open_props2' (show DataW.trod enc Tryz.prog W 0 (fun _ => true) true n 29 [c8] = some y8 from g8)
     simp only [List.cons.injEq, and_true] at e0 e1 e2 e3 e4 e5 e6 e7
     subst e0 e1 e2 e3 e4 e5 e6 e7 e8 hx
     exact ⟨⟨v0, v1, v2, v3, v4, v5, v6, v7, X8⟩, A8, p8, rfl, h8, ⟨len_max z0, len_max z6, t8⟩, fun h => trod_len Tryz.underlying29 bytesProp1 (show DataW.trod enc Tryz.prog W 0 (fun _ => true) true n 29 [_] = some y8 from g8) (WB.field Tryz.underlying31 h (j := 8) rfl rfl)⟩
theorem open_willcw {fuel : Nat} {cs : List Value} {x : DataW H × List MemPlace} (hf : DataW.trod enc Tryz.prog W 0 (fun _ => true) true fuel 33 cs = some x) :
 ∃ (s : Bool) (d : Int) (m : Msg) (A : Option Addr) (c : Nat), cs = [.bool s, .int .i64 d] ++ msgC m A c ∧ PL W W.heap.size A m.props ∧ MTx m ∧ (WB 33 x.1 → m.props.length ≤ 140737488355328) := by
 obtain ⟨ys, n, _, hx, hl, hyl, hfld⟩ := DataW.trod_struct Tryz.underlying33 hf
 rw [cellsWill] at hl
 match cs, hl with
 | [c0, c1, c2, c3, c4, c5, c6, c7, c8, c9, c10], _ =>
   match ys, hyl with
   | [y0, y1, y2], _ =>
     have g0 := hfld 0 _ rfl
     have g1 := hfld 1 _ rfl
     have g2 := hfld 2 _ rfl
     simp [cellsI64, cellsBool, cellsMsg] at g0 g1 g2
     obtain ⟨v0, e0, _⟩ := DataW.trod_bool Tryz.underlying4 (show DataW.trod enc Tryz.prog W 0 (fun _ => true) true n 4 [c0] = some y0 from g0)
     obtain ⟨v1, e1, _, _⟩ := DataW.trod_int Tryz.underlying3 (show DataW.trod enc Tryz.prog W 0 (fun _ => true) true n 3 [c1] = some y1 from g1)
     obtain ⟨m, A, c, e2, h2, t2, u2⟩ := open_msgcw (show DataW.trod enc Tryz.prog W 0 (fun _ => true) true n 31 [c2, c3, c4, c5, c6, c7, c8, c9, c10] = some y2 from g2)
     simp only [List.cons.injEq, and_true] at e0 e1
     subst e0 e1 hx
     exact ⟨v0, v1, m, A, c, by rw [← e2]; rfl, h2, t2, fun h => u2 (WB.field Tryz.underlying33 h (j := 2) rfl rfl)⟩
/-- the 34 cells of a packet -/
theorem open_pktc {fuel : Nat} {l : List Value} {x : DataW H × List MemPlace} (hl : l.length = 34) (hf : DataW.trod enc Tryz.prog W 0 (fun _ => true) true fuel 38 l = some x) :
 ∃ (q : Pkt) (a : PA), l = pkC q a ∧ PInB W W.heap.size q a ∧ (WB 38 x.1 → BigZ q) := by
 obtain ⟨c0, l0, q0⟩ := List.exists_cons_of_length_pos (l := l) (by omega)
 subst q0
 have hl0 : l0.length = 33 := by simpa using hl
 clear hl
 obtain ⟨c1, l1, q1⟩ := List.exists_cons_of_length_pos (l := l0) (by omega)
 subst q1
 have hl1 : l1.length = 32 := by simpa using hl0
 clear hl0
 obtain ⟨c2, l2, q2⟩ := List.exists_cons_of_length_pos (l := l1) (by omega)
 subst q2
 have hl2 : l2.length = 31 := by simpa using hl1
 clear hl1
 obtain ⟨c3, l3, q3⟩ := List.exists_cons_of_length_pos (l := l2) (by omega)
 subst q3
 have hl3 : l3.length = 30 := by simpa using hl2
 clear hl2
 obtain ⟨c4, l4, q4⟩ := List.exists_cons_of_length_pos (l := l3) (by omega)
 subst q4
 have hl4 : l4.length = 29 := by simpa using hl3
 clear hl3
 obtain ⟨c5, l5, q5⟩ := List.exists_cons_of_length_pos (l := l4) (by omega)
 subst q5
 have hl5 : l5.length = 28 := by simpa using hl4
 clear hl4
 obtain ⟨c6, l6, q6⟩ := List.exists_cons_of_length_pos (l := l5) (by omega)
 subst q6
 have hl6 : l6.length = 27 := by simpa using hl5
 clear hl5
 obtain ⟨c7, l7, q7⟩ := List.exists_cons_of_length_pos (l := l6) (by omega)
 subst q7
 have hl7 : l7.length = 26 := by simpa using hl6
 clear hl6
 obtain ⟨c8, l8, q8⟩ := List.exists_cons_of_length_pos (l := l7) (by omega)
 subst q8
 have hl8 : l8.length = 25 := by simpa using hl7
 clear hl7
 obtain ⟨c9, l9, q9⟩ := List.exists_cons_of_length_pos (l := l8) (by omega)
 subst q9
 have hl9 : l9.length = 24 := by simpa using hl8
 clear hl8
 obtain ⟨c10, l10, q10⟩ := List.exists_cons_of_length_pos (l := l9) (by omega)
 subst q10
 have hl10 : l10.length = 23 := by simpa using hl9
 clear hl9
 obtain ⟨c11, l11, q11⟩ := List.exists_cons_of_length_pos (l := l10) (by omega)
 subst q11
 have hl11 : l11.length = 22 := by simpa using hl10
 clear hl10
 obtain ⟨c12, l12, q12⟩ := List.exists_cons_of_length_pos (l := l11) (by omega)
 subst q12
 have hl12 : l12.length = 21 := by simpa using hl11
 clear hl11
 obtain ⟨c13, l13, q13⟩ := List.exists_cons_of_length_pos (l := l12) (by omega)
 subst q13
 have hl13 : l13.length = 20 := by simpa using hl12
 clear hl12
 obtain ⟨c14, l14, q14⟩ := List.exists_cons_of_length_pos (l := l13) (by omega)
 subst q14
 have hl14 : l14.length = 19 := by simpa using hl13
 clear hl13
 obtain ⟨c15, l15, q15⟩ := List.exists_cons_of_length_pos (l := l14) (by omega)
 subst q15
 have hl15 : l15.length = 18 := by simpa using hl14
 clear hl14
 obtain ⟨c16, l16, q16⟩ := List.exists_cons_of_length_pos (l := l15) (by omega)
 subst q16
 have hl16 : l16.length = 17 := by simpa using hl15
 clear hl15
 obtain ⟨c17, l17, q17⟩ := List.exists_cons_of_length_pos (l := l16) (by omega)
 subst q17
 have hl17 : l17.length = 16 := by simpa using hl16
 clear hl16
 obtain ⟨c18, l18, q18⟩ := List.exists_cons_of_length_pos (l := l17) (by omega)
 subst q18
 have hl18 : l18.length = 15 := by simpa using hl17
 clear hl17
 obtain ⟨c19, l19, q19⟩ := List.exists_cons_of_length_pos (l := l18) (by omega)
 subst q19
 have hl19 : l19.length = 14 := by simpa using hl18
 clear hl18
 obtain ⟨c20, l20, q20⟩ := List.exists_cons_of_length_pos (l := l19) (by omega)
 subst q20
 have hl20 : l20.length = 13 := by simpa using hl19
 clear hl19
 obtain ⟨c21, l21, q21⟩ := List.exists_cons_of_length_pos (l := l20) (by omega)
 subst q21
 have hl21 : l21.length = 12 := by simpa using hl20
 clear hl20
 obtain ⟨c22, l22, q22⟩ := List.exists_cons_of_length_pos (l := l21) (by omega)
 subst q22
 have hl22 : l22.length = 11 := by simpa using hl21
 clear hl21
 obtain ⟨c23, l23, q23⟩ := List.exists_cons_of_length_pos (l := l22) (by omega)
 subst q23
 have hl23 : l23.length = 10 := by simpa using hl22
 clear hl22
 obtain ⟨c24, l24, q24⟩ := List.exists_cons_of_length_pos (l := l23) (by omega)
 subst q24
 have hl24 : l24.length = 9 := by simpa using hl23
 clear hl23
 obtain ⟨c25, l25, q25⟩ := List.exists_cons_of_length_pos (l := l24) (by omega)
 subst q25
 have hl25 : l25.length = 8 := by simpa using hl24
 clear hl24
 obtain ⟨c26, l26, q26⟩ := List.exists_cons_of_length_pos (l := l25) (by omega)
 subst q26
 have hl26 : l26.length = 7 := by simpa using hl25
 clear hl25
 obtain ⟨c27, l27, q27⟩ := List.exists_cons_of_length_pos (l := l26) (by omega)
 subst q27
 have hl27 : l27.length = 6 := by simpa using hl26
 clear hl26
 obtain ⟨c28, l28, q28⟩ := List.exists_cons_of_length_pos (l := l27) (by omega)
 subst q28
 have hl28 : l28.length = 5 := by simpa using hl27
 clear hl27
 obtain ⟨c29, l29, q29⟩ := List.exists_cons_of_length_pos (l := l28) (by omega)
 subst q29
 have hl29 : l29.length = 4 := by simpa using hl28
 clear hl28
 obtain ⟨c30, l30, q30⟩ := List.exists_cons_of_length_pos (l := l29) (by omega)
 subst q30
 have hl30 : l30.length = 3 := by simpa using hl29
 clear hl29
 obtain ⟨c31, l31, q31⟩ := List.exists_cons_of_length_pos (l := l30) (by omega)
 subst q31
 have hl31 : l31.length = 2 := by simpa using hl30
 clear hl30
 obtain ⟨c32, l32, q32⟩ := List.exists_cons_of_length_pos (l := l31) (by omega)
 subst q32
 have hl32 : l32.length = 1 := by simpa using hl31
 clear hl31
 obtain ⟨c33, l33, q33⟩ := List.exists_cons_of_length_pos (l := l32) (by omega)
 subst q33
 have hl33 : l33.length = 0 := by simpa using hl32
 clear hl32
 have q34 := List.eq_nil_of_length_eq_zero hl33
 subst q34
 obtain ⟨ys, n, _, hx, _, hyl, hfld⟩ := DataW.trod_struct Tryz.underlying38 hf
 match ys, hyl with
 | [y0, y1, y2, y3, y4, y5, y6, y7, y8, y9, y10, y11, y12, y13, y14, y15], _ =>
   have g0 := hfld 0 _ rfl
   have g1 := hfld 1 _ rfl
   have g2 := hfld 2 _ rfl
   have g3 := hfld 3 _ rfl
   have g4 := hfld 4 _ rfl
   have g5 := hfld 5 _ rfl
   have g6 := hfld 6 _ rfl
   have g7 := hfld 7 _ rfl
   have g8 := hfld 8 _ rfl
   have g9 := hfld 9 _ rfl
   have g10 := hfld 10 _ rfl
   have g11 := hfld 11 _ rfl
   have g12 := hfld 12 _ rfl
   have g13 := hfld 13 _ rfl
   have g14 := hfld 14 _ rfl
   have g15 := hfld 15 _ rfl
   simp [cellsStr, cellsI64, cellsBool, cellsMsg, cellsWill, cellsSubs, cellsStrs, cellsInts] at g0 g1 g2 g3 g4 g5 g6 g7 g8 g9 g10 g11 g12 g13 g14 g15
   obtain ⟨v0, e0, _, _⟩ := DataW.trod_int Tryz.underlying3 (show DataW.trod enc Tryz.prog W 0 (fun _ => true) true n 3 [c0] = some y0 from g0)
   obtain ⟨v1, e1, _, _⟩ := DataW.trod_int Tryz.underlying3 (show DataW.trod enc Tryz.prog W 0 (fun _ => true) true n 3 [c1] = some y1 from g1)
   obtain ⟨v2, e2, _⟩ := DataW.trod_bool Tryz.underlying4 (show DataW.trod enc Tryz.prog W 0 (fun _ => true) true n 4 [c2] = some y2 from g2)
   obtain ⟨m3, A3, p3, e3, h3, t3, u3⟩ := open_msgcw (show DataW.trod enc Tryz.prog W 0 (fun _ => true) true n 31 [c3, c4, c5, c6, c7, c8, c9, c10, c11] = some y3 from g3)
   obtain ⟨v4, e4, _, z4⟩ := DataW.trod_string Tryz.underlying9 (show DataW.trod enc Tryz.prog W 0 (fun _ => true) true n 9 [c12] = some y4 from g4)
   obtain ⟨v5, e5, _, z5⟩ := DataW.trod_string Tryz.underlying9 (show DataW.trod enc Tryz.prog W 0 (fun _ => true) true n 9 [c13] = some y5 from g5)
   obtain ⟨v6, e6, _⟩ := DataW.trod_bool Tryz.underlying4 (show DataW.trod enc Tryz.prog W 0 (fun _ => true) true n 4 [c14] = some y6 from g6)
   obtain ⟨v7, e7, _, _⟩ := DataW.trod_int Tryz.underlying3 (show DataW.trod enc Tryz.prog W 0 (fun _ => true) true n 3 [c15] = some y7 from g7)
   obtain ⟨v8, e8, _, _⟩ := DataW.trod_int Tryz.underlying3 (show DataW.trod enc Tryz.prog W 0 (fun _ => true) true n 3 [c16] = some y8 from g8)
   obtain ⟨v9, e9, _, _⟩ := DataW.trod_int Tryz.underlying3 (show DataW.trod enc Tryz.prog W 0 (fun _ => true) true n 3 [c17] = some y9 from g9)
   obtain ⟨s10, d10, m10, A10, p10, e10, h10, t10, u10⟩ := open_willcw (show DataW.trod enc Tryz.prog W 0 (fun _ => true) true n 33 [c18, c19, c20, c21, c22, c23, c24, c25, c26, c27, c28] = some y10 from g10)
   obtain ⟨v11, e11, _⟩ := DataW.trod_bool Tryz.underlying4 (show DataW.trod enc Tryz.prog W 0 (fun _ => true) true n 4 [c29] = some y11 from g11)
   obtain ⟨v12, e12, _, _⟩ := DataW.trod_int Tryz.underlying3 (show DataW.trod enc Tryz.prog W 0 (fun _ => true) true n 3 [c30] = some y12 from g12)
   obtain ⟨A13, p13, X13, e13, h13, t13⟩ := open_subsw (show DataW.trod enc Tryz.prog W 0 (fun _ => true) true n 34 [c31] = some y13 from g13)
   obtain ⟨A14, p14, X14, e14, h14, t14⟩ := open_strsw (show DataW.trod enc Tryz.prog W 0 (fun _ => true) true n 35 [c32] = some y14 from g14)
   obtain ⟨A15, p15, X15, e15, h15⟩ := open_nums (show DataW.trod enc Tryz.prog W 0 (fun _ => true) true n 36 [c33] = some y15 from g15)
   simp only [msgC, List.cons_append, List.nil_append, List.cons.injEq, and_true] at e0 e1 e2 e3 e4 e5 e6 e7 e8 e9 e10 e11 e12
   obtain ⟨f1, f2, f3, f4, f5, f6, f7, f8, f9⟩ := e3
   obtain ⟨k1, k2, k3, k4, k5, k6, k7, k8, k9, k10, k11⟩ := e10
   subst e0 e1 e2 e4 e5 e6 e7 e8 e9 e11 e12 e13 e14 e15 f1 f2 f3 f4 f5 f6 f7 f8 f9 k1 k2 k3 k4 k5 k6 k7 k8 k9 k10 k11 hx
   refine ⟨⟨v0, v1, v2, m3, v4, v5, v6, v7, v8, v9, s10, d10, m10, v11, v12, X13, X14, X15⟩, ⟨A3, p3, A10, p10, A13, p13, A14, p14, A15, p15⟩, rfl, ⟨h3, h10, h13, h14, h15⟩, fun h => ?_⟩
   have w3 := u3 (WB.field Tryz.underlying38 h (j := 3) rfl rfl)
   have w10 := u10 (WB.field Tryz.underlying38 h (j := 10) rfl rfl)
   have b13 := WB.field Tryz.underlying38 h (j := 13) rfl rfl
   have b14 := WB.field Tryz.underlying38 h (j := 14) rfl rfl
   have b15 := WB.field Tryz.underlying38 h (j := 15) rfl rfl
   have w13 := trod_len Tryz.underlying34 bytesSub (show DataW.trod enc Tryz.prog W 0 (fun _ => true) true n 34 [_] = some y13 from g13) b13
   have w14 := trod_len Tryz.underlying35 bytesStr1 (show DataW.trod enc Tryz.prog W 0 (fun _ => true) true n 35 [_] = some y14 from g14) b14
   have w15 := trod_len Tryz.underlying36 bytesInt1 (show DataW.trod enc Tryz.prog W 0 (fun _ => true) true n 36 [_] = some y15 from g15) b15
   have x13 := t13 b13
   have x14 := t14 b14
   clear g0 g1 g2 g3 g4 g5 g6 g7 g8 g9 g10 g11 g12 g13 g14 g15 hfld hf hyl b13 b14 b15 h
   exact ⟨⟨⟨by dsimp only; omega, by dsimp only; omega, by dsimp only; omega, by dsimp only; omega, by dsimp only; omega⟩, ⟨x13, x14⟩⟩, len_max z4, len_max z5, t3, t10⟩
/-- a packet by value -/
theorem open_pktw {r : Reach} {b0 : Nat} {v : Value} {d : DataW H} {p : List MemPlace} (hv : Value.okWide Tryz.prog W r b0 38 v)
 (h : DataW.Trod enc Tryz.prog W 0 (fun _ => true) true 38 v d p) : ∃ (q : Pkt) (a : PA), v = pkV q a ∧ PIn W q a ∧ (WB 38 d → BigZ q) := by
 obtain ⟨cs, rfl, hsz⟩ := okWide_struct Tryz.underlying38 hv
 obtain ⟨fuel, hf⟩ := h
 obtain ⟨l⟩ := cs
 have hl : l.length = 34 := by have := hsz.trans cellsPkt; simpa using this
 obtain ⟨q, a, rfl, hp, hb⟩ := open_pktc (l := l) hl hf
 exact ⟨q, a, rfl, hp.pin, hb⟩
/-- a list of packets -/
theorem open_pktsw {fuel : Nat} {a0 : Option Addr} {len cap : Nat} {x : DataW H × List MemPlace} (hf : DataW.trod enc Tryz.prog W 0 (fun _ => true) true fuel 22 [.slice a0 len cap] = some x) :
 ∃ Xs : List (Pkt × PA), Xs.length = len ∧ KL W W.heap.size a0 Xs ∧ len ≤ cap ∧ (WB 22 x.1 → len ≤ 140737488355328 ∧ ∀ X ∈ Xs, BigZ X.1) := by
 rcases open_slice Tryz.underlying22 hf with ⟨hcs, _⟩ | ⟨a, len', cap', m, n, D, Pl, hcs, _, hl, _, hmm, hx, hi⟩
 · simp at hcs
   obtain ⟨rfl, rfl, rfl⟩ := hcs
   exact ⟨[], rfl, KL.nil _ _ _, Nat.le_refl _, fun _ => ⟨by omega, fun _ h => by cases h⟩⟩
 · simp at hcs
   obtain ⟨rfl, rfl, rfl⟩ := hcs
   simp only [if_true] at hmm
   have each : ∀ i : Nat, ∃ X : Pkt × PA, i < len → (∀ j u, (gK X)[j]? = some u → W.cell? (a.add (i * 34 + j)) = some u) ∧ PInB W W.heap.size X.1 X.2 ∧ (WB 38 (D i) → BigZ X.1) := fun i => by
    by_cases h : i < len
    · obtain ⟨cs', hc, ht⟩ := hi i (by omega)
      rw [cellsPkt] at hc
      obtain ⟨_, hl34, hat⟩ := World.cells?_some hc
      obtain ⟨q, pa, rfl, hp, hw⟩ := open_pktc hl34 ht
      refine ⟨(q, pa), fun _ => ⟨fun j u hj => ?_, hp, hw⟩⟩
      have hj3 : j < 34 := (List.getElem?_eq_some_iff.1 hj).1
      rw [← Go.Deep.add_add, hat j hj3]
      exact hj
    · exact ⟨(Pkt.zero, PA.zero), fun h' => absurd h' h⟩
   refine ⟨(List.range len).map fun i => Classical.choose (each i), by simp, ⟨fun h0 => ?_, fun X hX => ?_⟩, hl, fun hw => ⟨?_, fun X hX => ?_⟩⟩
   · simp at h0
     obtain ⟨b, o, rfl, hb⟩ := plain_addr (show W.cell? (a.add 0) = some _ from (Classical.choose_spec (each 0) (by omega)).1 0 _ rfl)
     refine ⟨b, o, rfl, hb, fun j X i v hX hv => ?_⟩
     rw [List.getElem?_map] at hX
     have hj : j < len := by
      rcases Nat.lt_or_ge j len with h | h
      · exact h
      · rw [List.getElem?_eq_none (by simpa using h)] at hX; cases hX
     rw [List.getElem?_range hj] at hX
     obtain rfl := Option.some.inj hX
     rw [Nat.add_assoc, add_plain]
     exact (Classical.choose_spec (each j) hj).1 i v hv
   · obtain ⟨i, hi', rfl⟩ := List.mem_map.1 hX
     exact (Classical.choose_spec (each i) (List.mem_range.1 hi')).2.1
   · subst hx
     simpa using WB.len Tryz.underlying22 bytesPkt1 hw
   · obtain ⟨i, hi', rfl⟩ := List.mem_map.1 hX
     subst hx
     exact (Classical.choose_spec (each i) (List.mem_range.1 hi')).2.2 (WB.elem Tryz.underlying22 hw (List.mem_map_of_mem (f := D) hi'))
end

end Go.Proofs.YtdkegoaflabjoaaGreatDoor
set_option maxHeartbeats 8000000
set_option maxRecDepth 20000
namespace Go.Proofs.YtdkegoaflabjoaaGreatDoor
open Go.RowKit

theorem bldG (d : Option Nat) (ps : String) (af) (g) (ev : Operand → Value) (w : World) : (execOp ev { dst := d, op := Op.build 38 #[], type := 38, pos := ps, after := af, guard := g }).run Tryz.prog w = .ok (.value (.agg (pkC Pkt.zero PA.zero).toArray)) w := by
 unfold execOp
 simp [go_sem]
 rfl
theorem pinZ (w : World) : PIn w Pkt.zero PA.zero := ⟨GL.nil _ _ _, GL.nil _ _ _, GL.nil _ _ _, CL.nil _ _ _, CL.nil _ _ _⟩
theorem pszZ : PSz Pkt.zero := ⟨by decide, by decide, by decide, by decide, by decide⟩
theorem sameZ (a : PA) (w : World) (h : PIn w Pkt.zero a) : Calls Tryz.prog 9 #[.agg (pkC Pkt.zero a).toArray, .agg (pkC Pkt.zero PA.zero).toArray] w fun e w' => e = .returned (.bool true) ∧ Below w.heap.size w w' := by
 have := rSameP_any Pkt.zero Pkt.zero a PA.zero w h (pinZ w) pszZ pszZ
 rw [show sameP Pkt.zero Pkt.zero = true by simp [sameP]] at this
 exact this
theorem encPk_short {p : Pkt} (h : checkP p = 0) : (encPk p).length ≤ 5000 := by
 have := encPk_le h
 omega

theorem wireTorn_walk (p : Pkt) (a : PA) (cut : Int) (W : World) (hw : S1.Okw W) (h : PIn W p a) (hz : BigZ p) :
 Calls Tryz.prog 4 #[pkV p a, .int .i64 cut] W fun e W' => e = .returned (.bool true) ∧ Below W.heap.size W W' := by
 have HA := Lib.hid (fun w1 h1 => awake7_any w1 h1)
 have HC := Lib.hid (fun w1 h1 => rCheck6_any p a w1 h1 hz)
 have HE := Lib.hid (fun w1 h1 h2 => encode_any p a w1 h1 h2 hz.1.sz hz.1.tx)
 have HO := Lib.hid hw
 have HP := Lib.hid h
 obtain ⟨w0, hw0⟩ : ∃ w0, w0 = W.alloc (.cells (pkC p a).toArray 38) := ⟨_, rfl⟩
 have hb0 : Below W.heap.size W w0 := by rw [hw0]; exact belA _ _
 have hm0 : MT 38 w0 W.heap.size (pkC p a) := by rw [hw0]; exact MT.new W _ _
 have HM0 := Lib.hid hm0
 have HB0 := Lib.hid hb0
 have HW0 := Lib.hid hw0
 unfold pkV at HC HE ⊢
 clear hm0 hb0 hw0 hw h hz
 by_cases hc : checkP p = 0
 rotate_left
 · have q1 : (checkP p != 0) = true := by simp [hc]
   generalize checkP p = k at HC q1
   clear hc HE
   go_enter Tryz.func4, Tryz.ntmps4
   go_upto_region 1 with fail
   rw [← HW0.out]
   go_wp2_with (refine wpList_load_all (by rfl) 38 (.tmp 2) rfl W.heap.size rfl 38 (pkC p a).toArray (0, 0) _ HM0.out Tryz.underlying38 rfl info33 ?_)
   refine (HC.out w0 (HP.out.step HB0.out)).mono ?_
   rintro e w1 ⟨rfl, hb⟩
   have HB1 := Lib.hid (stepB HB0.out hb)
   clear hb HM0 HB0 HW0
   go_wp2_with fail
   refine (HA.out w1 (HO.out.step HB1.out)).mono ?_
   rintro e w2 ⟨rfl, hb⟩
   have HB2 := Lib.hid (stepB HB1.out hb)
   clear hb HB1
   go_wp2_with fail
   go_ret
   exact ⟨rfl, HB2.out⟩
 rw [hc] at HC
 have q1 : ((0 : Int) != 0) = false := rfl
 have hen : encodeR p = (encPk p, 0) := by unfold encodeR; rw [if_neg (by simpa using hc)]
 rw [hen] at HE
 have HT := Lib.hid (fun j (hj : j < (encPk p).length) => decodeR_torn (p := p) (j := j) hc hj)
 have HL := Lib.hid (encPk_short hc)
 generalize encPk p = E at HE HT HL
 unfold RetE at HE
 dsimp only at HE
 clear hc hen
 by_cases h0 : cut < 0
 · have q2 : decide (cut < 0) = true := decide_eq_true h0
   clear h0 HT
   go_enter Tryz.func4, Tryz.ntmps4
   go_upto_region 1 with fail
   rw [← HW0.out]
   go_wp2_with (refine wpList_load_all (by rfl) 38 (.tmp 2) rfl W.heap.size rfl 38 (pkC p a).toArray (0, 0) _ HM0.out Tryz.underlying38 rfl info33 ?_)
   refine (HC.out w0 (HP.out.step HB0.out)).mono ?_
   rintro e w1 ⟨rfl, hb⟩
   have HB1 := Lib.hid (stepB HB0.out hb)
   have HM1 := Lib.hid (MT.step HM0.out hb)
   clear hb HM0 HB0 HW0
   go_wp2_with (refine wpList_load_all (by rfl) 38 (.tmp 2) rfl W.heap.size rfl 38 (pkC p a).toArray (0, 0) _ HM1.out Tryz.underlying38 rfl info33 ?_)
   refine (HE.out w1 (HO.out.step HB1.out) (HP.out.step HB1.out)).mono ?_
   rintro e w2 ⟨A, c, rfl, hsl, hcc, hb⟩
   have HB2 := Lib.hid (stepB HB1.out hb)
   clear hb HB1 HM1 hsl hcc
   go_wp2_with fail
   refine (HA.out w2 (HO.out.step HB2.out)).mono ?_
   rintro e w3 ⟨rfl, hb⟩
   have HB3 := Lib.hid (stepB HB2.out hb)
   clear hb HB2
   go_wp2_with fail
   go_ret
   exact ⟨rfl, HB3.out⟩
 obtain ⟨j, rfl⟩ := Int.eq_ofNat_of_zero_le (by omega : 0 ≤ cut)
 have q2 : decide ((j : Int) < 0) = false := decide_eq_false h0
 clear h0
 by_cases hj : j < E.length
 rotate_left
 · have q3 : decide ((E.length : Int) ≤ (j : Int)) = true := decide_eq_true (by omega)
   have q3' : decide (E.length ≤ j) = true := decide_eq_true (by omega)
   clear hj HT
   go_enter Tryz.func4, Tryz.ntmps4
   go_upto_region 1 with fail
   rw [← HW0.out]
   go_wp2_with (refine wpList_load_all (by rfl) 38 (.tmp 2) rfl W.heap.size rfl 38 (pkC p a).toArray (0, 0) _ HM0.out Tryz.underlying38 rfl info33 ?_)
   refine (HC.out w0 (HP.out.step HB0.out)).mono ?_
   rintro e w1 ⟨rfl, hb⟩
   have HB1 := Lib.hid (stepB HB0.out hb)
   have HM1 := Lib.hid (MT.step HM0.out hb)
   clear hb HM0 HB0 HW0
   go_wp2_with (refine wpList_load_all (by rfl) 38 (.tmp 2) rfl W.heap.size rfl 38 (pkC p a).toArray (0, 0) _ HM1.out Tryz.underlying38 rfl info33 ?_)
   refine (HE.out w1 (HO.out.step HB1.out) (HP.out.step HB1.out)).mono ?_
   rintro e w2 ⟨A, c, rfl, hsl, hcc, hb⟩
   have HB2 := Lib.hid (stepB HB1.out hb)
   clear hb HB1 HM1 hsl hcc
   go_wp2_with fail
   refine (HA.out w2 (HO.out.step HB2.out)).mono ?_
   rintro e w3 ⟨rfl, hb⟩
   have HB3 := Lib.hid (stepB HB2.out hb)
   clear hb HB2
   go_wp2_with fail
   go_ret
   exact ⟨rfl, HB3.out⟩
 have q3 : decide ((E.length : Int) ≤ (j : Int)) = false := decide_eq_false (by omega)
 have q3' : decide (E.length ≤ j) = false := decide_eq_false (by omega)
 have HJ := Lib.hid hj
 have HDJ := Lib.hid (HT.out j hj)
 clear hj HT
 go_enter Tryz.func4, Tryz.ntmps4
 go_upto_region 1 with fail
 rw [← HW0.out]
 go_wp2_with (refine wpList_load_all (by rfl) 38 (.tmp 2) rfl W.heap.size rfl 38 (pkC p a).toArray (0, 0) _ HM0.out Tryz.underlying38 rfl info33 ?_)
 refine (HC.out w0 (HP.out.step HB0.out)).mono ?_
 rintro e w1 ⟨rfl, hb⟩
 have HB1 := Lib.hid (stepB HB0.out hb)
 have HM1 := Lib.hid (MT.step HM0.out hb)
 clear hb HM0 HB0 HW0
 go_wp2_with (refine wpList_load_all (by rfl) 38 (.tmp 2) rfl W.heap.size rfl 38 (pkC p a).toArray (0, 0) _ HM1.out Tryz.underlying38 rfl info33 ?_)
 refine (HE.out w1 (HO.out.step HB1.out) (HP.out.step HB1.out)).mono ?_
 rintro e w2 ⟨A, c, rfl, hsl, hcc, hb⟩
 have HB2 := Lib.hid (stepB HB1.out hb)
 obtain ⟨A2, hs2, hcl2⟩ := slice_h A c E j (by have := HJ.out; omega) hcc
 have HDD := Lib.hid (decode_any A2 c (E.take j) w2 (HO.out.step HB2.out) (hcl2 w2 _ hsl) (by rw [List.length_take]; omega) (by rw [List.length_take]; have := HL.out; omega))
 rw [HDJ.out] at HDD
 unfold RetD at HDD
 dsimp only at HDD
 generalize (E.take j).length = n2 at hs2 HDD
 clear hb HB1 HM1 hsl hcc hcl2 HC HE HJ HDJ HL
 go_wp2_with fail
 refine HDD.out.mono ?_
 rintro e w3 ⟨a1, rfl, hp, hb⟩
 have HP3 := Lib.hid hp
 have HB3 := Lib.hid (stepB HB2.out hb)
 clear hb HB2 hp hs2 HDD
 go_upto_region 9 with (refine wpList_store_blkE (by rfl) 38 (.tmp 7) (.tmp 34) rfl rfl w3.heap.size 0 34 rfl (.agg (pkC Pkt.zero a1).toArray) rfl 38 (pkC Pkt.zero PA.zero) (pkC Pkt.zero a1) (zero_new w3) rfl rfl info33 (by rw [pkC_len]; decide) (one_cells rfl) ?_; rintro w4 hM he hbel hsz; have HM4 := Lib.hid (put_pk hM); have HB4x : Hid (Below w3.heap.size w3 w4) := Lib.hid (hbel _ _ (Nat.le_refl _) (belA _ _)); clear hM he hbel hsz)
 have HB4 := Lib.hid (stepB HB3.out HB4x.out)
 have HSZ := Lib.hid (sameZ a1 w4 (PInB.pin ((HP3.out.1.below HB4x.out).more HB4x.out.size)))
 clear HP3 HB3 HB4x q1 q2 q3 q3'
 go_wp2_with first
  | (refine wpList_load_all (by rfl) 38 (.tmp 7) rfl w3.heap.size rfl 38 _ (0, 0) _ HM4.out Tryz.underlying38 rfl info33 ?_)
  | (refine wpList_val (by rfl) (.agg (pkC Pkt.zero PA.zero).toArray) (bldG _ _ _ _ _ _) ?_)
 refine HSZ.out.mono ?_
 rintro e w5 ⟨rfl, hb⟩
 have HB5 := Lib.hid (stepB HB4.out hb)
 clear hb HB4 HM4 HSZ
 go_wp2_with fail
 refine (HA.out w5 (HO.out.step HB5.out)).mono ?_
 rintro e w6 ⟨rfl, hb⟩
 have HB6 := Lib.hid (stepB HB5.out hb)
 clear hb HB5
 go_wp2_with fail
 go_ret
 exact ⟨rfl, HB6.out⟩
end Go.Proofs.YtdkegoaflabjoaaGreatDoor
set_option maxRecDepth 100000
namespace Go.Proofs.YtdkegoaflabjoaaGreatDoor.wireTorn
open Go.ChangeShapes Go.WideShapes Go.ChangeAt Go.WideMaps Go.WideElems Go.RowKit
open Go.ChangeMaps (open_string shut_string)

theorem own : ownKnob Tryz.prog.godebug = none := by kernel_rfl
theorem okw {W : World} (h : W.ShapedOpen Tryz.prog) : S1.Okw W := Tryz.laysM219.s1_3 W h

theorem contract (H : Type) (enc : TypeId × Value → H) (W : World) (base : Nat) (args : Array Value) (ds gs : List (DataW H)) (before : List MemPlace)
 (hval : ∀ (j : Nat) t v, Tryz.f4.params[j]? = some t → args[j]? = some v → Value.okWide Tryz.prog W .any base t v)
 (hW : DataW.Whole enc Tryz.prog Tryz.f4.params.toList Rows.wireTornSpec.vars false W args.toList ds gs before)
 (hsz : (DataW.weightsEach Tryz.prog (Tryz.f4.params.toList ++ (OpenSpec.ofChange Rows.wireTornSpec).bare.plain.varTypes Tryz.prog) (ds ++ gs)).all (· ≤ reachBytes) = true)
 (hsh : W.ShapedOpen Tryz.prog) :
 Calls Tryz.prog 4 args W fun e W' => ∃ v, e = .returned v ∧ Rows.wireTornSpec.post enc Tryz.prog Tryz.f4 false true false false W args v W' := by
 have hW' := hW
 obtain ⟨p, q, hA0, hV, rfl, hfz, hnd⟩ := hW
 have hA : DataW.TrodAll enc Tryz.prog W 0 (fun _ => true) true Tryz.f4.params.toList args.toList ds p := hA0
 rw [Tryz.params4] at hA hval
 obtain ⟨v0, vs0, d0, ds0, p0, q0, hargs, rfl, rfl, h0, r0⟩ := trodAll_cons hA
 obtain ⟨v1, vs1, d1, ds1, p1, q1, rfl, rfl, rfl, h1, r1⟩ := trodAll_cons r0
 obtain ⟨rfl, rfl, rfl⟩ := trodAll_nil r1
 obtain rfl : args = #[v0, v1] := by cases args; simp_all
 obtain ⟨rfl, rfl⟩ := trodVars_none hV
 have h0k := h0
 obtain ⟨m0, a0, rfl, sl0, bz0⟩ := open_pktw (hval 0 38 v0 rfl rfl) h0
 have wz0 := bz0 (WB.of hsz (j := 0) rfl rfl)
 obtain ⟨n1, rfl, rfl, rfl, wn1⟩ := open_int Tryz.underlying3 (hval 1 3 v1 rfl rfl) h1
 clear hA0
 simp only [List.append_nil] at hW'
 have hrb := reachBytes_lt
 have hlt : ∀ x ∈ p0, x.block < W.heap.size := fun x hx => by simpa using hW'.lt x (by simpa using hx)
 refine (wireTorn_walk m0 a0 n1 W (okw hsh) sl0 wz0).mono fun e W' ⟨he, hb⟩ => ?_
 subst he
 have e1 : Rows.wireTornSpec.fn H ([d0, .lit (.int .i64 n1)] ++ []) = { results := [.lit (.bool true)], args := [d0, .lit (.int .i64 n1)] } := rfl
 refine ⟨_, rfl, _, _, _, [], p0, [], by simpa using hW', ?_, ?_, ?_, hb.frame _, fun h => by cases h⟩
 · exact trodAll_cons_mk (shut_bool Tryz.underlying4 _) trodAll_mk0
 · rw [e1]
   simpa using trodAll_cons_mk (Below.trod laidOutAll (by kernel_rfl) (of_decide_eq_true (by kernel_rfl)) h0k hb (fun x hx => hlt x (by simp [hx]))) (trodAll_cons_mk (shut_int Tryz.underlying3 wn1) (trodAll_mk0))
 · rfl

theorem laid_met (os : Os) : laidMet Tryz.prog Rows.wireTornRow.laid ((World.laidAll Tryz.prog os Rows.wireTornRow.laid).forCall (fun _ _ => 0) ⟨#[], #[(pkV Pkt.zero PA.zero), .int .i64 0], []⟩).memory :=
 laidMet_laidAll _ (by kernel_rfl) (by kernel_rfl)
theorem reads (os : Os) {H : Type} (enc : TypeId × Value → H) : ∃ places, DataW.whole enc Tryz.prog ((World.laidAll Tryz.prog os Rows.wireTornRow.laid).forCall (fun _ _ => 0) ⟨#[], #[(pkV Pkt.zero PA.zero), .int .i64 0], []⟩).memory Tryz.f4.params.toList Rows.wireTornSpec.vars false #[(pkV Pkt.zero PA.zero), Value.int .i64 0].toList 8 = some ([.agg [.lit (.int .i64 0), .lit (.int .i64 0), .lit (.bool false), .agg [.lit (.string []), .lit (.string []), .lit (.int .i64 0), .lit (.bool false), .lit (.int .i64 0), .lit (.int .i64 0), .lit (.string []), .lit (.int .i64 0), .nil], .lit (.string []), .lit (.string []), .lit (.bool false), .lit (.int .i64 0), .lit (.int .i64 0), .lit (.int .i64 0), .agg [.lit (.bool false), .lit (.int .i64 0), .agg [.lit (.string []), .lit (.string []), .lit (.int .i64 0), .lit (.bool false), .lit (.int .i64 0), .lit (.int .i64 0), .lit (.string []), .lit (.int .i64 0), .nil]], .lit (.bool false), .lit (.int .i64 0), .nil, .nil, .nil], .lit (.int .i64 0)], [], places) :=
 ⟨[], by kernel_rfl⟩

theorem lifted (os : Os) (started : os.Started) (H : Type) (enc : TypeId × Value → H) (F : Stop.Interp) :
 ReturnsInHanded {} Tryz.checked os 4 .any ((OpenSpec.ofChange Rows.wireTornSpec).preRow enc Tryz.prog Tryz.f4 Rows.wireTornRow.domain false Rows.wireTornRow.laid) (((OpenSpec.ofChange Rows.wireTornSpec).at F).post enc Tryz.prog Tryz.f4 false true false false) := by
 obtain ⟨places, hx⟩ := reads os enc
 refine returnsInHanded_of_row (C := Tryz.checked) (s := (OpenSpec.ofChange Rows.wireTornSpec)) own started (by kernel_rfl) Tryz.func4
  (witness_row_at (enc := enc) (C := Tryz.checked) false (World.laidAll Tryz.prog os Rows.wireTornRow.laid) #[(pkV Pkt.zero PA.zero), .int .i64 0] (World.laidAll_os _ _ _) (by kernel_rfl) (by kernel_rfl) (by kernel_rfl)
    (OpenSpec.preRow_of_cond 8 hx (by kernel_rfl) (fun k hk => by cases hk) (by kernel_rfl) (laid_met os))) ?_
 intro W base args ds gs before hval hW _ _ hsz _ hsh _
 exact contract H enc W base args ds gs before hval hW hsz hsh

theorem said : Rows.WireTornSaid :=
 OpenClaim.holds_of_cond 4 Tryz.f4 rfl rfl rfl rfl rfl rfl rfl ⟨rfl, rfl, rfl, rfl, rfl⟩ rfl rfl rfl rfl rfl (by kernel_rfl) Tryz.func4 (by kernel_rfl)
  (of_decide_eq_true (by kernel_rfl)) (by unfold Func.isWrapper; first | (rw [if_pos (by decide +kernel)]; kernel_rfl) | (rw [if_neg (by decide +kernel)]; exact ⟨rfl, rfl⟩))
  (fun os started H enc _ F => by rw [OpenClaim.pre_eq_preRow]; exact lifted os started H enc F)

theorem plain (f : FuncId) (fn : Func) (hf : Tryz.pinned.checked.prog.funcNamed "broker/brokerlaw07.WireTorn" = some f) (hfn : Tryz.pinned.checked.prog.funcs[f]? = some fn) :
 true = Tryz.pinned.checked.prog.looks [] ∧ ∀ (j : Nat) t, fn.params[j]? = some t → Tryz.pinned.checked.prog.wantsStandIn t = false := by
 obtain rfl : f = 4 := Option.some.inj ((show Tryz.prog.funcNamed "broker/brokerlaw07.WireTorn" = some 4 by kernel_rfl).symm.trans hf) |>.symm
 obtain rfl : fn = Tryz.f4 := (Option.some.inj (Tryz.func4.symm.trans hfn)).symm
 refine ⟨by kernel_rfl, fun j t ht => ?_⟩
 rw [Tryz.params4] at ht
 have hm : t ∈ [38, 3] := by simpa using Array.mem_of_getElem? ht
 simp only [List.mem_cons, List.not_mem_nil, or_false] at hm
 rcases hm with rfl | rfl
 · exact (show Tryz.prog.wantsStandIn 38 = false by kernel_rfl)
 · exact (show Tryz.prog.wantsStandIn 3 = false by kernel_rfl)

theorem card : Rows.WireTornCardSaid :=
 Claim7.holds_tied_plain_at .later [] _ _ _ _ said (fun _ h => by cases h) (by kernel_rfl) (fun _ h => by cases h) wireTorn_row_tie rfl ⟨rfl, rfl⟩ (by kernel_rfl) rfl plain (by kernel_rfl)
end Go.Proofs.YtdkegoaflabjoaaGreatDoor.wireTorn
