/-
  A list of properties that came in, opened for the walks. Conditions: it reads as data.
-/
import Derived.Test.YtglnkpgdmophlaaGreatDoorMsg
import Derived.ProofKit
import Derived.OpenShut
import Derived.SliceStrings
import Derived.SizedLaws
import Derived.Deep.SlicePairs
namespace Go.Proofs.YtglnkpgdmophlaaGreatDoor
open Go.ChangeShapes Go.WideShapes Go.ChangeAt Go.WideMaps Go.WideElems Go.RowKit

theorem laidOutAll : laidOutB Tryz.prog = true := by kernel_rfl
theorem cellsStr : Tryz.prog.cellsOf 9 = 1 := by kernel_rfl
theorem cellsProp : Tryz.prog.cellsOf 105 = 2 := by kernel_rfl
theorem bytesProp : Tryz.prog.bytesOf 105 = 32 := by kernel_rfl
/-- cells behind an address that holds something -/
theorem plain_addr {w : World} {a : Addr} {v : Value} (h : w.cell? (a.add 0) = some v) : ∃ b o, a = ⟨b, o, none⟩ ∧ b < w.heap.size := by
  obtain ⟨b, off, spot⟩ := a
  have hspot : spot = none := by simpa [Addr.add] using World.cell?_spot h
  subst hspot
  refine ⟨b, off, rfl, ?_⟩
  rcases Nat.lt_or_ge b w.heap.size with h' | h'
  · exact h'
  · have : w.heap[b]? = none := Array.getElem?_eq_none h'
    simp [World.cell?, Addr.add, this] at h
theorem add_plain (b o j : Nat) : (⟨b, o + j, none⟩ : Addr) = (⟨b, o, none⟩ : Addr).add j := by
  unfold Addr.add
  split
  · next h => subst h; rfl
  · rfl
/-- a value's text -/
def strV : Value → ByteArray
  | .string s => s
  | _ => ⟨#[]⟩
theorem open_props {H : Type} {enc : TypeId × Value → H} {W : World} {a0 : Option Addr} {len cap fuel : Nat} {x : DataW H × List MemPlace}
    (hf : DataW.trod enc Tryz.prog W 0 (fun _ => true) true fuel 33 [.slice a0 len cap] = some x) :
    ∃ Xs : List PR, Xs.length = len ∧ PL W W.heap.size a0 Xs ∧ len ≤ cap ∧ (len = 0 ∨ ∃ elems spare, x.1 = .slice elems spare ∧ elems.length = len) := by
  rcases Go.Deep.open_slice_pairs Tryz.underlying33 Tryz.underlying105 cellsProp rfl rfl cellsStr cellsStr hf with ⟨hcs, hx⟩ | ⟨a, len', cap', m, n, V0, V1, D0, D1, P0, P1, hcs, _, hl, hm, hmm, hx, hi⟩
  · simp at hcs
    obtain ⟨rfl, rfl, rfl⟩ := hcs
    exact ⟨[], rfl, GL.nil _ _ _, Nat.le_refl _, Or.inl rfl⟩
  · simp at hcs
    obtain ⟨rfl, rfl, rfl⟩ := hcs
    subst hx
    simp only [if_true] at hmm
    refine ⟨(List.range len).map fun i => (strV (V0 i), strV (V1 i)), by simp, fun h0 => ?_, hl, Or.inr ⟨_, _, rfl, by simp⟩⟩
    simp at h0
    obtain ⟨b, o, rfl, hb⟩ := plain_addr (hi 0 (by omega)).1
    refine ⟨b, o, rfl, hb, fun j X i v hX hv => ?_⟩
    rw [List.getElem?_map] at hX
    have hj : j < len := by
      rcases Nat.lt_or_ge j len with h | h
      · exact h
      · rw [List.getElem?_eq_none (by simpa using h)] at hX; cases hX
    rw [List.getElem?_range hj] at hX
    obtain rfl := Option.some.inj hX
    obtain ⟨h1, h2, h3, h4⟩ := hi j (by omega)
    obtain ⟨s0, e0, _⟩ := DataW.trod_string Tryz.underlying9 h3
    obtain ⟨s1, e1, _⟩ := DataW.trod_string Tryz.underlying9 h4
    simp at e0 e1
    rw [e0] at h1
    rw [e1] at h2
    match i, hv with
    | 0, hv =>
      simp [gP, strV, e0] at hv
      rw [Nat.add_zero, add_plain, h1, hv]
    | 1, hv =>
      simp [gP, strV, e1] at hv
      rw [Nat.add_assoc, add_plain, h2, hv]
theorem props_small {H : Type} {ts : List TypeId} {ds : List (DataW H)} (h : (DataW.weightsEach Tryz.prog ts ds).all (· ≤ reachBytes) = true) {j : Nat} (ht : ts[j]? = some 33) {d : DataW H} (hd : ds[j]? = some d)
    {n : Nat} (hs : n = 0 ∨ ∃ elems spare, d = .slice elems spare ∧ elems.length = n) : n ≤ 4398046511104 := by
  rcases hs with h0 | ⟨elems, spare, rfl, rfl⟩
  · omega
  · have hr := reachBytes_lt
    have := sized_slice h ht hd Tryz.underlying33
    rw [bytesProp] at this
    omega

end Go.Proofs.YtglnkpgdmophlaaGreatDoor
