/-
  A list of texts that came in, opened for the walks. Conditions: it reads as data.
-/
import Derived.Test.YtdoginjdlckbpaaDoorMem
import Derived.ProofKit
import Derived.OpenShut
import Derived.SliceStrings
import Derived.SizedLaws
namespace Go.Proofs.YtdoginjdlckbpaaDoor
open Go.ChangeShapes Go.WideShapes Go.ChangeAt Go.WideMaps Go.WideElems Go.RowKit

theorem cellsStr : Tryd.prog.cellsOf 9 = 1 := by kernel_rfl
theorem bytesStr : Tryd.prog.bytesOf 9 = 16 := by kernel_rfl
theorem laidOutAll : laidOutB Tryd.prog = true := by kernel_rfl

theorem open_list {H : Type} {enc : TypeId × Value → H} {W : World} {a0 : Option Addr} {len cap fuel : Nat} {x : DataW H × List MemPlace}
    (hf : DataW.trod enc Tryd.prog W 0 (fun _ => true) true fuel 24 [.slice a0 len cap] = some x) :
    ∃ Xs : List ByteArray, Xs.length = len ∧ SL W W.heap.size a0 Xs ∧ len ≤ cap ∧ (len = 0 ∨ ∃ spare, x.1 = .slice (strs Xs) spare) := by
  rcases open_strings Tryd.underlying24 Tryd.underlying9 cellsStr hf with ⟨hcs, hx⟩ | ⟨a, len', cap', ss, hcs, _, hl, hm, hz, hx, hcell, _⟩
  · simp at hcs
    obtain ⟨rfl, rfl, rfl⟩ := hcs
    exact ⟨[], rfl, SL.nil _ _ _, Nat.le_refl _, Or.inl rfl⟩
  · simp at hcs
    obtain ⟨rfl, rfl, rfl⟩ := hcs
    subst hx
    simp only [if_true] at hz
    obtain ⟨b, off, spot⟩ := a
    refine ⟨ss.take len, by simp; omega, fun h0 => ?_, hl, Or.inr ⟨_, rfl⟩⟩
    rw [List.length_take] at h0
    have hspot : spot = none := by simpa [Addr.add] using World.cell?_spot (hcell 0 (by omega))
    subst hspot
    have hlt : b < W.heap.size := by
      have h1 := hcell 0 (by omega)
      rcases Nat.lt_or_ge b W.heap.size with h | h
      · exact h
      · have : W.heap[b]? = none := Array.getElem?_eq_none h
        simp [World.cell?, Addr.add, this] at h1
    refine ⟨b, off, rfl, hlt, fun j X hX => ?_⟩
    have hj : j < len := by
      have := (List.getElem?_eq_some_iff.1 hX).1
      simp at this
      omega
    have hX' : ss.getD j ByteArray.empty = X := by
      rw [List.getElem?_take_of_lt hj] at hX
      simp [List.getD, hX]
    have ha : (⟨b, off + j, none⟩ : Addr) = (⟨b, off, none⟩ : Addr).add j := by
      unfold Addr.add
      split
      · next h => subst h; rfl
      · rfl
    rw [ha, ← hX']
    exact hcell j (by omega)

theorem list_small {H : Type} {ts : List TypeId} {ds : List (DataW H)} (h : (DataW.weightsEach Tryd.prog ts ds).all (· ≤ reachBytes) = true) {j : Nat} (ht : ts[j]? = some 24) {d : DataW H} (hd : ds[j]? = some d)
    {Xs : List ByteArray} (hs : Xs.length = 0 ∨ ∃ spare, d = .slice (strs Xs) spare) : Xs.length ≤ 140737488355328 := by
  rcases hs with h0 | ⟨spare, rfl⟩
  · omega
  · have hr := reachBytes_lt
    have := sized_slice h ht hd Tryd.underlying24
    rw [bytesStr] at this
    simp only [strs, List.length_map] at this
    omega

end Go.Proofs.YtdoginjdlckbpaaDoor
