/-
  A list of byte lists that came in, opened for the walks. Conditions: it reads as data.
-/
import Derived.Test.YtijdfadmmloclabOpenB
import Derived.Test.YtijdfadmmloclabLawF4
import Derived.Deep.Matrix
namespace Go.Proofs.Ytijdfadmmloclab
open Go.ChangeShapes Go.WideShapes Go.ChangeAt Go.WideMaps Go.WideElems Go.RowKit Go.Deep

theorem cellsSl : Try.prog.cellsOf 22 = 1 := by kernel_rfl
theorem bytesSl : Try.prog.bytesOf 22 = 24 := by kernel_rfl
theorem open_mat {H : Type} {enc : TypeId × Value → H} {W : World} {a0 : Option Addr} {len cap fuel : Nat} {x : DataW H × List MemPlace}
    (hf : DataW.trod enc Try.prog W 0 (fun _ => true) true fuel 32 [.slice a0 len cap] = some x) :
    ∃ (vs : List Value) (xs : List (List UInt8)), vs.length = len ∧ CL id W W.heap.size a0 vs ∧ Old W W.heap.size vs xs ∧ len ≤ cap ∧ (len = 0 ∨ ∃ elems spare, x.1 = .slice elems spare ∧ elems.length = len) := by
  rcases open_int_rows Try.underlying32 Try.underlying22 Try.underlying5 cellsSl cellsU8 hf with ⟨hcs, hx⟩ | ⟨a, len', cap', A, L, C, Z, hcs, _, hl, hm, hx, hrow⟩
  · simp at hcs
    obtain ⟨rfl, rfl, rfl⟩ := hcs
    exact ⟨[], [], rfl, CL.nil _ _ _, ⟨rfl, fun j v xs h => by simp at h⟩, Nat.le_refl _, Or.inl rfl⟩
  · simp at hcs
    obtain ⟨rfl, rfl, rfl⟩ := hcs
    subst hx
    refine ⟨(List.range len).map fun r => .slice (A r) (L r) (C r), (List.range len).map fun r => ((Z r).take (L r)).map fun n => UInt8.ofNat n.toNat, by simp, fun h0 => ?_, ⟨by simp, fun j v xs h1 h2 => ?_⟩, hl, Or.inr ⟨_, _, rfl, by simp⟩⟩
    · rw [List.length_map, List.length_range] at h0
      obtain ⟨b, o, rfl, hb⟩ := plain_addr (hrow 0 (by omega)).1
      refine ⟨b, o, rfl, hb, fun j v hv => ?_⟩
      rw [List.getElem?_map] at hv
      cases hr : (List.range len)[j]? with
      | none => rw [hr] at hv; cases hv
      | some r =>
        rw [hr] at hv
        obtain rfl := Option.some.inj hv
        obtain ⟨hj, e⟩ := List.getElem?_eq_some_iff.1 hr
        rw [List.length_range] at hj
        rw [List.getElem_range] at e
        subst e
        rw [add_plain]
        exact (hrow j (by omega)).1
    · rw [List.getElem?_map] at h1 h2
      cases hr : (List.range len)[j]? with
      | none => rw [hr] at h1; cases h1
      | some r =>
        rw [hr] at h1 h2
        obtain rfl := Option.some.inj h1
        obtain rfl := Option.some.inj h2
        obtain ⟨hj, e⟩ := List.getElem?_eq_some_iff.1 hr
        rw [List.length_range] at hj
        rw [List.getElem_range] at e
        subst e
        obtain ⟨_, hLC, _, hZl, hwf, hnone, hcell⟩ := hrow j (by omega)
        have hxl : (((Z j).take (L j)).map fun n => UInt8.ofNat n.toNat).length = L j := by rw [List.length_map, List.length_take]; omega
        dsimp only
        rw [hxl]
        refine ⟨A j, C j, rfl, by omega, fun h0 => ?_⟩
        have h0 : 0 < L j := by rw [← hxl]; exact h0
        cases hA : A j with
        | none => have := hnone hA; omega
        | some a' =>
          have hc := (hcell a' hA).2
          obtain ⟨b, o, rfl, hb⟩ := plain_addr (hc 0 (by omega))
          refine ⟨b, o, rfl, hb, fun i X hX => ?_⟩
          rw [List.getElem?_map] at hX
          cases hz2 : ((Z j).take (L j))[i]? with
          | none => rw [hz2] at hX; cases hX
          | some n =>
            rw [hz2] at hX
            obtain rfl := Option.some.inj hX
            have hi : i < L j := by have := (List.getElem?_eq_some_iff.1 hz2).1; simp at this; omega
            rw [List.getElem?_take_of_lt hi] at hz2
            have hn := u8_wf (hwf n (List.mem_of_getElem? hz2))
            rw [add_plain, hc i (by omega)]
            unfold bv
            rw [UInt8.toNat_ofNat', List.getD_eq_getElem?_getD, hz2]
            simp only [Option.getD_some, Option.some.injEq, Value.int.injEq, true_and]
            omega
theorem mat_small {H : Type} {ts : List TypeId} {ds : List (DataW H)} (h : (DataW.weightsEach Try.prog ts ds).all (· ≤ reachBytes) = true) {j : Nat} (ht : ts[j]? = some 32) {d : DataW H} (hd : ds[j]? = some d)
    {n : Nat} (hs : n = 0 ∨ ∃ elems spare, d = .slice elems spare ∧ elems.length = n) : n ≤ 140737488355328 := by
  rcases hs with h0 | ⟨elems, spare, rfl, rfl⟩
  · omega
  · have hr := reachBytes_lt
    have := sized_slice h ht hd Try.underlying32
    rw [bytesSl] at this
    omega

end Go.Proofs.Ytijdfadmmloclab
