/-
  Cuts of slices, bytes read as a text; Same of the specifications. No other function of the program is walked here.
-/
import Derived.Test.YtbmeimpfehjnfaaPut2
import Derived.Laws.BytesArg
import Derived.Deep.QuietTactic
import Derived.BigQuiet
import Derived.Deep.LoopGhost
import Derived.Deep.Light
namespace Go.Proofs.Ytbmeimpfehjnfaa
open Go.RowKit

theorem elemB : Try.prog.elem 22 = 5 := by kernel_rfl
theorem undB : Try.prog.underlying 22 = some (.slice (Try.prog.elem 22)) := by rw [elemB]; exact Try.underlying22
theorem sizeB (w : World) : (sizeOf (Try.prog.elem 22)).run Try.prog w = .ok 1 w := by
  obtain ⟨i, hi, hz, hz1, hz2⟩ := info_parts infoU8
  rw [elemB]
  simp [sizeOf, typeInfo, hi, hz1]

/-- the address of a cut -/
theorem cut_addr {α : Type} {f : α → Value} {w : World} {B : Nat} {A : Option Addr} {xs : List α} (h : CL f w B A xs) {k m : Nat} (hk : k ≤ xs.length) (hm : k < xs.length → m ≠ k) :
    CL f w B (if m = k then A else A.map (·.add (k * 1))) (xs.drop k) := fun hn => by
  rw [List.length_drop] at hn
  obtain ⟨b, o, e, hb, hcell⟩ := h (by omega)
  rw [if_neg (hm (by omega)), e]
  refine ⟨b, o + k, ?_, hb, fun j x hx => ?_⟩
  · simp only [Option.map_some, Addr.add, Nat.mul_one]
    split
    · next h0 => subst h0; rfl
    · rfl
  · rw [List.getElem?_drop] at hx
    rw [Nat.add_assoc]
    exact hcell _ x hx

theorem slice_l (A : Option Addr) (c : Nat) (xs : List UInt8) (k : Nat) (hk : k ≤ xs.length) (hc : xs.length ≤ c) :
    ∃ A2, (∀ w, (Instr.slice 22 (.slice A xs.length c) (some (.int .i64 k)) none none).run Try.prog w = .ok (.slice A2 (xs.drop k).length (c - k)) w) ∧ ∀ w B, CL bv w B A xs → CL bv w B A2 (xs.drop k) := by
  refine ⟨if c = k then A else A.map (·.add (k * 1)), fun w => ?_, fun w B h => cut_addr h hk (fun _ => by omega)⟩
  rw [run_slice_l (P := Try.prog) w 22 A xs.length c undB .i64 k (by omega) (by omega), sizeB, List.length_drop]
  simp [Result.andThen, sliced]
theorem slice_lh (A : Option Addr) (c : Nat) (xs : List UInt8) (k h : Nat) (hk : k ≤ h) (hh : h ≤ xs.length) (hc : xs.length ≤ c) :
    ∃ A2, (∀ w, (Instr.slice 22 (.slice A xs.length c) (some (.int .i64 k)) (some (.int .i64 h)) none).run Try.prog w = .ok (.slice A2 ((xs.drop k).take (h - k)).length (c - k)) w) ∧ ∀ w B, CL bv w B A xs → CL bv w B A2 ((xs.drop k).take (h - k)) := by
  refine ⟨if c = k then A else A.map (·.add (k * 1)), fun w => ?_, fun w B hs => (cut_addr hs (by omega) (fun _ => by omega)).take _⟩
  have e : ((xs.drop k).take (h - k)).length = h - k := by rw [List.length_take, List.length_drop]; omega
  rw [run_slice_lh (P := Try.prog) w 22 A xs.length c undB .i64 .i64 k h (by omega) (by omega) (by omega), sizeB, e]
  simp [Result.andThen, sliced]
theorem slice_lhm (A : Option Addr) (c : Nat) (xs : List UInt8) (k h : Nat) (hk : k ≤ h) (hh : h ≤ xs.length) (hc : xs.length ≤ c) :
    ∃ A2, (∀ w, (Instr.slice 22 (.slice A xs.length c) (some (.int .i64 k)) (some (.int .i64 h)) (some (.int .i64 h))).run Try.prog w = .ok (.slice A2 ((xs.drop k).take (h - k)).length ((xs.drop k).take (h - k)).length) w) ∧ ∀ w B, CL bv w B A xs → CL bv w B A2 ((xs.drop k).take (h - k)) := by
  have e : ((xs.drop k).take (h - k)).length = h - k := by rw [List.length_take, List.length_drop]; omega
  refine ⟨if h = k then A else A.map (·.add (k * 1)), fun w => ?_, fun w B hs => ?_⟩
  · rw [run_slice_lhm (P := Try.prog) w 22 A xs.length c undB .i64 .i64 .i64 k h h (by omega) (by omega) (by omega) (by omega), sizeB, e]
    simp [Result.andThen, sliced]
  · by_cases h0 : h = k
    · have : (xs.drop k).take (h - k) = [] := List.eq_nil_of_length_eq_zero (by omega)
      rw [this]
      exact CL.nil _ _ _
    · exact (cut_addr hs (by omega) (fun _ => by omega)).take _
theorem slice_h (A : Option Addr) (c : Nat) (xs : List UInt8) (h : Nat) (hh : h ≤ xs.length) (hc : xs.length ≤ c) :
    ∃ A2, (∀ w, (Instr.slice 22 (.slice A xs.length c) none (some (.int .i64 h)) none).run Try.prog w = .ok (.slice A2 (xs.take h).length c) w) ∧ ∀ w B, CL bv w B A xs → CL bv w B A2 (xs.take h) := by
  have e : (xs.take h).length = h := by rw [List.length_take]; omega
  refine ⟨if c = 0 then A else A.map (·.add (0 * 1)), fun w => ?_, fun w B hs => ?_⟩
  · rw [run_slice_h (P := Try.prog) w 22 A xs.length c undB .i64 h (by omega) (by omega), sizeB, e]
    simp [Result.andThen, sliced]
  · have := (cut_addr hs (k := 0) (m := c) (by omega) (fun _ => by omega))
    rw [List.drop_zero] at this
    exact this.take _

theorem strOf (xs : List UInt8) : strOfNums (xs.map fun x => (x.toNat : Int)) = bs xs := by
  apply dl_inj
  rw [dl_bs]
  unfold dl
  rw [strOfNums_data, List.map_map]
  conv => rhs; rw [← List.map_id xs]
  refine List.map_congr_left fun x _ => ?_
  simp
theorem conv_str {w : World} {B : Nat} {A : Option Addr} {xs : List UInt8} (h : CL bv w B A xs) (c : Nat) : (convert 22 9 (.slice A xs.length c)).run Try.prog w = .ok (.string (bs xs)) w := by
  by_cases h0 : 0 < xs.length
  · obtain ⟨b, o, rfl, hb, hc⟩ := h h0
    have := run_convert_bytes_arg (P := Try.prog) w 22 5 Try.underlying22 Try.underlying5 b o xs.length c (xs.map fun x => (x.toNat : Int)) (by simp) (fun i hi => by
      rw [hc i _ (List.getElem?_eq_getElem hi)]
      unfold bv
      rw [List.getD_eq_getElem?_getD, List.getElem?_map, List.getElem?_eq_getElem hi]
      rfl) 9 Try.underlying9
    rw [this, strOf]
  · have hx : xs = [] := List.eq_nil_of_length_eq_zero (by omega)
    subst hx
    cases A with
    | none => exact run_convert_bytes_nil (P := Try.prog) w 22 5 Try.underlying22 Try.underlying5 0 c 9 Try.underlying9
    | some a =>
      rw [run_convert_bytes_string (P := Try.prog) w 22 9 5 (some a) _ c Try.underlying22 Try.underlying5 Try.underlying9]
      rw [run_bytesToString (P := Try.prog) w a _ c [] (by simp [loadCells, loadCellsFrom])]
      rfl

/-! ### Same -/
theorem str_eq {x y : ByteArray} : (x.toList == y.toList) = true ↔ x = y := by
  constructor
  · intro h
    have h' := eq_of_beq h
    rw [Lib.toList_data, Lib.toList_data] at h'
    exact dl_inj h'
  · intro h
    rw [h]
    exact beq_self_eq_true _
theorem str_dec (x y : ByteArray) : (x.toList == y.toList) = decide (x = y) := by
  rw [Bool.eq_iff_iff, str_eq, decide_eq_true_eq]
theorem bs_dec (x y : List UInt8) : ((bs x).toList == (bs y).toList) = decide (x = y) := by
  rw [str_dec, Bool.eq_iff_iff, decide_eq_true_eq, decide_eq_true_eq]
  exact ⟨bs_inj, fun h => by rw [h]⟩

end Go.Proofs.Ytbmeimpfehjnfaa
