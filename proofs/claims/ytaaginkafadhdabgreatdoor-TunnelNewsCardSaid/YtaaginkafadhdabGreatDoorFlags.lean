/-
  What Flags and Flag answer, of the program and of the specification.
-/
import Derived.Test.YtaaginkafadhdabGreatDoorText
namespace Go.Proofs.YtaaginkafadhdabGreatDoor
open Go.RowKit

/-- the number of flags -/
def fl : List Bool → Nat
  | [] => 0
  | b :: r => (if b then 1 else 0) + 2 * fl r
theorem fl_snoc (l : List Bool) (b : Bool) : fl (l ++ [b]) = fl l + (if b then 2 ^ l.length else 0) := by
  induction l with
  | nil => simp [fl]
  | cons x r ih =>
    rw [List.cons_append, fl, ih, fl, List.length_cons, Nat.pow_succ]
    cases b <;> simp <;> omega
theorem fl_lt (l : List Bool) : fl l < 2 ^ l.length := by
  induction l with
  | nil => simp [fl]
  | cons x r ih =>
    rw [fl, List.length_cons, Nat.pow_succ]
    cases x <;> simp <;> omega
theorem fl_bit (l : List Bool) (i : Nat) (b : Bool) (h : l[i]? = some b) : fl l / 2 ^ i % 2 = if b then 1 else 0 := by
  induction l generalizing i with
  | nil => simp at h
  | cons x r ih =>
    cases i with
    | zero =>
      simp at h
      subst h
      rw [fl]
      cases x <;> simp <;> omega
    | succ i =>
      simp at h
      have := ih i h
      rw [fl, Nat.pow_succ, Nat.mul_comm (2 ^ i) 2, ← Nat.div_div_eq_div_mul]
      have e : ((if x = true then 1 else 0) + 2 * fl r) / 2 = fl r := by cases x <;> simp <;> omega
      rw [e, this]
def flagsR (l : List Bool) : Nat := fl (l.take 32)
theorem fl_take {l : List Bool} {k : Nat} {b : Bool} (h : l[k]? = some b) : fl (l.take (k + 1)) = fl (l.take k) + (if b then 2 ^ k else 0) := by
  have hk := (List.getElem?_eq_some_iff.1 h).1
  rw [List.take_add_one, h]
  simp only [Option.toList]
  rw [fl_snoc, List.length_take, Nat.min_eq_left (by omega)]
theorem fl_take_lt (l : List Bool) (k : Nat) : fl (l.take k) < 2 ^ k := by
  refine Nat.lt_of_lt_of_le (fl_lt _) (Nat.pow_le_pow_right (by decide) ?_)
  rw [List.length_take]
  omega

theorem pow_le32 {k : Nat} (h : k ≤ 32) : 2 ^ k ≤ 4294967296 := Nat.le_trans (Nat.pow_le_pow_right (by decide) h) (by decide)
theorem or_form {n k : Nat} (h : n < 2 ^ k) (hk : k ≤ 32) : bits .or .i64 (n : Int) (wrap64 (2 ^ k)) = ((n + 2 ^ k : Nat) : Int) := by
  have hp := pow_le32 hk
  have e : wrap64 ((2 : Int) ^ k) = ((2 ^ k : Nat) : Int) := by
    rw [show ((2 : Int) ^ k) = ((2 ^ k : Nat) : Int) by simp, wrap64_id _ (by omega) (by omega)]
  have h1 : (BitVec.ofInt 64 (n : Int)).toNat = n := by rw [BitVec.toNat_ofInt]; omega
  have h2 : (BitVec.ofInt 64 ((2 ^ k : Nat) : Int)).toNat = 2 ^ k := by rw [BitVec.toNat_ofInt]; omega
  rw [e]
  show IntKind.i64.wrap ((BitVec.ofInt 64 (n : Int) ||| BitVec.ofInt 64 ((2 ^ k : Nat) : Int)).toNat : Nat) = _
  rw [BitVec.toNat_or, h1, h2]
  have h4 := Nat.two_pow_add_eq_or_of_lt (i := k) (b := n) h 1
  rw [Nat.mul_one] at h4
  rw [Nat.or_comm, ← h4, Nat.add_comm, IntKind.wrap_i64]
  omega

abbrev FL (w : World) (B : Nat) (A : Option Addr) (xs : List Bool) : Prop := CL Value.bool w B A xs
theorem elemF : Tryz.prog.elem 123 = 4 := by kernel_rfl
theorem undF : Tryz.prog.underlying 123 = some (.slice (Tryz.prog.elem 123)) := by rw [elemF]; exact Tryz.underlying123
theorem infoF : (Tryz.prog.info? 4).map (fun i => (i.zero, i.size, i.bytes)) = some (some (.bool false), 1, 1) := by kernel_rfl
theorem sizeF (w : World) : (sizeOf (Tryz.prog.elem 123)).run Tryz.prog w = .ok 1 w := by
  obtain ⟨i, hi, hz, hz1, hz2⟩ := info_parts infoF
  rw [elemF]
  simp [sizeOf, typeInfo, hi, hz1]
theorem slice_hF (A : Option Addr) (c : Nat) (xs : List Bool) (h : Nat) (hh : h ≤ xs.length) (hc : xs.length ≤ c) :
    ∃ A2, (∀ w, (Instr.slice 123 (.slice A xs.length c) none (some (.int .i64 h)) none).run Tryz.prog w = .ok (.slice A2 (xs.take h).length c) w) ∧ ∀ w B, FL w B A xs → FL w B A2 (xs.take h) := by
  have e : (xs.take h).length = h := by rw [List.length_take]; omega
  refine ⟨if c = 0 then A else A.map (·.add (0 * 1)), fun w => ?_, fun w B hs => ?_⟩
  · rw [run_slice_h (P := Tryz.prog) w 123 A xs.length c undF .i64 h (by omega) (by omega), sizeF, e]
    simp [Result.andThen, sliced]
  · have := (cut_addr hs (k := 0) (m := c) (by omega) (fun _ => by omega))
    rw [List.drop_zero] at this
    exact this.take _

set_option maxHeartbeats 1000000 in
theorem flags_any (A : Option Addr) (c : Nat) (l : List Bool) (w : World) (B : Nat) (hsl : FL w B A l) (hc : l.length ≤ c) (hn : l.length ≤ 140737488355328) :
    Calls Tryz.prog 91 #[.slice A l.length c] w fun e w' => e = .returned (.int .i64 (flagsR l)) ∧ w = w' := by
  obtain ⟨A2, hs, hcl⟩ := slice_hF A c l (min l.length 32) (by omega) hc
  have HS := Lib.hid (hcl w B hsl)
  have hs' := hs w
  have e0 : l.take (min l.length 32) = l.take 32 := by
    by_cases h : l.length ≤ 32
    · rw [Nat.min_eq_left h, List.take_length, List.take_of_length_le h]
    · rw [Nat.min_eq_right (by omega)]
  have e1 : ((min l.length 32 : Nat) : Int) = min (l.length : Int) 32 := by omega
  unfold flagsR
  rw [e0] at HS hs'
  rw [e1] at hs'
  have hl32 : (l.take 32).length ≤ 32 := by rw [List.length_take]; omega
  generalize l.take 32 = L at HS hs' hl32 ⊢
  clear hs hcl hsl e0 e1
  go_enter Tryz.func91, Tryz.ntmps91
  go_wp2
  go_loop [3, 4, 5, 12] (fun n _ _ i => ∃ (k : Nat), i = .int .i64 k ∧ n = .int .i64 (fl (L.take k)) ∧ k ≤ L.length) (fun _ _ _ i => L.length - (intOf i).toNat)
  case atStart => exact ⟨0, rfl, rfl, by omega⟩
  case round =>
    obtain ⟨i, rfl, rfl, hi⟩ := hrel
    by_cases hlt : i < L.length
    · obtain ⟨b, o, rfl, hbB, hcl⟩ := HS.out (by omega)
      obtain ⟨x, hx⟩ : ∃ x, L[i]? = some x := ⟨_, List.getElem?_eq_getElem hlt⟩
      have k1 := hcl i x hx
      have HX := Lib.hid (fl_take hx)
      have HO := Lib.hid (or_form (fl_take_lt L i) (by omega))
      clear hcl hx
      generalize fl (L.take i) = n at HX HO ⊢
      cases x
      · go_wp2
        exact ⟨⟨i + 1, by go_num, by rw [HX.out]; rfl, by omega⟩, by simp [intOf]; omega⟩
      · go_wp2
        exact ⟨⟨i + 1, by go_num, by rw [HX.out]; exact congrArg (Value.int .i64) HO.out, by omega⟩, by simp [intOf]; omega⟩
    · obtain rfl : i = L.length := by omega
      go_wp2
      go_ret
      exact ⟨rfl, rfl⟩

/-- bit i of n -/
def flagR (n i : Int) : Bool := if 0 ≤ i ∧ i < 32 then bits .and .i64 (n / 2 ^ i.toNat) 1 == 1 else false
theorem flagR_in (n : Int) {k : Nat} (h : k < 32) : flagR n (k : Int) = (bits .and .i64 (n / 2 ^ k) 1 == 1) := by
  unfold flagR
  rw [if_pos (by omega), Int.toNat_natCast]
theorem flagR_out (n : Int) {i : Int} (h : ¬ (0 ≤ i ∧ i < 32)) : flagR n i = false := by
  unfold flagR
  rw [if_neg h]
set_option maxHeartbeats 1000000 in
theorem flag_any (n i : Int) (h3 : -9223372036854775808 ≤ i) (h4 : i ≤ 9223372036854775807) (w : World) :
    Calls Tryz.prog 96 #[.int .i64 n, .int .i64 i] w fun e w' => e = .returned (.bool (flagR n i)) ∧ w = w' := by
  by_cases hi : 0 ≤ i ∧ i < 32
  · obtain ⟨k, rfl⟩ := Int.eq_ofNat_of_zero_le hi.1
    rw [flagR_in n (by omega)]
    have hk : k < 32 := by omega
    clear hi
    go_enter Tryz.func96, Tryz.ntmps96
    go_wp2
    go_ret
    exact ⟨rfl, rfl⟩
  · rw [flagR_out n hi]
    have HI := Lib.hid hi
    by_cases h0 : 0 ≤ i
    · have h32 : 32 ≤ i := by omega
      clear hi
      go_enter Tryz.func96, Tryz.ntmps96
      go_wp2
      go_ret
      exact ⟨rfl, rfl⟩
    · clear hi
      go_enter Tryz.func96, Tryz.ntmps96
      go_wp2
      go_ret
      exact ⟨rfl, rfl⟩
end Go.Proofs.YtaaginkafadhdabGreatDoor
