/-
  What Flags and Flag answer, of the program and of the specification.
-/
import Derived.Test.YtbmeimpfehjnfaaText
namespace Go.Proofs.Ytbmeimpfehjnfaa
open Go.RowKit

/-- the number of flags -/
def fl : List Bool → Nat
  | [] => 0
  | b :: r => (if b then 1 else 0) + 2 * fl r
theorem fl_snoc (l : List Bool) (b : Bool) : fl (l ++ [b]) = fl l + (if b then 2 ^ l.length else 0) := by
  induction l with
  | nil => simp [fl]
  | cons x r ih =>
    rw [List.cons_append, fl, ih, fl, List.length_cons, Nat.pow_succ]
    cases b <;> simp <;> omega
theorem fl_lt (l : List Bool) : fl l < 2 ^ l.length := by
  induction l with
  | nil => simp [fl]
  | cons x r ih =>
    rw [fl, List.length_cons, Nat.pow_succ]
    cases x <;> simp <;> omega
theorem fl_bit (l : List Bool) (i : Nat) (b : Bool) (h : l[i]? = some b) : fl l / 2 ^ i % 2 = if b then 1 else 0 := by
  induction l generalizing i with
  | nil => simp at h
  | cons x r ih =>
    cases i with
    | zero =>
      simp at h
      subst h
      rw [fl]
      cases x <;> simp <;> omega
    | succ i =>
      simp at h
      have := ih i h
      rw [fl, Nat.pow_succ, Nat.mul_comm (2 ^ i) 2, ← Nat.div_div_eq_div_mul]
      have e : ((if x = true then 1 else 0) + 2 * fl r) / 2 = fl r := by cases x <;> simp <;> omega
      rw [e, this]
def flagsR (l : List Bool) : Nat := fl (l.take 32)
theorem fl_take {l : List Bool} {k : Nat} {b : Bool} (h : l[k]? = some b) : fl (l.take (k + 1)) = fl (l.take k) + (if b then 2 ^ k else 0) := by
  have hk := (List.getElem?_eq_some_iff.1 h).1
  rw [List.take_add_one, h]
  simp only [Option.toList]
  rw [fl_snoc, List.length_take, Nat.min_eq_left (by omega)]
theorem fl_take_lt (l : List Bool) (k : Nat) : fl (l.take k) < 2 ^ k := by
  refine Nat.lt_of_lt_of_le (fl_lt _) (Nat.pow_le_pow_right (by decide) ?_)
  rw [List.length_take]
  omega

theorem pow_le32 {k : Nat} (h : k ≤ 32) : 2 ^ k ≤ 4294967296 := Nat.le_trans (Nat.pow_le_pow_right (by decide) h) (by decide)
theorem or_form {n k : Nat} (h : n < 2 ^ k) (hk : k ≤ 32) : bits .or .i64 (n : Int) (wrap64 (2 ^ k)) = ((n + 2 ^ k : Nat) : Int) := by
  have hp := pow_le32 hk
  have e : wrap64 ((2 : Int) ^ k) = ((2 ^ k : Nat) : Int) := by
    rw [show ((2 : Int) ^ k) = ((2 ^ k : Nat) : Int) by simp, wrap64_id _ (by omega) (by omega)]
  have h1 : (BitVec.ofInt 64 (n : Int)).toNat = n := by rw [BitVec.toNat_ofInt]; omega
  have h2 : (BitVec.ofInt 64 ((2 ^ k : Nat) : Int)).toNat = 2 ^ k := by rw [BitVec.toNat_ofInt]; omega
  rw [e]
  show IntKind.i64.wrap ((BitVec.ofInt 64 (n : Int) ||| BitVec.ofInt 64 ((2 ^ k : Nat) : Int)).toNat : Nat) = _
  rw [BitVec.toNat_or, h1, h2]
  have h4 := Nat.two_pow_add_eq_or_of_lt (i := k) (b := n) h 1
  rw [Nat.mul_one] at h4
  rw [Nat.or_comm, ← h4, Nat.add_comm, IntKind.wrap_i64]
  omega

abbrev FL (w : World) (B : Nat) (A : Option Addr) (xs : List Bool) : Prop := CL Value.bool w B A xs
theorem infoF : (Try.prog.info? 4).map (fun i => (i.zero, i.size, i.bytes)) = some (some (.bool false), 1, 1) := by kernel_rfl
/-- bit i of n -/
def flagR (n i : Int) : Bool := if 0 ≤ i ∧ i < 32 then bits .and .i64 (n / 2 ^ i.toNat) 1 == 1 else false
theorem flagR_in (n : Int) {k : Nat} (h : k < 32) : flagR n (k : Int) = (bits .and .i64 (n / 2 ^ k) 1 == 1) := by
  unfold flagR
  rw [if_pos (by omega), Int.toNat_natCast]
theorem flagR_out (n : Int) {i : Int} (h : ¬ (0 ≤ i ∧ i < 32)) : flagR n i = false := by
  unfold flagR
  rw [if_neg h]
end Go.Proofs.Ytbmeimpfehjnfaa
