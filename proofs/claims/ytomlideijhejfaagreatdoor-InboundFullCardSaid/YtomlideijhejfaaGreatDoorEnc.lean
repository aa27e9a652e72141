/-
  The encoding of numbers, as lists of bytes: its writing, its reading, and what joins them. No function of the program is walked here.
-/
import Derived.Test.YtomlideijhejfaaGreatDoorProg
import Derived.WalkKit
namespace Go.Proofs.YtomlideijhejfaaGreatDoor

/-- the code of a number -/
def cdN (n : Int) : Nat := if 0 ≤ n then (2 * n).toNat else (-2 * n - 1).toNat
theorem cd_lt {n : Int} (h1 : -9223372036854775808 ≤ n) (h2 : n ≤ 9223372036854775807) : cdN n < 18446744073709551616 := by
  unfold cdN
  split <;> omega
/-- the groups of a code, with so many groups more than one at most -/
def encF : Nat → Nat → List UInt8
  | 0, c => [UInt8.ofNat c]
  | f + 1, c => if c < 128 then [UInt8.ofNat c] else UInt8.ofNat (c % 128 + 128) :: encF f (c / 128)
def enc (n : Int) : List UInt8 := encF 9 (cdN n)
theorem encF_small (f c : Nat) (h : c < 128) : encF f c = [UInt8.ofNat c] := by
  cases f with
  | zero => rfl
  | succ f => rw [encF, if_pos h]
theorem encF_big (f c : Nat) (h : ¬ c < 128) : encF (f + 1) c = UInt8.ofNat (c % 128 + 128) :: encF f (c / 128) := by rw [encF, if_neg h]
theorem encF_len (f c : Nat) : 1 ≤ (encF f c).length ∧ (encF f c).length ≤ f + 1 := by
  induction f generalizing c with
  | zero => simp [encF]
  | succ f ih =>
    rw [encF]
    split
    · simp
    · have := ih (c / 128)
      simp only [List.length_cons]
      omega
theorem pow128 (f : Nat) : 128 ^ (f + 1) = 128 ^ f * 128 := Nat.pow_succ ..
theorem div_lt128 {c f : Nat} (h : c < 128 ^ (f + 1)) : c / 128 < 128 ^ f := by
  rw [pow128] at h
  exact Nat.div_lt_of_lt_mul (by rw [Nat.mul_comm]; exact h)

/-- reading: the error, the code, the bytes read -/
def rdF : Nat → Nat → List UInt8 → Nat × Nat × Nat
  | _, _, [] => (3, 0, 0)
  | i, acc, c :: r =>
    if i = 9 ∧ 1 < c.toNat then (2, 0, 0)
    else if 128 ≤ c.toNat then rdF (i + 1) (acc + (c.toNat % 128) * 128 ^ i) r
    else if c.toNat = 0 ∧ 0 < i then (2, 0, 0)
    else (0, acc + c.toNat * 128 ^ i, i + 1)

end Go.Proofs.YtomlideijhejfaaGreatDoor
