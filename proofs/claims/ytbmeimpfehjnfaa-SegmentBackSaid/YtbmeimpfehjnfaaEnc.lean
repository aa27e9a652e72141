/-
  The encoding of numbers, as lists of bytes: its writing, its reading, and what joins them. No function of the program is walked here.
-/
import Derived.Test.YtbmeimpfehjnfaaProg
import Derived.WalkKit
namespace Go.Proofs.Ytbmeimpfehjnfaa

/-- the code of a number -/
def cdN (n : Int) : Nat := if 0 ≤ n then (2 * n).toNat else (-2 * n - 1).toNat
/-- the number with a code -/
def ncI (c : Nat) : Int := if c % 2 = 0 then ((c / 2 : Nat) : Int) else -((c / 2 : Nat) : Int) - 1
theorem nc_cd (n : Int) : ncI (cdN n) = n := by
  unfold ncI cdN
  split <;> split <;> omega
theorem cd_nc (c : Nat) : cdN (ncI c) = c := by
  unfold ncI cdN
  split <;> split <;> omega
theorem cd_lt {n : Int} (h1 : -9223372036854775808 ≤ n) (h2 : n ≤ 9223372036854775807) : cdN n < 18446744073709551616 := by
  unfold cdN
  split <;> omega
theorem nc_range {c : Nat} (h : c < 18446744073709551616) : -9223372036854775808 ≤ ncI c ∧ ncI c ≤ 9223372036854775807 := by
  unfold ncI
  split <;> omega

/-- the groups of a code, with so many groups more than one at most -/
def encF : Nat → Nat → List UInt8
  | 0, c => [UInt8.ofNat c]
  | f + 1, c => if c < 128 then [UInt8.ofNat c] else UInt8.ofNat (c % 128 + 128) :: encF f (c / 128)
def enc (n : Int) : List UInt8 := encF 9 (cdN n)
theorem encF_small (f c : Nat) (h : c < 128) : encF f c = [UInt8.ofNat c] := by
  cases f with
  | zero => rfl
  | succ f => rw [encF, if_pos h]
theorem encF_big (f c : Nat) (h : ¬ c < 128) : encF (f + 1) c = UInt8.ofNat (c % 128 + 128) :: encF f (c / 128) := by rw [encF, if_neg h]
theorem encF_len (f c : Nat) : 1 ≤ (encF f c).length ∧ (encF f c).length ≤ f + 1 := by
  induction f generalizing c with
  | zero => simp [encF]
  | succ f ih =>
    rw [encF]
    split
    · simp
    · have := ih (c / 128)
      simp only [List.length_cons]
      omega
theorem enc_len (n : Int) : 1 ≤ (enc n).length ∧ (enc n).length ≤ 10 := encF_len 9 _
theorem pow128 (f : Nat) : 128 ^ (f + 1) = 128 ^ f * 128 := Nat.pow_succ ..
theorem div_lt128 {c f : Nat} (h : c < 128 ^ (f + 1)) : c / 128 < 128 ^ f := by
  rw [pow128] at h
  exact Nat.div_lt_of_lt_mul (by rw [Nat.mul_comm]; exact h)

/-- reading: the error, the code, the bytes read -/
def rdF : Nat → Nat → List UInt8 → Nat × Nat × Nat
  | _, _, [] => (3, 0, 0)
  | i, acc, c :: r =>
    if i = 9 ∧ 1 < c.toNat then (2, 0, 0)
    else if 128 ≤ c.toNat then rdF (i + 1) (acc + (c.toNat % 128) * 128 ^ i) r
    else if c.toNat = 0 ∧ 0 < i then (2, 0, 0)
    else (0, acc + c.toNat * 128 ^ i, i + 1)

theorem toNat_ofNat8 {c : Nat} (h : c < 256) : (UInt8.ofNat c).toNat = c := by
  rw [UInt8.toNat_ofNat']
  omega

/-- what was written is read -/
theorem rdF_enc (r : List UInt8) : ∀ (f c i acc : Nat), i + f = 9 → (i = 9 → c ≤ 1) → (f = 0 ∨ c < 128 ^ f * 2) → (0 < i → 0 < c) → rdF i acc (encF f c ++ r) = (0, acc + c * 128 ^ i, i + (encF f c).length) := by
  intro f
  induction f with
  | zero =>
    intro c i acc hi h9 _ h0
    have h1 := h9 (by omega)
    have ht := toNat_ofNat8 (c := c) (by omega)
    simp only [encF, List.cons_append, List.nil_append, rdF, ht, List.length_cons, List.length_nil]
    rw [if_neg (by omega), if_neg (by omega), if_neg (by omega)]
  | succ f ih =>
    intro c i acc hi h9 hc h0
    have hc : c < 128 ^ (f + 1) * 2 := by
      rcases hc with h | h
      · omega
      · exact h
    by_cases hs : c < 128
    · rw [encF_small _ _ hs]
      have ht := toNat_ofNat8 (c := c) (by omega)
      simp only [List.cons_append, List.nil_append, rdF, ht, List.length_cons, List.length_nil]
      rw [if_neg (by omega), if_neg (by omega), if_neg (by omega)]
    · rw [encF_big _ _ hs]
      have ht := toNat_ofNat8 (c := c % 128 + 128) (by omega)
      simp only [List.cons_append, rdF, ht, List.length_cons]
      rw [if_neg (by omega), if_pos (by omega)]
      have hd : c / 128 < 128 ^ f * 2 := by
        rw [pow128] at hc
        exact Nat.div_lt_of_lt_mul (by rw [Nat.mul_comm 128, Nat.mul_assoc, Nat.mul_comm 2, ← Nat.mul_assoc]; exact hc)
      have hh9 : i + 1 = 9 → c / 128 ≤ 1 := fun h => by
        have hf : f = 0 := by omega
        subst hf
        simp only [Nat.pow_zero, Nat.one_mul] at hd
        omega
      have hhd : f = 0 ∨ c / 128 < 128 ^ f * 2 := Or.inr hd
      rw [ih (c / 128) (i + 1) _ (by omega) hh9 hhd (fun _ => by omega)]
      have e1 : (c % 128 + 128) % 128 = c % 128 := by omega
      have e2 : 128 ^ (i + 1) = 128 * 128 ^ i := by rw [pow128, Nat.mul_comm]
      have e3 : c / 128 * 128 ^ (i + 1) = c / 128 * 128 * 128 ^ i := by rw [e2, Nat.mul_assoc]
      have e4 : c = c % 128 + c / 128 * 128 := by omega
      have e5 : c * 128 ^ i = (c % 128) * 128 ^ i + c / 128 * 128 * 128 ^ i := by rw [← Nat.add_mul, ← e4]
      refine Prod.ext rfl (Prod.ext ?_ ?_)
      · show acc + (c % 128 + 128) % 128 * 128 ^ i + c / 128 * 128 ^ (i + 1) = acc + c * 128 ^ i
        rw [e1, e3, e5, Nat.add_assoc]
      · show i + 1 + (encF f (c / 128)).length = i + ((encF f (c / 128)).length + 1)
        omega

theorem rd_enc (n : Int) (h1 : -9223372036854775808 ≤ n) (h2 : n ≤ 9223372036854775807) (r : List UInt8) : rdF 0 0 (enc n ++ r) = (0, cdN n, (enc n).length) := by
  have hc := cd_lt h1 h2
  unfold enc
  have hp : 128 ^ 9 * 2 = 18446744073709551616 := by decide
  have hb : cdN n < 128 ^ 9 * 2 := by rw [hp]; exact hc
  rw [rdF_enc r 9 (cdN n) 0 0 (by omega) (fun h => by omega) (Or.inr hb) (fun h => by omega)]
  simp

/-- what ends too early -/
theorem rdF_torn : ∀ (f c i acc j : Nat), i + f = 9 → j < (encF f c).length → rdF i acc ((encF f c).take j) = (3, 0, 0) := by
  intro f
  induction f with
  | zero =>
    intro c i acc j hi hj
    simp only [encF, List.length_cons, List.length_nil] at hj
    obtain rfl : j = 0 := by omega
    simp [rdF]
  | succ f ih =>
    intro c i acc j hi hj
    cases j with
    | zero => simp [rdF]
    | succ j =>
      by_cases hs : c < 128
      · rw [encF_small _ _ hs] at hj
        simp at hj
      · rw [encF_big _ _ hs] at hj ⊢
        have ht := toNat_ofNat8 (c := c % 128 + 128) (by omega)
        simp only [List.take_succ_cons, rdF, ht]
        rw [if_neg (by omega), if_pos (by omega)]
        exact ih _ _ _ _ (by omega) (by simpa using hj)
theorem rd_torn (n : Int) (j : Nat) (h : j < (enc n).length) : rdF 0 0 ((enc n).take j) = (3, 0, 0) := rdF_torn 9 _ 0 0 j (by omega) h

/-- what is read was written -/
theorem rdF_only : ∀ (l : List UInt8) (i acc c k : Nat), i ≤ 9 → rdF i acc l = (0, c, k) →
    ∃ d, c = acc + d * 128 ^ i ∧ k ≤ i + l.length ∧ i + 1 ≤ k ∧ k ≤ 10 ∧ encF (9 - i) d = l.take (k - i) ∧ (0 < i → 0 < d) ∧ d < 128 ^ (9 - i) * 2 := by
  intro l
  induction l with
  | nil => intro i acc c k hi h; simp [rdF] at h
  | cons x r ih =>
    intro i acc c k hi h
    rw [rdF] at h
    have hx256 : x.toNat < 256 := x.toNat_lt
    have hxo : UInt8.ofNat x.toNat = x := by simp
    split at h
    · simp at h
    · next h9 =>
      split at h
      · next h128 =>
        have hi9 : i < 9 := by omega
        obtain ⟨d, hc, hk, hik, hk10, henc, hd0, hdl⟩ := ih (i + 1) _ c k (by omega) h
        have hdpos := hd0 (by omega)
        have e8 : 9 - i = (9 - (i + 1)) + 1 := by omega
        refine ⟨x.toNat % 128 + d * 128, ?_, by simp; omega, by omega, by omega, ?_, fun _ => by omega, ?_⟩
        · rw [hc, Nat.add_mul, pow128]
          have : d * (128 ^ i * 128) = d * 128 * 128 ^ i := by rw [Nat.mul_comm (128 ^ i), Nat.mul_assoc]
          rw [this]
          omega
        · rw [e8, encF_big _ _ (by omega)]
          have e9 : k - i = (k - (i + 1)) + 1 := by omega
          rw [e9, List.take_succ_cons, ← henc]
          have e10 : (x.toNat % 128 + d * 128) % 128 + 128 = x.toNat := by omega
          have e11 : (x.toNat % 128 + d * 128) / 128 = d := by omega
          rw [e10, e11, hxo]
        · rw [e8, pow128]
          have : 128 ^ (9 - (i + 1)) * 128 * 2 = 128 ^ (9 - (i + 1)) * 2 * 128 := by rw [Nat.mul_assoc, Nat.mul_comm 128 2, ← Nat.mul_assoc]
          rw [this]
          omega
      · next h128 =>
        split at h
        · simp at h
        · next h0 =>
          simp only [Prod.mk.injEq, true_and] at h
          obtain ⟨rfl, rfl⟩ := h
          have hp : 0 < 128 ^ (9 - i) := Nat.pow_pos (by decide)
          refine ⟨x.toNat, rfl, by simp, by omega, by omega, ?_, fun _ => by omega, ?_⟩
          · rw [encF_small _ _ (by omega), hxo, show i + 1 - i = 1 by omega]
            simp
          · by_cases hi9 : i = 9
            · subst hi9
              simp only [Nat.sub_self, Nat.pow_zero, Nat.one_mul]
              omega
            · have e8 : 9 - i = (8 - i) + 1 := by omega
              have hp8 : 0 < 128 ^ (8 - i) := Nat.pow_pos (by decide)
              rw [e8, pow128]
              omega
theorem rd_only {l : List UInt8} {c k : Nat} (h : rdF 0 0 l = (0, c, k)) : c < 18446744073709551616 ∧ 1 ≤ k ∧ k ≤ 10 ∧ k ≤ l.length ∧ enc (ncI c) = l.take k := by
  obtain ⟨d, hc, hk, hik, hk10, henc, _, hdl⟩ := rdF_only l 0 0 c k (by omega) h
  simp only [Nat.zero_add, Nat.pow_zero, Nat.mul_one, Nat.sub_zero] at hc hk henc hdl hik
  subst hc
  have : 128 ^ 9 * 2 = 18446744073709551616 := by decide
  refine ⟨by omega, by omega, hk10, hk, ?_⟩
  unfold enc
  rw [cd_nc]
  exact henc
theorem rdF_err : ∀ (l : List UInt8) (i acc e c k : Nat), rdF i acc l = (e, c, k) → e ≠ 0 → c = 0 ∧ k = 0 ∧ (e = 2 ∨ e = 3) := by
  intro l
  induction l with
  | nil => intro i acc e c k h _; simp [rdF] at h; omega
  | cons x r ih =>
    intro i acc e c k h he
    rw [rdF] at h
    split at h
    · simp at h; omega
    · split at h
      · exact ih _ _ _ _ _ h he
      · split at h
        · simp at h; omega
        · simp at h; omega

end Go.Proofs.Ytbmeimpfehjnfaa
