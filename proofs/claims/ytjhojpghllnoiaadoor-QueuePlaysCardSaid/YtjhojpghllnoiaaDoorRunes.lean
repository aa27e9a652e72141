/-
  A range over a text, rune by rune: a rune that is not ASCII consists of bytes that are not ASCII; IndexRune, IndexAny and ContainsAny at the two wildcards. Conditions: the text has at most 2^47 bytes.
-/
import Derived.Test.YtjhojpghllnoiaaDoorSpecFilter
import Derived.Lib.OthersKept
namespace Go.Proofs.YtjhojpghllnoiaaDoor.S1
open Go.RowKit

theorem decode_block (s : ByteArray) (pos : Nat) (h : pos < s.size) (ha : 128 ≤ (s[pos]'h).toNat) :
    pos + (Utf8.decode s pos).2 ≤ s.size ∧ ∀ k, k < (Utf8.decode s pos).2 → 128 ≤ (s.get! (pos + k)).toNat := by
  have hn : ¬ (s.get! (pos + 0)).toNat < 128 := by rw [get_at s pos h]; omega
  have one : pos + 1 ≤ s.size ∧ ∀ k, k < 1 → 128 ≤ (s.get! (pos + k)).toNat := ⟨h, fun k hk => by
    have : k = 0 := by omega
    subst this; omega⟩
  simp only [Utf8.decode, hn, if_false]
  split
  · next h1 =>
    simp only [Bool.and_eq_true, decide_eq_true_eq, beq_iff_eq] at h1
    split
    · refine ⟨by show pos + 2 ≤ s.size; omega, fun k hk => ?_⟩
      have hk' : k < 2 := hk
      rcases (show k = 0 ∨ k = 1 by omega) with rfl | rfl <;> omega
    · exact one
  split
  · next h1 =>
    simp only [Bool.and_eq_true, decide_eq_true_eq, beq_iff_eq] at h1
    split
    · refine ⟨by show pos + 3 ≤ s.size; omega, fun k hk => ?_⟩
      have hk' : k < 3 := hk
      rcases (show k = 0 ∨ k = 1 ∨ k = 2 by omega) with rfl | rfl | rfl <;> omega
    · exact one
  split
  · next h1 =>
    simp only [Bool.and_eq_true, decide_eq_true_eq, beq_iff_eq] at h1
    split
    · refine ⟨by show pos + 4 ≤ s.size; omega, fun k hk => ?_⟩
      have hk' : k < 4 := hk
      rcases (show k = 0 ∨ k = 1 ∨ k = 2 ∨ k = 3 by omega) with rfl | rfl | rfl | rfl <;> omega
    · exact one
  · exact one

theorem get_dl (s : ByteArray) (j : Nat) (h : j < s.size) : s.get! j = (dl s).getD j 0 := by
  rw [getD_dl s j h]
  have := get_at s j h
  simpa using this

/-- no byte before place i is one of these -/
def Free (l : List UInt8) (p : UInt8 → Bool) (i : Nat) : Prop := ∀ j, j < i → p (l.getD j 0) = true
theorem Free.zero (l : List UInt8) (p : UInt8 → Bool) : Free l p 0 := fun _ h => absurd h (Nat.not_lt_zero _)
theorem Free.succ {l : List UInt8} {p : UInt8 → Bool} {i : Nat} (h : Free l p i) (hi : p (l.getD i 0) = true) : Free l p (i + 1) := fun j hj => by
  rcases Nat.lt_succ_iff_lt_or_eq.1 hj with h' | h'
  · exact h j h'
  · subst h'; exact hi
/-- past a rune that is not ASCII, where no byte from 128 on is forbidden -/
theorem Free.rune {s : ByteArray} {p : UInt8 → Bool} {i d : Nat} (h : Free (dl s) p i) (hi : i < s.size) (ha : 128 ≤ (s[i]'hi).toNat) (hd : (Utf8.decode s i).2 = d) (hp : ∀ c : UInt8, 128 ≤ c.toNat → p c = true) :
    Free (dl s) p (i + d) ∧ i + d ≤ s.size := by
  obtain ⟨h1, h2⟩ := decode_block s i hi ha
  rw [hd] at h1 h2
  refine ⟨fun j hj => ?_, h1⟩
  rcases Nat.lt_or_ge j i with h' | h'
  · exact h j h'
  · have := h2 (j - i) (by omega)
    rw [show i + (j - i) = j by omega, get_dl s j (by omega)] at this
    exact hp _ this
theorem Free.all {l : List UInt8} {p : UInt8 → Bool} (h : Free l p l.length) : l.all p = true := by
  rw [List.all_eq_true]
  intro c hc
  obtain ⟨i, hi, e⟩ := T.mem_getD 0 hc
  rw [← e]; exact h i hi
theorem free_bad {l : List UInt8} {p : UInt8 → Bool} {i : Nat} (hi : i < l.length) (h : p (l.getD i 0) = false) : l.all p = false := by
  rw [List.all_eq_false]
  exact ⟨_, T.getD_mem l i 0 hi, by rw [h]; decide⟩

/-- the bytes that string(r) has -/
theorem encode_size (r : Nat) (h : 128 ≤ r) : 2 ≤ (Utf8.encode r).size := by
  unfold Utf8.encode
  have h1 : ∀ c : Nat, 128 ≤ c → 2 ≤ (if c < 0x80 then (⟨#[UInt8.ofNat c]⟩ : ByteArray)
    else if c < 0x800 then ⟨#[UInt8.ofNat (0xC0 + c / 64), UInt8.ofNat (0x80 + c % 64)]⟩
    else if c < 0x10000 then ⟨#[UInt8.ofNat (0xE0 + c / 4096), UInt8.ofNat (0x80 + c / 64 % 64), UInt8.ofNat (0x80 + c % 64)]⟩
    else ⟨#[UInt8.ofNat (0xF0 + c / 262144), UInt8.ofNat (0x80 + c / 4096 % 64), UInt8.ofNat (0x80 + c / 64 % 64), UInt8.ofNat (0x80 + c % 64)]⟩).size := by
    intro c hc
    rw [if_neg (by omega)]
    split
    · exact Nat.le_refl 2
    split
    · exact Nat.le_succ 2
    · show 2 ≤ 4; omega
  split
  · exact h1 _ (by omega)
  · exact h1 _ (by decide)
theorem encode_le (r : Nat) : (Utf8.encode r).size ≤ 4 := by
  unfold Utf8.encode
  have h1 : ∀ c : Nat, (if c < 0x80 then (⟨#[UInt8.ofNat c]⟩ : ByteArray)
    else if c < 0x800 then ⟨#[UInt8.ofNat (0xC0 + c / 64), UInt8.ofNat (0x80 + c % 64)]⟩
    else if c < 0x10000 then ⟨#[UInt8.ofNat (0xE0 + c / 4096), UInt8.ofNat (0x80 + c / 64 % 64), UInt8.ofNat (0x80 + c % 64)]⟩
    else ⟨#[UInt8.ofNat (0xF0 + c / 262144), UInt8.ofNat (0x80 + c / 4096 % 64), UInt8.ofNat (0x80 + c / 64 % 64), UInt8.ofNat (0x80 + c % 64)]⟩).size ≤ 4 := by
    intro c
    split
    · show 1 ≤ 4; omega
    split
    · show 2 ≤ 4; omega
    split
    · show 3 ≤ 4; omega
    · show 4 ≤ 4; omega
  exact h1 _
/-- of two bytes, the second is not ASCII -/
theorem encode_two (r : Nat) (h : 128 ≤ r) (h2 : (Utf8.encode r).size = 2) : ∃ a b : UInt8, Utf8.encode r = ⟨#[a, b]⟩ ∧ 128 ≤ b.toNat := by
  unfold Utf8.encode at h2 ⊢
  have h1 : ∀ c : Nat, 128 ≤ c → (if c < 0x80 then (⟨#[UInt8.ofNat c]⟩ : ByteArray)
    else if c < 0x800 then ⟨#[UInt8.ofNat (0xC0 + c / 64), UInt8.ofNat (0x80 + c % 64)]⟩
    else if c < 0x10000 then ⟨#[UInt8.ofNat (0xE0 + c / 4096), UInt8.ofNat (0x80 + c / 64 % 64), UInt8.ofNat (0x80 + c % 64)]⟩
    else ⟨#[UInt8.ofNat (0xF0 + c / 262144), UInt8.ofNat (0x80 + c / 4096 % 64), UInt8.ofNat (0x80 + c / 64 % 64), UInt8.ofNat (0x80 + c % 64)]⟩).size = 2 →
    ∃ a b : UInt8, (if c < 0x80 then (⟨#[UInt8.ofNat c]⟩ : ByteArray)
    else if c < 0x800 then ⟨#[UInt8.ofNat (0xC0 + c / 64), UInt8.ofNat (0x80 + c % 64)]⟩
    else if c < 0x10000 then ⟨#[UInt8.ofNat (0xE0 + c / 4096), UInt8.ofNat (0x80 + c / 64 % 64), UInt8.ofNat (0x80 + c % 64)]⟩
    else ⟨#[UInt8.ofNat (0xF0 + c / 262144), UInt8.ofNat (0x80 + c / 4096 % 64), UInt8.ofNat (0x80 + c / 64 % 64), UInt8.ofNat (0x80 + c % 64)]⟩) = ⟨#[a, b]⟩ ∧ 128 ≤ b.toNat := by
    intro c hc
    rw [if_neg (by omega)]
    split
    · intro _
      exact ⟨_, _, rfl, by simp; omega⟩
    split
    · intro e; exact absurd e (by show ¬ (3 = 2); decide)
    · intro e; exact absurd e (by show ¬ (4 = 2); decide)
  split
  · next hv => rw [if_pos hv] at h2; exact h1 _ (by omega) h2
  · next hv => rw [if_neg hv] at h2; exact h1 _ (by decide) h2

end Go.Proofs.YtjhojpghllnoiaaDoor.S1
