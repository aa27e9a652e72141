/-
  Plain lists of levels: when one covers another, when two meet, what they have in common (no program, no run). Conditions: as in each theorem.
-/
import Derived.Test.YtoakhkiiefiebaaDoorPure
import Derived.Test.YtoakhkiiefiebaaDoorMem
namespace Go.Proofs.YtoakhkiiefiebaaDoor.S1

def plusB : ByteArray := bs [43]
def hashB : ByteArray := bs [35]
def exB : ByteArray := bs [120]

/-- do the levels a cover the levels b? -/
def covB : List ByteArray → List ByteArray → Bool
  | [], b => b.isEmpty
  | x :: a, b => if x = hashB then true else match b with
    | [] => false
    | y :: b' => (if x = plusB then decide (y ≠ hashB) else decide (x = y)) && covB a b'

def metB : List ByteArray → List ByteArray → Bool
  | [], [] => true
  | [], y :: _ => decide (y = hashB)
  | x :: _, [] => decide (x = hashB)
  | x :: a, y :: b => if x = hashB ∨ y = hashB then true else (decide (x = y) || decide (x = plusB) || decide (y = plusB)) && metB a b

/-- a level of a filter: a wildcard by itself, or without wildcards -/
def LevOk (x : ByteArray) : Prop := x = plusB ∨ x = hashB ∨ T.wildFree (dl x) = true
/-- levels of a filter: each is one, and only the last may be the sign # -/
def FilOk : List ByteArray → Prop
  | [] => True
  | x :: a => LevOk x ∧ (x = hashB → a = []) ∧ FilOk a

/-- the level that two levels agree on -/
def pick (x y : ByteArray) : ByteArray := if x ≠ plusB then x else if y ≠ plusB then y else exB
def plainB (a : List ByteArray) : List ByteArray := (a.filter fun x => decide (x ≠ hashB)).map fun x => if x = plusB then exB else x
def openB : List ByteArray → Bool
  | [] => false
  | x :: _ => decide (x = hashB)
def tailB (a b : List ByteArray) : Option (List ByteArray) := if !openB a && !openB b && decide (a.length ≠ b.length) then none else some (plainB a ++ plainB b)
def comB : List ByteArray → List ByteArray → Option (List ByteArray)
  | x :: a, y :: b => if x = hashB ∨ y = hashB then tailB (x :: a) (y :: b) else
      if x ≠ plusB ∧ y ≠ plusB ∧ x ≠ y then none else (comB a b).map (pick x y :: ·)
  | a, b => tailB a b

theorem hash_ne_plus : hashB ≠ plusB := by decide +kernel

/-- filters meet exactly if they have something in common -/
theorem com_met : ∀ (a b : List ByteArray), FilOk a → FilOk b → (comB a b).isSome = metB a b
  | [], [], _, _ => by simp [comB, tailB, metB, openB]
  | [], y :: b, _, _ => by
    simp only [comB, tailB, metB, openB]
    by_cases h : y = hashB <;> simp [h]
  | x :: a, [], _, _ => by
    simp only [comB, tailB, metB, openB]
    by_cases h : x = hashB <;> simp [h]
  | x :: a, y :: b, ha, hb => by
    simp only [comB, metB]
    by_cases h : x = hashB ∨ y = hashB
    · rw [if_pos h, if_pos h]
      unfold tailB openB
      rcases h with h | h <;> simp [h]
    · rw [if_neg h, if_neg h]
      by_cases h2 : x ≠ plusB ∧ y ≠ plusB ∧ x ≠ y
      · rw [if_pos h2]
        simp [h2.1, h2.2.1, h2.2.2]
      · rw [if_neg h2, Option.isSome_map, com_met a b ha.2.2 hb.2.2]
        have : (decide (x = y) || decide (x = plusB) || decide (y = plusB)) = true := by
          by_cases e1 : x = plusB
          · simp [e1]
          · by_cases e2 : y = plusB
            · simp [e2]
            · by_cases e3 : x = y
              · simp [e3]
              · exact absurd ⟨e1, e2, e3⟩ h2
        rw [this, Bool.true_and]

theorem cov_refl : ∀ (a : List ByteArray), FilOk a → covB a a = true
  | [], _ => rfl
  | x :: a, h => by
    unfold covB
    by_cases hx : x = hashB
    · rw [if_pos hx]
    · rw [if_neg hx]
      simp only
      rw [cov_refl a h.2.2, Bool.and_true]
      by_cases hp : x = plusB
      · rw [if_pos hp]; simp [hx]
      · rw [if_neg hp]; simp

theorem cov_trans : ∀ (a b c : List ByteArray), FilOk a → FilOk b → covB a b = true → covB b c = true → covB a c = true
  | [], b, c, _, _, h1, h2 => by
    unfold covB at h1
    have : b = [] := List.isEmpty_iff.1 h1
    subst this
    exact h2
  | x :: a, b, c, ha, hb, h1, h2 => by
    unfold covB
    by_cases hx : x = hashB
    · rw [if_pos hx]
    rw [if_neg hx]
    unfold covB at h1
    rw [if_neg hx] at h1
    match b, hb, h1, h2 with
    | [], _, h1, _ => cases h1
    | y :: b', hb, h1, h2 =>
      simp only [Bool.and_eq_true] at h1
      unfold covB at h2
      have hy : y ≠ hashB := by
        intro hy
        by_cases hp : x = plusB
        · rw [if_pos hp] at h1
          exact of_decide_eq_true h1.1 hy
        · rw [if_neg hp] at h1
          exact hx ((of_decide_eq_true h1.1).trans hy)
      rw [if_neg hy] at h2
      match c, h2 with
      | [], h2 => cases h2
      | z :: c', h2 =>
        simp only [Bool.and_eq_true] at h2 ⊢
        refine ⟨?_, cov_trans a b' c' ha.2.2 hb.2.2 h1.2 h2.2⟩
        by_cases hp : x = plusB
        · rw [if_pos hp]
          by_cases hyp : y = plusB
          · rw [if_pos hyp] at h2; exact h2.1
          · rw [if_neg hyp] at h2
            refine decide_eq_true ?_
            rw [← of_decide_eq_true h2.1]; exact hy
        · rw [if_neg hp] at h1 ⊢
          have e := of_decide_eq_true h1.1
          rw [← e, if_neg hp] at h2
          exact h2.1

theorem cov_antisymm : ∀ (a b : List ByteArray), FilOk a → FilOk b → covB a b = true → covB b a = true → a = b
  | [], b, _, _, h1, _ => by
    unfold covB at h1
    exact (List.isEmpty_iff.1 h1).symm
  | x :: a, [], ha, _, h1, h2 => by
    unfold covB at h2
    simp at h2
  | x :: a, y :: b, ha, hb, h1, h2 => by
    unfold covB at h1 h2
    by_cases hx : x = hashB
    · by_cases hy : y = hashB
      · rw [hx, hy, ha.2.1 hx, hb.2.1 hy]
      · rw [if_neg hy] at h2
        simp only [Bool.and_eq_true] at h2
        by_cases hp : y = plusB
        · rw [if_pos hp] at h2
          exact absurd hx (of_decide_eq_true h2.1)
        · rw [if_neg hp] at h2
          exact absurd ((of_decide_eq_true h2.1).trans hx) hy
    · rw [if_neg hx] at h1
      simp only [Bool.and_eq_true] at h1
      by_cases hy : y = hashB
      · by_cases hp : x = plusB
        · rw [if_pos hp] at h1
          exact absurd hy (of_decide_eq_true h1.1)
        · rw [if_neg hp] at h1
          exact absurd ((of_decide_eq_true h1.1).trans hy) hx
      · rw [if_neg hy] at h2
        simp only [Bool.and_eq_true] at h2
        have e := cov_antisymm a b ha.2.2 hb.2.2 h1.2 h2.2
        by_cases hp : x = plusB
        · by_cases hq : y = plusB
          · rw [hp, hq, e]
          · rw [if_neg hq] at h2
            rw [e, of_decide_eq_true h2.1]
        · rw [if_neg hp] at h1
          rw [e, of_decide_eq_true h1.1]

end Go.Proofs.YtoakhkiiefiebaaDoor.S1
