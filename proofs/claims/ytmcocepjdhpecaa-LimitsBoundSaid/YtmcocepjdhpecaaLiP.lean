/-
  Buckets of tokens as numbers: what Check, Refill, Take and Wait answer, and what follows of it. No program is named here.
-/
import Derived.Test.YtmcocepjdhpecaaCell
namespace Go.Proofs.Ytmcocepjdhpecaa

abbrev big40 : Int := 1099511627776
/-- a valid bucket: rate, burst, level, last -/
def okL (r b v t : Int) : Prop := 0 ≤ r ∧ r ≤ 1099511627776 ∧ 0 ≤ b ∧ b ≤ 1099511627776 ∧ 0 ≤ v ∧ v ≤ b ∧ 0 ≤ t ∧ t ≤ 1099511627776
def isL (n m : Int) : Bool := decide (0 ≤ n) && decide (n ≤ m)
def chkL (r b v t : Int) : Bool := isL r 1099511627776 && isL b 1099511627776 && isL v b && isL t 1099511627776
theorem chkL_iff {r b v t : Int} : chkL r b v t = true ↔ okL r b v t := by
  unfold chkL isL okL
  simp only [Bool.and_eq_true, decide_eq_true_eq]
  omega
def ckL (r b v t : Int) : Int := if chkL r b v t then 0 else 1
theorem ckL_ok {r b v t : Int} : ckL r b v t = 0 ↔ okL r b v t := by
  rw [← chkL_iff]
  unfold ckL
  split
  · next h => simp [h]
  · next h => simp [h]
/-- the tokens at an instant -/
def tokL (r b v t now : Int) : Int := if now ≤ t ∨ r = 0 then v else if (b - v) / r < now - t then b else v + r * (now - t)
def lastL (t now : Int) : Int := if t < now then now else t

theorem mul_le_div {a r d : Int} (hr : 0 < r) (h : d ≤ a / r) : r * d ≤ a := by
  have h1 : r * (a / r) ≤ a := by
    have := Int.mul_ediv_add_emod a r
    have := Int.emod_nonneg a (by omega : r ≠ 0)
    omega
  exact Int.le_trans (Int.mul_le_mul_of_nonneg_left h (by omega)) h1
theorem div_lt_mul {a r d : Int} (hr : 0 < r) (h : a / r < d) : a < r * d := by
  have h1 := Int.mul_ediv_add_emod a r
  have h2 := Int.emod_lt_of_pos a hr
  have h3 : r * (a / r + 1) ≤ r * d := Int.mul_le_mul_of_nonneg_left (by omega) (by omega)
  rw [Int.mul_add, Int.mul_one] at h3
  omega
/-- the tokens are the burst at most, else what the level and the rate give -/
theorem tok_min {r b v t now : Int} (h : okL r b v t) (hn : t ≤ now) : tokL r b v t now = min b (v + r * (now - t)) := by
  obtain ⟨h1, h2, h3, h4, h5, h6, h7, h8⟩ := h
  unfold tokL
  split
  · next hc =>
    have : r * (now - t) = 0 := by
      rcases hc with hc | hc
      · rw [show now - t = 0 by omega, Int.mul_zero]
      · rw [hc, Int.zero_mul]
    omega
  · next hc =>
    split
    · next hd =>
      have := div_lt_mul (by omega) hd
      omega
    · next hd =>
      have := mul_le_div (r := r) (d := now - t) (by omega) (by omega : now - t ≤ (b - v) / r)
      omega
theorem tok_before {r b v t now : Int} (hn : now ≤ t) : tokL r b v t now = v := by unfold tokL; rw [if_pos (.inl hn)]
theorem tok_range {r b v t now : Int} (h : okL r b v t) : v ≤ tokL r b v t now ∧ tokL r b v t now ≤ b := by
  obtain ⟨h1, h2, h3, h4, h5, h6, h7, h8⟩ := h
  by_cases hn : now ≤ t
  · rw [tok_before hn]; omega
  · rw [tok_min ⟨h1, h2, h3, h4, h5, h6, h7, h8⟩ (by omega)]
    have : 0 ≤ r * (now - t) := Int.mul_nonneg h1 (by omega)
    omega
/-- a bucket that is refilled is valid -/
theorem fill_ok {r b v t now : Int} (h : okL r b v t) (_h0 : 0 ≤ now) (h1 : now ≤ 1099511627776) : okL r b (tokL r b v t now) (lastL t now) := by
  have h2 := tok_range (now := now) h
  obtain ⟨g1, g2, g3, g4, g5, g6, g7, g8⟩ := h
  unfold lastL
  split <;> refine ⟨g1, g2, g3, g4, ?_, ?_, ?_, ?_⟩ <;> omega
/-- refilled twice -/
theorem fill_fill {r b v t now then_ : Int} (h : okL r b v t) (h0 : 0 ≤ now) (h1 : now ≤ 1099511627776) (hn : now ≤ then_) : tokL r b (tokL r b v t now) (lastL t now) then_ = tokL r b v t then_ := by
  have hf := fill_ok h h0 h1
  by_cases h2 : then_ ≤ t
  · have : lastL t now = t := by unfold lastL; rw [if_neg (by omega)]
    rw [this, tok_before h2, tok_before h2, tok_before (by omega)]
  · rw [tok_min h (now := then_) (by omega)]
    by_cases h3 : t < now
    · have : lastL t now = now := by unfold lastL; rw [if_pos h3]
      rw [this] at hf ⊢
      rw [tok_min hf hn, tok_min h (by omega)]
      have e : r * (then_ - t) = r * (now - t) + r * (then_ - now) := by rw [← Int.mul_add]; congr 1; omega
      have p1 : 0 ≤ r * (then_ - now) := Int.mul_nonneg h.1 (by omega)
      omega
    · have : lastL t now = t := by unfold lastL; rw [if_neg h3]
      rw [this, tok_before (by omega : now ≤ t), tok_min h (by omega)]
theorem last_last (t now then_ : Int) (h : now ≤ then_) : lastL (lastL t now) then_ = lastL t then_ := by unfold lastL; split <;> split <;> (try split) <;> omega

/-- the first instant at which n tokens are there -/
def stepsL (r v n : Int) : Int := if 0 < (n - v) % r then (n - v) / r + 1 else (n - v) / r
def waitL (r b v t now n : Int) : Int × Bool :=
  if n ≤ tokL r b v t now then (now, true) else if b < n ∨ r = 0 then (0, false) else if 1099511627776 - t < stepsL r v n then (0, false) else (t + stepsL r v n, true)
theorem steps_enough {r v n d : Int} (hr : 0 < r) : stepsL r v n ≤ d ↔ n - v ≤ r * d := by
  unfold stepsL
  have h1 := Int.mul_ediv_add_emod (n - v) r
  have h2 := Int.emod_lt_of_pos (n - v) hr
  have h3 := Int.emod_nonneg (n - v) (by omega : r ≠ 0)
  constructor
  · intro h
    split at h
    · next hp =>
      have h4 : r * ((n - v) / r + 1) ≤ r * d := Int.mul_le_mul_of_nonneg_left h (by omega)
      rw [Int.mul_add, Int.mul_one] at h4
      omega
    · next hp =>
      have h4 : r * ((n - v) / r) ≤ r * d := Int.mul_le_mul_of_nonneg_left h (by omega)
      omega
  · intro h
    split
    · next hp =>
      apply Classical.byContradiction
      intro hc
      have h4 : r * d ≤ r * ((n - v) / r) := Int.mul_le_mul_of_nonneg_left (by omega) (by omega)
      omega
    · next hp =>
      apply Classical.byContradiction
      intro hc
      have h4 : r * (d + 1) ≤ r * ((n - v) / r) := Int.mul_le_mul_of_nonneg_left (by omega) (by omega)
      rw [Int.mul_add, Int.mul_one] at h4
      omega
theorem steps_pos {r v n : Int} (hr : 0 < r) (h : v < n) : 0 < stepsL r v n := by
  apply Classical.byContradiction
  intro hc
  have := (steps_enough (v := v) (n := n) (d := 0) hr).1 (by omega)
  rw [Int.mul_zero] at this
  omega
/-- what Wait says of Take -/
theorem wait_first {r b v t now n th : Int} (h : okL r b v t) (h0 : 0 ≤ now) (h1 : now ≤ 1099511627776) (ht : now ≤ th) (ht1 : th ≤ 1099511627776) (_hn : 0 ≤ n) :
    ((waitL r b v t now n).2 = false → (waitL r b v t now n).1 = 0 ∧ ¬ n ≤ tokL r b v t th) ∧
    ((waitL r b v t now n).2 = true → now ≤ (waitL r b v t now n).1 ∧ (waitL r b v t now n).1 ≤ 1099511627776 ∧ n ≤ tokL r b v t (waitL r b v t now n).1 ∧ ((waitL r b v t now n).1 ≤ th ∨ ¬ n ≤ tokL r b v t th)) := by
  have hr := tok_range (now := th) h
  unfold waitL
  by_cases c1 : n ≤ tokL r b v t now
  · rw [if_pos c1]
    exact ⟨fun e => by simp at e, fun _ => ⟨by simp, h1, c1, .inl ht⟩⟩
  · rw [if_neg c1]
    have hv : v < n := by have := (tok_range (now := now) h).1; omega
    by_cases c2 : b < n ∨ r = 0
    · rw [if_pos c2]
      refine ⟨fun _ => ⟨rfl, ?_⟩, fun e => by simp at e⟩
      rcases c2 with c2 | c2
      · omega
      · by_cases hth : th ≤ t
        · rw [tok_before hth]; omega
        · rw [tok_min h (by omega), c2, Int.zero_mul]; omega
    · rw [if_neg c2]
      have hrp : 0 < r := by have := h.1; omega
      have hs := steps_pos hrp hv
      have hlate : ∀ x, 0 ≤ x → (n ≤ tokL r b v t x ↔ t + stepsL r v n ≤ x) := fun x hx => by
        by_cases hxt : x ≤ t
        · rw [tok_before hxt]; omega
        · rw [tok_min h (by omega)]
          have := steps_enough (r := r) (v := v) (n := n) (d := x - t) hrp
          omega
      by_cases c3 : 1099511627776 - t < stepsL r v n
      · rw [if_pos c3]
        refine ⟨fun _ => ⟨rfl, ?_⟩, fun e => by simp at e⟩
        rw [hlate th (by omega)]; omega
      · rw [if_neg c3]
        refine ⟨fun e => by simp at e, fun _ => ⟨?_, ?_, ?_, ?_⟩⟩
        · have := (not_congr (hlate now h0)).1 c1
          dsimp only; omega
        · dsimp only; omega
        · rw [hlate _ (by have := h.2.2.2.2.2.2.1; dsimp only; omega)]; exact Int.le_refl _
        · dsimp only
          rw [hlate th (by omega)]; omega
end Go.Proofs.Ytmcocepjdhpecaa
