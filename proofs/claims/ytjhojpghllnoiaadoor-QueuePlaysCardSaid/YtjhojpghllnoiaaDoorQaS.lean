/-
  Ordered queues as plain data: an entry at its place keeps the order, the first entry put back, an entry behind all others, what is taken out of an ordered list. No function of the program is walked here.
-/
import Derived.Test.YtjhojpghllnoiaaDoorQaR
namespace Go.Proofs.YtjhojpghllnoiaaDoor
open Go.RowKit

theorem posQ_cons (a : En) (r : List En) (x : En) : posQ (a :: r) x = if precR a x = true then posQ r x + 1 else 0 := by
  unfold posQ
  by_cases h : precR a x = true
  · rw [if_pos h, List.takeWhile_cons]
    simp [h]
  · rw [if_neg h, List.takeWhile_cons]
    simp [h]
theorem posQ_lt : ∀ (l : List En) (x : En) (i : Nat) (y : En), i < posQ l x → l[i]? = some y → precR y x = true
  | [], x, i, y, _, h => by cases h
  | a :: r, x, i, y, hi, h => by
    rw [posQ_cons] at hi
    by_cases hp : precR a x = true
    · rw [if_pos hp] at hi
      cases i with
      | zero =>
        rw [List.getElem?_cons_zero] at h
        cases h
        exact hp
      | succ j =>
        rw [List.getElem?_cons_succ] at h
        exact posQ_lt r x j y (by omega) h
    · rw [if_neg hp] at hi
      omega
theorem posQ_ge : ∀ (l : List En) (x : En) (i : Nat) (y : En), SortQ l → posQ l x ≤ i → l[i]? = some y → precR y x = false
  | [], x, i, y, _, _, h => by cases h
  | a :: r, x, i, y, hs, hi, h => by
    rw [posQ_cons] at hi
    have hs2 := List.pairwise_cons.1 hs
    by_cases hp : precR a x = true
    · rw [if_pos hp] at hi
      cases i with
      | zero => omega
      | succ j =>
        rw [List.getElem?_cons_succ] at h
        exact posQ_ge r x j y hs2.2 (by omega) h
    · cases i with
      | zero =>
        rw [List.getElem?_cons_zero] at h
        cases h
        simpa using hp
      | succ j =>
        rw [List.getElem?_cons_succ] at h
        cases hq : precR y x with
        | false => rfl
        | true => exact absurd (precR_trans (hs2.1 y (List.mem_of_getElem? h)) hq) hp
theorem mem_take_pos {l : List En} {x a : En} (h : a ∈ l.take (posQ l x)) : precR a x = true := by
  obtain ⟨i, hi⟩ := List.mem_iff_getElem?.1 h
  rw [List.getElem?_take] at hi
  split at hi
  · exact posQ_lt l x i a ‹_› hi
  · cases hi
theorem mem_drop_pos {l : List En} {x a : En} (hs : SortQ l) (h : a ∈ l.drop (posQ l x)) : precR a x = false := by
  obtain ⟨i, hi⟩ := List.mem_iff_getElem?.1 h
  rw [List.getElem?_drop] at hi
  exact posQ_ge l x _ a hs (Nat.le_add_right _ _) hi
theorem mem_insQ {l : List En} {x y : En} : y ∈ insQ l x ↔ y = x ∨ y ∈ l := by
  unfold insQ
  rw [List.mem_append, List.mem_cons]
  refine ⟨fun h => ?_, fun h => ?_⟩
  · rcases h with h | h | h
    · exact Or.inr (List.mem_of_mem_take h)
    · exact Or.inl h
    · exact Or.inr (List.mem_of_mem_drop h)
  · rcases h with h | h
    · exact Or.inr (Or.inl h)
    · rw [← List.take_append_drop (posQ l x) l, List.mem_append] at h
      rcases h with h | h
      · exact Or.inl h
      · exact Or.inr (Or.inr h)
/-- an entry at its place keeps the order -/
theorem insQ_sort {l : List En} {x : En} (hs : SortQ l) (hk : ∀ a ∈ l, a.k ≠ x.k) : SortQ (insQ l x) := by
  unfold insQ
  have h0 := hs
  rw [← List.take_append_drop (posQ l x) l] at h0
  obtain ⟨h1, h2, h3⟩ := List.pairwise_append.1 h0
  refine List.pairwise_append.2 ⟨h1, List.pairwise_cons.2 ⟨fun b hb => ?_, h2⟩, fun a ha b hb => ?_⟩
  · rw [precR_anti (hk b (List.mem_of_mem_drop hb)), mem_drop_pos hs hb]
    rfl
  · rcases List.mem_cons.1 hb with rfl | hb
    · exact mem_take_pos ha
    · exact h3 a ha b hb
theorem insQ_dist {l : List En} {x : En} (hd : DistQ l) (hk : ∀ a ∈ l, a.k ≠ x.k) : DistQ (insQ l x) := by
  unfold insQ
  have h0 := hd
  rw [← List.take_append_drop (posQ l x) l] at h0
  obtain ⟨h1, h2, h3⟩ := List.pairwise_append.1 h0
  refine List.pairwise_append.2 ⟨h1, List.pairwise_cons.2 ⟨fun b hb e => hk b (List.mem_of_mem_drop hb) e.symm, h2⟩, fun a ha b hb => ?_⟩
  rcases List.mem_cons.1 hb with rfl | hb
  · exact hk a (List.mem_of_mem_take ha)
  · exact h3 a ha b hb
/-- the first entry, put back, is the first one again -/
theorem insQ_back {x : En} {r : List En} (hs : SortQ (x :: r)) : insQ r x = x :: r := by
  have h1 := List.pairwise_cons.1 hs
  have h0 : posQ r x = 0 := by
    cases r with
    | nil => rfl
    | cons y r2 =>
      rw [posQ_cons, if_neg]
      intro h
      have := precR_trans (h1.1 y List.mem_cons_self) h
      rw [precR_irr] at this
      cases this
  unfold insQ
  rw [h0]
  rfl
/-- an entry that all others precede goes behind them -/
theorem insQ_last {l : List En} {x : En} (h : ∀ a ∈ l, precR a x = true) : insQ l x = l ++ [x] := by
  have h0 : posQ l x = l.length := by
    unfold posQ
    exact takeWhile_len l l.length (Nat.le_refl _) (fun j y _ hy => h y (List.mem_of_getElem? hy)) (fun y hy => by rw [List.getElem?_eq_none (Nat.le_refl _)] at hy; cases hy)
  unfold insQ
  rw [h0, List.take_length, List.drop_length]
/-! ### What keeps a queue valid -/
theorem entR_zero {x : En} {n : Int} (h1 : 1 ≤ x.k ∧ x.k ≤ n - 1) (h2 : 0 ≤ x.r ∧ x.r ≤ 1099511627776) (h3 : 0 ≤ x.t ∧ x.t ≤ 1099511627776) (h4 : checkR x.m = 0) : entR x n = 0 := by
  unfold entR
  rw [inR_iff.2 h1, inR_iff.2 h2, inR_iff.2 h3, h4]
  simp
theorem entR_more {x : En} {n n' : Int} (h : entR x n = 0) (hn : n ≤ n') : entR x n' = 0 := by
  obtain ⟨h1, h2, h3, h4⟩ := entR_parts h
  exact entR_zero ⟨h1.1, by omega⟩ h2 h3 h4
theorem hasQ_none {l : List En} {k : Int} (h : ∀ a ∈ l, a.k ≠ k) : hasQ l k = false := by
  unfold hasQ
  rw [List.any_eq_false]
  intro a ha
  simp [h a ha]
theorem afterR_true {pre : List En} {x : En} (h : ∀ a ∈ pre, precR a x = true) : afterR pre x = true := by
  unfold afterR
  cases hg : pre.getLast? with
  | none => rfl
  | some p => exact h p (List.mem_of_getLast? hg)
theorem vloop_zero (n : Int) : ∀ (r pre : List En), (∀ x ∈ r, entR x n = 0) → SortQ (pre ++ r) → DistQ (pre ++ r) → vloop n pre r = 0
  | [], pre, _, _, _ => rfl
  | x :: r, pre, he, hs, hd => by
    have h1 := (List.pairwise_append.1 hs).2.2
    have h2 := (List.pairwise_append.1 hd).2.2
    unfold vloop
    rw [if_neg (fun h => h (he x List.mem_cons_self)), hasQ_none (fun a ha => h2 a ha x List.mem_cons_self), if_neg (by decide), afterR_true (fun a ha => h1 a ha x List.mem_cons_self), if_neg (by decide)]
    refine vloop_zero n r (pre ++ [x]) (fun y hy => he y (List.mem_cons_of_mem _ hy)) ?_ ?_
    · rw [List.append_assoc]; exact hs
    · rw [List.append_assoc]; exact hd
theorem validR_zero {s : Sp} {n : Int} {l : List En} (h1 : specR s = 0) (h2 : 1 ≤ n ∧ n ≤ 1099511627776) (h3 : l.length ≤ 4352) (h4 : ∀ x ∈ l, entR x n = 0) (h5 : SortQ l) (h6 : DistQ l) : validR s n l = 0 := by
  unfold validR
  rw [if_neg (fun h => h h1), inR_iff.2 h2, if_neg (by decide), if_neg (by omega)]
  exact vloop_zero n l [] h4 h5 h6
theorem valid_filter {s : Sp} {n : Int} {l : List En} (p : En → Bool) (h : validR s n l = 0) : validR s n (l.filter p) = 0 := by
  obtain ⟨h1, h2, h3, h4, h5, h6⟩ := validR_parts h
  exact validR_zero h1 h2 (Nat.le_trans (List.length_filter_le _ _) h3) (fun x hx => h4 x (List.mem_filter.1 hx).1) (h5.filter p) (h6.filter p)
theorem valid_tail {s : Sp} {n : Int} {x : En} {l : List En} (h : validR s n (x :: l) = 0) : validR s n l = 0 := by
  obtain ⟨h1, h2, h3, h4, h5, h6⟩ := validR_parts h
  exact validR_zero h1 h2 (by simp at h3; omega) (fun y hy => h4 y (List.mem_cons_of_mem _ hy)) (List.pairwise_cons.1 h5).2 (List.pairwise_cons.1 h6).2
/-- a queue with an entry at its place is valid, where its number is a new one and there is room -/
theorem valid_ins {s : Sp} {n n' : Int} {l : List En} {x : En} (h : validR s n l = 0) (hn : n ≤ n') (hn' : n' ≤ 1099511627776) (hx : entR x n' = 0) (hk : ∀ a ∈ l, a.k ≠ x.k) (hl : l.length < 4352) : validR s n' (insQ l x) = 0 := by
  obtain ⟨h1, h2, h3, h4, h5, h6⟩ := validR_parts h
  refine validR_zero h1 ⟨by omega, hn'⟩ (by rw [insQ_len]; omega) (fun y hy => ?_) (insQ_sort h5 hk) (insQ_dist h6 hk)
  rcases mem_insQ.1 hy with rfl | hy
  · exact hx
  · exact entR_more (h4 y hy) hn
end Go.Proofs.YtjhojpghllnoiaaDoor
