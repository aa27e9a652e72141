/-
  Credits as numbers: what Take, Give, Next and Round answer, and what follows of it. No program is named here.
-/
import Derived.Test.YtomlideijhejfabCell
namespace Go.Proofs.Ytomlideijhejfab

/-- what a credit has left: maximum, used -/
def lfC (c : Int × Int) : Int := if c.1 ≤ c.2 then 0 else c.1 - c.2
def okC (c : Int × Int) : Bool := decide (0 ≤ c.1 ∧ c.1 ≤ 1099511627776 ∧ 0 ≤ c.2 ∧ c.2 ≤ 1099511627776)
def useC (c : Int × Int) : Int × Int := (c.1, c.2 + 1)
def atC (l : List (Int × Int)) (i : Nat) : Int × Int := l.getD i (0, 0)
/-- the search from first on, r more of them -/
def nxF (l : List (Int × Int)) (first : Nat) : Nat → Nat → Option Nat
  | 0, _ => none
  | r + 1, k => if 0 < lfC (atC l ((first + k) % l.length)) then some ((first + k) % l.length) else nxF l first r (k + 1)
def frC (n : Nat) (last : Int) : Nat := if 0 ≤ last ∧ last < n then last.toNat + 1 else 0
def nxC (l : List (Int × Int)) (last : Int) : Option Nat := nxF l (frC l.length last) l.length 0
def addAt (l : List Int) (i : Nat) : List Int := l.set i (l.getD i 0 + 1)
def useAt (l : List (Int × Int)) (i : Nat) : List (Int × Int) := l.set i (useC (atC l i))
def rdF : Nat → List (Int × Int) → List Int → Int → List Int × Int
  | 0, _, out, last => (out, last)
  | f + 1, m, out, last => match nxC m last with
    | some i => rdF f (useAt m i) (addAt out i) i
    | none => (out, last)
def rdC (l : List (Int × Int)) (last : Int) (n : Int) : List Int × Int := rdF (min n 1024).toNat l (List.replicate l.length 0) last

theorem nxF_some {l : List (Int × Int)} {first : Nat} : ∀ {r k i : Nat}, nxF l first r k = some i → ∃ j, k ≤ j ∧ j < k + r ∧ i = (first + j) % l.length ∧ 0 < lfC (atC l i) ∧ ∀ j', k ≤ j' → j' < j → ¬ 0 < lfC (atC l ((first + j') % l.length)) := by
  intro r
  induction r with
  | zero => intro k i h; simp [nxF] at h
  | succ r ih =>
    intro k i h
    unfold nxF at h
    split at h
    · next h0 =>
      obtain rfl := Option.some.inj h
      exact ⟨k, by omega, by omega, rfl, h0, fun j' a b => by omega⟩
    · next h0 =>
      obtain ⟨j, a, b, c, d, e⟩ := ih h
      refine ⟨j, by omega, by omega, c, d, fun j' x y => ?_⟩
      by_cases hj : j' = k
      · subst hj; exact h0
      · exact e j' (by omega) y
theorem nxF_none {l : List (Int × Int)} {first : Nat} : ∀ {r k : Nat}, nxF l first r k = none → ∀ j, k ≤ j → j < k + r → ¬ 0 < lfC (atC l ((first + j) % l.length)) := by
  intro r
  induction r with
  | zero => intro k _ j a b; omega
  | succ r ih =>
    intro k h j a b
    unfold nxF at h
    split at h
    · simp at h
    · next h0 =>
      by_cases hj : j = k
      · subst hj; exact h0
      · exact ih h j (by omega) (by omega)
theorem nxC_lt {l : List (Int × Int)} {last : Int} {i : Nat} (h : nxC l last = some i) : i < l.length := by
  obtain ⟨j, _, hj, e, _⟩ := nxF_some h
  rw [e]
  exact Nat.mod_lt _ (by omega)
theorem nxC_pos {l : List (Int × Int)} {last : Int} {i : Nat} (h : nxC l last = some i) : 0 < lfC (atC l i) := by
  obtain ⟨j, _, hj, e, hp, _⟩ := nxF_some h
  exact hp
theorem use_len (l : List (Int × Int)) (i : Nat) : (useAt l i).length = l.length := by simp [useAt]
theorem add_len (l : List Int) (i : Nat) : (addAt l i).length = l.length := by simp [addAt]
theorem at_use (l : List (Int × Int)) (i k : Nat) (hi : i < l.length) : atC (useAt l i) k = if k = i then useC (atC l k) else atC l k := by
  unfold atC useAt
  rw [List.getD_eq_getElem?_getD, List.getElem?_set]
  split
  · next h => subst h; simp [hi, atC]
  · next h => rw [if_neg (fun e => h e.symm), List.getD_eq_getElem?_getD]
theorem at_add (l : List Int) (i k : Nat) (hi : i < l.length) : (addAt l i).getD k 0 = if k = i then l.getD k 0 + 1 else l.getD k 0 := by
  unfold addAt
  rw [List.getD_eq_getElem?_getD, List.getElem?_set]
  split
  · next h => subst h; simp [hi]
  · next h => rw [if_neg (fun e => h e.symm), List.getD_eq_getElem?_getD]
theorem rdF_len : ∀ (f : Nat) (m : List (Int × Int)) (out : List Int) (last : Int), (rdF f m out last).1.length = out.length := by
  intro f
  induction f with
  | zero => intro m out last; rfl
  | succ f ih =>
    intro m out last
    unfold rdF
    split
    · rw [ih, add_len]
    · rfl
theorem rdC_len (l : List (Int × Int)) (last n : Int) : (rdC l last n).1.length = l.length := by
  unfold rdC; rw [rdF_len]; simp

/-! ### the rounds go on from where they stand -/
/-- the credits when these units are used -/
def usedC (l : List (Int × Int)) (out : List Int) : List (Int × Int) := l.zipWith (fun c o => (c.1, c.2 + o)) out
theorem used_len {l : List (Int × Int)} {out : List Int} (h : out.length = l.length) : (usedC l out).length = l.length := by simp [usedC, h]
theorem at_used {l : List (Int × Int)} {out : List Int} (h : out.length = l.length) (i : Nat) : atC (usedC l out) i = ((atC l i).1, (atC l i).2 + out.getD i 0) := by
  unfold atC usedC
  rw [List.getD_eq_getElem?_getD, List.getElem?_zipWith, List.getD_eq_getElem?_getD, List.getD_eq_getElem?_getD]
  by_cases hi : i < l.length
  · rw [List.getElem?_eq_getElem hi, List.getElem?_eq_getElem (by omega : i < out.length)]
    rfl
  · rw [List.getElem?_eq_none (by omega), List.getElem?_eq_none (by omega)]
    rfl
theorem ext_at {l m : List (Int × Int)} (hl : l.length = m.length) (h : ∀ i, i < l.length → atC l i = atC m i) : l = m := by
  refine List.ext_getElem hl fun i h1 h2 => ?_
  have := h i h1
  unfold atC at this
  rw [List.getD_eq_getElem?_getD, List.getD_eq_getElem?_getD, List.getElem?_eq_getElem h1, List.getElem?_eq_getElem h2] at this
  exact this
theorem ext_int {l m : List Int} (hl : l.length = m.length) (h : ∀ i, i < l.length → l.getD i 0 = m.getD i 0) : l = m := by
  refine List.ext_getElem hl fun i h1 h2 => ?_
  have := h i h1
  rw [List.getD_eq_getElem?_getD, List.getD_eq_getElem?_getD, List.getElem?_eq_getElem h1, List.getElem?_eq_getElem h2] at this
  exact this
theorem used_use {l : List (Int × Int)} {out : List Int} (h : out.length = l.length) {i : Nat} (hi : i < l.length) : useAt (usedC l out) i = usedC l (addAt out i) := by
  refine ext_at (by rw [use_len, used_len h, used_len (by rw [add_len]; exact h)]) fun k hk => ?_
  rw [at_use _ _ _ (by rw [used_len h]; exact hi), at_used h, at_used (by rw [add_len]; exact h), at_add _ _ _ (by omega)]
  split
  · unfold useC; simp only [Prod.mk.injEq, true_and]; omega
  · rfl
/-- a rounds and then b more -/
theorem rdF_split {l : List (Int × Int)} : ∀ (a b : Nat) (out : List Int) (last : Int), out.length = l.length →
    rdF (a + b) (usedC l out) out last = rdF b (usedC l (rdF a (usedC l out) out last).1) (rdF a (usedC l out) out last).1 (rdF a (usedC l out) out last).2 := by
  intro a
  induction a with
  | zero => intro b out last h; rw [Nat.zero_add]; rfl
  | succ a ih =>
    intro b out last h
    rw [show a + 1 + b = (a + b) + 1 by omega]
    cases hn : nxC (usedC l out) last with
    | some i =>
      have hi := nxC_lt hn
      rw [used_len h] at hi
      have e1 : ∀ f, rdF (f + 1) (usedC l out) out last = rdF f (useAt (usedC l out) i) (addAt out i) i := fun f => by
        rw [rdF, hn]
      rw [e1, e1, used_use h hi]
      exact ih b _ _ (by rw [add_len]; exact h)
    | none =>
      have e1 : ∀ f, rdF (f + 1) (usedC l out) out last = (out, last) := fun f => by
        rw [rdF, hn]
      rw [e1, e1]
      cases b with
      | zero => rfl
      | succ b => rw [e1]
/-- what was given ahead does not matter but for what is added to it -/
def sumL (a b : List Int) : List Int := a.zipWith (· + ·) b
theorem sum_getD {a b : List Int} (h : a.length = b.length) (i : Nat) : (sumL a b).getD i 0 = a.getD i 0 + b.getD i 0 := by
  unfold sumL
  rw [List.getD_eq_getElem?_getD, List.getElem?_zipWith, List.getD_eq_getElem?_getD, List.getD_eq_getElem?_getD]
  by_cases hi : i < a.length
  · rw [List.getElem?_eq_getElem hi, List.getElem?_eq_getElem (by omega : i < b.length)]
    rfl
  · rw [List.getElem?_eq_none (by omega), List.getElem?_eq_none (by omega)]
    rfl
theorem add_sum {a b : List Int} (h : a.length = b.length) {i : Nat} (hi : i < b.length) : addAt (sumL a b) i = sumL a (addAt b i) := by
  refine ext_int (by rw [add_len]; simp [sumL, add_len]) fun k hk => ?_
  rw [at_add _ _ _ (by simp [sumL]; omega), sum_getD h, sum_getD (by rw [add_len]; exact h), at_add _ _ _ hi]
  split <;> omega
theorem rdF_out : ∀ (f : Nat) (m : List (Int × Int)) (a b : List Int) (last : Int), a.length = b.length → m.length = b.length →
    rdF f m (sumL a b) last = (sumL a (rdF f m b last).1, (rdF f m b last).2) := by
  intro f
  induction f with
  | zero => intro m a b last _ _; rfl
  | succ f ih =>
    intro m a b last h hm
    unfold rdF
    cases hn : nxC m last with
    | some i =>
      have hi := nxC_lt hn
      dsimp only
      rw [add_sum h (by omega)]
      exact ih _ _ _ _ (by rw [add_len]; exact h) (by rw [use_len, add_len]; exact hm)
    | none => rfl
theorem sum_zero (a : List Int) : sumL a (List.replicate a.length 0) = a := by
  refine ext_int (by simp [sumL]) fun i hi => ?_
  rw [sum_getD (by simp)]
  have : (List.replicate a.length (0 : Int)).getD i 0 = 0 := by
    rw [List.getD_eq_getElem?_getD, List.getElem?_replicate]; split <;> rfl
  omega
theorem used_zero (l : List (Int × Int)) : usedC l (List.replicate l.length 0) = l := by
  refine ext_at (by simp [usedC]) fun i hi => ?_
  rw [at_used (by simp)]
  have : (List.replicate l.length (0 : Int)).getD i 0 = 0 := by
    rw [List.getD_eq_getElem?_getD, List.getElem?_replicate]; split <;> rfl
  rw [this]; simp
theorem rdC_split (l : List (Int × Int)) (last : Int) (a b : Nat) (h : a + b ≤ 1024) :
    rdC l last ((a : Int) + (b : Int)) = (sumL (rdC l last a).1 (rdC (usedC l (rdC l last a).1) (rdC l last a).2 b).1, (rdC (usedC l (rdC l last a).1) (rdC l last a).2 b).2) := by
  have ha : (min (a : Int) 1024).toNat = a := by omega
  have hb : (min (b : Int) 1024).toNat = b := by omega
  have hab : (min ((a : Int) + (b : Int)) 1024).toNat = a + b := by omega
  have h0 : (List.replicate l.length (0 : Int)).length = l.length := by simp
  have h1 := rdF_split (l := l) a b (List.replicate l.length 0) last h0
  rw [used_zero] at h1
  have hl : (rdF a l (List.replicate l.length 0) last).1.length = l.length := by rw [rdF_len]; simp
  unfold rdC
  rw [hab, ha, hb, h1, used_len hl]
  generalize rdF a l (List.replicate l.length 0) last = r at hl ⊢
  have h2 := rdF_out b (usedC l r.1) r.1 (List.replicate l.length 0) r.2 (by rw [hl]; simp) (by rw [used_len hl]; simp)
  have h3 := sum_zero r.1
  rw [hl] at h3
  rw [h3] at h2
  exact h2
/-! ### fairness -/
/-- the rank of an index, from s on -/
def rkC (n s i : Nat) : Nat := (i + n - s) % n
/-- everything has what c rounds give it, and those before rank p one more, if they have room -/
def FairI (l : List (Int × Int)) (s c p : Nat) (out : List Int) : Prop :=
  ∀ i, i < l.length → out.getD i 0 = min (lfC (atC l i)) ((c : Int) + if rkC l.length s i < p then 1 else 0)
theorem lf_nonneg (c : Int × Int) : 0 ≤ lfC c := by unfold lfC; split <;> omega
theorem lf_used {c : Int × Int} {o : Int} (h0 : 0 ≤ o) (h1 : o ≤ lfC c) : lfC (c.1, c.2 + o) = lfC c - o := by
  unfold lfC at h1 ⊢
  dsimp only
  split at h1 <;> split <;> omega
theorem rk_lt {n s i : Nat} (hn : 0 < n) : rkC n s i < n := Nat.mod_lt _ hn
theorem mod_cases (a n : Nat) (h : a < 2 * n) : a % n = if a < n then a else a - n := by
  split
  · next h0 => exact Nat.mod_eq_of_lt h0
  · next h0 => rw [Nat.mod_eq_sub_mod (by omega), Nat.mod_eq_of_lt (by omega)]
theorem rk_at {n s q : Nat} (hs : s < n) (hq : q < n) : rkC n s ((s + q) % n) = q := by
  unfold rkC
  rw [mod_cases (s + q) n (by omega)]
  split
  · rw [mod_cases _ n (by omega)]; split <;> omega
  · rw [mod_cases _ n (by omega)]; split <;> omega
theorem at_rk {n s i : Nat} (hs : s < n) (hi : i < n) : (s + rkC n s i) % n = i := by
  unfold rkC
  rw [mod_cases (i + n - s) n (by omega)]
  split
  · rw [mod_cases _ n (by omega)]; split <;> omega
  · rw [mod_cases _ n (by omega)]; split <;> omega
theorem mod_same {n a b : Nat} (k : Nat) (h : a % n = b % n) : (a + k) % n = (b + k) % n := by
  rw [Nat.add_mod, h, ← Nat.add_mod]
theorem fair_step {l : List (Int × Int)} {s c p : Nat} {out : List Int} {last : Int} {i : Nat} (hs : s < l.length) (hp : p ≤ l.length) (ho : out.length = l.length)
    (hf : frC l.length last % l.length = (s + p) % l.length) (h : FairI l s c p out) (hn : nxC (usedC l out) last = some i) :
    ∃ c' p', p' ≤ l.length ∧ frC l.length (i : Int) % l.length = (s + p') % l.length ∧ FairI l s c' p' (addAt out i) ∧ out.getD i 0 < lfC (atC l i) := by
  obtain ⟨j, _, hj, e, hpos, hbefore⟩ := nxF_some hn
  rw [used_len ho] at hj e hbefore
  have hr : ∀ k, k < l.length → 0 ≤ out.getD k 0 ∧ out.getD k 0 ≤ lfC (atC l k) := fun k hk => by
    rw [h k hk]
    have := lf_nonneg (atC l k)
    constructor
    · split <;> omega
    · omega
  have hi : i < l.length := by rw [e]; exact Nat.mod_lt _ (by omega)
  have hlf : ∀ k, k < l.length → lfC (atC (usedC l out) k) = lfC (atC l k) - out.getD k 0 := fun k hk => by
    rw [at_used ho]; exact lf_used (hr k hk).1 (hr k hk).2
  rw [hlf i hi] at hpos
  have hfull : ∀ q, q < j → lfC (atC l ((s + p + q) % l.length)) ≤ out.getD ((s + p + q) % l.length) 0 := fun q hq => by
    have h1 := hbefore q (by omega) hq
    rw [mod_same q hf, hlf _ (Nat.mod_lt _ (by omega))] at h1
    omega
  have hi2 : i = (s + p + j) % l.length := by rw [e]; exact mod_same j hf
  have hnext : frC l.length (i : Int) % l.length = (i + 1) % l.length := by
    unfold frC; rw [if_pos (by omega)]; simp
  have hnext2 : (i + 1) % l.length = (s + (p + j + 1)) % l.length := by
    rw [hi2, show s + (p + j + 1) = (s + p + j) + 1 by omega]
    exact mod_same 1 (Nat.mod_mod _ _)
  by_cases hw : p + j < l.length
  · refine ⟨c, p + j + 1, by omega, by rw [hnext, hnext2], fun k hk => ?_, by omega⟩
    have hik : rkC l.length s i = p + j := by rw [hi2, Nat.add_assoc]; exact rk_at hs hw
    rw [at_add _ _ _ (by omega)]
    have hk0 := h k hk
    have hkr := rk_lt (n := l.length) (s := s) (i := k) (by omega)
    by_cases hki : k = i
    · subst hki
      rw [if_pos rfl, hk0]
      rw [hk0, hik, if_neg (by omega)] at hpos
      rw [hik, if_neg (by omega), if_pos (by omega)]
      omega
    · rw [if_neg hki, hk0]
      by_cases h1 : rkC l.length s k < p
      · rw [if_pos h1, if_pos (by omega)]
      · rw [if_neg h1]
        have hne : rkC l.length s k ≠ p + j := fun e2 => hki (by rw [← at_rk hs hk, e2, ← at_rk hs hi, hik])
        by_cases h2 : rkC l.length s k < p + j + 1
        · rw [if_pos h2]
          have h3 := hfull (rkC l.length s k - p) (by omega)
          rw [show s + p + (rkC l.length s k - p) = s + rkC l.length s k by omega, at_rk hs hk, hk0, if_neg h1] at h3
          omega
        · rw [if_neg h2]
  · have hik : rkC l.length s i = p + j - l.length := by
      rw [hi2, show s + p + j = (s + (p + j - l.length)) + l.length by omega, Nat.add_mod_right]
      exact rk_at hs (by omega)
    refine ⟨c + 1, p + j - l.length + 1, by omega, ?_, fun k hk => ?_, by omega⟩
    · rw [hnext, hnext2, show s + (p + j + 1) = (s + (p + j - l.length + 1)) + l.length by omega, Nat.add_mod_right]
    · rw [at_add _ _ _ (by omega)]
      have hk0 := h k hk
      have hkr := rk_lt (n := l.length) (s := s) (i := k) (by omega)
      by_cases hki : k = i
      · subst hki
        rw [if_pos rfl, hk0]
        rw [hk0, hik, if_pos (by omega)] at hpos
        rw [hik, if_pos (by omega), if_pos (by omega)]
        omega
      · rw [if_neg hki, hk0]
        have hne : rkC l.length s k ≠ p + j - l.length := fun e2 => hki (by rw [← at_rk hs hk, e2, ← at_rk hs hi, hik])
        have hful : (p ≤ rkC l.length s k ∨ rkC l.length s k < p + j - l.length) → lfC (atC l k) ≤ out.getD k 0 := fun hh => by
          by_cases h1 : p ≤ rkC l.length s k
          · have h3 := hfull (rkC l.length s k - p) (by omega)
            rw [show s + p + (rkC l.length s k - p) = s + rkC l.length s k by omega, at_rk hs hk] at h3
            exact h3
          · have h3 := hfull (rkC l.length s k + l.length - p) (by omega)
            rw [show s + p + (rkC l.length s k + l.length - p) = (s + rkC l.length s k) + l.length by omega, Nat.add_mod_right, at_rk hs hk] at h3
            exact h3
        by_cases h1 : rkC l.length s k < p
        · rw [if_pos h1] at hk0 ⊢
          by_cases h2 : rkC l.length s k < p + j - l.length + 1
          · have h3 := hful (.inr (by omega))
            rw [if_pos h2]
            omega
          · rw [if_neg h2]
            omega
        · rw [if_neg h1] at hk0 ⊢
          have h3 := hful (.inl (by omega))
          omega
def totL (l : List Int) : Int := l.foldr (· + ·) 0
theorem tot_add : ∀ (l : List Int) (i : Nat), i < l.length → totL (addAt l i) = totL l + 1 := by
  intro l
  induction l with
  | nil => intro i h; simp at h
  | cons x xs ih =>
    intro i h
    cases i with
    | zero => simp [addAt, totL]; omega
    | succ i =>
      have := ih i (by simpa using h)
      simp only [addAt, totL, List.set_cons_succ, List.foldr_cons, List.getD_cons_succ] at this ⊢
      omega
/-- what the rounds give -/
theorem fair_run {l : List (Int × Int)} {s : Nat} (hs : s < l.length) : ∀ (f : Nat) (c p : Nat) (out : List Int) (last : Int), p ≤ l.length → out.length = l.length → frC l.length last % l.length = (s + p) % l.length → FairI l s c p out →
    ∃ c' p', FairI l s c' p' (rdF f (usedC l out) out last).1 ∧ (totL (rdF f (usedC l out) out last).1 ≤ totL out + f) ∧
      (totL (rdF f (usedC l out) out last).1 = totL out + f ∨ ∀ i, i < l.length → lfC (atC l i) ≤ (rdF f (usedC l out) out last).1.getD i 0) := by
  intro f
  induction f with
  | zero => intro c p out last _ _ _ h; exact ⟨c, p, h, by simp [rdF], .inl (by simp [rdF])⟩
  | succ f ih =>
    intro c p out last hp ho hf h
    cases hn : nxC (usedC l out) last with
    | some i =>
      have hi := nxC_lt hn
      rw [used_len ho] at hi
      have e1 : rdF (f + 1) (usedC l out) out last = rdF f (usedC l (addAt out i)) (addAt out i) i := by
        rw [rdF, hn]
        dsimp only
        rw [used_use ho hi]
      obtain ⟨c', p', hp', hf', h', _⟩ := fair_step hs hp ho hf h hn
      rw [e1]
      obtain ⟨c2, p2, h2, h3, h4⟩ := ih c' p' (addAt out i) i hp' (by rw [add_len]; exact ho) hf' h'
      rw [tot_add _ _ (by omega)] at h3 h4
      refine ⟨c2, p2, h2, by omega, ?_⟩
      rcases h4 with h4 | h4
      · exact .inl (by omega)
      · exact .inr h4
    | none =>
      have e1 : rdF (f + 1) (usedC l out) out last = (out, last) := by rw [rdF, hn]
      rw [e1]
      refine ⟨c, p, h, by dsimp only; omega, .inr fun i hi => ?_⟩
      have h1 := nxF_none hn
      rw [used_len ho] at h1
      have hlt : 0 < l.length := by omega
      have hr : 0 ≤ out.getD i 0 ∧ out.getD i 0 ≤ lfC (atC l i) := by
        rw [h i hi]
        have := lf_nonneg (atC l i)
        constructor
        · split <;> omega
        · omega
      obtain ⟨q, hq, hqi⟩ : ∃ q, q < l.length ∧ (frC l.length last + q) % l.length = i := by
        refine ⟨(i + l.length - frC l.length last % l.length) % l.length, Nat.mod_lt _ hlt, ?_⟩
        have hm := Nat.mod_lt (frC l.length last) hlt
        rw [Nat.add_mod, Nat.mod_mod]
        generalize frC l.length last % l.length = g at hm ⊢
        rw [mod_cases (i + l.length - g) l.length (by omega)]
        split <;> (rw [mod_cases _ _ (by omega)]; split <;> omega)
      have h2 := h1 q (by omega) (by omega)
      rw [hqi, at_used ho, lf_used hr.1 hr.2] at h2
      dsimp only
      omega
/-- the rounds from nothing on -/
theorem fair_all (l : List (Int × Int)) (last n : Int) (hl : 0 < l.length) (hn : 0 ≤ n) :
    (∀ i, i < l.length → 0 ≤ (rdC l last n).1.getD i 0 ∧ (rdC l last n).1.getD i 0 ≤ lfC (atC l i)) ∧
    (∀ i k, i < l.length → k < l.length → (rdC l last n).1.getD i 0 < lfC (atC l i) → (rdC l last n).1.getD k 0 ≤ (rdC l last n).1.getD i 0 + 1) ∧
    totL (rdC l last n).1 ≤ min n 1024 ∧ (totL (rdC l last n).1 = min n 1024 ∨ ∀ i, i < l.length → lfC (atC l i) ≤ (rdC l last n).1.getD i 0) := by
  have hz : ∀ (m i : Nat), (List.replicate m (0 : Int)).getD i 0 = 0 := fun m i => by
    rw [List.getD_eq_getElem?_getD, List.getElem?_replicate]; split <;> rfl
  have ht : ∀ m : Nat, totL (List.replicate m 0) = 0 := fun m => by
    induction m with
    | zero => rfl
    | succ m ih => rw [List.replicate_succ]; unfold totL at ih ⊢; rw [List.foldr_cons, ih]; rfl
  have h0 : FairI l (frC l.length last % l.length) 0 0 (List.replicate l.length 0) := fun i hi => by
    rw [hz, if_neg (by omega)]
    have := lf_nonneg (atC l i)
    omega
  obtain ⟨c, p, h1, h2, h3⟩ := fair_run (Nat.mod_lt _ hl) (min n 1024).toNat 0 0 (List.replicate l.length 0) last (by omega) (by simp) (by simp) h0
  rw [used_zero, ht] at h2 h3
  rw [used_zero] at h1
  change FairI l _ c p (rdC l last n).1 at h1
  have hmm : ((min n 1024).toNat : Int) = min n 1024 := by omega
  rw [hmm] at h2 h3
  refine ⟨fun i hi => ?_, fun i k hi hk hlt => ?_, by unfold rdC; omega, ?_⟩
  · rw [h1 i hi]
    have := lf_nonneg (atC l i)
    constructor
    · split <;> omega
    · omega
  · rw [h1 i hi] at hlt ⊢
    rw [h1 k hk]
    split at hlt <;> split <;> omega
  · rcases h3 with h3 | h3
    · left; unfold rdC; omega
    · exact .inr h3
end Go.Proofs.Ytomlideijhejfab
