/-
  Words of a pattern against words of a key, as plain values: the definition, and that the way with one way back decides it. No program is named here.
-/
import Derived.Test.YtjkhfifnfgchgabGreatDoorCell
namespace Go.Proofs.YtjkhfifnfgchgabGreatDoor

def hashB : ByteArray := ⟨#[35]⟩
def wordB : ByteArray := ⟨#[42]⟩
/-- the words of a pattern match those of a key -/
def mtW : List ByteArray → List ByteArray → Bool
  | [], k => k.isEmpty
  | p :: ps, k => if p = hashB then (List.range (k.length + 1)).any (fun t => mtW ps (k.drop t)) else match k with
    | [] => false
    | c :: ks => (decide (p = wordB) || decide (p = c)) && mtW ps ks
theorem mt_nil (k : List ByteArray) : mtW [] k = k.isEmpty := rfl
theorem mt_h (ps k : List ByteArray) : mtW (hashB :: ps) k = (List.range (k.length + 1)).any (fun t => mtW ps (k.drop t)) := by
  rw [mtW.eq_def]
  exact if_pos rfl
theorem mt_w {p : ByteArray} (hp : p ≠ hashB) (ps k : List ByteArray) : mtW (p :: ps) k = match k with
    | [] => false
    | c :: ks => (decide (p = wordB) || decide (p = c)) && mtW ps ks := by
  rw [mtW.eq_def]
  exact if_neg hp
theorem mt_hash {ps k : List ByteArray} : mtW (hashB :: ps) k = true ↔ ∃ t, t ≤ k.length ∧ mtW ps (k.drop t) = true := by
  rw [mt_h, List.any_eq_true]
  constructor
  · rintro ⟨t, ht, h⟩
    exact ⟨t, by have := List.mem_range.1 ht; omega, h⟩
  · rintro ⟨t, ht, h⟩
    exact ⟨t, List.mem_range.2 (by omega), h⟩
theorem mt_word {p : ByteArray} {ps k : List ByteArray} (hp : p ≠ hashB) : mtW (p :: ps) k = true ↔ ∃ c ks, k = c :: ks ∧ (p = wordB ∨ p = c) ∧ mtW ps ks = true := by
  rw [mt_w hp]
  cases k with
  | nil => simp
  | cons c ks =>
    simp only [Bool.and_eq_true, Bool.or_eq_true, decide_eq_true_eq]
    exact ⟨fun h => ⟨c, ks, rfl, h⟩, fun ⟨c', ks', e, h⟩ => by
      simp only [List.cons.injEq] at e
      obtain ⟨rfl, rfl⟩ := e
      exact h⟩
/-- words that are no # take one word each -/
theorem mt_app : ∀ {Q R k : List ByteArray}, (∀ q ∈ Q, q ≠ hashB) → mtW (Q ++ R) k = true → Q.length ≤ k.length ∧ mtW R (k.drop Q.length) = true
  | [], R, k, _, h => ⟨Nat.zero_le _, by simpa using h⟩
  | q :: Q, R, k, hq, h => by
    rw [List.cons_append] at h
    obtain ⟨c, ks, rfl, _, h2⟩ := (mt_word (hq q (by simp))).1 h
    obtain ⟨h3, h4⟩ := mt_app (fun x hx => hq x (by simp [hx])) h2
    exact ⟨by simp; omega, by simpa using h4⟩
theorem mt_end : ∀ {p : List ByteArray}, mtW p [] = p.all (fun x => decide (x = hashB))
  | [] => rfl
  | x :: p => by
    by_cases hx : x = hashB
    · subst hx
      rw [Bool.eq_iff_iff, mt_hash, List.all_cons]
      simp only [decide_true, Bool.true_and]
      rw [← mt_end (p := p)]
      constructor
      · rintro ⟨t, _, h⟩; simpa using h
      · intro h; exact ⟨0, by simp, by simpa using h⟩
    · rw [mt_w hx, List.all_cons, decide_eq_false hx]; rfl

/-- what is known at a step: at and rd the places, m the last # that was passed and tk what it took -/
structure Gl (p k : List ByteArray) (at_ rd : Nat) (m : Option Nat) (tk : Nat) : Prop where
  hat : at_ ≤ p.length
  hrd : rd ≤ k.length
  htk : tk ≤ rd
  no : m = none → tk = 0 ∧ (mtW p k = true ↔ mtW (p.drop at_) (k.drop rd) = true)
  yes : ∀ n, m = some n → n < at_ ∧ rd = tk + (at_ - (n + 1)) ∧ (∀ j x, n < j → j < at_ → p[j]? = some x → x ≠ hashB) ∧ (mtW p k = true ↔ mtW (p.drop at_) (k.drop rd) = true ∨ ∃ t, tk < t ∧ t ≤ k.length ∧ mtW (p.drop (n + 1)) (k.drop t) = true)
theorem Gl.start (p k : List ByteArray) : Gl p k 0 0 none 0 := ⟨Nat.zero_le _, Nat.zero_le _, Nat.le_refl _, fun _ => ⟨rfl, by simp⟩, fun n h => by cases h⟩
theorem drop_cons {l : List ByteArray} {i : Nat} {x : ByteArray} (h : l[i]? = some x) : l.drop i = x :: l.drop (i + 1) := by
  obtain ⟨hi, rfl⟩ := List.getElem?_eq_some_iff.1 h
  exact List.drop_eq_getElem_cons hi
/-- the words between the last # and here -/
theorem seg {p : List ByteArray} {n at_ : Nat} (h1 : n < at_) (h2 : at_ ≤ p.length) (h3 : ∀ j x, n < j → j < at_ → p[j]? = some x → x ≠ hashB) :
    ∃ Q, p.drop (n + 1) = Q ++ p.drop at_ ∧ Q.length = at_ - (n + 1) ∧ ∀ q ∈ Q, q ≠ hashB := by
  refine ⟨(p.drop (n + 1)).take (at_ - (n + 1)), ?_, ?_, fun q hq => ?_⟩
  · have : p.drop at_ = (p.drop (n + 1)).drop (at_ - (n + 1)) := by rw [List.drop_drop]; congr 1; omega
    rw [this, List.take_append_drop]
  · rw [List.length_take, List.length_drop]; omega
  · obtain ⟨j, hj⟩ := List.mem_iff_getElem?.1 hq
    rw [List.getElem?_take] at hj
    split at hj
    · next hjl =>
      rw [List.getElem?_drop] at hj
      exact h3 _ q (by omega) (by omega) hj
    · cases hj
theorem Gl.hash {p k : List ByteArray} {at_ rd tk : Nat} {m : Option Nat} (h : Gl p k at_ rd m tk) (hx : p[at_]? = some hashB) : Gl p k (at_ + 1) rd (some at_) rd := by
  have hl := (List.getElem?_eq_some_iff.1 hx).1
  refine ⟨by omega, h.hrd, Nat.le_refl _, fun e => by (cases e), fun n hn => ?_⟩
  obtain rfl := Option.some.inj hn
  refine ⟨by omega, by omega, fun j x h1 h2 => by omega, ?_⟩
  have hd : mtW (p.drop at_) (k.drop rd) = true ↔ mtW (p.drop (at_ + 1)) (k.drop rd) = true ∨ ∃ t, rd < t ∧ t ≤ k.length ∧ mtW (p.drop (at_ + 1)) (k.drop t) = true := by
    rw [drop_cons hx, mt_hash]
    constructor
    · rintro ⟨t, ht, h2⟩
      rw [List.drop_drop] at h2
      rw [List.length_drop] at ht
      by_cases h0 : t = 0
      · subst h0; exact Or.inl (by simpa using h2)
      · exact Or.inr ⟨rd + t, by omega, by have := h.hrd; omega, h2⟩
    · rintro (h2 | ⟨t, h1, h2, h3⟩)
      · exact ⟨0, Nat.zero_le _, by simpa using h2⟩
      · refine ⟨t - rd, by rw [List.length_drop]; omega, ?_⟩
        rw [List.drop_drop, show rd + (t - rd) = t by omega]; exact h3
  cases m with
  | none => rw [(h.no rfl).2]; exact hd
  | some n =>
    obtain ⟨h1, h2, h3, h4⟩ := h.yes n rfl
    rw [h4, hd]
    constructor
    · rintro (h5 | ⟨t, h5, h6, h7⟩)
      · exact h5
      · obtain ⟨Q, hQ, hQl, hQn⟩ := seg h1 h.hat h3
        rw [hQ] at h7
        obtain ⟨h8, h9⟩ := mt_app hQn h7
        rw [drop_cons hx, mt_hash, List.drop_drop] at h9
        obtain ⟨u, hu, h10⟩ := h9
        rw [List.drop_drop] at h10
        rw [List.length_drop] at hu h8
        exact Or.inr ⟨t + Q.length + u, by omega, by omega, h10⟩
    · intro h5; exact Or.inl h5
theorem Gl.step {p k : List ByteArray} {at_ rd tk : Nat} {m : Option Nat} {x c : ByteArray} (h : Gl p k at_ rd m tk) (hx : p[at_]? = some x) (hc : k[rd]? = some c) (hh : x ≠ hashB) (hm : x = wordB ∨ x = c) : Gl p k (at_ + 1) (rd + 1) m tk := by
  have hl := (List.getElem?_eq_some_iff.1 hx).1
  have hkl := (List.getElem?_eq_some_iff.1 hc).1
  have hd : mtW (p.drop at_) (k.drop rd) = true ↔ mtW (p.drop (at_ + 1)) (k.drop (rd + 1)) = true := by
    rw [drop_cons hx, drop_cons hc, mt_word hh]
    constructor
    · rintro ⟨c', ks, e, _, h2⟩
      simp only [List.cons.injEq] at e
      obtain ⟨_, rfl⟩ := e
      exact h2
    · intro h2; exact ⟨c, _, rfl, hm, h2⟩
  refine ⟨by omega, by omega, by have := h.htk; omega, fun e => ⟨(h.no e).1, (h.no e).2.trans hd⟩, fun n hn => ?_⟩
  obtain ⟨h1, h2, h3, h4⟩ := h.yes n hn
  refine ⟨by omega, by omega, fun j y hj1 hj2 hy => ?_, by rw [h4, hd]⟩
  by_cases hj : j = at_
  · subst hj; rw [hx] at hy; rw [← Option.some.inj hy]; exact hh
  · exact h3 j y hj1 (by omega) hy
/-- no way on from here -/
theorem no_way {p k : List ByteArray} {at_ rd : Nat} {c : ByteArray} (hc : k[rd]? = some c) (hx : ∀ x, p[at_]? = some x → x ≠ hashB ∧ x ≠ wordB ∧ x ≠ c) : mtW (p.drop at_) (k.drop rd) = false := by
  rw [drop_cons hc, Bool.eq_false_iff]
  intro h
  cases hp : p[at_]? with
  | none =>
    rw [List.drop_eq_nil_of_le (by exact List.getElem?_eq_none_iff.1 hp)] at h
    cases h
  | some x =>
    rw [drop_cons hp] at h
    obtain ⟨h1, h2, h3⟩ := hx x hp
    obtain ⟨c', ks, e, h4, _⟩ := (mt_word h1).1 h
    simp only [List.cons.injEq] at e
    rcases h4 with h4 | h4
    · exact h2 h4
    · exact h3 (h4.trans e.1.symm)
theorem Gl.back {p k : List ByteArray} {at_ rd tk n : Nat} {c : ByteArray} (h : Gl p k at_ rd (some n) tk) (hc : k[rd]? = some c) (hx : ∀ x, p[at_]? = some x → x ≠ hashB ∧ x ≠ wordB ∧ x ≠ c) : Gl p k (n + 1) (tk + 1) (some n) (tk + 1) := by
  have hkl := (List.getElem?_eq_some_iff.1 hc).1
  have hf := no_way hc hx
  obtain ⟨h1, h2, h3, h4⟩ := h.yes n rfl
  refine ⟨by have := h.hat; omega, by have := h.htk; omega, Nat.le_refl _, fun e => by (cases e), fun n' hn => ?_⟩
  obtain rfl := Option.some.inj hn
  refine ⟨by omega, by omega, fun j y hj1 hj2 => by omega, ?_⟩
  rw [h4, hf]
  constructor
  · rintro (h5 | ⟨t, h5, h6, h7⟩)
    · cases h5
    · by_cases ht : t = tk + 1
      · subst ht; exact Or.inl h7
      · exact Or.inr ⟨t, by omega, h6, h7⟩
  · rintro (h5 | ⟨t, h5, h6, h7⟩)
    · exact Or.inr ⟨tk + 1, by omega, by have := h.htk; omega, h5⟩
    · exact Or.inr ⟨t, by omega, h6, h7⟩
theorem Gl.fail {p k : List ByteArray} {at_ rd tk : Nat} {c : ByteArray} (h : Gl p k at_ rd none tk) (hc : k[rd]? = some c) (hx : ∀ x, p[at_]? = some x → x ≠ hashB ∧ x ≠ wordB ∧ x ≠ c) : mtW p k = false := by
  rw [Bool.eq_false_iff]
  intro h2
  have := ((h.no rfl).2).1 h2
  rw [no_way hc hx] at this
  cases this
theorem Gl.done {p k : List ByteArray} {at_ tk : Nat} {m : Option Nat} (h : Gl p k at_ k.length m tk) : mtW p k = (p.drop at_).all (fun x => decide (x = hashB)) := by
  rw [← mt_end, Bool.eq_iff_iff]
  cases m with
  | none => rw [(h.no rfl).2, List.drop_length]
  | some n =>
    obtain ⟨h1, h2, h3, h4⟩ := h.yes n rfl
    rw [h4, List.drop_length]
    constructor
    · rintro (h5 | ⟨t, h5, h6, h7⟩)
      · exact h5
      · obtain ⟨Q, hQ, hQl, hQn⟩ := seg h1 h.hat h3
        rw [hQ] at h7
        obtain ⟨h8, _⟩ := mt_app hQn h7
        rw [List.length_drop] at h8
        omega
    · intro h5; exact Or.inl h5
/-- the rounds that are left at most -/
def gleft (p k : List ByteArray) (at_ tk : Nat) : Nat := (k.length - tk) * (p.length + 1) + (p.length - at_)
theorem gleft_on {p k : List ByteArray} {at_ tk tk' : Nat} (h : at_ < p.length) (ht : tk ≤ tk') : gleft p k (at_ + 1) tk' < gleft p k at_ tk := by
  unfold gleft
  have : (k.length - tk') * (p.length + 1) ≤ (k.length - tk) * (p.length + 1) := Nat.mul_le_mul_right _ (by omega)
  omega
theorem gleft_back {p k : List ByteArray} {at_ tk n : Nat} (h : tk < k.length) : gleft p k (n + 1) (tk + 1) < gleft p k at_ tk := by
  unfold gleft
  have e : k.length - tk = (k.length - (tk + 1)) + 1 := by omega
  rw [e, Nat.succ_mul]
  omega
/-! ### The rows of the definition -/
theorem mt_row_hash (ps k : List ByteArray) (j : Nat) : mtW (hashB :: ps) (k.drop j) = (mtW ps (k.drop j) || (decide (j < k.length) && mtW (hashB :: ps) (k.drop (j + 1)))) := by
  rw [Bool.eq_iff_iff, mt_hash, Bool.or_eq_true, Bool.and_eq_true, decide_eq_true_eq, mt_hash]
  simp only [List.drop_drop, List.length_drop]
  constructor
  · rintro ⟨t, ht, h⟩
    by_cases h0 : t = 0
    · subst h0; exact Or.inl h
    · exact Or.inr ⟨by omega, t - 1, by omega, by rw [show j + 1 + (t - 1) = j + t by omega]; exact h⟩
  · rintro (h | ⟨h1, t, ht, h⟩)
    · exact ⟨0, Nat.zero_le _, h⟩
    · exact ⟨t + 1, by omega, by rw [show j + (t + 1) = j + 1 + t by omega]; exact h⟩
theorem mt_row_word {p : ByteArray} (hp : p ≠ hashB) (ps k : List ByteArray) {j : Nat} {c : ByteArray} (hc : k[j]? = some c) : mtW (p :: ps) (k.drop j) = ((decide (p = wordB) || decide (p = c)) && mtW ps (k.drop (j + 1))) := by
  rw [drop_cons hc, mt_w hp]
theorem mt_row_end {p : ByteArray} (hp : p ≠ hashB) (ps k : List ByteArray) : mtW (p :: ps) (k.drop k.length) = false := by
  rw [List.drop_length, mt_w hp]
end Go.Proofs.YtjkhfifnfgchgabGreatDoor
