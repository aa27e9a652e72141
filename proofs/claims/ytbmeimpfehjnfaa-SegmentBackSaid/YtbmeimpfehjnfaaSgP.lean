/-
  Segments as values: which records stand at the beginning of bytes, one after the other, and what appending, recovering and cutting make of them. No function of the program is walked here.
-/
import Derived.Test.YtbmeimpfehjnfaaRcP
import Derived.Test.YtbmeimpfehjnfaaLg
namespace Go.Proofs.Ytbmeimpfehjnfaa
open Go.RowKit

/-- what Decode accepts at a place -/
theorem rcDec_at {l : List UInt8} {p nx : Int} {r : Rc} (h : rcDec l p = (r, nx, 0)) : rcCk r = 0 ∧ ∃ k : Nat, p = k ∧ nx = ((k + (rcEnc r).length : Nat) : Int) ∧ k + (rcEnc r).length ≤ l.length ∧ l.drop k = rcEnc r ++ l.drop (k + (rcEnc r).length) := by
  unfold rcDec at h
  generalize hx : nextR l p = q at h
  obtain ⟨T, n, e⟩ := q
  dsimp only at h
  by_cases he : e ≠ 0
  · rw [if_pos he] at h; simp only [Prod.mk.injEq] at h; exact absurd h.2.2 he
  rw [if_neg he] at h
  obtain rfl : e = 0 := by omega
  generalize hy : rcRd T = y at h
  obtain ⟨r', f⟩ := y
  dsimp only at h
  by_cases hf : f ≠ 0
  · rw [if_pos hf] at h; simp only [Prod.mk.injEq] at h; exact absurd h.2.2 hf
  rw [if_neg hf] at h
  obtain rfl : f = 0 := by omega
  simp only [Prod.mk.injEq, and_true] at h
  obtain ⟨rfl, rfl⟩ := h
  obtain ⟨hc, hp⟩ := rcRd_ok hy rfl
  obtain ⟨k, j, rfl, rfl, h2, h3, h4, h5, h6, h7⟩ := nextR_ok hx
  have hw := (wrap_same (l := l) (k := k) (j := j) (m := T.length) (E := enc T.length) h5 h4 h3 rfl).2 (by rw [← h7]; exact h6)
  rw [← h7] at hw
  have hwl : (wrapR T).length = j + 4 + T.length := by rw [hw, List.length_take, List.length_drop]; omega
  have e : rcEnc r' = wrapR T := by unfold rcEnc; rw [if_neg (by omega), hp]
  refine ⟨hc, k, rfl, by rw [e, hwl]; omega, by rw [e, hwl]; omega, ?_⟩
  rw [e, hwl]
  conv => lhs; rw [← List.take_append_drop (j + 4 + T.length) (l.drop k)]
  rw [List.drop_drop, ← hw]

def flatR (rs : List Rc) : List UInt8 := rs.flatMap rcEnc
theorem flatR_nil : flatR [] = [] := rfl
theorem flatR_cons (r : Rc) (rs : List Rc) : flatR (r :: rs) = rcEnc r ++ flatR rs := rfl
theorem flatR_app (a b : List Rc) : flatR (a ++ b) = flatR a ++ flatR b := List.flatMap_append
theorem flatR_one (r : Rc) : flatR [r] = rcEnc r := by simp [flatR]
/-- valid records with consecutive offsets -/
def ConsR : Int → List Rc → Prop
  | _, [] => True
  | o, r :: rs => r.off = o ∧ rcCk r = 0 ∧ ConsR (o + 1) rs
theorem ConsR.app : ∀ {a b : List Rc} {o : Int}, ConsR o (a ++ b) ↔ ConsR o a ∧ ConsR (o + a.length) b
  | [], b, o => by simp [ConsR]
  | r :: a, b, o => by
    have ih := ConsR.app (a := a) (b := b) (o := o + 1)
    have e : o + 1 + (a.length : Int) = o + ((r :: a).length : Int) := by rw [List.length_cons]; omega
    rw [e] at ih
    constructor
    · rintro ⟨h1, h2, h3⟩
      exact ⟨⟨h1, h2, (ih.1 h3).1⟩, (ih.1 h3).2⟩
    · rintro ⟨⟨h1, h2, h3⟩, h4⟩
      exact ⟨h1, h2, ih.2 ⟨h3, h4⟩⟩
theorem ConsR.snoc {a : List Rc} {o : Int} {r : Rc} (h : ConsR o a) (h1 : r.off = o + a.length) (h2 : rcCk r = 0) : ConsR o (a ++ [r]) := ConsR.app.2 ⟨h, h1, h2, trivial⟩
theorem ConsR.at_ : ∀ {a : List Rc} {o : Int} {k : Nat} {r : Rc}, ConsR o a → a[k]? = some r → r.off = o + k ∧ rcCk r = 0
  | [], _, _, _, _, h => by simp at h
  | x :: a, o, 0, r, hc, h => by
    simp at h
    subst h
    exact ⟨by rw [hc.1]; simp, hc.2.1⟩
  | x :: a, o, k + 1, r, hc, h => by
    have := ConsR.at_ hc.2.2 (k := k) (r := r) (by simpa using h)
    exact ⟨by rw [this.1]; omega, this.2⟩
theorem flatR_len {a : List Rc} {o : Int} (h : ConsR o a) : a.length * 5 ≤ (flatR a).length ∧ (flatR a).length ≤ a.length * 4214 := by
  induction a generalizing o with
  | nil => simp [flatR]
  | cons r a ih =>
    have h1 := rcEnc_len h.2.1
    have h2 := ih h.2.2
    rw [flatR_cons, List.length_append, List.length_cons]
    omega

/-- the records with consecutive offsets from a place on, the place behind them, and why no more -/
def scF (l : List UInt8) : Nat → Int → Nat → List Rc × Nat × Int
  | 0, _, p => ([], p, 0)
  | f + 1, o, p => if p < l.length then
      (if (rcDec l p).2.2 ≠ 0 then ([], p, (rcDec l p).2.2)
       else if (rcDec l p).1.off ≠ o then ([], p, 22)
       else ((rcDec l p).1 :: (scF l f (o + 1) (rcDec l p).2.1.toNat).1, (scF l f (o + 1) (rcDec l p).2.1.toNat).2))
    else ([], p, 0)
def scR (l : List UInt8) (base : Int) : List Rc × Nat × Int := scF l (l.length + 1) base 0
/-- why a scan stops at a place -/
def StopR (l : List UInt8) (o : Int) (e : Nat) (c : Int) : Prop :=
  (l.length ≤ e ∧ c = 0) ∨ (e < l.length ∧ (rcDec l e).2.2 = c ∧ c ≠ 0) ∨ (e < l.length ∧ (rcDec l e).2.2 = 0 ∧ (rcDec l e).1.off ≠ o ∧ c = 22)
theorem scF_stop {l : List UInt8} {o : Int} {e : Nat} {c : Int} (h : StopR l o e c) (f : Nat) : scF l (f + 1) o e = ([], e, c) := by
  unfold scF
  rcases h with ⟨h1, rfl⟩ | ⟨h1, h2, h3⟩ | ⟨h1, h2, h3, rfl⟩
  · rw [if_neg (by omega)]
  · rw [if_pos h1, h2, if_pos h3]
  · rw [if_pos h1, h2, if_neg (by decide), if_pos h3]
theorem scF_step {l : List UInt8} {o : Int} {p : Nat} {r : Rc} {nx : Int} (h : rcDec l p = (r, nx, 0)) (hp : p < l.length) (ho : r.off = o) (f : Nat) : scF l (f + 1) o p = (r :: (scF l f (o + 1) nx.toNat).1, (scF l f (o + 1) nx.toNat).2) := by
  conv => lhs; unfold scF
  rw [if_pos hp, h]
  dsimp only
  rw [if_neg (by decide), if_neg (by omega)]

/-- the state of a scan: xs are found, p is behind them -/
def ScI (l : List UInt8) (base : Int) (xs : List Rc) (p : Nat) : Prop :=
  p ≤ l.length ∧ xs.length * 5 ≤ p ∧ l = flatR xs ++ l.drop p ∧ p = (flatR xs).length ∧ ConsR base xs ∧ ∃ f, l.length < f + p ∧ (scR l base).1 = xs ++ (scF l f (base + xs.length) p).1 ∧ (scR l base).2 = (scF l f (base + xs.length) p).2
theorem ScI.start (l : List UInt8) (base : Int) : ScI l base [] 0 :=
  ⟨by omega, by simp, by simp [flatR], rfl, trivial, l.length + 1, by omega, by simp [scR], by simp [scR]⟩
theorem ScI.stop {l : List UInt8} {base : Int} {xs : List Rc} {p : Nat} (h : ScI l base xs p) {c : Int} (hs : StopR l (base + xs.length) p c) : scR l base = (xs, p, c) := by
  obtain ⟨h1, h2, h3, h4, h5, f, h6, h7, h8⟩ := h
  obtain ⟨f, rfl⟩ : ∃ k, f = k + 1 := ⟨f - 1, by omega⟩
  rw [scF_stop hs] at h7 h8
  rw [List.append_nil] at h7
  exact Prod.ext h7 h8
theorem ScI.next {l : List UInt8} {base : Int} {xs : List Rc} {p : Nat} (h : ScI l base xs p) {r : Rc} {nx : Int} (hd : rcDec l p = (r, nx, 0)) (ho : r.off = base + xs.length) : ∃ q : Nat, nx = q ∧ p + 5 ≤ q ∧ q ≤ p + 4214 ∧ q = p + (rcEnc r).length ∧ rcCk r = 0 ∧ ScI l base (xs ++ [r]) q := by
  obtain ⟨h1, h2, h3, h4, h5, f, h6, h7, h8⟩ := h
  obtain ⟨hc, k, hk, hn, hl, hdr⟩ := rcDec_at hd
  have hb := rcEnc_len hc
  obtain rfl : k = p := by omega
  have hlt : k < l.length := by omega
  obtain ⟨f, rfl⟩ : ∃ j, f = j + 1 := ⟨f - 1, by omega⟩
  rw [scF_step hd hlt ho f] at h7 h8
  have ht : nx.toNat = k + (rcEnc r).length := by omega
  rw [ht] at h7 h8
  refine ⟨k + (rcEnc r).length, hn, by omega, by omega, rfl, hc, by omega, by rw [List.length_append, List.length_singleton]; omega, ?_, ?_, h5.snoc ho hc, f, by omega, ?_, ?_⟩
  · rw [flatR_app, flatR_one, List.append_assoc, ← hdr]; exact h3
  · rw [flatR_app, flatR_one, List.length_append]; omega
  · rw [h7]
    simp only [List.append_assoc, List.singleton_append, List.length_append, List.length_singleton]
    rw [show base + ((xs.length + 1 : Nat) : Int) = base + xs.length + 1 by omega]
  · rw [h8]
    simp only [List.length_append, List.length_singleton]
    rw [show base + ((xs.length + 1 : Nat) : Int) = base + xs.length + 1 by omega]
theorem ScI.bound {l : List UInt8} {base : Int} {xs : List Rc} {p : Nat} (h : ScI l base xs p) : xs.length * 5 ≤ p ∧ p ≤ l.length := ⟨h.2.1, h.1⟩
theorem ScI.stop_end {l : List UInt8} {base : Int} {xs : List Rc} {p : Nat} (h : ScI l base xs p) (hp : ¬ p < l.length) : scR l base = (xs, p, 0) := h.stop (.inl ⟨by omega, rfl⟩)
theorem ScI.stop_err {l : List UInt8} {base : Int} {xs : List Rc} {p : Nat} (h : ScI l base xs p) (hp : p < l.length) {r : Rc} {nx e : Int} (hd : rcDec l p = (r, nx, e)) (he : e ≠ 0) : scR l base = (xs, p, e) := h.stop (.inr (.inl ⟨hp, by rw [hd], he⟩))
theorem ScI.stop_ord {l : List UInt8} {base : Int} {xs : List Rc} {p : Nat} (h : ScI l base xs p) (hp : p < l.length) {r : Rc} {nx : Int} (hd : rcDec l p = (r, nx, 0)) (ho : r.off ≠ base + xs.length) : scR l base = (xs, p, 22) := h.stop (.inr (.inr ⟨hp, by rw [hd], by rw [hd]; exact ho, rfl⟩))

/-- a scan goes to its end: what it finds, from any state -/
theorem ScI.final : ∀ (m : Nat) {l : List UInt8} {base : Int} {xs : List Rc} {p : Nat}, l.length ≤ p + m → ScI l base xs p → ∃ ys q c, scR l base = (xs ++ ys, q, c) ∧ ScI l base (xs ++ ys) q ∧ StopR l (base + (xs ++ ys).length) q c
  | 0, l, base, xs, p, hm, h => ⟨[], p, 0, by rw [List.append_nil]; exact h.stop_end (by omega), by rw [List.append_nil]; exact h, .inl ⟨by omega, rfl⟩⟩
  | m + 1, l, base, xs, p, hm, h => by
    by_cases hp : p < l.length
    · generalize hd : rcDec l p = D
      obtain ⟨r, nx, e⟩ := D
      by_cases he : e = 0
      · subst he
        by_cases ho : r.off = base + xs.length
        · obtain ⟨q, _, hq, _, _, _, h'⟩ := h.next hd ho
          obtain ⟨ys, q', c, h1, h2, h3⟩ := ScI.final m (by omega) h'
          refine ⟨r :: ys, q', c, ?_, ?_, ?_⟩
          · rw [h1, List.append_assoc]; rfl
          · have e : xs ++ [r] ++ ys = xs ++ r :: ys := by rw [List.append_assoc]; rfl
            rw [← e]; exact h2
          · have e : xs ++ [r] ++ ys = xs ++ r :: ys := by rw [List.append_assoc]; rfl
            rw [← e]; exact h3
        · exact ⟨[], p, 22, by rw [List.append_nil]; exact h.stop_ord hp hd ho, by rw [List.append_nil]; exact h, by rw [List.append_nil]; exact .inr (.inr ⟨hp, by rw [hd], by rw [hd]; exact ho, rfl⟩)⟩
      · exact ⟨[], p, e, by rw [List.append_nil]; exact h.stop_err hp hd he, by rw [List.append_nil]; exact h, by rw [List.append_nil]; exact .inr (.inl ⟨hp, by rw [hd], he⟩)⟩
    · exact ⟨[], p, 0, by rw [List.append_nil]; exact h.stop_end hp, by rw [List.append_nil]; exact h, by rw [List.append_nil]; exact .inl ⟨by omega, rfl⟩⟩
theorem scR_fin (l : List UInt8) (base : Int) : ScI l base (scR l base).1 (scR l base).2.1 ∧ StopR l (base + (scR l base).1.length) (scR l base).2.1 (scR l base).2.2 := by
  obtain ⟨ys, q, c, h1, h2, h3⟩ := ScI.final l.length (by omega) (ScI.start l base)
  rw [h1]
  exact ⟨h2, h3⟩
/-- a scan over the framed forms of records, whatever follows -/
theorem ScI.of {base : Int} {rs : List Rc} (hc : ConsR base rs) (post : List UInt8) : ScI (flatR rs ++ post) base rs (flatR rs).length := by
  have key : ∀ (k : Nat), k ≤ rs.length → ScI (flatR rs ++ post) base (rs.take k) (flatR (rs.take k)).length := by
    intro k
    induction k with
    | zero => intro _; simpa [flatR] using ScI.start (flatR rs ++ post) base
    | succ k ih =>
      intro hk
      have h := ih (by omega)
      obtain ⟨r, hr⟩ : ∃ r, rs[k]? = some r := ⟨_, List.getElem?_eq_getElem (by omega)⟩
      obtain ⟨ho, hck⟩ := hc.at_ hr
      have e1 : rs.take (k + 1) = rs.take k ++ [r] := by rw [List.take_add_one, hr]; rfl
      have e2 : flatR rs ++ post = flatR (rs.take k) ++ (rcEnc r ++ (flatR (rs.drop (k + 1)) ++ post)) := by
        have e3 : rs = rs.take k ++ r :: rs.drop (k + 1) := (split_at hr).1
        conv => lhs; rw [e3]
        rw [flatR_app, flatR_cons]
        simp only [List.append_assoc]
      have hd := rcDec_frame hck (flatR (rs.take k)) (flatR (rs.drop (k + 1)) ++ post)
      rw [← e2] at hd
      have hl : ((rs.take k).length : Int) = k := by rw [List.length_take]; omega
      obtain ⟨q, hq, _, _, hq2, _, h'⟩ := h.next hd (by rw [ho, hl])
      rw [e1, flatR_app, flatR_one, List.length_append, ← hq2]
      exact h'
  have := key rs.length (Nat.le_refl _)
  rwa [List.take_length] at this
theorem scR_of {base : Int} {rs : List Rc} (hc : ConsR base rs) : scR (flatR rs) base = (rs, (flatR rs).length, 0) := by
  have h := ScI.of hc []
  rw [List.append_nil] at h
  exact h.stop_end (by omega)
/-- records whose framed forms end too early -/
theorem rcDec_tornA {r : Rc} (h : rcCk r = 0) (pre : List UInt8) {cut : Nat} (hc : cut < (rcEnc r).length) : rcDec (pre ++ (rcEnc r).take cut) (pre.length : Int) = (rcZ, 0, 3) := by
  have hl := rcPay_len h
  have e : rcEnc r = wrapR (rcPay r) := by unfold rcEnc; rw [if_neg (by omega)]
  rw [e] at hc ⊢
  unfold rcDec
  rw [next_torn pre (rcPay r) (by omega) cut hc]
  simp
theorem scR_torn {base : Int} {rs : List Rc} (hc : ConsR base rs) {r : Rc} (hr : rcCk r = 0) {j : Nat} (hj : j < (rcEnc r).length) : (scR (flatR rs ++ (rcEnc r).take j) base).1 = rs ∧ (scR (flatR rs ++ (rcEnc r).take j) base).2.1 = (flatR rs).length := by
  have h := ScI.of hc ((rcEnc r).take j)
  by_cases h0 : j = 0
  · subst h0
    rw [h.stop_end (by simp)]
    exact ⟨rfl, rfl⟩
  · rw [h.stop_err (by rw [List.length_append, List.length_take]; omega) (rcDec_tornA hr (flatR rs) hj) (by decide)]
    exact ⟨rfl, rfl⟩

/-! ### a segment with a record more -/
def sgApp (base next : Int) (l : List UInt8) (k : Int) (key val : ByteArray) : (Int × Int × List UInt8) × Int × Int :=
  if rcCk ⟨next, k, key, val⟩ ≠ 0 then ((0, 0, []), 0, rcCk ⟨next, k, key, val⟩)
  else if 65536 < l.length + (rcEnc ⟨next, k, key, val⟩).length then ((0, 0, []), 0, 6)
  else ((base, next + 1, l ++ rcEnc ⟨next, k, key, val⟩), next, 0)
/-- which segments are valid -/
def sgCk (base next : Int) (l : List UInt8) : Int :=
  if base < 0 ∨ 1099511627776 < base then 1
  else if 65536 < l.length then 5
  else if (scR l base).2.2 ≠ 0 then (scR l base).2.2
  else if next ≠ base + (scR l base).1.length then 1
  else 0
theorem sgCk_ok {base next : Int} {l : List UInt8} (h : sgCk base next l = 0) : 0 ≤ base ∧ base ≤ 1099511627776 ∧ l.length ≤ 65536 ∧ ∃ rs, ConsR base rs ∧ l = flatR rs ∧ next = base + rs.length ∧ scR l base = (rs, l.length, 0) := by
  unfold sgCk at h
  split at h
  · omega
  split at h
  · omega
  split at h
  · next h3 => exact absurd h h3
  split at h
  · omega
  next h1 h2 h3 h4 =>
  obtain ⟨hi, hs⟩ := scR_fin l base
  generalize hq : scR l base = q at *
  obtain ⟨rs, e, c⟩ := q
  dsimp only at *
  obtain rfl : c = 0 := by omega
  have he : l.length ≤ e := by
    rcases hs with ⟨h5, _⟩ | ⟨_, _, h5⟩ | ⟨_, _, _, h5⟩
    · exact h5
    · exact absurd rfl h5
    · omega
  have he2 := hi.bound.2
  obtain rfl : e = l.length := by omega
  refine ⟨by omega, by omega, by omega, rs, hi.2.2.2.2.1, ?_, by omega, rfl⟩
  have := hi.2.2.1
  rwa [List.drop_length, List.append_nil] at this
theorem sgCk_of {base : Int} {rs : List Rc} (h1 : 0 ≤ base) (h2 : base ≤ 1099511627776) (hc : ConsR base rs) (hl : (flatR rs).length ≤ 65536) : sgCk base (base + rs.length) (flatR rs) = 0 := by
  unfold sgCk
  rw [scR_of hc, if_neg (by omega), if_neg (by omega), if_neg (by simp), if_neg (by simp)]
end Go.Proofs.Ytbmeimpfehjnfaa
