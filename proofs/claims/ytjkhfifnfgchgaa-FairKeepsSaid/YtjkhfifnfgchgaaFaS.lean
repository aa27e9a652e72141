/-
  The program's way to search, as plain values: the first index from one on, and what it has to do with the specification's turns. No program is named here.
-/
import Derived.Test.YtjkhfifnfgchgaaFaG
namespace Go.Proofs.Ytjkhfifnfgchgaa

/-- the first index, from k on, that fits -/
def srG (p : Cs → Bool) : List Cs → Nat → Option Nat
  | [], _ => none
  | x :: r, k => if p x then some k else srG p r (k + 1)
theorem srG_no {p : Cs → Bool} {x : Cs} {r : List Cs} {k : Nat} (h : p x = false) : srG p (x :: r) k = srG p r (k + 1) := by rw [srG, h]; rfl
theorem srG_yes {p : Cs → Bool} {x : Cs} {r : List Cs} {k : Nat} (h : p x = true) : srG p (x :: r) k = some k := by rw [srG, if_pos h]
theorem srG_fnd {cn tg : Int} : ∀ {l : List Cs} {k : Nat}, srG (isC cn tg) l k = fndC cn tg l k
  | [], _ => rfl
  | x :: r, k => by rw [srG, fndC, srG_fnd]
def tagP (t : Int) (x : Cs) : Bool := decide (x.tag = t)
theorem beg_sr {t : Int} : ∀ {l : List Cs} {k : Nat}, (srG (tagP t) l k = none ∧ begC t l k = 0) ∨ ∃ i, srG (tagP t) l k = some i ∧ begC t l k = i + 1 ∧ i < k + l.length
  | [], k => .inl ⟨rfl, rfl⟩
  | x :: r, k => by
    by_cases h : x.tag = t
    · exact .inr ⟨k, srG_yes (decide_eq_true h), by rw [begC, if_pos h], by rw [List.length_cons]; omega⟩
    · rw [srG_no (show tagP t x = false from decide_eq_false h), begC, if_neg h]
      rcases beg_sr (t := t) (l := r) (k := k + 1) with h2 | ⟨i, h2, h3, h4⟩
      · exact .inl h2
      · exact .inr ⟨i, h2, h3, by rw [List.length_cons]; omega⟩
theorem beg_ix (t : Int) (l : List Cs) : ixI (srG (tagP t) l 0) + 1 = (begC t l 0 : Int) := by
  rcases beg_sr (t := t) (l := l) (k := 0) with ⟨h1, h2⟩ | ⟨i, h1, h2, _⟩
  · rw [h1, h2]; rfl
  · rw [h1, h2]; show (i : Int) + 1 = _; omega
theorem sr_range {q : ByteArray} {l : List Cs} : ∀ (g k : Nat), k + g = l.length → srG (hitC q) (l.drop k) k = (List.range' k g).find? (hitA l q)
  | 0, k, h => by rw [List.drop_of_length_le (by omega)]; rfl
  | g + 1, k, h => by
    obtain ⟨x, hx⟩ : ∃ x, l[k]? = some x := ⟨_, List.getElem?_eq_getElem (by omega)⟩
    rw [dropC hx, List.range'_succ, List.find?_cons]
    have e : hitA l q k = hitC q x := by unfold hitA; rw [hx]; rfl
    rw [e]
    cases hh : hitC q x with
    | true => rw [srG_yes hh]
    | false => rw [srG_no hh, sr_range g (k + 1) (by omega)]
/-- from b on, and where there is none, from the beginning -/
theorem nx_two (l : List Cs) (q : ByteArray) (t : Int) : nxC l q t = (srG (hitC q) (l.drop (begC t l 0)) (begC t l 0)).or (srG (hitC q) l 0) := by
  have hb := beg_le (t := t) (l := l) (k := 0)
  generalize hB : begC t l 0 = b at *
  have e1 := sr_range (q := q) (l := l) (l.length - b) b (by omega)
  have e2 := sr_range (q := q) (l := l) l.length 0 (by omega)
  rw [List.drop_zero] at e2
  rw [e1, e2]
  unfold nxC ixs
  rw [hB, List.find?_append]
  cases h : (List.range' b (l.length - b)).find? (hitA l q) with
  | some i => rfl
  | none =>
    simp only [Option.none_or]
    have e3 : List.range' 0 l.length = List.range b ++ List.range' b (l.length - b) := by
      rw [List.range_eq_range']
      have := List.range'_append_1 (s := 0) (m := b) (n := l.length - b)
      rw [Nat.zero_add] at this
      rw [this]
      congr 1
      omega
    rw [e3, List.find?_append, h, Option.or_none]
/-- the program's limits and the specification's: the same where the count is one -/
def limR (n a b : Int) : Int := max a (min n b)
theorem clamp_lim {u n : Int} (h : 0 ≤ u ∧ u ≤ 1099511627776) : limR (u + limR n (-1099511627776) 1099511627776) 0 1099511627776 = clampC u n := by
  unfold limR clampC
  omega
end Go.Proofs.Ytjkhfifnfgchgaa
